import Derived.Test.YtiajlhjjmlakmaaGreatDoorSqV
import Derived.Test.YtiajlhjjmlakmaaGreatDoorLxL
import Derived.Deep.AppendLies
import Derived.Maps.AppendAt
namespace Go.Proofs.YtiajlhjjmlakmaaGreatDoor
open Go.RowKit Num
set_option linter.unusedSimpArgs false
set_option linter.unusedVariables false
set_option maxRecDepth 100000

def Num.Bx (w : World) (b : Nat) (t : TypeId) (cs : Array Value) : Prop := w.heap[b]? = some (.cells cs t (0, 0))
theorem Num.Bx.lt {w : World} {b : Nat} {t : TypeId} {cs : Array Value} (h : Bx w b t cs) : b < w.heap.size := (Array.getElem?_eq_some_iff.1 h).1
theorem Num.Bx.cell {w : World} {b : Nat} {t : TypeId} {cs : Array Value} (h : Bx w b t cs) (i : Nat) (u : Value) (hi : cs[i]? = some u) : w.cell? ⟨b, i, none⟩ = some u := by
 unfold Bx at h
 simp [World.cell?, h, hi]
theorem Num.Bx.open {w : World} {b : Nat} {t : TypeId} {cs : Array Value} (h : Bx w b t cs) (i : Nat) : w.frozen? ⟨b, i, none⟩ = false := by
 unfold Bx at h
 simp [World.frozen?, h]
theorem gr (w : World) (g : Nat) : w.grownBy w (some g) := World.grownBy.refl w (some g)
abbrev iZ : Value := .int .i64 0
abbrev sZ : Value := .string ⟨#[]⟩
abbrev nZ : Value := .slice none 0 0
abbrev z10 : Array Value := #[.int .i64 0, .string ⟨#[]⟩, .string ⟨#[]⟩, .slice none 0 0, .slice none 0 0, .slice none 0 0, .slice none 0 0, .bool false, .int .i64 0, .slice none 0 0]
theorem Num.Bx.t0 {w : World} {b : Nat} {t : TypeId} {a0 a1 a2 a3 a4 a5 a6 a7 a8 a9 : Value} (h : Bx w b t #[a0, a1, a2, a3, a4, a5, a6, a7, a8, a9]) : w.cell? ⟨b, 0, none⟩ = some a0 := h.cell 0 _ rfl
theorem Num.Bx.t1 {w : World} {b : Nat} {t : TypeId} {a0 a1 a2 a3 a4 a5 a6 a7 a8 a9 : Value} (h : Bx w b t #[a0, a1, a2, a3, a4, a5, a6, a7, a8, a9]) : w.cell? ⟨b, 1, none⟩ = some a1 := h.cell 1 _ rfl
theorem Num.Bx.t2 {w : World} {b : Nat} {t : TypeId} {a0 a1 a2 a3 a4 a5 a6 a7 a8 a9 : Value} (h : Bx w b t #[a0, a1, a2, a3, a4, a5, a6, a7, a8, a9]) : w.cell? ⟨b, 2, none⟩ = some a2 := h.cell 2 _ rfl
theorem Num.Bx.t3 {w : World} {b : Nat} {t : TypeId} {a0 a1 a2 a3 a4 a5 a6 a7 a8 a9 : Value} (h : Bx w b t #[a0, a1, a2, a3, a4, a5, a6, a7, a8, a9]) : w.cell? ⟨b, 3, none⟩ = some a3 := h.cell 3 _ rfl
theorem Num.Bx.t4 {w : World} {b : Nat} {t : TypeId} {a0 a1 a2 a3 a4 a5 a6 a7 a8 a9 : Value} (h : Bx w b t #[a0, a1, a2, a3, a4, a5, a6, a7, a8, a9]) : w.cell? ⟨b, 4, none⟩ = some a4 := h.cell 4 _ rfl
theorem Num.Bx.t5 {w : World} {b : Nat} {t : TypeId} {a0 a1 a2 a3 a4 a5 a6 a7 a8 a9 : Value} (h : Bx w b t #[a0, a1, a2, a3, a4, a5, a6, a7, a8, a9]) : w.cell? ⟨b, 5, none⟩ = some a5 := h.cell 5 _ rfl
theorem Num.Bx.t6 {w : World} {b : Nat} {t : TypeId} {a0 a1 a2 a3 a4 a5 a6 a7 a8 a9 : Value} (h : Bx w b t #[a0, a1, a2, a3, a4, a5, a6, a7, a8, a9]) : w.cell? ⟨b, 6, none⟩ = some a6 := h.cell 6 _ rfl
theorem Num.Bx.t7 {w : World} {b : Nat} {t : TypeId} {a0 a1 a2 a3 a4 a5 a6 a7 a8 a9 : Value} (h : Bx w b t #[a0, a1, a2, a3, a4, a5, a6, a7, a8, a9]) : w.cell? ⟨b, 7, none⟩ = some a7 := h.cell 7 _ rfl
theorem Num.Bx.t8 {w : World} {b : Nat} {t : TypeId} {a0 a1 a2 a3 a4 a5 a6 a7 a8 a9 : Value} (h : Bx w b t #[a0, a1, a2, a3, a4, a5, a6, a7, a8, a9]) : w.cell? ⟨b, 8, none⟩ = some a8 := h.cell 8 _ rfl
theorem Num.Bx.t9 {w : World} {b : Nat} {t : TypeId} {a0 a1 a2 a3 a4 a5 a6 a7 a8 a9 : Value} (h : Bx w b t #[a0, a1, a2, a3, a4, a5, a6, a7, a8, a9]) : w.cell? ⟨b, 9, none⟩ = some a9 := h.cell 9 _ rfl
theorem Num.Bx.s0 {w : World} {b : Nat} {t : TypeId} {a0 a1 a2 a3 a4 a5 : Value} (h : Bx w b t #[a0, a1, a2, a3, a4, a5]) : w.cell? ⟨b, 0, none⟩ = some a0 := h.cell 0 _ rfl
theorem Num.Bx.s1 {w : World} {b : Nat} {t : TypeId} {a0 a1 a2 a3 a4 a5 : Value} (h : Bx w b t #[a0, a1, a2, a3, a4, a5]) : w.cell? ⟨b, 1, none⟩ = some a1 := h.cell 1 _ rfl
theorem Num.Bx.s2 {w : World} {b : Nat} {t : TypeId} {a0 a1 a2 a3 a4 a5 : Value} (h : Bx w b t #[a0, a1, a2, a3, a4, a5]) : w.cell? ⟨b, 2, none⟩ = some a2 := h.cell 2 _ rfl
theorem Num.Bx.s3 {w : World} {b : Nat} {t : TypeId} {a0 a1 a2 a3 a4 a5 : Value} (h : Bx w b t #[a0, a1, a2, a3, a4, a5]) : w.cell? ⟨b, 3, none⟩ = some a3 := h.cell 3 _ rfl
theorem Num.Bx.s4 {w : World} {b : Nat} {t : TypeId} {a0 a1 a2 a3 a4 a5 : Value} (h : Bx w b t #[a0, a1, a2, a3, a4, a5]) : w.cell? ⟨b, 4, none⟩ = some a4 := h.cell 4 _ rfl
theorem Num.Bx.s5 {w : World} {b : Nat} {t : TypeId} {a0 a1 a2 a3 a4 a5 : Value} (h : Bx w b t #[a0, a1, a2, a3, a4, a5]) : w.cell? ⟨b, 5, none⟩ = some a5 := h.cell 5 _ rfl
theorem Num.Bx.f0 {w : World} {b : Nat} {t : TypeId} {a0 a1 a2 a3 : Value} (h : Bx w b t #[a0, a1, a2, a3]) : w.cell? ⟨b, 0, none⟩ = some a0 := h.cell 0 _ rfl
theorem Num.Bx.f1 {w : World} {b : Nat} {t : TypeId} {a0 a1 a2 a3 : Value} (h : Bx w b t #[a0, a1, a2, a3]) : w.cell? ⟨b, 1, none⟩ = some a1 := h.cell 1 _ rfl
theorem Num.Bx.f2 {w : World} {b : Nat} {t : TypeId} {a0 a1 a2 a3 : Value} (h : Bx w b t #[a0, a1, a2, a3]) : w.cell? ⟨b, 2, none⟩ = some a2 := h.cell 2 _ rfl
theorem Num.Bx.f3 {w : World} {b : Nat} {t : TypeId} {a0 a1 a2 a3 : Value} (h : Bx w b t #[a0, a1, a2, a3]) : w.cell? ⟨b, 3, none⟩ = some a3 := h.cell 3 _ rfl
theorem Num.Bx.ten {w : World} {b : Nat} {t : TypeId} {a0 a1 a2 a3 a4 a5 a6 a7 a8 a9 : Value} (h : Bx w b t #[a0, a1, a2, a3, a4, a5, a6, a7, a8, a9]) : w.cell? ⟨b, 0, none⟩ = some a0 ∧ w.cell? ⟨b, 1, none⟩ = some a1 ∧ w.cell? ⟨b, 2, none⟩ = some a2 ∧ w.cell? ⟨b, 3, none⟩ = some a3 ∧ w.cell? ⟨b, 4, none⟩ = some a4 ∧ w.cell? ⟨b, 5, none⟩ = some a5 ∧ w.cell? ⟨b, 6, none⟩ = some a6 ∧ w.cell? ⟨b, 7, none⟩ = some a7 ∧ w.cell? ⟨b, 8, none⟩ = some a8 ∧ w.cell? ⟨b, 9, none⟩ = some a9 := ⟨h.t0, h.t1, h.t2, h.t3, h.t4, h.t5, h.t6, h.t7, h.t8, h.t9⟩
theorem Num.Bx.tenO {w : World} {b : Nat} {t : TypeId} {cs : Array Value} (h : Bx w b t cs) : w.frozen? ⟨b, 0, none⟩ = false ∧ w.frozen? ⟨b, 1, none⟩ = false ∧ w.frozen? ⟨b, 2, none⟩ = false ∧ w.frozen? ⟨b, 3, none⟩ = false ∧ w.frozen? ⟨b, 4, none⟩ = false ∧ w.frozen? ⟨b, 5, none⟩ = false ∧ w.frozen? ⟨b, 6, none⟩ = false ∧ w.frozen? ⟨b, 7, none⟩ = false ∧ w.frozen? ⟨b, 8, none⟩ = false ∧ w.frozen? ⟨b, 9, none⟩ = false := ⟨h.open 0, h.open 1, h.open 2, h.open 3, h.open 4, h.open 5, h.open 6, h.open 7, h.open 8, h.open 9⟩
theorem Num.Bx.new (w : World) (t : TypeId) (cs : Array Value) : Bx (w.alloc (.cells cs t)) w.heap.size t cs := heap_alloc_new w _
theorem Num.Bx.alloc {w : World} {b : Nat} {t : TypeId} {cs : Array Value} (h : Bx w b t cs) (o : Obj) : Bx (w.alloc o) b t cs := heap_alloc h o
theorem Num.Bx.drew {w : World} {b : Nat} {t : TypeId} {cs : Array Value} (h : Bx w b t cs) : Bx w.drew b t cs := h
theorem Num.Bx.kp {w w' : World} {g b : Nat} {t : TypeId} {cs : Array Value} (h : Bx w b t cs) (hk : w.grownBy w' (some g)) (hne : b ≠ g) : Bx w' b t cs :=
 (hk.block b h.lt (by simpa using hne)).trans h
theorem Num.Bx.set {w : World} {b : Nat} {t : TypeId} {cs : Array Value} (h : Bx w b t cs) (i : Nat) (u : Value) : Bx (w.setCell ⟨b, i, none⟩ u) b t (cs.setIfInBounds i u) := heap_setCell_same w b i cs t u h
theorem Num.Bx.other {w : World} {b c : Nat} {t : TypeId} {cs : Array Value} (h : Bx w b t cs) (hne : b ≠ c) (i : Nat) (u : Value) : Bx (w.setCell ⟨c, i, none⟩ u) b t cs :=
 (Below.heap_setCell w _ _ _ (show b ≠ (⟨c, i, none⟩ : Addr).block from hne)).trans h
theorem kp_alloc {g : Nat} {w W : World} (h : w.grownBy W (some g)) (o : Obj) : w.grownBy (W.alloc o) (some g) := h.trans (World.grownBy_alloc W o _)
theorem kp_drew {g : Nat} {w W : World} (h : w.grownBy W (some g)) : w.grownBy W.drew (some g) := ⟨h.os, h.tape, h.output, h.size, h.block⟩
theorem kp_set {g b : Nat} {w W : World} (h : w.grownBy W (some g)) (hb : w.heap.size ≤ b) (i : Nat) (u : Value) : w.grownBy (W.setCell ⟨b, i, none⟩ u) (some g) :=
 ⟨h.os, h.tape, h.output, Nat.le_trans h.size (by show W.heap.size ≤ (W.heap.modify _ _).size; simp), fun k hk hn => (Below.heap_setCell W _ _ _ (show k ≠ b by omega)).trans (h.block k hk hn)⟩
theorem kp_setG {g : Nat} {w W : World} (h : w.grownBy W (some g)) (i : Nat) (u : Value) : w.grownBy (W.setCell ⟨g, i, none⟩ u) (some g) :=
 ⟨h.os, h.tape, h.output, Nat.le_trans h.size (by show W.heap.size ≤ (W.heap.modify _ _).size; simp), fun k hk hn => (Below.heap_setCell W _ _ _ (show k ≠ g from fun e => hn (by rw [e]))).trans (h.block k hk hn)⟩
theorem kp_below {g : Nat} {w W W' : World} (h : w.grownBy W (some g)) (hb : Below W.heap.size W W') : w.grownBy W' (some g) :=
 h.trans ⟨hb.os, hb.tape, hb.output, hb.size, fun k hk _ => hb.block k hk⟩
theorem kp_of_below {g : Nat} {W W' : World} (hb : Below W.heap.size W W') : W.grownBy W' (some g) := ⟨hb.os, hb.tape, hb.output, hb.size, fun k hk _ => hb.block k hk⟩
theorem row_kp {w w' : World} {g B E sz n : Nat} {v : Value} {xs : List Value} (h : w.ownsRow B E sz v n xs) (hk : w.grownBy w' (some g)) (hg : g < B) : w'.ownsRow B E sz v n xs := by
 refine h.kept hk ?_
 cases hv : v.ownBlock with
 | none => exact .inl rfl
 | some k =>
  right
  have := (h.lt k hv).1
  intro e
  have := Option.some.inj e
  omega
theorem row_set {w : World} {b B E sz n : Nat} {v : Value} {xs : List Value} {t : TypeId} {cs : Array Value} (h : w.ownsRow B E sz v n xs) (hb : Bx w b t cs) (ht : t ≠ E) (i : Nat) (u : Value) : (w.setCell ⟨b, i, none⟩ u).ownsRow B E sz v n xs := by
 refine ⟨h.1, ?_⟩
 rcases h.2 with hn | ⟨g, cap, cur, rfl, hB, hgg, rest⟩
 ·exact .inl hn
 ·refine .inr ⟨g, cap, cur, rfl, hB, ?_, rest⟩
  refine (Below.heap_setCell w _ _ _ (show g ≠ b from fun e => ?_)).trans hgg
  subst e
  unfold Bx at hb
  rw [hgg] at hb
  simp only [Option.some.injEq, Obj.cells.injEq] at hb
  exact ht hb.2.1.symm

theorem row_mono {w : World} {B B' E sz n : Nat} {v : Value} {xs : List Value} (h : w.ownsRow B E sz v n xs) (hb : B' ≤ B) : w.ownsRow B' E sz v n xs := by
 refine ⟨h.1, ?_⟩
 rcases h.2 with hn | ⟨g, cap, cur, e, hB, rest⟩
 ·exact .inl hn
 ·exact .inr ⟨g, cap, cur, e, Nat.le_trans hb hB, rest⟩

theorem tokC_at : ∀ (l : List Tok) (j : Nat) (x : Tok), l[j]? = some x → ∀ c (u : Value), (tokCells1 x)[c]? = some u → (tokCells l)[j * 7 + c]? = some u
 | [], _, _, h, _, _, _ => by simp at h
 | y :: l, 0, x, h, c, u, hu => by
  have h : some y = some x := h
  obtain rfl := Option.some.inj h
  have hc : c < 7 := (List.getElem?_eq_some_iff.1 hu).1
  show (tokCells1 y ++ tokCells l)[0 * 7 + c]? = some u
  rw [Nat.zero_mul, Nat.zero_add, List.getElem?_append_left hc]
  exact hu
 | y :: l, j + 1, x, h, c, u, hu => by
  have ih := tokC_at l j x (by simpa using h) c u hu
  show (tokCells1 y ++ tokCells l)[(j + 1) * 7 + c]? = some u
  have e : (j + 1) * 7 + c = (tokCells1 y).length + (j * 7 + c) := by
   show (j + 1) * 7 + c = 7 + (j * 7 + c)
   omega
  rw [e, List.getElem?_append_right (by omega), Nat.add_sub_cancel_left]
  exact ih
theorem toks_at {w : World} {B T n g cap : Nat} {l : List Tok} (h : w.ownsRow B T 7 (.slice (some ⟨g, 0, none⟩) n cap) n (tokCells l)) {j : Nat} {x : Tok} (hx : l[j]? = some x) :
  w.cell? ⟨g, j * 7, none⟩ = some (.int .i64 x.k) ∧ w.cell? ⟨g, j * 7 + 1, none⟩ = some (.string x.t) ∧ w.cell? ⟨g, j * 7 + 2, none⟩ = some (.int .i64 x.v.k) ∧ w.cell? ⟨g, j * 7 + 3, none⟩ = some (.int .i64 x.v.n) ∧ w.cell? ⟨g, j * 7 + 4, none⟩ = some (.int .u64 (x.v.f : Int)) ∧ w.cell? ⟨g, j * 7 + 5, none⟩ = some (.string x.v.s) ∧ w.cell? ⟨g, j * 7 + 6, none⟩ = some (.int .i64 (x.p : Int)) := by
 have key : ∀ c u, (tokCells1 x)[c]? = some u → w.cell? ⟨g, j * 7 + c, none⟩ = some u := by
  intro c u hu
  have := h.cells (g := g) rfl _ _ (tokC_at l j x hx c u hu)
  rw [Addr.add_lit, Nat.zero_add] at this
  exact this
 exact ⟨key 0 _ rfl, key 1 _ rfl, key 2 _ rfl, key 3 _ rfl, key 4 _ rfl, key 5 _ rfl, key 6 _ rfl⟩

structure Num.PAt (g : Nat) (v : Value) (l : List Tok) (i : Nat) (w : World) : Prop where
 box : Bx w g 43 #[v, .int .i64 (i : Int)]
 toks : ∃ B, w.ownsRow B 48 7 v l.length (tokCells l)
 lt : i < l.length
 sm : l.length ≤ 1000
theorem Num.PAt.g_lt {g : Nat} {v : Value} {l : List Tok} {i : Nat} {w : World} (h : PAt g v l i w) : g < w.heap.size := h.box.lt
theorem Num.PAt.alloc {g : Nat} {v : Value} {l : List Tok} {i : Nat} {w : World} (h : PAt g v l i w) (o : Obj) : PAt g v l i (w.alloc o) :=
 ⟨h.box.alloc o, h.toks.elim fun B hB => ⟨B, hB.alloc o⟩, h.lt, h.sm⟩
theorem Num.PAt.drew {g : Nat} {v : Value} {l : List Tok} {i : Nat} {w : World} (h : PAt g v l i w) : PAt g v l i w.drew :=
 ⟨h.box.drew, h.toks.elim fun B hB => ⟨B, hB.drew⟩, h.lt, h.sm⟩
theorem Num.PAt.set {g : Nat} {v : Value} {l : List Tok} {i : Nat} {w : World} (h : PAt g v l i w) {b : Nat} {t : TypeId} {cs : Array Value} (hb : Bx w b t cs) (ht : t ≠ 48) (hne : b ≠ g) (k : Nat) (u : Value) : PAt g v l i (w.setCell ⟨b, k, none⟩ u) :=
 ⟨h.box.other (fun e => hne e.symm) k u, h.toks.elim fun B hB => ⟨B, row_set hB hb ht k u⟩, h.lt, h.sm⟩
theorem Num.PAt.below {g : Nat} {v : Value} {l : List Tok} {i : Nat} {w w' : World} (h : PAt g v l i w) (hb : Below w.heap.size w w') : PAt g v l i w' :=
 ⟨(hb.block g h.box.lt).trans h.box, h.toks.elim fun B hB => ⟨B, own_mem hB hb⟩, h.lt, h.sm⟩
theorem Num.PAt.to {g : Nat} {v : Value} {l : List Tok} {i j : Nat} {w : World} (h : PAt g v l i w) (hj : j < l.length) : PAt g v l j (w.setCell ⟨g, 1, none⟩ (.int .i64 (j : Int))) :=
 ⟨h.box.set 1 _, h.toks.elim fun B hB => ⟨B, row_set hB h.box (by decide) 1 _⟩, hj, h.sm⟩
def Num.rem (l : List Tok) (i : Nat) : List TkC := (l.drop i).map cont
theorem rem_at {l : List Tok} {i : Nat} {x : Tok} (h : l[i]? = some x) : rem l i = cont x :: rem l (i + 1) := by
 obtain ⟨hi, hx⟩ := List.getElem?_eq_some_iff.1 h
 unfold rem
 rw [List.drop_eq_getElem_cons hi, hx]
 rfl
theorem rem_len (l : List Tok) (i : Nat) : (rem l i).length = l.length - i := by simp [rem]
def Num.boomQ : List PanicEntry := [{ v := .iface 29 (.int .i64 3), recovered := false }]
def Num.Tells {α : Type} (g : Nat) (v : Value) (l : List Tok) (i : Nat) (w : World) (V : Nat → World → Value → α → Prop) (o : Option α × List TkC) (e : Ending) (w' : World) : Prop :=
 w.grownBy w' (some g) ∧ ∃ j, i ≤ j ∧ PAt g v l j w' ∧ rem l j = o.2 ∧ match o.1 with
  | some a => ∃ u, e = .returned u ∧ V w.heap.size w' u a
  | none => e = .panicked boomQ
def Num.EndK (l : List Tok) : Prop := ∀ (i : Nat) (x : Tok), l[i]? = some x → (i + 1 < l.length ∨ (x.k = 0 ∧ x.t = ⟨#[]⟩)) ∧ (x.k = 2 → x.t ≠ ⟨#[]⟩)
theorem name_ne {l : List Tok} (hE : EndK l) {i : Nat} {c : ByteArray} {q : List TkC} (h : nameR (rem l i) = (some c, q)) : c ≠ ⟨#[]⟩ := by
 unfold rem at h
 cases hd : l.drop i with
 | nil => rw [hd] at h; simp [nameR, bnd, kindR] at h
 | cons x r =>
  rw [hd] at h
  have hx : l[i]? = some x := by
   have h0 : (l.drop i)[0]? = some x := by rw [hd]; rfl
   rw [List.getElem?_drop, Nat.add_zero] at h0
   exact h0
  by_cases h2 : x.k = 2
  ·have e : nameR (cont x :: r.map cont) = (some x.t, r.map cont) := by
    have hk : kindR 2 (cont x :: r.map cont) = (some (cont x), r.map cont) := if_pos (show (cont x).1 = 2 from h2)
    show bnd (kindR 2) (fun y => ret y.2.1) _ = _
    unfold bnd
    rw [hk]
    rfl
   rw [List.map_cons, e] at h
   obtain rfl : x.t = c := Option.some.inj (congrArg Prod.fst h)
   exact (hE i x hx).2 h2
  ·have e : nameR (cont x :: r.map cont) = (none, cont x :: r.map cont) := by
    have hk : kindR 2 (cont x :: r.map cont) = (none, cont x :: r.map cont) := if_neg (show ¬ (cont x).1 = 2 from h2)
    show bnd (kindR 2) (fun y => ret y.2.1) _ = _
    unfold bnd
    rw [hk]
   rw [List.map_cons, e] at h
   simp at h
theorem next_any {g : Nat} {v : Value} {l : List Tok} {i : Nat} {x : Tok} (hx : l[i]? = some x) (w : World) (hP : PAt g v l i w) :
  Calls Tryz.prog 11 #[.pointer (some ⟨g, 0, none⟩)] w fun e w' => e = .returned (tokV x.k x.t x.v x.p) ∧ Below w.heap.size w w' := by
 obtain ⟨B, hB⟩ := hP.toks
 obtain ⟨gt, cap, rfl, hgt⟩ := hB.form (by have := hP.lt; omega)
 obtain ⟨d0, d1, d2, d3, d4, d5, d6⟩ := toks_at hB hx
 have p0 : w.cell? ⟨g, 0, none⟩ = some (.slice (some ⟨gt, 0, none⟩) l.length cap) := hP.box.cell 0 _ rfl
 have p1 : w.cell? ⟨g, 1, none⟩ = some (.int .i64 (i : Int)) := hP.box.cell 1 _ rfl
 have hi := hP.lt
 have hgl := hP.g_lt
 have hgl2 := hgt.2
 clear hB hP hx hgt
 go_enter Tryz.func11, Tryz.ntmps11
 go_wp2_with fail
 go_region
 go_wp2
 refine bodyPost_ret (v := tokV x.k x.t x.v x.p) (by simp [results, Tryz.results11, go_sem, tokV]) rfl ⟨rfl, ?_⟩
 exact ((Below.refl w.heap.size w).alloc (Nat.le_refl _) _).drew
theorem tok_f0 (k : Int) (t : ByteArray) (v : Val) (p : Int) (W : World) : (Instr.field 48 (tokV k t v p) 0).run Tryz.prog W = .ok (.int .i64 k) W := by kernel_rfl
theorem tok_f1 (k : Int) (t : ByteArray) (v : Val) (p : Int) (W : World) : (Instr.field 48 (tokV k t v p) 1).run Tryz.prog W = .ok (.string t) W := by kernel_rfl
theorem tok_f2v (k : Int) (t : ByteArray) (a b : Int) (c : Nat) (d : ByteArray) (p : Int) (W : World) : (Instr.field 48 (tokV k t ⟨a, b, c, d⟩ p) 2).run Tryz.prog W = .ok (.agg #[.int .i64 a, .int .i64 b, .int .u64 (c : Int), .string d]) W := by kernel_rfl
theorem tok_f3 (k : Int) (t : ByteArray) (v : Val) (p : Int) (W : World) : (Instr.field 48 (tokV k t v p) 3).run Tryz.prog W = .ok (.int .i64 p) W := by kernel_rfl
theorem txt_ne {a b : ByteArray} (h : ¬ a = b) : (a.toList == b.toList) = false := by
 rw [Lib.toList_data, Lib.toList_data]
 exact beq_eq_false_iff_ne.2 fun e => h (toL_inj e)
theorem PAt.tok {g : Nat} {v : Value} {l : List Tok} {i : Nat} {w : World} (h : PAt g v l i w) : ∃ x, l[i]? = some x := ⟨_, List.getElem?_eq_getElem h.lt⟩
theorem took_no {g : Nat} {v : Value} {l : List Tok} {i : Nat} {s : ByteArray} {q : List TkC} (hb : isT s q = false) (w : World) (hP : PAt g v l i w) (hr : rem l i = q) :
  Calls Tryz.prog 27 #[.pointer (some ⟨g, 0, none⟩), .string s] w fun e w' => e = .returned (.bool false) ∧ w.grownBy w' (some g) ∧ PAt g v l i w' := by
 obtain ⟨x, hx⟩ := PAt.tok hP
 subst hr
 rw [rem_at hx, isT_iff] at hb
 have hne := txt_ne (of_decide_eq_false hb)
 replace hne : (x.t.toList == s.toList) = false := hne
 clear hb
 have hn := next_any hx w hP
 have hf := tok_f1
 go_enter Tryz.func27, Tryz.ntmps27
 go_wp2_with (go_at_call 11; refine hn.mono ?_; rintro e w1 ⟨rfl, hb1⟩)
 go_ret
 exact ⟨rfl, kp_of_below hb1, hP.below hb1⟩
theorem took_yes {g : Nat} {v : Value} {l : List Tok} (hE : EndK l) {i : Nat} {s : ByteArray} (hs : s ≠ ⟨#[]⟩) {q : List TkC} (hb : isT s q = true) (w : World) (hP : PAt g v l i w) (hr : rem l i = q) :
  Calls Tryz.prog 27 #[.pointer (some ⟨g, 0, none⟩), .string s] w fun e w' => e = .returned (.bool true) ∧ w.grownBy w' (some g) ∧ PAt g v l (i + 1) w' ∧ rem l (i + 1) = q.tail := by
 obtain ⟨x, hx⟩ := PAt.tok hP
 subst hr
 have hr2 := rem_at hx
 rw [hr2, isT_iff] at hb
 obtain rfl : x.t = s := of_decide_eq_true hb
 clear hb
 have hi : i + 1 < l.length := by
  rcases (hE i x hx).1 with h | h
  ·exact h
  ·exact absurd h.2 hs
 have hii : (i : Int) + 1 ≤ 1000 := by
  have := hP.sm
  omega
 have hn := next_any hx w hP
 have hf := tok_f1
 go_enter Tryz.func27, Tryz.ntmps27
 go_wp2_with (go_at_call 11; refine hn.mono ?_; rintro e w1 ⟨rfl, hb1⟩; have hP1 := hP.below hb1; have p1 : w1.cell? ⟨g, 1, none⟩ = some (.int .i64 (i : Int)) := hP1.box.cell 1 _ rfl; have z1 := hP1.box.open 1)
 go_ret
 refine ⟨rfl, kp_setG (kp_of_below hb1) _ _, ?_, by rw [hr2]; rfl⟩
 have := hP1.to hi
 rw [show ((i + 1 : Nat) : Int) = (i : Int) + 1 by omega] at this
 exact this
theorem giveUp_any (w : World) : Calls Tryz.prog 36 #[] w fun e w' => e = .panicked boomQ ∧ w' = w := by
 go_enter Tryz.func36, Tryz.ntmps36
 go_wp2
 exact ⟨rfl, rfl, rfl⟩
theorem takes_cons_yes {s : ByteArray} {ts : List ByteArray} {q : List TkC} (h : isT s q = true) : takesR (s :: ts) q = takesR ts q.tail := by
 show bnd (takeR s) (fun _ => takesR ts) q = _
 unfold bnd takeR
 rw [if_pos h]
theorem takes_cons_no {s : ByteArray} {ts : List ByteArray} {q : List TkC} (h : isT s q = false) : takesR (s :: ts) q = (none, q) := by
 show bnd (takeR s) (fun _ => takesR ts) q = _
 unfold bnd takeR
 rw [if_neg (by simp [h])]
theorem take_any {g : Nat} {v : Value} {l : List Tok} (hE : EndK l) {i : Nat} (ts : List ByteArray) (hts : ∀ t ∈ ts, t ≠ ⟨#[]⟩) (hl2 : ts.length ≤ 10) (b : Nat) (w : World) (hP : PAt g v l i w) (cs : Array Value) (hb : Bx w b 9 cs) (hcs : ∀ (k : Nat) t, ts[k]? = some t → cs[k]? = some (.string t)) (hbg : b ≠ g) :
  Calls Tryz.prog 34 #[.pointer (some ⟨g, 0, none⟩), .slice (some ⟨b, 0, none⟩) ts.length ts.length] w (Tells g v l i w (fun _ _ u _ => u = .tuple #[]) (takesR ts (rem l i))) := by
 have hgu := giveUp_any
 go_enter Tryz.func34, Tryz.ntmps34
 go_wp2
 go_loopw [5, 8, 9, 10, 11, 12, 13, 14, 15, 16, 17] (fun _ c _ _ _ _ _ _ _ _ _ wr => ∃ (k j : Nat), k ≤ ts.length ∧ i ≤ j ∧ c = .int .i64 (k : Int) ∧ Hid (PAt g v l j wr) ∧ Hid (w.grownBy wr (some g)) ∧ Hid (takesR ts (rem l i) = takesR (ts.drop k) (rem l j))) (fun _ c _ _ _ _ _ _ _ _ _ _ => ts.length - (intOf c).toNat)
 case atStart => exact ⟨0, i, by omega, Nat.le_refl _, rfl, hP, World.grownBy.refl _ _, rfl⟩
 case round =>
  obtain ⟨k, j, hk, hij, rfl, HP, HK, HT⟩ := hrel
  by_cases hkl : k < ts.length
  ·obtain ⟨t, ht⟩ : ∃ t, ts[k]? = some t := ⟨_, List.getElem?_eq_getElem hkl⟩
   have hc : wr.cell? ⟨b, k, none⟩ = some (.string t) := (hb.kp HK.out hbg).cell k _ (hcs k t ht)
   have hdr : ts.drop k = t :: ts.drop (k + 1) := by
    rw [List.drop_eq_getElem_cons hkl]
    rw [List.getElem?_eq_getElem hkl] at ht
    rw [Option.some.inj ht]
   rcases Bool.eq_false_or_eq_true (isT t (rem l j)) with hi | hi
   ·have h1 := fun W h => took_yes hE (hts t (List.mem_of_getElem? ht)) hi W (h : PAt g v l j W) rfl
    have HT2 : Hid (takesR ts (rem l i) = takesR (ts.drop (k + 1)) (rem l j).tail) := by
     unfold Hid
     rw [HT.out, hdr, takes_cons_yes hi]
    clear ht hdr hi HT
    go_wp2_with (go_at_call 27; refine (h1 _ HP.out).mono ?_; rintro e w1 ⟨rfl, hk1, hP1, hr1⟩)
    go_roundw
    case rel => exact ⟨k + 1, j + 1, by omega, by omega, by go_num, hP1, HK.out.trans hk1, by unfold Hid; rw [HT2.out, hr1]⟩
    case measure => simp [intOf]; omega
   ·have h1 := fun W h => took_no hi W (h : PAt g v l j W) rfl
    have HT2 : Hid (takesR ts (rem l i) = (none, rem l j)) := by
     unfold Hid
     rw [HT.out, hdr, takes_cons_no hi]
    clear ht hdr hi HT
    go_wp2_with (first
     | (go_at_call 36; refine (hgu _).mono ?_; rintro e w2 ⟨rfl, rfl⟩)
     | (go_at_call 27; refine (h1 _ HP.out).mono ?_; rintro e w1 ⟨rfl, hk1, hP1⟩))
    refine ⟨rfl, ?_⟩
    rw [HT2.out]
    exact ⟨HK.out.trans hk1, j, hij, hP1, rfl, rfl⟩
  ·obtain rfl : k = ts.length := by omega
   have HT2 : Hid (takesR ts (rem l i) = (some (), rem l j)) := by
    unfold Hid
    rw [HT.out, List.drop_length]
    rfl
   clear HT
   go_wp2
   go_end0
   rw [HT2.out]
   exact ⟨HK.out, j, hij, HP.out, rfl, _, rfl, rfl⟩
end Go.Proofs.YtiajlhjjmlakmaaGreatDoor
