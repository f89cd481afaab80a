import Derived.Test.YtiajlhjjmlakmaaGreatDoorSqV
import Derived.Test.YtiajlhjjmlakmaaGreatDoorSqE
import Derived.Test.YtiajlhjjmlakmaaGreatDoorLxRl
namespace Go.Proofs.YtiajlhjjmlakmaaGreatDoor
open Go.RowKit Num
set_option linter.unusedSimpArgs false
set_option linter.unusedVariables false
set_option maxRecDepth 100000

structure Num.DAt (g : Nat) (v : Value) (l : List Tok) (S : DS) (w : World) : Prop where
 box : Bx w g 58 #[v, .int .i64 (S.i : Int), .bool S.bad, .int .i64 (S.p : Int), .bool S.long]
 toks : ∃ B, w.ownsRow B 62 7 v l.length (tokCells l)
 lt : S.i < l.length
 sm : l.length ≤ 1000
theorem Num.DAt.g_lt {g : Nat} {v : Value} {l : List Tok} {S : DS} {w : World} (h : DAt g v l S w) : g < w.heap.size := h.box.lt
theorem Num.DAt.alloc {g : Nat} {v : Value} {l : List Tok} {S : DS} {w : World} (h : DAt g v l S w) (o : Obj) : DAt g v l S (w.alloc o) :=
 ⟨h.box.alloc o, h.toks.elim fun B hB => ⟨B, hB.alloc o⟩, h.lt, h.sm⟩
theorem Num.DAt.drew {g : Nat} {v : Value} {l : List Tok} {S : DS} {w : World} (h : DAt g v l S w) : DAt g v l S w.drew :=
 ⟨h.box.drew, h.toks.elim fun B hB => ⟨B, hB.drew⟩, h.lt, h.sm⟩
theorem Num.DAt.set {g : Nat} {v : Value} {l : List Tok} {S : DS} {w : World} (h : DAt g v l S w) {b : Nat} {t : TypeId} {cs : Array Value} (hb : Bx w b t cs) (ht : t ≠ 62) (hne : b ≠ g) (k : Nat) (u : Value) : DAt g v l S (w.setCell ⟨b, k, none⟩ u) :=
 ⟨h.box.other (fun e => hne e.symm) k u, h.toks.elim fun B hB => ⟨B, row_set hB hb ht k u⟩, h.lt, h.sm⟩
theorem Num.DAt.sets {g : Nat} {v : Value} {l : List Tok} {S : DS} : ∀ {w : World} (h : DAt g v l S w) {b : Nat} {t : TypeId} {cs : Array Value} (hb : Bx w b t cs) (ht : t ≠ 62) (hne : b ≠ g) (k : Nat) (us : List Value), DAt g v l S (setsW w b k us)
 | _, h, _, _, _, _, _, _, _, [] => h
 | _, h, _, _, _, hb, ht, hne, k, u :: us => Num.DAt.sets (h.set hb ht hne k u) (hb.set k u) ht hne (k + 1) us
theorem Num.DAt.below {g : Nat} {v : Value} {l : List Tok} {S : DS} {w w' : World} (h : DAt g v l S w) (hb : Below w.heap.size w w') : DAt g v l S w' :=
 ⟨(hb.block g h.box.lt).trans h.box, h.toks.elim fun B hB => ⟨B, own_mem hB hb⟩, h.lt, h.sm⟩
theorem Num.DAt.of_kp {g : Nat} {v : Value} {l : List Tok} {S S' : DS} {w W : World} (h : DAt g v l S w) (hk : w.grownBy W (some g)) (hb : Bx W g 58 #[v, .int .i64 (S'.i : Int), .bool S'.bad, .int .i64 (S'.p : Int), .bool S'.long]) (hj : S'.i < l.length) : DAt g v l S' W := by
 refine ⟨hb, ?_, hj, h.sm⟩
 obtain ⟨B, hB⟩ := h.toks
 refine ⟨B, hB.kept hk ?_⟩
 cases hv : v.ownBlock with
 | none => exact .inl rfl
 | some k =>
  right
  intro e
  obtain rfl := Option.some.inj e
  rcases hB.2 with ⟨rfl, _⟩ | ⟨gt, cap, cur, rfl, _, hgg, _⟩
  ·cases hv
  ·obtain rfl : gt = k := Option.some.inj hv
   have h1 := h.box
   unfold Bx at h1
   rw [hgg] at h1
   simp only [Option.some.injEq, Obj.cells.injEq] at h1
   exact absurd h1.2.1 (by decide)
theorem Num.DAt.inc {g : Nat} {v : Value} {l : List Tok} {S : DS} {w : World} (h : DAt g v l S w) (hj : S.i + 1 < l.length) : DAt g v l S.inc (w.setCell ⟨g, 1, none⟩ (.int .i64 ((S.i : Int) + 1))) := by
 refine h.of_kp (kp_setG (gr w g) 1 _) ?_ hj
 have := h.box.set 1 (.int .i64 ((S.i : Int) + 1))
 rw [show ((S.inc.i : Nat) : Int) = (S.i : Int) + 1 by show ((S.i + 1 : Nat) : Int) = _; omega]
 exact this
theorem Num.DAt.tok {g : Nat} {v : Value} {l : List Tok} {S : DS} {w : World} (h : DAt g v l S w) : l[S.i]? = some (tokAt l S.i) := by
 unfold tokAt
 rw [List.getElem?_eq_getElem h.lt]
 rfl
def Num.DTells {α : Type} (g : Nat) (v : Value) (l : List Tok) (S : DS) (w : World) (V : Nat → World → Value → α → Prop) (o : α × DS) (e : Ending) (w' : World) : Prop :=
 w.grownBy w' (some g) ∧ S.i ≤ o.2.i ∧ DAt g v l o.2 w' ∧ ∃ u, e = .returned u ∧ V w.heap.size w' u o.1
theorem dtells {α : Type} {g : Nat} {v : Value} {l : List Tok} {S S' : DS} {w : World} {V : Nat → World → Value → α → Prop} {o : α × DS} {a : α} {e : Ending} {w' : World} (h : DTells g v l S w V o e w') (he : o = (a, S')) :
  ∃ u, e = .returned u ∧ w.grownBy w' (some g) ∧ S.i ≤ S'.i ∧ DAt g v l S' w' ∧ V w.heap.size w' u a := by
 subst he
 obtain ⟨h1, h2, h3, u, rfl, h5⟩ := h
 exact ⟨u, rfl, h1, h2, h3, h5⟩
theorem dat_cells {g : Nat} {v : Value} {l : List Tok} {S : DS} {w : World} (hP : DAt g v l S w) : ∃ gt cap, v = .slice (some ⟨gt, 0, none⟩) l.length cap ∧ gt < w.heap.size ∧ ¬ gt = g ∧
  (w.cell? ⟨g, 0, none⟩ = some (.slice (some ⟨gt, 0, none⟩) l.length cap) ∧ w.cell? ⟨g, 1, none⟩ = some (.int .i64 (S.i : Int)) ∧ w.cell? ⟨g, 2, none⟩ = some (.bool S.bad) ∧ w.cell? ⟨g, 3, none⟩ = some (.int .i64 (S.p : Int)) ∧ w.cell? ⟨g, 4, none⟩ = some (.bool S.long)) ∧
  (w.cell? ⟨gt, S.i * 7, none⟩ = some (.int .i64 (tokAt l S.i).k) ∧ w.cell? ⟨gt, S.i * 7 + 1, none⟩ = some (.string (tokAt l S.i).t) ∧ w.cell? ⟨gt, S.i * 7 + 2, none⟩ = some (.int .i64 (tokAt l S.i).v.k) ∧ w.cell? ⟨gt, S.i * 7 + 3, none⟩ = some (.int .i64 (tokAt l S.i).v.n) ∧ w.cell? ⟨gt, S.i * 7 + 4, none⟩ = some (.int .u64 ((tokAt l S.i).v.f : Int)) ∧ w.cell? ⟨gt, S.i * 7 + 5, none⟩ = some (.string (tokAt l S.i).v.s) ∧ w.cell? ⟨gt, S.i * 7 + 6, none⟩ = some (.int .i64 ((tokAt l S.i).p : Int))) := by
 obtain ⟨B, hB⟩ := hP.toks
 obtain ⟨gt, cap, rfl, hgt⟩ := hB.form (by have := hP.lt; omega)
 refine ⟨gt, cap, rfl, hgt.2, ?_, ⟨hP.box.cell 0 _ rfl, hP.box.cell 1 _ rfl, hP.box.cell 2 _ rfl, hP.box.cell 3 _ rfl, hP.box.cell 4 _ rfl⟩, toks_at hB hP.tok⟩
 intro e
 rcases hB.2 with ⟨hv, _⟩ | ⟨gt', cap', cur, hv, _, hgg, _⟩
 ·cases hv
 ·obtain ⟨h1, _, _⟩ := Value.slice.inj hv
  obtain rfl : gt = gt' := by cases h1; rfl
  have h1 := hP.box
  rw [← e] at h1
  unfold Bx at h1
  rw [hgg] at h1
  simp only [Option.some.injEq, Obj.cells.injEq] at h1
  exact absurd h1.2.1 (by decide)
end Go.Proofs.YtiajlhjjmlakmaaGreatDoor
