/-
  Joined:
  Memory, of whatever types: things that lie from an address on; boxes; rows of the call's own, and what keeps them; a slice that came in, opened.
  Rows of the call's own, of whatever element: opened and shut; 'copy' and 'clear' within them; what an insertion and a deletion leave.
  Messages and their logs in memory: as they came in, and as rows of the call's own; opened and kept.
  'append' of elements to a row of the call's own; slices.Clone at messages and at logs.
  Contracts: are two logs, or two lists of messages, one? Of one list that lies twice.
-/
import Derived.Test.YtajbdffepfjegaaGreatRpG1
import Derived.Deep.AppendLies
import Derived.Deep.RegionLaw
import Derived.Lib.AppendStr
import Derived.Lib.SmallJoins
import Derived.Lib.Strings
import Derived.Deep.Slices
import Derived.Carry
import Derived.OneCell
import Derived.Laws.Rows
import Derived.Shelf.Spec.SlicesInsert
import Derived.Lib.AppendZerosOnto
import Derived.Laws.CopyRow
import Derived.Maps.AppendAt
import Derived.Laws.OwnMore
import Derived.Lib.SliceRun
import Derived.Lib.AppendZeros
import Derived.Deep.QuietTactic
import Derived.BigRegion
namespace Go.Proofs.YtajbdffepfjegaaGreat
open Go.RowKit Go.ChangeShapes Go.WideShapes Go.Joins Num
set_option linter.unusedVariables false
set_option maxRecDepth 100000

theorem Addr.block_add (a : Addr) (i : Nat) : (a.add i).block = a.block := by
  unfold Addr.add
  split <;> rfl
theorem cell_lt {w : World} {a : Addr} {v : Value} (h : w.cell? a = some v) : a.block < w.heap.size := by
  rcases Nat.lt_or_ge a.block w.heap.size with h' | h'
  · exact h'
  · simp [World.cell?, Array.getElem?_eq_none h'] at h
theorem own_below {w w' : World} {B e size n : Nat} {v : Value} {xs : List Value} (h : w.ownsRow B e size v n xs) (hb : Below w.heap.size w w') : w'.ownsRow B e size v n xs :=
  h.kept (row := none) ⟨hb.os, hb.tape, hb.output, hb.size, fun k hk _ => hb.block k hk⟩ (by cases v.ownBlock <;> simp)
theorem below_box0 {w w' : World} {o : Obj} (h : Below (w.alloc o).heap.size (w.alloc o) w') : Below w.heap.size w w' :=
  ((Below.refl _ _).alloc (Nat.le_refl _) o).trans (h.mono (by simp))
theorem below_two {w w1 w2 : World} {o : Obj} (h : Below (w.alloc o).heap.size (w.alloc o) w1) (h2 : Below w1.heap.size w1 w2) : Below w.heap.size w w2 :=
  (below_box0 h).trans (h2.mono (Nat.le_trans (by simp) h.size))

/-- Things lie in memory, from an address on, so many places each, in blocks below B. -/
def Num.LiesG {α : Type} (At : World → Addr → α → Prop) (sz : Nat) (w : World) (B : Nat) (ao : Option Addr) (l : List α) : Prop := ∀ i x, l[i]? = some x → ∃ a, ao = some a ∧ a.block < B ∧ At w (a.add (i * sz)) x
/-- What is said of a place stays where its block stays. -/
def Num.Fast {α : Type} (B : Nat) (At : World → Addr → α → Prop) : Prop := ∀ w w' p x, p.block < B → At w p x → Below B w w' → At w' p x
theorem Num.LiesG.below {α : Type} {At : World → Addr → α → Prop} {sz : Nat} {w w' : World} {B : Nat} {ao : Option Addr} {l : List α} (h : LiesG At sz w B ao l) (hf : Fast B At) (hb : Below B w w') : LiesG At sz w' B ao l := by
  intro i x hx
  obtain ⟨a, e, ha, h0⟩ := h i x hx
  exact ⟨a, e, ha, hf _ _ _ _ (by rw [Addr.block_add]; exact ha) h0 hb⟩
theorem Num.LiesG.mono {α : Type} {At At' : World → Addr → α → Prop} {sz : Nat} {w : World} {B B' : Nat} {ao : Option Addr} {l : List α} (h : LiesG At sz w B ao l) (hB : B ≤ B') (hA : ∀ p x, At w p x → At' w p x) : LiesG At' sz w B' ao l := by
  intro i x hx
  obtain ⟨a, e, ha, h4⟩ := h i x hx
  exact ⟨a, e, Nat.lt_of_lt_of_le ha hB, hA _ _ h4⟩
def Num.NumAt (w : World) (p : Addr) (n : Int) : Prop := w.cell? p = some (.int .i64 n)
def Num.TxtAt (w : World) (p : Addr) (s : ByteArray) : Prop := w.cell? p = some (.string s)
abbrev Num.LiesN (w : World) (B : Nat) (ao : Option Addr) (l : List Int) : Prop := LiesG NumAt 1 w B ao l
abbrev Num.LiesS (w : World) (B : Nat) (ao : Option Addr) (l : List ByteArray) : Prop := LiesG TxtAt 1 w B ao l
theorem Num.NumAt.fast {B : Nat} : Fast B NumAt := fun w w' p x hp h hb => (hb.cell hp).trans h
theorem Num.TxtAt.fast {B : Nat} : Fast B TxtAt := fun w w' p x hp h hb => (hb.cell hp).trans h
theorem liesN_next {w w' : World} {ao : Option Addr} {l : List Int} (h : LiesN w w.heap.size ao l) (hb : Below w.heap.size w w') : LiesN w' w'.heap.size ao l := (h.below NumAt.fast hb).mono hb.size fun _ _ h => h
theorem liesS_next {w w' : World} {ao : Option Addr} {l : List ByteArray} (h : LiesS w w.heap.size ao l) (hb : Below w.heap.size w w') : LiesS w' w'.heap.size ao l := (h.below TxtAt.fast hb).mono hb.size fun _ _ h => h
theorem Tryz.laidOut : laidOutB Tryz.prog = true := by kernel_rfl
/-- A slice of things, each opened by itself. -/
theorem open_list {α : Type} [Inhabited α] {H : Type} {enc : TypeId × Value → H} {w : World} {base fuel : Nat} {spare : Nat → Bool} {held : Bool} {v : Value} {x : DataW H × List MemPlace} {t e : TypeId} (At : World → Addr → α → Prop) (Ok : α → Prop) (sz : Nat) (hsz : Tryz.prog.cellsOf e = sz) (ht : Tryz.prog.underlying t = some (.slice e))
    (hlt : ∀ p x, At w p x → p.block < w.heap.size)
    (one : ∀ a n cs y, w.cells? base a sz = some cs → DataW.trod enc Tryz.prog w base spare held n e cs = some y → ∃ x, Ok x ∧ At w a x)
    (h : DataW.trod enc Tryz.prog w base spare held fuel t [v] = some x) :
    ∃ (ao : Option Addr) (cap : Nat) (l : List α), v = .slice ao l.length cap ∧ (∀ x ∈ l, Ok x) ∧ LiesG At sz w w.heap.size ao l ∧ l.length ≤ cap := by
  rcases Go.Deep.open_slice ht h with ⟨h0, _⟩ | ⟨a, len', cap', m, n, D, Pl, h0, _, hlc, hcm, hm, _, hx⟩
  · simp only [List.cons.injEq, and_true] at h0
    subst h0
    exact ⟨none, 0, [], rfl, by simp, fun i x hx => by simp at hx, Nat.le_refl _⟩
  · simp only [List.cons.injEq, and_true] at h0
    subst h0
    have hlm : len' ≤ m := by rw [hm]; split <;> omega
    have each : ∀ i, i < len' → ∃ y : α, Ok y ∧ At w (a.add (i * sz)) y := by
      intro i hi
      obtain ⟨cs, h1, h2⟩ := hx i (by omega)
      rw [hsz] at h1
      exact one _ _ _ _ h1 h2
    obtain ⟨f, hfn⟩ := Go.Deep.choose_lt each
    refine ⟨some a, cap', (List.range len').map f, by simp, ?_, ?_, by simp; omega⟩
    · intro x hx
      obtain ⟨i, hi, rfl⟩ := List.mem_map.1 hx
      exact (hfn i (List.mem_range.1 hi)).1
    · intro i x hx
      have hi : i < len' := by
        have := (List.getElem?_eq_some_iff.1 hx).1
        simpa using this
      have hxx : x = f i := by
        simp [hi] at hx
        exact hx.symm
      subst hxx
      have h4 := hfn i hi
      exact ⟨a, rfl, by have := hlt _ _ h4.2; rwa [Addr.block_add] at this, h4.2⟩
/-- Is it so? -/
def Num.tru (P : Prop) [d : Decidable P] : Bool := @decide P d
theorem tru_yes {P : Prop} [d : Decidable P] (h : P) : tru P = true := decide_eq_true h
theorem tru_no {P : Prop} [d : Decidable P] (h : ¬ P) : tru P = false := decide_eq_false h
theorem tru_iff {P Q : Prop} [d : Decidable P] [d2 : Decidable Q] (h : P ↔ Q) : tru P = tru Q := by
  by_cases hp : P
  · rw [tru_yes hp, tru_yes (h.1 hp)]
  · rw [tru_no hp, tru_no (fun hq => hp (h.2 hq))]
theorem Num.LiesG.take {α : Type} {At : World → Addr → α → Prop} {sz : Nat} {w : World} {B : Nat} {ao : Option Addr} {l : List α} (h : LiesG At sz w B ao l) (k : Nat) : LiesG At sz w B ao (l.take k) := by
  intro i x hx
  refine h i x ?_
  rw [List.getElem?_take] at hx
  split at hx
  · exact hx
  · cases hx

theorem list_ne' {a b : ByteArray} (h : ¬ a = b) : (a.toList == b.toList) = false := by
  rw [Lib.toList_data, Lib.toList_data, beq_eq_false_iff_ne]
  intro e
  exact h (ByteArray.ext (Array.ext' e))
/-- What is not a row of e, and not let go by X, stays. -/
structure Num.Stay (X : Nat → Prop) (e : TypeId) (w w' : World) : Prop where
  size : w.heap.size ≤ w'.heap.size
  keep : ∀ k, k < w.heap.size → ¬ X k → (∀ cs fr, w.heap[k]? ≠ some (.cells cs e fr)) → w'.heap[k]? = w.heap[k]?
theorem Num.Stay.refl (X : Nat → Prop) (e : TypeId) (w : World) : Stay X e w w := ⟨Nat.le_refl _, fun _ _ _ _ => rfl⟩
theorem Num.Stay.trans {X : Nat → Prop} {e : TypeId} {a b c : World} (h : Stay X e a b) (k : Stay X e b c) : Stay X e a c :=
  ⟨Nat.le_trans h.size k.size, fun i hi hX hn => by
    have h1 := h.keep i hi hX hn
    exact (k.keep i (Nat.lt_of_lt_of_le hi h.size) hX (by rw [h1]; exact hn)).trans h1⟩
theorem Num.Stay.alloc (X : Nat → Prop) (e : TypeId) (w : World) (o : Obj) : Stay X e w (w.alloc o) := ⟨by simp, fun k hk _ _ => Below.heap_alloc w o k hk⟩
theorem Num.Stay.grown {X : Nat → Prop} {e : TypeId} {w w' : World} {base size n : Nat} {v : Value} {xs : List Value} (hown : w.ownsRow base e size v n xs) (hg : w.grownBy w' v.ownBlock) : Stay X e w w' :=
  ⟨hg.size, fun k hk _ hn => hg.block k hk (by
    intro he
    rcases hown.2 with ⟨rfl, _⟩ | ⟨g, cap, cur, rfl, _, hgb, _⟩
    · simp [Value.ownBlock] at he
    · obtain rfl : k = g := by simpa [Value.ownBlock] using he
      exact hn _ _ hgb)⟩
theorem Num.Stay.below {X : Nat → Prop} {e : TypeId} {w w' : World} (h : Below w.heap.size w w') : Stay X e w w' := ⟨h.size, fun k hk _ _ => h.block k hk⟩
theorem heap_new (w : World) (o : Obj) : (w.alloc o).heap[w.heap.size]? = some o := by
  show (w.heap.push o)[w.heap.size]? = some o
  simp
theorem box_cell {w : World} {b : Nat} {cs : Array Value} {t : TypeId} (hb : w.heap[b]? = some (.cells cs t (0, 0))) (i : Nat) (u : Value) (hi : cs[i]? = some u) : w.cell? ⟨b, i, none⟩ = some u := by
  simp [World.cell?, hb, hi]
theorem one_cell (w : World) (t : TypeId) (y : Value) : ∀ j u, [y][j]? = some u → (w.alloc (.cells #[y] t)).cell? ((⟨w.heap.size, 0, none⟩ : Addr).add j) = some u := by
  intro j u hj
  match j, hj with
  | 0, hj => simp at hj; subst hj; simp [Addr.add]
theorem one_cellB (w : World) (t : TypeId) (y : Value) (b : Nat) (hb : w.heap.size = b) : ∀ j u, [y][j]? = some u → (w.alloc (.cells #[y] t)).cell? ((⟨b, 0, none⟩ : Addr).add j) = some u := by
  subst hb
  exact one_cell w t y
/-- A box stays. -/
theorem stay_box {X : Nat → Prop} {e : TypeId} {w w' : World} (h : Stay X e w w') {b : Nat} {cs : Array Value} {t : TypeId} {fr : Nat × Nat} (hb : w.heap[b]? = some (.cells cs t fr)) (ht : t ≠ e) (hX : ¬ X b) : w'.heap[b]? = some (.cells cs t fr) := by
  rw [h.keep b (Array.getElem?_eq_some_iff.1 hb).1 hX (fun cs' fr' he => by rw [hb] at he; simp at he; exact ht he.2.1)]
  exact hb
theorem below_box {w w' : World} (h : Below w.heap.size w w') {b : Nat} {o : Obj} (hb : w.heap[b]? = some o) : w'.heap[b]? = some o := by
  rw [h.block b (Array.getElem?_eq_some_iff.1 hb).1]
  exact hb
theorem alloc_box {w : World} (o' : Obj) {b : Nat} {o : Obj} (hb : w.heap[b]? = some o) : (w.alloc o').heap[b]? = some o := by
  rw [Below.heap_alloc w o' b (Array.getElem?_eq_some_iff.1 hb).1]
  exact hb
/-- Another row of the call's own stays. -/
theorem own_stay {X : Nat → Prop} {e e' : TypeId} {w w' : World} {B size n : Nat} {v : Value} {xs : List Value} (h : w.ownsRow B e size v n xs) (hs : Stay X e' w w') (hne : e ≠ e') (hX : ∀ k, ¬ X k) : w'.ownsRow B e size v n xs := by
  refine ⟨h.1, ?_⟩
  rcases h.2 with h0 | ⟨g, cap, cur, hv, hb, hg, r⟩
  · exact .inl h0
  · exact .inr ⟨g, cap, cur, hv, hb, stay_box hs hg hne (hX g), r⟩
theorem addr_zero (a : Addr) : a.add 0 = a := if_pos rfl
theorem heap_drew {w : World} {b : Nat} {x : Option Obj} (h : w.heap[b]? = x) : w.drew.heap[b]? = x := h
theorem heap_newB (w : World) (o : Obj) (b : Nat) (hb : w.heap.size = b) : (w.alloc o).heap[b]? = some o := by
  subst hb
  exact heap_new w o
theorem alloc_cell {w : World} {p : Addr} {v : Value} (o : Obj) (h : w.cell? p = some v) : (w.alloc o).cell? p = some v := by
  exact (((Below.refl _ w).alloc (Nat.le_refl _) o).cell (cell_lt h)).trans h
theorem box_open {w : World} {b : Nat} {cs : Array Value} {t : TypeId} (h : w.heap[b]? = some (.cells cs t (0, 0))) (i : Nat) : w.frozen? ⟨b, i, none⟩ = false := by
  simp [World.frozen?, h]
theorem own_shape {w : World} {B e size n : Nat} {v : Value} {xs : List Value} (h : w.ownsRow B e size v n xs) : ∃ ao m cap, v = .slice ao m cap := by
  rcases h.2 with ⟨rfl, _⟩ | ⟨g, cap, cur, rfl, _⟩
  · exact ⟨_, _, _, rfl⟩
  · exact ⟨_, _, _, rfl⟩
theorem Num.Stay.drew {X : Nat → Prop} {e : TypeId} {a w : World} (h : Stay X e a w) : Stay X e a w.drew := ⟨h.size, h.keep⟩
theorem Num.Stay.wide {X : Nat → Prop} {e : TypeId} {w w' : World} (h : Stay (fun _ => False) e w w') : Stay X e w w' := ⟨h.size, fun k hk _ hn => h.keep k hk id hn⟩
theorem grown_set (w : World) (p i : Nat) (u : Value) : w.grownBy (w.setCell ⟨p, i, none⟩ u) (some p) :=
  ⟨rfl, rfl, rfl, by show w.heap.size ≤ (w.heap.modify _ _).size; simp, fun k _ hn => Below.heap_setCell _ _ _ _ (fun e => hn (by rw [e]))⟩
theorem grown_box {w w' : World} {p b : Nat} {o : Obj} (hg : w.grownBy w' (some p)) (hb : w.heap[b]? = some o) (hne : b ≠ p) : w'.heap[b]? = some o := by
  rw [hg.block b (Array.getElem?_eq_some_iff.1 hb).1 (by intro e; cases e; exact hne rfl)]
  exact hb
theorem grown_new {w W W' : World} {p b : Nat} (h : w.grownBy W (some p)) (k : W.grownBy W' (some b)) (hb : w.heap.size ≤ b) : w.grownBy W' (some p) :=
  ⟨k.os.trans h.os, k.tape.trans h.tape, k.output.trans h.output, Nat.le_trans h.size k.size, fun i hi hne => (k.block i (Nat.lt_of_lt_of_le hi h.size) (by intro e; cases e; omega)).trans (h.block i hi hne)⟩
/-- What is from B on, but for rows of e, is held. -/
structure Num.HoldX (B : Nat) (e : TypeId) (w w' : World) : Prop where
  size : w.heap.size ≤ w'.heap.size
  keep : ∀ k, B ≤ k → k < w.heap.size → (∀ cs fr, w.heap[k]? ≠ some (.cells cs e fr)) → w'.heap[k]? = w.heap[k]?
theorem Num.HoldX.of_grown {B : Nat} {e : TypeId} {w w' : World} {p : Nat} (h : w.grownBy w' (some p)) (hp : p < B) : HoldX B e w w' :=
  ⟨h.size, fun k hB hk _ => h.block k hk (by intro e; cases e; omega)⟩
theorem Num.HoldX.of_stay {B : Nat} {e : TypeId} {w w' : World} (h : Stay (fun _ => False) e w w') : HoldX B e w w' := ⟨h.size, fun k _ hk hn => h.keep k hk id hn⟩
theorem Num.HoldX.of_below {B : Nat} {e : TypeId} {w w' : World} (h : Below w.heap.size w w') : HoldX B e w w' := ⟨h.size, fun k _ hk _ => h.block k hk⟩
theorem Num.HoldX.trans {B : Nat} {e : TypeId} {a b c : World} (h : HoldX B e a b) (k : HoldX B e b c) : HoldX B e a c :=
  ⟨Nat.le_trans h.size k.size, fun i hB hi hn => by
    have h1 := h.keep i hB hi hn
    exact (k.keep i hB (Nat.lt_of_lt_of_le hi h.size) (by rw [h1]; exact hn)).trans h1⟩
theorem own_hold {B : Nat} {e e' : TypeId} {w w' : World} {size n : Nat} {v : Value} {xs : List Value} (h : w.ownsRow B e' size v n xs) (hh : HoldX B e w w') (hne : e' ≠ e) : w'.ownsRow B e' size v n xs := by
  refine ⟨h.1, ?_⟩
  rcases h.2 with h0 | ⟨g, cap, cur, hv, hb, hg, r⟩
  · exact .inl h0
  · refine .inr ⟨g, cap, cur, hv, hb, ?_, r⟩
    rw [hh.keep g hb (Array.getElem?_eq_some_iff.1 hg).1 (fun cs fr he => by rw [hg] at he; simp at he; exact hne he.2.1)]
    exact hg
theorem own_mono {B B' : Nat} {e : TypeId} {w : World} {size n : Nat} {v : Value} {xs : List Value} (h : w.ownsRow B e size v n xs) (hB : B' ≤ B) : w.ownsRow B' e size v n xs := by
  refine ⟨h.1, ?_⟩
  rcases h.2 with h0 | ⟨g, cap, cur, hv, hb, r⟩
  · exact .inl h0
  · exact .inr ⟨g, cap, cur, hv, Nat.le_trans hB hb, r⟩
/-- A list of structs of the call's own. -/
def Num.OwnS {α : Type} (V : Nat → World → List Value → α → Prop) (e : TypeId) (sz B : Nat) (w : World) (v : Value) (l : List α) : Prop :=
  ∃ css : List (List Value), css.length = l.length ∧ (∀ cs ∈ css, cs.length = sz ∧ ∀ u ∈ cs, u.oneCell' = true) ∧ w.ownsRow B e sz v l.length css.flatten ∧ ∀ (i : Nat) cs x, css[i]? = some cs → l[i]? = some x → V B w cs x
theorem Num.OwnS.nil {α : Type} (V : Nat → World → List Value → α → Prop) (e : TypeId) (sz B : Nat) (w : World) : OwnS V e sz B w (.slice none 0 0) [] := ⟨[], rfl, by simp, World.ownsRow_nil _ _ _ _, by simp⟩
theorem Num.OwnS.hold {α : Type} {V : Nat → World → List Value → α → Prop} {e e' : TypeId} {sz B : Nat} {w w' : World} {v : Value} {l : List α} (h : OwnS V e' sz B w v l) (hh : HoldX B e w w') (hne : e' ≠ e) (hV : ∀ cs x, V B w cs x → V B w' cs x) : OwnS V e' sz B w' v l := by
  obtain ⟨css, h1, h2, h3, h4⟩ := h
  exact ⟨css, h1, h2, own_hold h3 hh hne, fun i cs x a b => hV _ _ (h4 i cs x a b)⟩
theorem Num.OwnS.mono {α : Type} {V : Nat → World → List Value → α → Prop} {e : TypeId} {sz B B' : Nat} {w : World} {v : Value} {l : List α} (h : OwnS V e sz B w v l) (hB : B' ≤ B) (hV : ∀ cs x, V B w cs x → V B' w cs x) : OwnS V e sz B' w v l := by
  obtain ⟨css, h1, h2, h3, h4⟩ := h
  exact ⟨css, h1, h2, own_mono h3 hB, fun i cs x a b => hV _ _ (h4 i cs x a b)⟩
theorem Num.OwnS.shape {α : Type} {V : Nat → World → List Value → α → Prop} {e : TypeId} {sz B : Nat} {w : World} {v : Value} {l : List α} (h : OwnS V e sz B w v l) : ∃ ao cap, v = .slice ao l.length cap := by
  obtain ⟨css, h1, h2, h3, h4⟩ := h
  rcases h3.2 with ⟨hv, h0⟩ | ⟨g, cap, cur, hv, _⟩
  · exact ⟨none, 0, by rw [hv, h0]⟩
  · exact ⟨_, cap, hv⟩
theorem flat_get {css : List (List Value)} {sz : Nat} (h : ∀ cs ∈ css, cs.length = sz) : ∀ (i : Nat) cs, css[i]? = some cs → ∀ j, j < sz → css.flatten[i * sz + j]? = cs[j]? := by
  induction css with
  | nil => intro i cs hi; simp at hi
  | cons c css ih =>
    intro i cs hi j hj
    have hc : c.length = sz := h c (by simp)
    cases i with
    | zero =>
      simp at hi
      subst hi
      rw [List.flatten_cons, Nat.zero_mul, Nat.zero_add, List.getElem?_append_left (by omega)]
    | succ i =>
      have hi' : css[i]? = some cs := by simpa using hi
      rw [List.flatten_cons, List.getElem?_append_right (by rw [hc, Nat.succ_mul]; omega)]
      rw [show (i + 1) * sz + j - c.length = i * sz + j by rw [hc, Nat.succ_mul]; omega]
      exact ih (fun cs hcs => h cs (by simp [hcs])) i cs hi' j hj
theorem Num.OwnS.lies {α : Type} {V : Nat → World → List Value → α → Prop} {e : TypeId} {sz B : Nat} {w : World} {v : Value} {l : List α} (h : OwnS V e sz B w v l) (At : World → Addr → α → Prop)
    (hA : ∀ (p : Addr) cs x, V B w cs x → cs.length = sz → (∀ j u, cs[j]? = some u → w.cell? ⟨p.block, p.off + j, none⟩ = some u) → p.spot = none → At w p x) :
    ∃ ao cap, v = .slice ao l.length cap ∧ LiesG At sz w w.heap.size ao l := by
  obtain ⟨css, h1, h2, h3, h4⟩ := h
  rcases h3.2 with ⟨hv, h0⟩ | ⟨g, cap, cur, hv, _, hg, hcap, _⟩
  · subst hv
    have : l = [] := List.eq_nil_of_length_eq_zero h0
    subst this
    exact ⟨none, 0, rfl, fun i x hx => by simp at hx⟩
  · subst hv
    refine ⟨some ⟨g, 0, none⟩, cap, rfl, fun i x hx => ⟨_, rfl, (Array.getElem?_eq_some_iff.1 hg).1, ?_⟩⟩
    have hi := (List.getElem?_eq_some_iff.1 hx).1
    have hcs : css[i]? = some (css[i]'(by omega)) := List.getElem?_eq_getElem (by omega)
    have hlen := (h2 _ (List.mem_of_getElem? hcs)).1
    refine hA _ _ x (h4 i _ x hcs hx) hlen (fun j u hj => ?_) (by simp only [Addr.add_lit])
    have hjl : j < sz := by rw [← hlen]; exact (List.getElem?_eq_some_iff.1 hj).1
    have h5 := flat_get (fun cs hc => (h2 cs hc).1) i _ hcs j hjl
    rw [hj] at h5
    have h6 := h3.cells (g := g) rfl _ _ h5
    simp only [Addr.add_lit] at h6 ⊢
    rw [Nat.zero_add] at h6 ⊢
    exact h6
theorem at_zero {w : World} {p : Addr} {u : Value} (hs : p.spot = none) (h : w.cell? ⟨p.block, p.off + 0, none⟩ = some u) : w.cell? p = some u := by
  cases p
  simp_all
theorem size_of {y : ByteArray} {r : List UInt8} (h : y.data.toList = r) : y.size = r.length := by
  rw [← h]
  rfl
theorem new_cells (w : World) (t : TypeId) (cs : List Value) (b : Nat) (hb : w.heap.size = b) : ∀ j u, cs[j]? = some u → (w.alloc (.cells cs.toArray t)).cell? ((⟨b, 0, none⟩ : Addr).add j) = some u := by
  intro j u hj
  subst hb
  rw [Addr.add_lit, Nat.zero_add]
  exact box_cell (heap_new w _) j u (by simpa using hj)
/-- 'append' of one struct to a row of the call's own. -/
theorem wpList_appX {ops : Array Oper} {rest : List Oper} {o : Oper} {a : Act} {Q : Exit → Act → World → Prop} (w : World) (hgd : o.guard = none) (s x : Operand) (S : TypeId)
    (ho : o.op = .call { callee := .builtin .append, args := #[s, x], argTypes := #[S, S] })
    (E : TypeId) (sz bytes : Nat) (hS : Tryz.prog.underlying S = some (.slice E)) {z : Value} (hinfo : (Tryz.prog.info? E).map (fun i => (i.zero, i.size, i.bytes)) = some (some z, sz, bytes))
    (base : Nat) (v : Value) (n : Nat) (xs : List Value) (hs : a.eval s = v) (hown : w.ownsRow base E sz v n xs)
    (ad : Addr) (c : Nat) (cs : List Value) (hx : a.eval x = .slice (some ad) 1 c) (hl : cs.length = sz) (h1 : ∀ u ∈ cs, u.oneCell' = true) (hnews : ∀ j u, cs[j]? = some u → w.cell? (ad.add j) = some u)
    (hb : n ≤ 1000 ∧ 0 < sz ∧ bytes ≤ 100000 ∧ z.cells.size = sz) (hbase : base ≤ w.heap.size)
    (h : ∀ v' w', w'.ownsRow base E sz v' (n + 1) (xs ++ cs) → Below base w w' → Stay (fun _ => False) E w w' → wpList Tryz.prog ops Q rest (a.put o.dst v') w') : wpList Tryz.prog ops Q (o :: rest) a w := by
  obtain ⟨i0, hi, hz0, hz1, hz2⟩ := info_parts hinfo
  have hm : (n + 1) * bytes ≤ 1001 * 100000 := Nat.mul_le_mul (by omega) hb.2.2.1
  refine wpList_append_own w hgd s x S ho base E i0 z sz bytes hS hi hz0 hz1 hz2 hb.2.2.2 hb.2.1 v n xs hs hown ad 1 c cs hx (by omega) hnews h1 (by unfold maxLen; omega) (by omega) hbase ?_
  intro v' w' hown' hgrow _
  exact h v' w' hown' (Below.grown (Below.refl base w) hgrow hbase (fun k hk => (hown.lt k hk).1)) (Stay.grown hown hgrow)
theorem grown_low {w W W' : World} {p : Nat} (h : w.grownBy W (some p)) (k : Below w.heap.size W W') : w.grownBy W' (some p) :=
  ⟨k.os.trans h.os, k.tape.trans h.tape, k.output.trans h.output, Nat.le_trans h.size k.size, fun i hi hne => (k.block i hi).trans (h.block i hi hne)⟩
theorem own_snoc {α : Type} {V : Nat → World → List Value → α → Prop} {e : TypeId} {sz B : Nat} {w3 : World} {v3 : Value} {acc : List α} {a : α} {cs : List Value} {css : List (List Value)} (hcl : css.length = acc.length) (hcc : ∀ cs ∈ css, cs.length = sz ∧ ∀ u ∈ cs, u.oneCell' = true) (h1 : cs.length = sz) (h2 : ∀ u ∈ cs, u.oneCell' = true)
    (hrow : w3.ownsRow B e sz v3 (acc.length + 1) (css.flatten ++ cs)) (hVs : ∀ (i : Nat) cs x, css[i]? = some cs → acc[i]? = some x → V B w3 cs x) (hVa : V B w3 cs a) : OwnS V e sz B w3 v3 (acc ++ [a]) := by
  refine ⟨css ++ [cs], by simp [hcl], fun c hc => ?_, ?_, fun i c x hi hx => ?_⟩
  · rcases List.mem_append.1 hc with hc | hc
    · exact hcc c hc
    · rw [List.mem_singleton.1 hc]
      exact ⟨h1, h2⟩
  · rw [List.flatten_append, List.length_append]
    simpa using hrow
  · by_cases hlt : i < css.length
    · rw [List.getElem?_append_left hlt] at hi
      rw [List.getElem?_append_left (by omega)] at hx
      exact hVs i c x hi hx
    · rw [List.getElem?_append_right (by omega)] at hi
      rw [List.getElem?_append_right (by omega)] at hx
      have e0 : i - css.length = 0 := by
        have := (List.getElem?_eq_some_iff.1 hi).1
        simp at this
        omega
      rw [e0] at hi
      rw [show i - acc.length = 0 by omega] at hx
      simp at hi hx
      subst hi hx
      exact hVa
/-- Where a row of the call's own lies behind an append. -/
def Num.Near (w : World) (v v' : Value) : Prop := v'.ownBlock = v.ownBlock ∨ ∃ g, v'.ownBlock = some g ∧ w.heap.size ≤ g
end Go.Proofs.YtajbdffepfjegaaGreat
namespace Go.Proofs.YtajbdffepfjegaaGreat
open Go.RowKit Num
set_option linter.unusedVariables false
set_option maxRecDepth 100000

/-- 'copy' within rows of elements of whatever size: all is read ahead of the first write. -/
theorem run_copy_sized (w : World) (dT sT ty elem : TypeId) (size : Nat) (g o dLen dCap : Nat) (a : Addr) (sLen sCap : Nat) (cur : Array Value) (t : TypeId) (cs : List Value)
    (hu : Tryz.prog.underlying dT = some (.slice elem)) (hs : (Tryz.prog.info? elem).map (·.size) = some size)
    (hg : w.heap[g]? = some (.cells cur t (0, 0))) (hn : cs.length = Nat.min sLen dLen * size)
    (hsrc : ∀ j v, cs[j]? = some v → w.cell? (a.add j) = some v) (hfit : o + cs.length ≤ cur.size) (h1 : ∀ v ∈ cs, v.oneCell' = true) :
    (Builtin.copy_ #[dT, sT] ty #[.slice (some ⟨g, o, none⟩) dLen dCap, .slice (some a) sLen sCap]).run Tryz.prog w =
      .ok (goInt (Nat.min sLen dLen)) (w.setRow g (cur.toList.take o ++ cs ++ cur.toList.drop (o + cs.length)).toArray) := by
  have hl := run_loadCells_list (P := Tryz.prog) w a cs hsrc
  have hst := run_storeCells_at Tryz.prog g o t cs 0 cur w hg (by simpa using hfit) h1
  cases hq : Tryz.prog.info? elem with
  | none => simp [hq] at hs
  | some i =>
    have hi : i.size = size := by simpa [hq] using hs
    rw [hn] at hl
    simp [Builtin.copy_, run_underlying hu, Builtin.lenOf, Builtin.firstCells, sizeOf, typeInfo, hq, hi, hl, hst]
/-- 'clear' of some elements of a row. -/
theorem run_clear_sized (w : World) (dT ty elem : TypeId) (z : Value) (g o n c : Nat) (cur : Array Value) (t : TypeId) (hu : Tryz.prog.underlying dT = some (.slice elem)) (hz : ∀ w, (zeroValue elem).run Tryz.prog w = .ok z w) (hn : 0 < n)
    (hg : w.heap[g]? = some (.cells cur t (0, 0))) (hfit : o + n * z.cells.size ≤ cur.size) (h1 : ∀ v ∈ Builtin.zeroCells z.cells n, v.oneCell' = true) :
    (Builtin.clear_ #[dT] ty #[.slice (some ⟨g, o, none⟩) n c]).run Tryz.prog w =
      .ok (.tuple #[]) (w.setRow g (cur.toList.take o ++ (Builtin.zeroCells z.cells n).toList ++ cur.toList.drop (o + n * z.cells.size)).toArray) := by
  have hl : (Builtin.zeroCells z.cells n).toList.length = n * z.cells.size := by rw [Array.length_toList, size_zeroCells]
  have hst := run_storeCells_at Tryz.prog g o t (Builtin.zeroCells z.cells n).toList 0 cur w hg (by rw [hl]; simpa using hfit) (fun v hv => h1 v (by simpa using hv))
  rw [hl] at hst
  simp only [Nat.add_zero] at hst
  obtain ⟨m, rfl⟩ : ∃ m, n = m + 1 := ⟨n - 1, by omega⟩
  simp [Builtin.clear_, run_underlying hu, hz, hst]
theorem zero_one {z : Array Value} (h0 : 0 < z.size) (h : ∀ v ∈ z, v.oneCell' = true) (n : Nat) : ∀ v ∈ Builtin.zeroCells z n, v.oneCell' = true := by
  intro v hv
  unfold Builtin.zeroCells at hv
  obtain ⟨i, _, rfl⟩ := Array.mem_map.1 hv
  have hi : i % z.size < z.size := Nat.mod_lt _ h0
  rw [getElem!_pos z _ hi]
  exact h _ (Array.getElem_mem hi)
theorem cell_of_heap {w : World} {g o : Nat} {cur : Array Value} {t : TypeId} (hg : w.heap[g]? = some (.cells cur t (0, 0))) : w.cell? ⟨g, o, none⟩ = cur.toList[o]? := by
  simp [World.cell?, hg]
theorem grown_setRow {w : World} {g : Nat} (cs : Array Value) : w.grownBy (w.setRow g cs) (some g) :=
  ⟨rfl, rfl, rfl, by simp [World.setRow], fun k _ hk => setRow_other w g k cs (fun e => hk (by rw [e]))⟩
theorem grown_drew {w w' : World} {row : Option Nat} (h : w.drew.grownBy w' row) : w.grownBy w' row := ⟨h.os, h.tape, h.output, h.size, h.block⟩
/-- The row when what stands from a place on is shifted, and something is laid there. -/
theorem shift_row {α : Type} (A B Y Z : List α) (hZ : Y.length ≤ Z.length) :
    let L := A ++ B ++ Z
    let L1 := L.take (A.length + Y.length) ++ B ++ L.drop (A.length + Y.length + B.length)
    (L1.take A.length ++ Y ++ L1.drop (A.length + Y.length)) = A ++ Y ++ B ++ Z.drop Y.length := by
  intro L L1
  have e1 : L1.take A.length = A := by
    show ((A ++ B ++ Z).take (A.length + Y.length) ++ B ++ _).take A.length = A
    rw [List.append_assoc, List.take_append_of_le_length (by rw [List.length_take, List.length_append, List.length_append]; omega), List.take_take, Nat.min_eq_left (by omega), List.append_assoc, List.take_left]
  have e2 : L1.drop (A.length + Y.length) = B ++ Z.drop Y.length := by
    show ((A ++ B ++ Z).take (A.length + Y.length) ++ B ++ (A ++ B ++ Z).drop (A.length + Y.length + B.length)).drop (A.length + Y.length) = _
    have hl : ((A ++ B ++ Z).take (A.length + Y.length)).length = A.length + Y.length := by
      rw [List.length_take, List.length_append, List.length_append]
      omega
    rw [List.append_assoc]
    conv => lhs; arg 1; rw [← hl]
    rw [List.drop_left, show A.length + Y.length + B.length = (A ++ B).length + Y.length by simp [Nat.add_right_comm], List.drop_append]
    simp
  rw [e1, e2]
  simp
/-- The new row when there was no room. -/
theorem fresh_row {α : Type} (A B Y Z : List α) (hZ : Y.length + B.length ≤ Z.length) :
    let R1 := (A ++ Z).take A.length ++ Y ++ (A ++ Z).drop (A.length + Y.length)
    R1 = A ++ Y ++ Z.drop Y.length ∧ R1.take (A.length + Y.length) ++ B ++ R1.drop (A.length + Y.length + B.length) = A ++ Y ++ B ++ Z.drop (Y.length + B.length) := by
  intro R1
  have e1 : R1 = A ++ Y ++ Z.drop Y.length := by
    show (A ++ Z).take A.length ++ Y ++ (A ++ Z).drop (A.length + Y.length) = _
    rw [List.take_left, List.drop_append, List.drop_of_length_le (by omega), List.nil_append, Nat.add_sub_cancel_left]
  refine ⟨e1, ?_⟩
  have h2 : (A ++ Y).length = A.length + Y.length := List.length_append
  rw [e1, ← h2, List.take_left, List.drop_append, List.drop_of_length_le (by omega), List.nil_append, Nat.add_sub_cancel_left, List.drop_drop]
/-- A row of the call's own, opened. -/
theorem row_open {w : World} {B e sz g n C : Nat} {xs : List Value} (h : w.ownsRow B e sz (.slice (some ⟨g, 0, none⟩) n C) n xs) :
    ∃ (cur : Array Value) (Z : List Value), w.heap[g]? = some (.cells cur e (0, 0)) ∧ B ≤ g ∧ n ≤ C ∧ C ≤ maxLen ∧ cur.size = C * sz ∧ cur.toList = xs ++ Z := by
  rcases h.2 with ⟨hv, _⟩ | ⟨g', cap', cur, hv, hb, hg, hnc, hC, hs, ht⟩
  · cases hv
  · cases hv
    exact ⟨cur, cur.toList.drop (n * sz), hg, hb, hnc, hC, hs, by rw [← ht, List.take_append_drop]⟩
/-- The row behind. -/
theorem row_shut {w : World} {B e sz g C m : Nat} {q Z : List Value} {cur : Array Value} (hq : q.length = m * sz) (hg : w.heap[g]? = some (.cells cur e (0, 0))) (hb : B ≤ g) (hC : C ≤ maxLen) (hmC : m ≤ C) (hs : cur.size = C * sz) (h : cur.toList = q ++ Z) :
    w.ownsRow B e sz (.slice (some ⟨g, 0, none⟩) m C) m q :=
  ⟨hq, .inr ⟨g, C, cur, rfl, hb, hg, hmC, hC, hs, by rw [h, ← hq, List.take_left]⟩⟩
/-- 'append' as a step of a statement whose order is drawn, by its run. -/
theorem step_app_run {ops : Array Oper} {o : Oper} {a : Act} {w : World} {K : Act → World → Prop} {Q : Exit → Act → World → Prop} {E : Prop} (hgd : o.guard = none) (s x : Operand) (t : TypeId)
    (ho : o.op = .call { callee := .builtin .append, args := #[s, x], argTypes := #[t, t] }) (v u : Value) (hs : a.eval s = v) (hx : a.eval x = u) {v' : Value} {w' : World}
    (hr : (Builtin.append_ #[t, t] o.type #[v, u]).run Tryz.prog w = .ok v' w') (h : K (a.put o.dst v') w') : if Region.wanted o (yielded ops a.tmps) = true then Oper.wp Tryz.prog o a w K Q else E := by
  have hw : Region.wanted o (yielded ops a.tmps) = true := by simp [Region.wanted, hgd]
  rw [if_pos hw]
  unfold Oper.wp execOp
  simp only [ho, resolve, invoke, builtin, Sem.run_bind, Sem.run_pure, Result.andThen_ok, List.map_toArray, List.map_cons, List.map_nil, hs, hx, hr]
  exact h
end Go.Proofs.YtajbdffepfjegaaGreat
namespace Go.Proofs.YtajbdffepfjegaaGreat
open Go.RowKit Go.ChangeShapes Go.WideShapes Go.Joins Num
set_option linter.unusedVariables false
set_option maxRecDepth 100000

structure Num.Ent where
  time : Int
  data : ByteArray
structure Num.Msg where
  a0 : Int
  a1 : Int
  a2 : Int
  a3 : Int
  a4 : Int
  a5 : Int
  a6 : Int
  log : List Ent
abbrev Num.Msgs := List Msg

def Num.EnAt (w : World) (p : Addr) (x : Ent) : Prop := w.cell? p = some (.int .i64 x.time) ∧ w.cell? ⟨p.block, p.off + 1, none⟩ = some (.string x.data)
abbrev Num.LiesE (w : World) (B : Nat) (ao : Option Addr) (l : List Ent) : Prop := LiesG EnAt 2 w B ao l
def Num.MsAt (B : Nat) (w : World) (p : Addr) (m : Msg) : Prop := w.cell? p = some (.int .i64 m.a0) ∧ w.cell? ⟨p.block, p.off + 1, none⟩ = some (.int .i64 m.a1) ∧ w.cell? ⟨p.block, p.off + 2, none⟩ = some (.int .i64 m.a2) ∧ w.cell? ⟨p.block, p.off + 3, none⟩ = some (.int .i64 m.a3) ∧ w.cell? ⟨p.block, p.off + 4, none⟩ = some (.int .i64 m.a4) ∧ w.cell? ⟨p.block, p.off + 5, none⟩ = some (.int .i64 m.a5) ∧ w.cell? ⟨p.block, p.off + 6, none⟩ = some (.int .i64 m.a6) ∧ ∃ bo c, w.cell? ⟨p.block, p.off + 7, none⟩ = some (.slice bo m.log.length c) ∧ LiesE w B bo m.log
abbrev Num.LiesM (w : World) (B : Nat) (ao : Option Addr) (l : Msgs) : Prop := LiesG (MsAt B) 8 w B ao l
theorem Num.EnAt.fast {B : Nat} : Fast B EnAt := fun w w' p x hp h hb => ⟨(hb.cell hp).trans h.1, (hb.cell (p := ⟨p.block, p.off + 1, none⟩) hp).trans h.2⟩
theorem Num.MsAt.fast {B : Nat} : Fast B (MsAt B) := fun w w' p m hp h hb => by
  obtain ⟨h0, h1, h2, h3, h4, h5, h6, bo, c, h7, h8⟩ := h
  exact ⟨(hb.cell hp).trans h0, (hb.cell (p := ⟨p.block, p.off + 1, none⟩) hp).trans h1, (hb.cell (p := ⟨p.block, p.off + 2, none⟩) hp).trans h2, (hb.cell (p := ⟨p.block, p.off + 3, none⟩) hp).trans h3, (hb.cell (p := ⟨p.block, p.off + 4, none⟩) hp).trans h4, (hb.cell (p := ⟨p.block, p.off + 5, none⟩) hp).trans h5, (hb.cell (p := ⟨p.block, p.off + 6, none⟩) hp).trans h6, bo, c, (hb.cell (p := ⟨p.block, p.off + 7, none⟩) hp).trans h7, h8.below EnAt.fast hb⟩
theorem msAt_mono {B B' : Nat} (hB : B ≤ B') {w : World} {p : Addr} {m : Msg} (h : MsAt B w p m) : MsAt B' w p m := by
  obtain ⟨h0, h1, h2, h3, h4, h5, h6, bo, c, h7, h8⟩ := h
  exact ⟨h0, h1, h2, h3, h4, h5, h6, bo, c, h7, h8.mono hB (fun _ _ h => h)⟩
theorem liesE_next {w w' : World} {B : Nat} {ao : Option Addr} {l : List Ent} (h : LiesE w B ao l) (hb : Below B w w') {B' : Nat} (hB : B ≤ B') : LiesE w' B' ao l := (h.below EnAt.fast hb).mono hB fun _ _ h => h
theorem liesM_next {w w' : World} {B : Nat} {ao : Option Addr} {l : Msgs} (h : LiesM w B ao l) (hb : Below B w w') {B' : Nat} (hB : B ≤ B') : LiesM w' B' ao l := (h.below MsAt.fast hb).mono hB fun _ _ h => msAt_mono hB h

/-! What came in. -/
theorem Tryz.cellsStr : Tryz.prog.cellsOf 9 = 1 := by kernel_rfl
theorem Tryz.cellsInt : Tryz.prog.cellsOf 3 = 1 := by kernel_rfl
theorem Tryz.cellsEn : Tryz.prog.cellsOf 48 = 2 := by kernel_rfl
theorem Tryz.cellsLog : Tryz.prog.cellsOf 22 = 1 := by kernel_rfl
theorem Tryz.cellsMs : Tryz.prog.cellsOf 27 = 8 := by kernel_rfl
set_option maxRecDepth 100000 in
theorem open_en {H : Type} {enc : TypeId × Value → H} {w : World} {base : Nat} {spare : Nat → Bool} {held : Bool} (a : Addr) (n : Nat) (cs : List Value) (x : DataW H × List MemPlace)
    (h1 : w.cells? base a 2 = some cs) (h2 : DataW.trod enc Tryz.prog w base spare held n 48 cs = some x) :
    ∃ c : Ent, True ∧ EnAt w a c := by
  obtain ⟨_, hlen, hcell⟩ := World.cells?_some h1
  obtain ⟨xs, m, _, _, _, hxl, hf⟩ := DataW.trod_struct Tryz.underlying48 h2
  match cs, hlen, xs, hxl with
  | [v0, v1], _, [x0, x1], _ =>
    have g0 := hf 0 _ rfl
    have g1 := hf 1 _ rfl
    simp [Tryz.cellsStr, Tryz.cellsInt] at g0 g1
    have e0 := hcell 0 (by omega)
    have e1 := hcell 1 (by omega)
    simp [Addr.add] at e0 e1
    obtain ⟨k0, q0, _, _⟩ := DataW.trod_int Tryz.underlying3 g0
    obtain ⟨s1, q1, _, _⟩ := DataW.trod_string Tryz.underlying9 g1
    simp at q0 q1
    subst q0 q1
    exact ⟨⟨k0, s1⟩, trivial, e0, e1⟩
/-- The numbers of a message are ints. -/
def Num.Msg.ok (m : Msg) : Prop := (-9223372036854775808 ≤ m.a0 ∧ m.a0 ≤ 9223372036854775807) ∧ (-9223372036854775808 ≤ m.a1 ∧ m.a1 ≤ 9223372036854775807) ∧ (-9223372036854775808 ≤ m.a2 ∧ m.a2 ≤ 9223372036854775807) ∧ (-9223372036854775808 ≤ m.a3 ∧ m.a3 ≤ 9223372036854775807) ∧ (-9223372036854775808 ≤ m.a4 ∧ m.a4 ≤ 9223372036854775807) ∧ (-9223372036854775808 ≤ m.a5 ∧ m.a5 ≤ 9223372036854775807) ∧ (-9223372036854775808 ≤ m.a6 ∧ m.a6 ≤ 9223372036854775807)
set_option maxRecDepth 100000 in
theorem open_fields {H : Type} {enc : TypeId × Value → H} {w : World} {base n : Nat} {spare : Nat → Bool} {held : Bool} {v0 v1 v2 v3 v4 v5 v6 v7 : Value} {x : DataW H × List MemPlace}
    (h : DataW.trod enc Tryz.prog w base spare held n 27 [v0, v1, v2, v3, v4, v5, v6, v7] = some x) :
    ∃ (m : Msg) (bo : Option Addr) (c : Nat), m.ok ∧ v0 = .int .i64 m.a0 ∧ v1 = .int .i64 m.a1 ∧ v2 = .int .i64 m.a2 ∧ v3 = .int .i64 m.a3 ∧ v4 = .int .i64 m.a4 ∧ v5 = .int .i64 m.a5 ∧ v6 = .int .i64 m.a6 ∧ v7 = .slice bo m.log.length c ∧ LiesE w w.heap.size bo m.log := by
  obtain ⟨xs, m, _, _, _, hxl, hf⟩ := DataW.trod_struct Tryz.underlying27 h
  have inh : Inhabited Ent := ⟨⟨0, ByteArray.empty⟩⟩
  match xs, hxl with
  | [x0, x1, x2, x3, x4, x5, x6, x7], _ =>
    have g0 := hf 0 _ rfl
    have g1 := hf 1 _ rfl
    have g2 := hf 2 _ rfl
    have g3 := hf 3 _ rfl
    have g4 := hf 4 _ rfl
    have g5 := hf 5 _ rfl
    have g6 := hf 6 _ rfl
    have g7 := hf 7 _ rfl
    clear hf
    simp [Tryz.cellsInt] at g0
    simp [Tryz.cellsInt] at g1
    simp [Tryz.cellsInt] at g2
    simp [Tryz.cellsInt] at g3
    simp [Tryz.cellsInt] at g4
    simp [Tryz.cellsInt] at g5
    simp [Tryz.cellsInt] at g6
    simp [Tryz.cellsLog] at g7
    obtain ⟨k0, q0, _, w0⟩ := DataW.trod_int Tryz.underlying3 g0
    obtain ⟨k1, q1, _, w1⟩ := DataW.trod_int Tryz.underlying3 g1
    obtain ⟨k2, q2, _, w2⟩ := DataW.trod_int Tryz.underlying3 g2
    obtain ⟨k3, q3, _, w3⟩ := DataW.trod_int Tryz.underlying3 g3
    obtain ⟨k4, q4, _, w4⟩ := DataW.trod_int Tryz.underlying3 g4
    obtain ⟨k5, q5, _, w5⟩ := DataW.trod_int Tryz.underlying3 g5
    obtain ⟨k6, q6, _, w6⟩ := DataW.trod_int Tryz.underlying3 g6
    obtain ⟨bo, c, l, q7, _, hl, _⟩ := open_list EnAt (fun _ => True) 2 Tryz.cellsEn Tryz.underlying22 (fun p x h => cell_lt h.1) open_en g7
    simp only [List.cons.injEq, and_true] at q0 q1 q2 q3 q4 q5 q6
    exact ⟨⟨k0, k1, k2, k3, k4, k5, k6, l⟩, bo, c, ⟨by have := bounds_i64 w0; omega, by have := bounds_i64 w1; omega, by have := bounds_i64 w2; omega, by have := bounds_i64 w3; omega, by have := bounds_i64 w4; omega, by have := bounds_i64 w5; omega, by have := bounds_i64 w6; omega⟩, q0, q1, q2, q3, q4, q5, q6, q7, hl⟩
theorem open_ms {H : Type} {enc : TypeId × Value → H} {w : World} {base : Nat} {spare : Nat → Bool} {held : Bool} (a : Addr) (n : Nat) (cs : List Value) (x : DataW H × List MemPlace)
    (h1 : w.cells? base a 8 = some cs) (h2 : DataW.trod enc Tryz.prog w base spare held n 27 cs = some x) :
    ∃ m : Msg, m.ok ∧ MsAt w.heap.size w a m := by
  obtain ⟨_, hlen, hcell⟩ := World.cells?_some h1
  match cs, hlen with
  | [v0, v1, v2, v3, v4, v5, v6, v7], _ =>
    have e0 := hcell 0 (by omega)
    have e1 := hcell 1 (by omega)
    have e2 := hcell 2 (by omega)
    have e3 := hcell 3 (by omega)
    have e4 := hcell 4 (by omega)
    have e5 := hcell 5 (by omega)
    have e6 := hcell 6 (by omega)
    have e7 := hcell 7 (by omega)
    clear hcell
    simp [Addr.add] at e0
    simp [Addr.add] at e1
    simp [Addr.add] at e2
    simp [Addr.add] at e3
    simp [Addr.add] at e4
    simp [Addr.add] at e5
    simp [Addr.add] at e6
    simp [Addr.add] at e7
    obtain ⟨m, bo, c, hok, q0, q1, q2, q3, q4, q5, q6, q7, hl⟩ := open_fields h2
    rw [q0] at e0
    rw [q1] at e1
    rw [q2] at e2
    rw [q3] at e3
    rw [q4] at e4
    rw [q5] at e5
    rw [q6] at e6
    rw [q7] at e7
    exact ⟨m, hok, e0, e1, e2, e3, e4, e5, e6, bo, c, e7, hl⟩
/-- Messages that came in. -/
theorem open_msgs {H : Type} {enc : TypeId × Value → H} {w : World} {base b0 : Nat} {r : Reach} {spare : Nat → Bool} {held : Bool} {v : Value} {d : DataW H} {p : List MemPlace}
    (hv : Value.okWide Tryz.prog w r b0 30 v) (h : DataW.Trod enc Tryz.prog w base spare held 30 v d p) :
    ∃ (ao : Option Addr) (cap : Nat) (l : Msgs), v = .slice ao l.length cap ∧ l.length ≤ cap ∧ (∀ m ∈ l, m.ok) ∧ LiesM w w.heap.size ao l := by
  obtain ⟨ao, len, cap, rfl⟩ := okWide_slice Tryz.underlying30 hv
  have inh : Inhabited Msg := ⟨⟨0, 0, 0, 0, 0, 0, 0, []⟩⟩
  obtain ⟨fuel, hf⟩ := h
  obtain ⟨ao', cap', l, q, hok, hl, hc⟩ := open_list (MsAt w.heap.size) Msg.ok 8 Tryz.cellsMs Tryz.underlying30 (fun p x h => cell_lt h.1) open_ms (by simpa [Value.cells] using hf)
  exact ⟨ao', cap', l, q, hc, hok, hl⟩
theorem array8 {cs : Array Value} (h : cs.size = 8) : ∃ v0 v1 v2 v3 v4 v5 v6 v7, cs = #[v0, v1, v2, v3, v4, v5, v6, v7] := by
  obtain ⟨l⟩ := cs
  match l, h with
  | [v0, v1, v2, v3, v4, v5, v6, v7], _ => exact ⟨v0, v1, v2, v3, v4, v5, v6, v7, rfl⟩
/-- A message that came in. -/
theorem open_msg {H : Type} {enc : TypeId × Value → H} {w : World} {base b0 : Nat} {r : Reach} {spare : Nat → Bool} {held : Bool} {v : Value} {d : DataW H} {p : List MemPlace}
    (hv : Value.okWide Tryz.prog w r b0 27 v) (h : DataW.Trod enc Tryz.prog w base spare held 27 v d p) :
    ∃ (m : Msg) (bo : Option Addr) (c : Nat), v = .agg #[.int .i64 m.a0, .int .i64 m.a1, .int .i64 m.a2, .int .i64 m.a3, .int .i64 m.a4, .int .i64 m.a5, .int .i64 m.a6, .slice bo m.log.length c] ∧ m.ok ∧ LiesE w w.heap.size bo m.log := by
  obtain ⟨cs, rfl, hsz⟩ := okWide_struct Tryz.underlying27 hv
  obtain ⟨v0, v1, v2, v3, v4, v5, v6, v7, rfl⟩ := array8 (hsz.trans Tryz.cellsMs)
  obtain ⟨fuel, hf⟩ := h
  obtain ⟨m, bo, c, hok, q0, q1, q2, q3, q4, q5, q6, q7, hl⟩ := open_fields (by simpa [Value.cells] using hf)
  exact ⟨m, bo, c, by rw [q0, q1, q2, q3, q4, q5, q6, q7], hok, hl⟩

/-! Rows of the call's own. -/
def Num.enCells (l : List Ent) : List Value := l.flatMap (fun x => [.int .i64 x.time, .string x.data])
theorem enCells_cons (x : Ent) (l : List Ent) : enCells (x :: l) = [.int .i64 x.time, .string x.data] ++ enCells l := rfl
theorem enCells_len (l : List Ent) : (enCells l).length = l.length * 2 := by
  induction l with
  | nil => rfl
  | cons x l ih =>
    rw [enCells_cons, List.length_append, ih, List.length_cons]
    simp
    omega
theorem enCells_one (l : List Ent) : ∀ v ∈ enCells l, v.oneCell' = true := by
  intro v hv
  simp only [enCells, List.mem_flatMap] at hv
  obtain ⟨y, _, hy⟩ := hv
  simp at hy
  rcases hy with rfl | rfl <;> rfl
theorem enCells_get (l : List Ent) : ∀ (i : Nat) x, l[i]? = some x → (enCells l)[i * 2]? = some (.int .i64 x.time) ∧ (enCells l)[i * 2 + 1]? = some (.string x.data) := by
  induction l with
  | nil => intro i x h; simp at h
  | cons y l ih =>
    intro i x h
    rw [enCells_cons]
    cases i with
    | zero =>
      simp at h
      subst h
      exact ⟨rfl, rfl⟩
    | succ i =>
      have h' : l[i]? = some x := by simpa using h
      obtain ⟨h1, h2⟩ := ih i x h'
      rw [show (i + 1) * 2 = i * 2 + 2 by omega]
      exact ⟨by simpa using h1, by rw [show i * 2 + 2 + 1 = (i * 2 + 1) + 2 by omega]; simpa using h2⟩
/-- A log of the call's own lies there. -/
theorem ownE_lies {w : World} {B : Nat} {v : Value} {l : List Ent} (h : w.ownsRow B 48 2 v l.length (enCells l)) : ∃ ao cap, v = .slice ao l.length cap ∧ LiesE w w.heap.size ao l := by
  rcases h.2 with ⟨hv, h0⟩ | ⟨g, cap, cur, hv, _, hg, hcap, _⟩
  · subst hv
    have : l = [] := List.eq_nil_of_length_eq_zero h0
    subst this
    exact ⟨none, 0, rfl, fun i x hx => by simp at hx⟩
  · subst hv
    refine ⟨_, cap, rfl, fun i x hx => ⟨_, rfl, (Array.getElem?_eq_some_iff.1 hg).1, ?_⟩⟩
    obtain ⟨h1, h2⟩ := enCells_get l i x hx
    have h3 := h.cells (g := g) rfl _ _ h1
    have h4 := h.cells (g := g) rfl _ _ h2
    rw [Addr.add_lit] at h3 h4
    rw [Addr.add_lit]
    exact ⟨h3, h4⟩
theorem add_off (a : Addr) (i j : Nat) (hj : 0 < j) : a.add (i + j) = ⟨(a.add i).block, (a.add i).off + j, none⟩ := by
  have e4 : (a.add i).off = a.off + i := by
    unfold Addr.add
    split
    · rename_i h0
      rw [h0]
      rfl
    · rfl
  rw [e4, Addr.block_add]
  unfold Addr.add
  rw [if_neg (by omega)]
  congr 1
  omega
/-- The cells of a log that lies there. -/
theorem liesE_cells {w : World} {B : Nat} {a : Addr} {l : List Ent} (h : LiesE w B (some a) l) : ∀ j u, (enCells l)[j]? = some u → w.cell? (a.add j) = some u := by
  intro j u hj
  have hlt := (List.getElem?_eq_some_iff.1 hj).1
  rw [enCells_len] at hlt
  have hi : j / 2 < l.length := by omega
  have hx := List.getElem?_eq_getElem hi
  obtain ⟨h1, h2⟩ := enCells_get l _ _ hx
  obtain ⟨a', e, _, h3, h4⟩ := h _ _ hx
  cases e
  rcases Nat.mod_two_eq_zero_or_one j with hm | hm
  · have e2 : j / 2 * 2 = j := by omega
    rw [e2] at h1 h3
    rw [h1] at hj
    cases hj
    exact h3
  · have e2 : j / 2 * 2 + 1 = j := by omega
    rw [e2] at h2
    rw [h2] at hj
    cases hj
    have e3 := add_off a (j / 2 * 2) 1 (by omega)
    rw [e2] at e3
    rw [e3]
    exact h4
/-- The eight cells of a message. -/
def Num.mc (m : Msg) (v : Value) : List Value := [.int .i64 m.a0, .int .i64 m.a1, .int .i64 m.a2, .int .i64 m.a3, .int .i64 m.a4, .int .i64 m.a5, .int .i64 m.a6, v]
/-- A message whose log lies below B; one whose log is the call's own, from B on. -/
def Num.MsV (B : Nat) (w : World) (cs : List Value) (m : Msg) : Prop := ∃ bo c, cs = mc m (.slice bo m.log.length c) ∧ LiesE w B bo m.log
def Num.MsO (B : Nat) (w : World) (cs : List Value) (m : Msg) : Prop := ∃ c, cs = mc m c ∧ w.ownsRow B 48 2 c m.log.length (enCells m.log)
abbrev Num.OwnV (B : Nat) (w : World) (v : Value) (l : Msgs) : Prop := OwnS MsV 27 8 B w v l
abbrev Num.OwnO (B : Nat) (w : World) (v : Value) (l : Msgs) : Prop := OwnS MsO 27 8 B w v l
theorem mc_len (m : Msg) (v : Value) : (mc m v).length = 8 := rfl
theorem mc_one (m : Msg) (ao : Option Addr) (n c : Nat) : ∀ u ∈ mc m (.slice ao n c), u.oneCell' = true := by
  intro u hu
  simp only [mc, List.mem_cons, List.not_mem_nil, or_false] at hu
  rcases hu with rfl | rfl | rfl | rfl | rfl | rfl | rfl | rfl <;> rfl
theorem msV_below {B : Nat} {w w' : World} (hb : Below B w w') {cs : List Value} {m : Msg} (h : MsV B w cs m) : MsV B w' cs m := by
  obtain ⟨bo, c, e, h1⟩ := h
  exact ⟨bo, c, e, h1.below EnAt.fast hb⟩
theorem msV_wide {B B' : Nat} {w w' : World} (hb : Below B w w') (hB : B ≤ B') {cs : List Value} {m : Msg} (h : MsV B w cs m) : MsV B' w' cs m := by
  obtain ⟨bo, c, e, h1⟩ := h
  exact ⟨bo, c, e, liesE_next h1 hb hB⟩
theorem msO_below {B : Nat} {w w' : World} (hb : Below w.heap.size w w') {cs : List Value} {m : Msg} (h : MsO B w cs m) : MsO B w' cs m := by
  obtain ⟨c, e, h1⟩ := h
  exact ⟨c, e, own_below h1 hb⟩
theorem msO_stay {B : Nat} {w w' : World} (hs : Stay (fun _ => False) 27 w w') {cs : List Value} {m : Msg} (h : MsO B w cs m) : MsO B w' cs m := by
  obtain ⟨c, e, h1⟩ := h
  exact ⟨c, e, own_stay h1 hs (by decide) (fun _ h => h)⟩
theorem msO_v {B : Nat} {w : World} {cs : List Value} {m : Msg} (h : MsO B w cs m) : MsV w.heap.size w cs m := by
  obtain ⟨c, rfl, h1⟩ := h
  obtain ⟨ao, cap, rfl, hl⟩ := ownE_lies h1
  exact ⟨ao, cap, rfl, hl⟩
theorem msV_at {B : Nat} {w : World} {p : Addr} {cs : List Value} {m : Msg} (h : MsV B w cs m) (hc : ∀ j u, cs[j]? = some u → w.cell? ⟨p.block, p.off + j, none⟩ = some u) (hs : p.spot = none) : MsAt B w p m := by
  obtain ⟨bo, c, rfl, hl⟩ := h
  exact ⟨at_zero hs (hc 0 _ rfl), hc 1 _ rfl, hc 2 _ rfl, hc 3 _ rfl, hc 4 _ rfl, hc 5 _ rfl, hc 6 _ rfl, bo, c, hc 7 _ rfl, hl⟩
theorem ownO_below {B : Nat} {w w' : World} {v : Value} {l : Msgs} (h : OwnO B w v l) (hb : Below w.heap.size w w') : OwnO B w' v l := by
  obtain ⟨css, h1, h2, h3, h4⟩ := h
  exact ⟨css, h1, h2, own_below h3 hb, fun i cs x a b => msO_below hb (h4 i cs x a b)⟩
/-- Messages of the call's own lie there. -/
theorem ownO_lies {B : Nat} {w : World} {v : Value} {l : Msgs} (h : OwnO B w v l) : ∃ ao cap, v = .slice ao l.length cap ∧ LiesM w w.heap.size ao l :=
  h.lies (MsAt w.heap.size) fun p cs m hm _ hcell hs => msV_at (msO_v hm) hcell hs
theorem ownV_lies {B : Nat} {w : World} {v : Value} {l : Msgs} (h : OwnV B w v l) (hB : B ≤ w.heap.size) : ∃ ao cap, v = .slice ao l.length cap ∧ LiesM w w.heap.size ao l :=
  h.lies (MsAt w.heap.size) fun p cs m hm _ hcell hs => msV_at (msV_wide (Below.refl _ _) hB hm) hcell hs
/-- The cells of messages that lie there. -/
theorem liesM_cells {w : World} {B : Nat} {a : Addr} {l : Msgs} (h : LiesM w B (some a) l) : ∃ css : List (List Value), css.length = l.length ∧ (∀ cs ∈ css, cs.length = 8 ∧ ∀ u ∈ cs, u.oneCell' = true) ∧ (∀ j u, css.flatten[j]? = some u → w.cell? (a.add j) = some u) ∧ ∀ (i : Nat) cs x, css[i]? = some cs → l[i]? = some x → MsV B w cs x := by
  have each : ∀ i, i < l.length → ∃ cs : List Value, ∀ x, l[i]? = some x → MsV B w cs x ∧ (cs.length = 8 ∧ ∀ u ∈ cs, u.oneCell' = true) ∧ ∀ j u, cs[j]? = some u → w.cell? (a.add (i * 8 + j)) = some u := by
    intro i hi
    have hx := List.getElem?_eq_getElem hi
    obtain ⟨a', e, _, h0, h1, h2, h3, h4, h5, h6, bo, c, h7, hl⟩ := h i _ hx
    cases e
    refine ⟨mc l[i] (.slice bo l[i].log.length c), fun x hx' => ?_⟩
    rw [hx] at hx'
    cases hx'
    refine ⟨⟨bo, c, rfl, hl⟩, ⟨rfl, mc_one _ _ _ _⟩, fun j u hj => ?_⟩
    have hj8 : j < 8 := (List.getElem?_eq_some_iff.1 hj).1
    match j, hj8, hj with
    | 0, _, hj => cases hj; exact h0
    | 1, _, hj => cases hj; rw [add_off a (i * 8) 1 (by omega)]; exact h1
    | 2, _, hj => cases hj; rw [add_off a (i * 8) 2 (by omega)]; exact h2
    | 3, _, hj => cases hj; rw [add_off a (i * 8) 3 (by omega)]; exact h3
    | 4, _, hj => cases hj; rw [add_off a (i * 8) 4 (by omega)]; exact h4
    | 5, _, hj => cases hj; rw [add_off a (i * 8) 5 (by omega)]; exact h5
    | 6, _, hj => cases hj; rw [add_off a (i * 8) 6 (by omega)]; exact h6
    | 7, _, hj => cases hj; rw [add_off a (i * 8) 7 (by omega)]; exact h7
  obtain ⟨f, hf⟩ := Go.Deep.choose_lt each
  have hget : ∀ (i : Nat) cs, ((List.range l.length).map f)[i]? = some cs → i < l.length ∧ cs = f i := by
    intro i cs hi
    have hil := (List.getElem?_eq_some_iff.1 hi).1
    simp at hil
    simp [hil] at hi
    exact ⟨hil, hi.symm⟩
  refine ⟨(List.range l.length).map f, by simp, ?_, ?_, ?_⟩
  · intro cs hcs
    obtain ⟨i, hi, rfl⟩ := List.mem_map.1 hcs
    have hil := List.mem_range.1 hi
    exact (hf i hil _ (List.getElem?_eq_getElem hil)).2.1
  · intro j u hj
    have hlen8 : ∀ cs ∈ (List.range l.length).map f, cs.length = 8 := by
      intro cs hcs
      obtain ⟨i, hi, rfl⟩ := List.mem_map.1 hcs
      have hil := List.mem_range.1 hi
      exact (hf i hil _ (List.getElem?_eq_getElem hil)).2.1.1
    have hjl : j < l.length * 8 := by
      have h1 := (List.getElem?_eq_some_iff.1 hj).1
      have h2 : ∀ (q : List (List Value)), (∀ cs ∈ q, cs.length = 8) → q.flatten.length = q.length * 8 := by
        intro q
        induction q with
        | nil => intro _; rfl
        | cons c q ih =>
          intro hq
          rw [List.flatten_cons, List.length_append, ih fun cs hcs => hq cs (by simp [hcs]), hq c (by simp), List.length_cons]
          omega
      rw [h2 _ hlen8] at h1
      simpa using h1
    have hil : j / 8 < l.length := by omega
    have hcs : ((List.range l.length).map f)[j / 8]? = some (f (j / 8)) := by simp [hil]
    have h3 := flat_get hlen8 (j / 8) _ hcs (j % 8) (Nat.mod_lt _ (by omega))
    rw [show j / 8 * 8 + j % 8 = j by omega, hj] at h3
    have h4 := (hf _ hil _ (List.getElem?_eq_getElem hil)).2.2 (j % 8) u h3.symm
    rw [show j / 8 * 8 + j % 8 = j by omega] at h4
    exact h4
  · intro i cs x hi hx
    obtain ⟨hil, rfl⟩ := hget i cs hi
    exact (hf i hil x hx).1
theorem liesM_none {w : World} {B : Nat} {l : Msgs} (h : LiesM w B none l) : l = [] := by
  cases l with
  | nil => rfl
  | cons x l =>
    obtain ⟨a, e, _⟩ := h 0 x rfl
    cases e
theorem liesE_none {w : World} {B : Nat} {l : List Ent} (h : LiesE w B none l) : l = [] := by
  cases l with
  | nil => rfl
  | cons x l =>
    obtain ⟨a, e, _⟩ := h 0 x rfl
    cases e
theorem flat_len {sz : Nat} : ∀ (q : List (List Value)), (∀ cs ∈ q, cs.length = sz) → q.flatten.length = q.length * sz
  | [], _ => by simp
  | c :: q, hq => by
    rw [List.flatten_cons, List.length_append, flat_len q fun cs hcs => hq cs (by simp [hcs]), hq c (by simp), List.length_cons, Nat.succ_mul]
    omega
theorem flat_one' {css : List (List Value)} {sz : Nat} (h : ∀ cs ∈ css, cs.length = sz ∧ ∀ u ∈ cs, u.oneCell' = true) : ∀ u ∈ css.flatten, u.oneCell' = true := by
  intro u hu
  obtain ⟨cs, hcs, hu⟩ := List.mem_flatten.1 hu
  exact (h cs hcs).2 u hu
end Go.Proofs.YtajbdffepfjegaaGreat
namespace Go.Proofs.YtajbdffepfjegaaGreat
open Go.RowKit Num
set_option linter.unusedVariables false
set_option maxRecDepth 100000

theorem Tryz.infoMs : (Tryz.prog.info? 27).map (fun i => (i.zero, i.size, i.bytes)) = some (some (.agg #[.int .i64 0, .int .i64 0, .int .i64 0, .int .i64 0, .int .i64 0, .int .i64 0, .int .i64 0, .slice none 0 0]), 8, 80) := by kernel_rfl
theorem Tryz.infoEn : (Tryz.prog.info? 48).map (fun i => (i.zero, i.size, i.bytes)) = some (some (.agg #[.int .i64 0, .string ⟨#[]⟩]), 2, 24) := by kernel_rfl
/-- What a slice holds, by its cells. -/
structure Num.Held (w : World) (bo : Option Addr) (n sz : Nat) (cs : List Value) : Prop where
  len : cs.length = n * sz
  one : ∀ u ∈ cs, u.oneCell' = true
  nil : bo = none → n = 0
  lie : ∀ a, bo = some a → ∀ j u, cs[j]? = some u → w.cell? (a.add j) = some u
theorem src_next {w w' : World} {bo : Option Addr} {n sz : Nat} {cs : List Value} (h : Held w bo n sz cs) (hb : Below w.heap.size w w') : Held w' bo n sz cs :=
  ⟨h.len, h.one, h.nil, fun a e j u hj => by
    have h1 := h.lie a e j u hj
    exact (hb.cell (cell_lt h1)).trans h1⟩
/-- 'append' to a row of the call's own. -/
theorem run_app_g {S E sz bytes : Nat} {z : Value} (hS : Tryz.prog.underlying S = some (.slice E)) (hinfo : (Tryz.prog.info? E).map (fun i => (i.zero, i.size, i.bytes)) = some (some z, sz, bytes)) (hz : 0 < sz ∧ bytes ≤ 1000 ∧ z.cells.size = sz)
    (w : World) (ty : TypeId) (base : Nat) (v : Value) (n : Nat) (xs : List Value) (hown : w.ownsRow base E sz v n xs) (bo : Option Addr) (k c : Nat) (cs : List Value) (hl : Held w bo k sz cs)
    (hlen : n + k ≤ 100000) (hbase : base ≤ w.heap.size) :
    ∃ v' w', (Builtin.append_ #[S, S] ty #[v, .slice bo k c]).run Tryz.prog w = .ok v' w' ∧ w'.ownsRow base E sz v' (n + k) (xs ++ cs) ∧ w.grownBy w' v.ownBlock ∧ Near w v v' := by
  obtain ⟨i0, hi, hz0, hz1, hz2⟩ := info_parts hinfo
  have hm : (n + k) * bytes ≤ 100000 * 1000 := Nat.mul_le_mul hlen hz.2.1
  cases bo with
  | none =>
    obtain rfl := hl.nil rfl
    have hcs : cs = [] := List.eq_nil_of_length_eq_zero (by have := hl.len; omega)
    subst hcs
    refine ⟨v, w, ?_, by simpa using hown, ⟨rfl, rfl, rfl, Nat.le_refl _, fun _ _ _ => rfl⟩, .inl rfl⟩
    rcases hown.2 with ⟨rfl, h0⟩ | ⟨g, cap, cur, rfl, _, _, hnc, _⟩
    · simp [Builtin.append_, run_underlying hS, sizeOf, typeInfo, hi, Builtin.lenOf, Builtin.firstCells]
    · simp [Builtin.append_, run_underlying hS, sizeOf, typeInfo, hi, Builtin.lenOf, Builtin.firstCells, hnc, storeCells]
  | some a =>
    obtain ⟨v', w', hr, h2, h3, _, h5⟩ := run_append_own_at (P := Tryz.prog) w base S ty E i0 _ sz bytes hS hi hz0 hz1 hz2 hz.2.2 hz.1 v _ _ hown a k c cs hl.len (hl.lie a rfl) hl.one (by unfold maxLen; omega) (by omega) hbase
    refine ⟨v', w', hr, h2, h3, ?_⟩
    rcases h5 with h5 | h5
    · exact .inl h5
    · exact .inr ⟨_, h5, Nat.le_refl _⟩
theorem wpList_app_g {S E sz bytes : Nat} {z : Value} (hS : Tryz.prog.underlying S = some (.slice E)) (hinfo : (Tryz.prog.info? E).map (fun i => (i.zero, i.size, i.bytes)) = some (some z, sz, bytes)) (hz : 0 < sz ∧ bytes ≤ 1000 ∧ z.cells.size = sz)
    {ops : Array Oper} {rest : List Oper} {o : Oper} {a : Act} {Q : Exit → Act → World → Prop} (w : World) (hgd : o.guard = none) (s x : Operand)
    (ho : o.op = .call { callee := .builtin .append, args := #[s, x], argTypes := #[S, S] }) (base : Nat) (v : Value) (n : Nat) (xs : List Value) (hs : a.eval s = v) (hown : w.ownsRow base E sz v n xs)
    (bo : Option Addr) (k c : Nat) (cs : List Value) (hx : a.eval x = .slice bo k c) (hl : Held w bo k sz cs) (hlen : n + k ≤ 100000) (hbase : base ≤ w.heap.size)
    (h : ∀ v' w', w'.ownsRow base E sz v' (n + k) (xs ++ cs) → w.grownBy w' v.ownBlock → Near w v v' → wpList Tryz.prog ops Q rest (a.put o.dst v') w') : wpList Tryz.prog ops Q (o :: rest) a w := by
  refine wpList_plain hgd fun K hK => ?_
  obtain ⟨v', w', hr, h2, h3, h4⟩ := run_app_g hS hinfo hz w o.type base v n xs hown bo k c cs hl hlen hbase
  unfold Oper.wp execOp
  simp only [ho, resolve, invoke, builtin, Sem.run_bind, Sem.run_pure, Result.andThen_ok, List.map_toArray, List.map_cons, List.map_nil, hs, hx, hr]
  exact hK _ _ (h v' w' h2 h3 h4)
/-- An empty row that is made. -/
theorem own_made0 (w : World) (E sz : Nat) : (w.alloc (.cells #[] E)).ownsRow w.heap.size E sz (.slice (some ⟨w.heap.size, 0, none⟩) 0 0) 0 [] := World.ownsRow_made w #[] 0 (Nat.le_refl _) (Nat.zero_le _) (by simp)
theorem below_made {w w1 : World} {o : Obj} {n c : Nat} (h : (w.alloc o).grownBy w1 (Value.slice (some ⟨w.heap.size, 0, none⟩) n c).ownBlock) : Below w.heap.size w w1 :=
  ((Below.refl _ w).alloc (Nat.le_refl _) _).grown h (by simp) (by intro j hj; simp [Value.ownBlock] at hj; omega)
theorem own_form {w : World} {B E sz n : Nat} {v : Value} {xs : List Value} (h : w.ownsRow B E sz v n xs) : ∃ ao cap, v = .slice ao n cap := by
  rcases h.2 with ⟨hv, h0⟩ | ⟨g, cap, cur, hv, _⟩
  · exact ⟨none, 0, by rw [hv, h0]⟩
  · exact ⟨_, cap, hv⟩
theorem own_src {w : World} {B E sz n : Nat} {ao : Option Addr} {cap : Nat} {xs : List Value} (h : w.ownsRow B E sz (.slice ao n cap) n xs) (h1 : ∀ u ∈ xs, u.oneCell' = true) : Held w ao n sz xs := by
  refine ⟨h.1, h1, fun e => ?_, fun a e => ?_⟩
  · rcases h.2 with ⟨_, h0⟩ | ⟨g, cap', cur, hv, _⟩
    · exact h0
    · subst e
      cases hv
  · rcases h.2 with ⟨hv, h0⟩ | ⟨g, cap', cur, hv, _⟩
    · subst e
      cases hv
    · cases hv
      cases e
      exact h.cells (g := g) rfl

theorem cloneE_any (bo : Option Addr) (n c : Nat) (cs : List Value) (hlen : n ≤ 10000) (w : World) (hl : Held w bo n 2 cs) :
    Calls Tryz.prog 52 #[.slice bo n c] w fun e w' => ∃ ao1 cap1, e = .returned (.slice ao1 n cap1) ∧ w'.ownsRow w.heap.size 48 2 (.slice ao1 n cap1) n cs ∧ Below w.heap.size w w' := by
  have q22 : ∀ (w : World) (a : Option Addr) (n c n' c' : Nat), (binOp .eql 22 (.slice a n c) (.slice none n' c')).run Tryz.prog w = .ok (.bool a.isNone) w := fun w a n c n' c' => Lib.run_eql_slice_nil w _ _ a n c n' c' Tryz.underlying22
  cases bo with
  | none =>
    obtain rfl := hl.nil rfl
    have hcs : cs = [] := List.eq_nil_of_length_eq_zero (by have := hl.len; omega)
    subst hcs
    go_enter Tryz.func52, Tryz.ntmps52
    go_wp2
    go_ret
    exact ⟨_, _, rfl, World.ownsRow_nil _ _ _ _, Below.refl _ _⟩
  | some a =>
    go_enter Tryz.func52, Tryz.ntmps52
    go_wp2_with (first
      | (at_builtin; refine wpList_app_g Tryz.underlying22 Tryz.infoEn (by decide) _ rfl _ _ rfl w.heap.size (.slice (some ⟨w.heap.size, 0, none⟩) 0 0) 0 [] rfl (own_made0 w _ _) (some a) n c cs rfl (src_next hl ((Below.refl _ w).alloc (Nat.le_refl _) _)) (by omega) (by simp) ?_; intro v1 w1 hown1 hgrow1 hnear1))
    rw [List.nil_append, Nat.zero_add] at hown1
    obtain ⟨ao1, cap1, rfl⟩ := own_form hown1
    go_ret
    exact ⟨_, _, rfl, hown1, below_made hgrow1⟩
theorem liesE_src {w : World} {B : Nat} {ao : Option Addr} {l : List Ent} (h : LiesE w B ao l) : Held w ao l.length 2 (enCells l) :=
  ⟨enCells_len l, enCells_one l, fun e => by subst e; rw [liesE_none h]; rfl, fun a e => by subst e; exact liesE_cells h⟩
/-- The cells of messages that lie there, nil or not. -/
theorem liesM_src {w : World} {B : Nat} {ao : Option Addr} {l : Msgs} (h : LiesM w B ao l) : ∃ css : List (List Value), css.length = l.length ∧ (∀ cs ∈ css, cs.length = 8 ∧ ∀ u ∈ cs, u.oneCell' = true) ∧ Held w ao l.length 8 css.flatten ∧ ∀ (i : Nat) cs x, css[i]? = some cs → l[i]? = some x → MsV B w cs x := by
  cases ao with
  | none =>
    obtain rfl := liesM_none h
    exact ⟨[], rfl, by simp, ⟨rfl, by simp, fun _ => rfl, fun a e => (by cases e)⟩, by simp⟩
  | some a =>
    obtain ⟨css, h1, h2, h3, h4⟩ := liesM_cells h
    exact ⟨css, h1, h2, ⟨by rw [flat_len css fun cs hcs => (h2 cs hcs).1, h1], flat_one' h2, fun e => (by cases e), fun a' e => (by cases e; exact h3)⟩, h4⟩
end Go.Proofs.YtajbdffepfjegaaGreat
namespace Go.Proofs.YtajbdffepfjegaaGreat
open Go.RowKit Num
set_option linter.unusedVariables false
set_option maxRecDepth 100000

theorem low_en {w : World} {p : Addr} {y : Ent} (hb : p.block < w.heap.size) (h : EnAt w p y) :
    (∀ z : Low w, z.wd.cell? p = some (.int .i64 y.time)) ∧ (∀ z : Low w, z.wd.cell? ⟨p.block, p.off + 1, none⟩ = some (.string y.data)) :=
  ⟨fun z => (z.cell hb).trans h.1, fun z => (z.cell (p := ⟨p.block, p.off + 1, none⟩) hb).trans h.2⟩
set_option maxHeartbeats 1000000 in
theorem logs_same (ao0 ao1 : Option Addr) (cap0 cap1 : Nat) (l : List Ent) (hlen : l.length ≤ 1000000) (w : World) (hl0 : LiesE w w.heap.size ao0 l) (hl1 : LiesE w w.heap.size ao1 l) :
    Calls Tryz.prog 25 #[.slice ao0 l.length cap0, .slice ao1 l.length cap1] w fun e w' => e = .returned (.bool true) ∧ Below w.heap.size w w' := by
  go_enter Tryz.func25, Tryz.ntmps25
  go_wp2
  go_loopw [5] (fun i wr => ∃ k : Nat, k ≤ l.length ∧ i = .int .i64 (k : Int) ∧ Below w.heap.size w wr) (fun i _ => l.length - (intOf i).toNat)
  case atStart => exact ⟨0, by omega, rfl, Below.refl _ _⟩
  case round =>
    obtain ⟨k, hk, rfl, hbel⟩ := hrel
    by_cases hkl : k < l.length
    · obtain ⟨a0, rfl, hblk0, h0⟩ := (liesE_next hl0 hbel hbel.size) k l[k] (List.getElem?_eq_getElem hkl)
      obtain ⟨a1, rfl, hblk1, h1⟩ := (liesE_next hl1 hbel hbel.size) k l[k] (List.getElem?_eq_getElem hkl)
      obtain ⟨d00, d01⟩ := low_en (by rw [Addr.block_add]; exact hblk0) h0
      obtain ⟨d10, d11⟩ := low_en (by rw [Addr.block_add]; exact hblk1) h1
      clear h0 h1 hblk0 hblk1 hl0 hl1
      go_wp2_with fail
      refine wp_region_low (by kernel_rfl) (by kernel_rfl) fun hsome => ?_
      repeat (go_big_quiet_step (fail))
      refine wpQuiet_nil ?_
      rintro _ ⟨x, rfl⟩
      have hx := x.low
      go_wp2
      go_roundw
      case rel => exact ⟨k + 1, by omega, by go_num, below_next hbel (Nat.le_refl _) hx⟩
      case measure => simp [intOf]; omega
    · have hke : k = l.length := by omega
      subst hke
      go_wp2
      go_ret
      exact ⟨rfl, hbel⟩
set_option maxRecDepth 100000 in
set_option maxHeartbeats 2000000 in
theorem msgs_same (ao bo : Option Addr) (ac bc : Nat) (l : Msgs) (hlen : l.length ≤ 1000000) (hlog : ∀ m ∈ l, m.log.length ≤ 1000000) (w : World) (ha : LiesM w w.heap.size ao l) (hb : LiesM w w.heap.size bo l) :
    Calls Tryz.prog 29 #[.slice ao l.length ac, .slice bo l.length bc] w fun e w' => e = .returned (.bool true) ∧ Below w.heap.size w w' := by
  go_enter Tryz.func29, Tryz.ntmps29
  go_wp2
  go_loopw [5] (fun i wr => ∃ k : Nat, k ≤ l.length ∧ i = .int .i64 (k : Int) ∧ Below w.heap.size w wr) (fun i _ => l.length - (intOf i).toNat)
  case atStart => exact ⟨0, by omega, rfl, Below.refl _ _⟩
  case round =>
    obtain ⟨k, hk, rfl, hbel⟩ := hrel
    by_cases hkl : k < l.length
    · have hy8 := hlog _ (List.getElem_mem hkl)
      obtain ⟨a, rfl, _, e0, e1, e2, e3, e4, e5, e6, bo4, bc4, e7, hl4⟩ := (liesM_next ha hbel hbel.size) k l[k] (List.getElem?_eq_getElem hkl)
      obtain ⟨b, rfl, _, f0, f1, f2, f3, f4, f5, f6, bo5, bc5, f7, hm4⟩ := (liesM_next hb hbel hbel.size) k l[k] (List.getElem?_eq_getElem hkl)
      have i1 : (k : Int) < (l.length : Int) := by omega
      generalize l[k] = y at *
      have hint : ∀ W', Below wr.heap.size wr W' → Calls Tryz.prog 25 #[.slice bo4 y.log.length bc4, .slice bo5 y.log.length bc5] W' fun e w' => e = .returned (.bool true) ∧ Below W'.heap.size W' w' := fun W' hb => logs_same bo4 bo5 bc4 bc5 y.log hy8 W' (liesE_next hl4 hb hb.size) (liesE_next hm4 hb hb.size)
      have e0z := fun o : Obj => alloc_cell o e0
      have e0zz := fun o o2 : Obj => alloc_cell o2 (e0z o)
      have e1z := fun o : Obj => alloc_cell o e1
      have e1zz := fun o o2 : Obj => alloc_cell o2 (e1z o)
      have e2z := fun o : Obj => alloc_cell o e2
      have e2zz := fun o o2 : Obj => alloc_cell o2 (e2z o)
      have e3z := fun o : Obj => alloc_cell o e3
      have e3zz := fun o o2 : Obj => alloc_cell o2 (e3z o)
      have e4z := fun o : Obj => alloc_cell o e4
      have e4zz := fun o o2 : Obj => alloc_cell o2 (e4z o)
      have e5z := fun o : Obj => alloc_cell o e5
      have e5zz := fun o o2 : Obj => alloc_cell o2 (e5z o)
      have e6z := fun o : Obj => alloc_cell o e6
      have e6zz := fun o o2 : Obj => alloc_cell o2 (e6z o)
      have e7z := fun o : Obj => alloc_cell o e7
      have e7zz := fun o o2 : Obj => alloc_cell o2 (e7z o)
      have f0z := fun o : Obj => alloc_cell o f0
      have f0zz := fun o o2 : Obj => alloc_cell o2 (f0z o)
      have f1z := fun o : Obj => alloc_cell o f1
      have f1zz := fun o o2 : Obj => alloc_cell o2 (f1z o)
      have f2z := fun o : Obj => alloc_cell o f2
      have f2zz := fun o o2 : Obj => alloc_cell o2 (f2z o)
      have f3z := fun o : Obj => alloc_cell o f3
      have f3zz := fun o o2 : Obj => alloc_cell o2 (f3z o)
      have f4z := fun o : Obj => alloc_cell o f4
      have f4zz := fun o o2 : Obj => alloc_cell o2 (f4z o)
      have f5z := fun o : Obj => alloc_cell o f5
      have f5zz := fun o o2 : Obj => alloc_cell o2 (f5z o)
      have f6z := fun o : Obj => alloc_cell o f6
      have f6zz := fun o o2 : Obj => alloc_cell o2 (f6z o)
      have f7z := fun o : Obj => alloc_cell o f7
      have f7zz := fun o o2 : Obj => alloc_cell o2 (f7z o)
      go_wp2
      go_region
      all_goals
        clear e0z e0zz e1z e1zz e2z e2zz e3z e3zz e4z e4zz e5z e5zz e6z e6zz e7z e7zz f0z f0zz f1z f1zz f2z f2zz f3z f3zz f4z f4zz f5z f5zz f6z f6zz f7z f7zz
        go_wp2_with (first
          | (go_at_call 25; refine (hint _ ((((Below.refl _ wr).alloc (Nat.le_refl _) _).alloc (by simp) _).drew)).mono ?_; rintro e w5 ⟨rfl, hb5⟩))
        go_roundw
        case rel => exact ⟨k + 1, by omega, by go_num, below_next hbel (Nat.le_refl _) (below_next ((((Below.refl _ wr).alloc (Nat.le_refl _) _).alloc (by simp) _).drew) (Nat.le_refl _) hb5)⟩
        case measure => simp [intOf]; omega
    · go_wp2
      go_ret
      exact ⟨rfl, hbel⟩
end Go.Proofs.YtajbdffepfjegaaGreat
