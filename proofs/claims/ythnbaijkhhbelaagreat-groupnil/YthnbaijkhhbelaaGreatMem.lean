/-
  Memory, of whatever types: things that lie from an address on; boxes; rows of the call's own, and what keeps them; a slice that came in, opened.
-/
import Derived.Test.YthnbaijkhhbelaaGreatVLow
import Derived.Deep.AppendLies
import Derived.Deep.RegionLaw
import Derived.Lib.AppendStr
import Derived.Lib.SmallJoins
import Derived.Lib.Strings
import Derived.Deep.Slices
import Derived.Carry
import Derived.OneCell
import Derived.Laws.Rows
namespace Go.Proofs.YthnbaijkhhbelaaGreat
open Go.RowKit Go.ChangeShapes Go.WideShapes Go.Joins Num
set_option linter.unusedVariables false
set_option maxRecDepth 100000

theorem Addr.block_add (a : Addr) (i : Nat) : (a.add i).block = a.block := by
  unfold Addr.add
  split <;> rfl
theorem cell_lt {w : World} {a : Addr} {v : Value} (h : w.cell? a = some v) : a.block < w.heap.size := by
  rcases Nat.lt_or_ge a.block w.heap.size with h' | h'
  · exact h'
  · simp [World.cell?, Array.getElem?_eq_none h'] at h
theorem own_below {w w' : World} {B e size n : Nat} {v : Value} {xs : List Value} (h : w.ownsRow B e size v n xs) (hb : Below w.heap.size w w') : w'.ownsRow B e size v n xs :=
  h.kept (row := none) ⟨hb.os, hb.tape, hb.output, hb.size, fun k hk _ => hb.block k hk⟩ (by cases v.ownBlock <;> simp)
theorem below_box0 {w w' : World} {o : Obj} (h : Below (w.alloc o).heap.size (w.alloc o) w') : Below w.heap.size w w' :=
  ((Below.refl _ _).alloc (Nat.le_refl _) o).trans (h.mono (by simp))
theorem below_two {w w1 w2 : World} {o : Obj} (h : Below (w.alloc o).heap.size (w.alloc o) w1) (h2 : Below w1.heap.size w1 w2) : Below w.heap.size w w2 :=
  (below_box0 h).trans (h2.mono (Nat.le_trans (by simp) h.size))

/-- Things lie in memory, from an address on, so many places each, in blocks below B. -/
def Num.LiesG {α : Type} (At : World → Addr → α → Prop) (sz : Nat) (w : World) (B : Nat) (ao : Option Addr) (l : List α) : Prop := ∀ i x, l[i]? = some x → ∃ a, ao = some a ∧ a.block < B ∧ At w (a.add (i * sz)) x
/-- What is said of a place stays where its block stays. -/
def Num.Fast {α : Type} (B : Nat) (At : World → Addr → α → Prop) : Prop := ∀ w w' p x, p.block < B → At w p x → Below B w w' → At w' p x
theorem Num.LiesG.below {α : Type} {At : World → Addr → α → Prop} {sz : Nat} {w w' : World} {B : Nat} {ao : Option Addr} {l : List α} (h : LiesG At sz w B ao l) (hf : Fast B At) (hb : Below B w w') : LiesG At sz w' B ao l := by
  intro i x hx
  obtain ⟨a, e, ha, h0⟩ := h i x hx
  exact ⟨a, e, ha, hf _ _ _ _ (by rw [Addr.block_add]; exact ha) h0 hb⟩
theorem Num.LiesG.mono {α : Type} {At At' : World → Addr → α → Prop} {sz : Nat} {w : World} {B B' : Nat} {ao : Option Addr} {l : List α} (h : LiesG At sz w B ao l) (hB : B ≤ B') (hA : ∀ p x, At w p x → At' w p x) : LiesG At' sz w B' ao l := by
  intro i x hx
  obtain ⟨a, e, ha, h4⟩ := h i x hx
  exact ⟨a, e, Nat.lt_of_lt_of_le ha hB, hA _ _ h4⟩
def Num.NumAt (w : World) (p : Addr) (n : Int) : Prop := w.cell? p = some (.int .i64 n)
def Num.TxtAt (w : World) (p : Addr) (s : ByteArray) : Prop := w.cell? p = some (.string s)
abbrev Num.LiesN (w : World) (B : Nat) (ao : Option Addr) (l : List Int) : Prop := LiesG NumAt 1 w B ao l
abbrev Num.LiesS (w : World) (B : Nat) (ao : Option Addr) (l : List ByteArray) : Prop := LiesG TxtAt 1 w B ao l
theorem Num.NumAt.fast {B : Nat} : Fast B NumAt := fun w w' p x hp h hb => (hb.cell hp).trans h
theorem Num.TxtAt.fast {B : Nat} : Fast B TxtAt := fun w w' p x hp h hb => (hb.cell hp).trans h
theorem liesN_next {w w' : World} {ao : Option Addr} {l : List Int} (h : LiesN w w.heap.size ao l) (hb : Below w.heap.size w w') : LiesN w' w'.heap.size ao l := (h.below NumAt.fast hb).mono hb.size fun _ _ h => h
theorem liesS_next {w w' : World} {ao : Option Addr} {l : List ByteArray} (h : LiesS w w.heap.size ao l) (hb : Below w.heap.size w w') : LiesS w' w'.heap.size ao l := (h.below TxtAt.fast hb).mono hb.size fun _ _ h => h
theorem Tryz.laidOut : laidOutB Tryz.prog = true := by kernel_rfl
/-- A slice of things, each opened by itself. -/
theorem open_list {α : Type} [Inhabited α] {H : Type} {enc : TypeId × Value → H} {w : World} {base fuel : Nat} {spare : Nat → Bool} {held : Bool} {v : Value} {x : DataW H × List MemPlace} {t e : TypeId} (At : World → Addr → α → Prop) (Ok : α → Prop) (sz : Nat) (hsz : Tryz.prog.cellsOf e = sz) (ht : Tryz.prog.underlying t = some (.slice e))
    (hlt : ∀ p x, At w p x → p.block < w.heap.size)
    (one : ∀ a n cs y, w.cells? base a sz = some cs → DataW.trod enc Tryz.prog w base spare held n e cs = some y → ∃ x, Ok x ∧ At w a x)
    (h : DataW.trod enc Tryz.prog w base spare held fuel t [v] = some x) :
    ∃ (ao : Option Addr) (cap : Nat) (l : List α), v = .slice ao l.length cap ∧ (∀ x ∈ l, Ok x) ∧ LiesG At sz w w.heap.size ao l ∧ l.length ≤ cap := by
  rcases Go.Deep.open_slice ht h with ⟨h0, _⟩ | ⟨a, len', cap', m, n, D, Pl, h0, _, hlc, hcm, hm, _, hx⟩
  · simp only [List.cons.injEq, and_true] at h0
    subst h0
    exact ⟨none, 0, [], rfl, by simp, fun i x hx => by simp at hx, Nat.le_refl _⟩
  · simp only [List.cons.injEq, and_true] at h0
    subst h0
    have hlm : len' ≤ m := by rw [hm]; split <;> omega
    have each : ∀ i, i < len' → ∃ y : α, Ok y ∧ At w (a.add (i * sz)) y := by
      intro i hi
      obtain ⟨cs, h1, h2⟩ := hx i (by omega)
      rw [hsz] at h1
      exact one _ _ _ _ h1 h2
    obtain ⟨f, hfn⟩ := Go.Deep.choose_lt each
    refine ⟨some a, cap', (List.range len').map f, by simp, ?_, ?_, by simp; omega⟩
    · intro x hx
      obtain ⟨i, hi, rfl⟩ := List.mem_map.1 hx
      exact (hfn i (List.mem_range.1 hi)).1
    · intro i x hx
      have hi : i < len' := by
        have := (List.getElem?_eq_some_iff.1 hx).1
        simpa using this
      have hxx : x = f i := by
        simp [hi] at hx
        exact hx.symm
      subst hxx
      have h4 := hfn i hi
      exact ⟨a, rfl, by have := hlt _ _ h4.2; rwa [Addr.block_add] at this, h4.2⟩
/-- Is it so? -/
def Num.tru (P : Prop) [d : Decidable P] : Bool := @decide P d
theorem tru_yes {P : Prop} [d : Decidable P] (h : P) : tru P = true := decide_eq_true h
theorem tru_no {P : Prop} [d : Decidable P] (h : ¬ P) : tru P = false := decide_eq_false h
theorem tru_iff {P Q : Prop} [d : Decidable P] [d2 : Decidable Q] (h : P ↔ Q) : tru P = tru Q := by
  by_cases hp : P
  · rw [tru_yes hp, tru_yes (h.1 hp)]
  · rw [tru_no hp, tru_no (fun hq => hp (h.2 hq))]
theorem Num.LiesG.take {α : Type} {At : World → Addr → α → Prop} {sz : Nat} {w : World} {B : Nat} {ao : Option Addr} {l : List α} (h : LiesG At sz w B ao l) (k : Nat) : LiesG At sz w B ao (l.take k) := by
  intro i x hx
  refine h i x ?_
  rw [List.getElem?_take] at hx
  split at hx
  · exact hx
  · cases hx

theorem list_ne' {a b : ByteArray} (h : ¬ a = b) : (a.toList == b.toList) = false := by
  rw [Lib.toList_data, Lib.toList_data, beq_eq_false_iff_ne]
  intro e
  exact h (ByteArray.ext (Array.ext' e))
/-- What is not a row of e, and not let go by X, stays. -/
structure Num.Stay (X : Nat → Prop) (e : TypeId) (w w' : World) : Prop where
  size : w.heap.size ≤ w'.heap.size
  keep : ∀ k, k < w.heap.size → ¬ X k → (∀ cs fr, w.heap[k]? ≠ some (.cells cs e fr)) → w'.heap[k]? = w.heap[k]?
theorem Num.Stay.refl (X : Nat → Prop) (e : TypeId) (w : World) : Stay X e w w := ⟨Nat.le_refl _, fun _ _ _ _ => rfl⟩
theorem Num.Stay.trans {X : Nat → Prop} {e : TypeId} {a b c : World} (h : Stay X e a b) (k : Stay X e b c) : Stay X e a c :=
  ⟨Nat.le_trans h.size k.size, fun i hi hX hn => by
    have h1 := h.keep i hi hX hn
    exact (k.keep i (Nat.lt_of_lt_of_le hi h.size) hX (by rw [h1]; exact hn)).trans h1⟩
theorem Num.Stay.alloc (X : Nat → Prop) (e : TypeId) (w : World) (o : Obj) : Stay X e w (w.alloc o) := ⟨by simp, fun k hk _ _ => Below.heap_alloc w o k hk⟩
theorem Num.Stay.grown {X : Nat → Prop} {e : TypeId} {w w' : World} {base size n : Nat} {v : Value} {xs : List Value} (hown : w.ownsRow base e size v n xs) (hg : w.grownBy w' v.ownBlock) : Stay X e w w' :=
  ⟨hg.size, fun k hk _ hn => hg.block k hk (by
    intro he
    rcases hown.2 with ⟨rfl, _⟩ | ⟨g, cap, cur, rfl, _, hgb, _⟩
    · simp [Value.ownBlock] at he
    · obtain rfl : k = g := by simpa [Value.ownBlock] using he
      exact hn _ _ hgb)⟩
theorem Num.Stay.below {X : Nat → Prop} {e : TypeId} {w w' : World} (h : Below w.heap.size w w') : Stay X e w w' := ⟨h.size, fun k hk _ _ => h.block k hk⟩
theorem heap_new (w : World) (o : Obj) : (w.alloc o).heap[w.heap.size]? = some o := by
  show (w.heap.push o)[w.heap.size]? = some o
  simp
theorem box_cell {w : World} {b : Nat} {cs : Array Value} {t : TypeId} (hb : w.heap[b]? = some (.cells cs t (0, 0))) (i : Nat) (u : Value) (hi : cs[i]? = some u) : w.cell? ⟨b, i, none⟩ = some u := by
  simp [World.cell?, hb, hi]
theorem one_cell (w : World) (t : TypeId) (y : Value) : ∀ j u, [y][j]? = some u → (w.alloc (.cells #[y] t)).cell? ((⟨w.heap.size, 0, none⟩ : Addr).add j) = some u := by
  intro j u hj
  match j, hj with
  | 0, hj => simp at hj; subst hj; simp [Addr.add]
theorem one_cellB (w : World) (t : TypeId) (y : Value) (b : Nat) (hb : w.heap.size = b) : ∀ j u, [y][j]? = some u → (w.alloc (.cells #[y] t)).cell? ((⟨b, 0, none⟩ : Addr).add j) = some u := by
  subst hb
  exact one_cell w t y
/-- A box stays. -/
theorem stay_box {X : Nat → Prop} {e : TypeId} {w w' : World} (h : Stay X e w w') {b : Nat} {cs : Array Value} {t : TypeId} {fr : Nat × Nat} (hb : w.heap[b]? = some (.cells cs t fr)) (ht : t ≠ e) (hX : ¬ X b) : w'.heap[b]? = some (.cells cs t fr) := by
  rw [h.keep b (Array.getElem?_eq_some_iff.1 hb).1 hX (fun cs' fr' he => by rw [hb] at he; simp at he; exact ht he.2.1)]
  exact hb
theorem below_box {w w' : World} (h : Below w.heap.size w w') {b : Nat} {o : Obj} (hb : w.heap[b]? = some o) : w'.heap[b]? = some o := by
  rw [h.block b (Array.getElem?_eq_some_iff.1 hb).1]
  exact hb
theorem alloc_box {w : World} (o' : Obj) {b : Nat} {o : Obj} (hb : w.heap[b]? = some o) : (w.alloc o').heap[b]? = some o := by
  rw [Below.heap_alloc w o' b (Array.getElem?_eq_some_iff.1 hb).1]
  exact hb
/-- Another row of the call's own stays. -/
theorem own_stay {X : Nat → Prop} {e e' : TypeId} {w w' : World} {B size n : Nat} {v : Value} {xs : List Value} (h : w.ownsRow B e size v n xs) (hs : Stay X e' w w') (hne : e ≠ e') (hX : ∀ k, ¬ X k) : w'.ownsRow B e size v n xs := by
  refine ⟨h.1, ?_⟩
  rcases h.2 with h0 | ⟨g, cap, cur, hv, hb, hg, r⟩
  · exact .inl h0
  · exact .inr ⟨g, cap, cur, hv, hb, stay_box hs hg hne (hX g), r⟩
theorem addr_zero (a : Addr) : a.add 0 = a := if_pos rfl
theorem heap_drew {w : World} {b : Nat} {x : Option Obj} (h : w.heap[b]? = x) : w.drew.heap[b]? = x := h
theorem heap_newB (w : World) (o : Obj) (b : Nat) (hb : w.heap.size = b) : (w.alloc o).heap[b]? = some o := by
  subst hb
  exact heap_new w o
theorem alloc_cell {w : World} {p : Addr} {v : Value} (o : Obj) (h : w.cell? p = some v) : (w.alloc o).cell? p = some v := by
  exact (((Below.refl _ w).alloc (Nat.le_refl _) o).cell (cell_lt h)).trans h
theorem box_open {w : World} {b : Nat} {cs : Array Value} {t : TypeId} (h : w.heap[b]? = some (.cells cs t (0, 0))) (i : Nat) : w.frozen? ⟨b, i, none⟩ = false := by
  simp [World.frozen?, h]
theorem own_shape {w : World} {B e size n : Nat} {v : Value} {xs : List Value} (h : w.ownsRow B e size v n xs) : ∃ ao m cap, v = .slice ao m cap := by
  rcases h.2 with ⟨rfl, _⟩ | ⟨g, cap, cur, rfl, _⟩
  · exact ⟨_, _, _, rfl⟩
  · exact ⟨_, _, _, rfl⟩
theorem Num.Stay.drew {X : Nat → Prop} {e : TypeId} {a w : World} (h : Stay X e a w) : Stay X e a w.drew := ⟨h.size, h.keep⟩
theorem Num.Stay.wide {X : Nat → Prop} {e : TypeId} {w w' : World} (h : Stay (fun _ => False) e w w') : Stay X e w w' := ⟨h.size, fun k hk _ hn => h.keep k hk id hn⟩
theorem grown_set (w : World) (p i : Nat) (u : Value) : w.grownBy (w.setCell ⟨p, i, none⟩ u) (some p) :=
  ⟨rfl, rfl, rfl, by show w.heap.size ≤ (w.heap.modify _ _).size; simp, fun k _ hn => Below.heap_setCell _ _ _ _ (fun e => hn (by rw [e]))⟩
theorem grown_box {w w' : World} {p b : Nat} {o : Obj} (hg : w.grownBy w' (some p)) (hb : w.heap[b]? = some o) (hne : b ≠ p) : w'.heap[b]? = some o := by
  rw [hg.block b (Array.getElem?_eq_some_iff.1 hb).1 (by intro e; cases e; exact hne rfl)]
  exact hb
theorem grown_new {w W W' : World} {p b : Nat} (h : w.grownBy W (some p)) (k : W.grownBy W' (some b)) (hb : w.heap.size ≤ b) : w.grownBy W' (some p) :=
  ⟨k.os.trans h.os, k.tape.trans h.tape, k.output.trans h.output, Nat.le_trans h.size k.size, fun i hi hne => (k.block i (Nat.lt_of_lt_of_le hi h.size) (by intro e; cases e; omega)).trans (h.block i hi hne)⟩
/-- What is from B on, but for rows of e, is held. -/
structure Num.HoldX (B : Nat) (e : TypeId) (w w' : World) : Prop where
  size : w.heap.size ≤ w'.heap.size
  keep : ∀ k, B ≤ k → k < w.heap.size → (∀ cs fr, w.heap[k]? ≠ some (.cells cs e fr)) → w'.heap[k]? = w.heap[k]?
theorem Num.HoldX.of_grown {B : Nat} {e : TypeId} {w w' : World} {p : Nat} (h : w.grownBy w' (some p)) (hp : p < B) : HoldX B e w w' :=
  ⟨h.size, fun k hB hk _ => h.block k hk (by intro e; cases e; omega)⟩
theorem Num.HoldX.of_stay {B : Nat} {e : TypeId} {w w' : World} (h : Stay (fun _ => False) e w w') : HoldX B e w w' := ⟨h.size, fun k _ hk hn => h.keep k hk id hn⟩
theorem Num.HoldX.of_below {B : Nat} {e : TypeId} {w w' : World} (h : Below w.heap.size w w') : HoldX B e w w' := ⟨h.size, fun k _ hk _ => h.block k hk⟩
theorem Num.HoldX.trans {B : Nat} {e : TypeId} {a b c : World} (h : HoldX B e a b) (k : HoldX B e b c) : HoldX B e a c :=
  ⟨Nat.le_trans h.size k.size, fun i hB hi hn => by
    have h1 := h.keep i hB hi hn
    exact (k.keep i hB (Nat.lt_of_lt_of_le hi h.size) (by rw [h1]; exact hn)).trans h1⟩
theorem own_hold {B : Nat} {e e' : TypeId} {w w' : World} {size n : Nat} {v : Value} {xs : List Value} (h : w.ownsRow B e' size v n xs) (hh : HoldX B e w w') (hne : e' ≠ e) : w'.ownsRow B e' size v n xs := by
  refine ⟨h.1, ?_⟩
  rcases h.2 with h0 | ⟨g, cap, cur, hv, hb, hg, r⟩
  · exact .inl h0
  · refine .inr ⟨g, cap, cur, hv, hb, ?_, r⟩
    rw [hh.keep g hb (Array.getElem?_eq_some_iff.1 hg).1 (fun cs fr he => by rw [hg] at he; simp at he; exact hne he.2.1)]
    exact hg
theorem own_mono {B B' : Nat} {e : TypeId} {w : World} {size n : Nat} {v : Value} {xs : List Value} (h : w.ownsRow B e size v n xs) (hB : B' ≤ B) : w.ownsRow B' e size v n xs := by
  refine ⟨h.1, ?_⟩
  rcases h.2 with h0 | ⟨g, cap, cur, hv, hb, r⟩
  · exact .inl h0
  · exact .inr ⟨g, cap, cur, hv, Nat.le_trans hB hb, r⟩
/-- A list of structs of the call's own. -/
def Num.OwnS {α : Type} (V : Nat → World → List Value → α → Prop) (e : TypeId) (sz B : Nat) (w : World) (v : Value) (l : List α) : Prop :=
  ∃ css : List (List Value), css.length = l.length ∧ (∀ cs ∈ css, cs.length = sz ∧ ∀ u ∈ cs, u.oneCell' = true) ∧ w.ownsRow B e sz v l.length css.flatten ∧ ∀ (i : Nat) cs x, css[i]? = some cs → l[i]? = some x → V B w cs x
theorem Num.OwnS.nil {α : Type} (V : Nat → World → List Value → α → Prop) (e : TypeId) (sz B : Nat) (w : World) : OwnS V e sz B w (.slice none 0 0) [] := ⟨[], rfl, by simp, World.ownsRow_nil _ _ _ _, by simp⟩
theorem Num.OwnS.hold {α : Type} {V : Nat → World → List Value → α → Prop} {e e' : TypeId} {sz B : Nat} {w w' : World} {v : Value} {l : List α} (h : OwnS V e' sz B w v l) (hh : HoldX B e w w') (hne : e' ≠ e) (hV : ∀ cs x, V B w cs x → V B w' cs x) : OwnS V e' sz B w' v l := by
  obtain ⟨css, h1, h2, h3, h4⟩ := h
  exact ⟨css, h1, h2, own_hold h3 hh hne, fun i cs x a b => hV _ _ (h4 i cs x a b)⟩
theorem Num.OwnS.mono {α : Type} {V : Nat → World → List Value → α → Prop} {e : TypeId} {sz B B' : Nat} {w : World} {v : Value} {l : List α} (h : OwnS V e sz B w v l) (hB : B' ≤ B) (hV : ∀ cs x, V B w cs x → V B' w cs x) : OwnS V e sz B' w v l := by
  obtain ⟨css, h1, h2, h3, h4⟩ := h
  exact ⟨css, h1, h2, own_mono h3 hB, fun i cs x a b => hV _ _ (h4 i cs x a b)⟩
theorem Num.OwnS.shape {α : Type} {V : Nat → World → List Value → α → Prop} {e : TypeId} {sz B : Nat} {w : World} {v : Value} {l : List α} (h : OwnS V e sz B w v l) : ∃ ao cap, v = .slice ao l.length cap := by
  obtain ⟨css, h1, h2, h3, h4⟩ := h
  rcases h3.2 with ⟨hv, h0⟩ | ⟨g, cap, cur, hv, _⟩
  · exact ⟨none, 0, by rw [hv, h0]⟩
  · exact ⟨_, cap, hv⟩
theorem flat_get {css : List (List Value)} {sz : Nat} (h : ∀ cs ∈ css, cs.length = sz) : ∀ (i : Nat) cs, css[i]? = some cs → ∀ j, j < sz → css.flatten[i * sz + j]? = cs[j]? := by
  induction css with
  | nil => intro i cs hi; simp at hi
  | cons c css ih =>
    intro i cs hi j hj
    have hc : c.length = sz := h c (by simp)
    cases i with
    | zero =>
      simp at hi
      subst hi
      rw [List.flatten_cons, Nat.zero_mul, Nat.zero_add, List.getElem?_append_left (by omega)]
    | succ i =>
      have hi' : css[i]? = some cs := by simpa using hi
      rw [List.flatten_cons, List.getElem?_append_right (by rw [hc, Nat.succ_mul]; omega)]
      rw [show (i + 1) * sz + j - c.length = i * sz + j by rw [hc, Nat.succ_mul]; omega]
      exact ih (fun cs hcs => h cs (by simp [hcs])) i cs hi' j hj
theorem Num.OwnS.lies {α : Type} {V : Nat → World → List Value → α → Prop} {e : TypeId} {sz B : Nat} {w : World} {v : Value} {l : List α} (h : OwnS V e sz B w v l) (At : World → Addr → α → Prop)
    (hA : ∀ (p : Addr) cs x, V B w cs x → cs.length = sz → (∀ j u, cs[j]? = some u → w.cell? ⟨p.block, p.off + j, none⟩ = some u) → p.spot = none → At w p x) :
    ∃ ao cap, v = .slice ao l.length cap ∧ LiesG At sz w w.heap.size ao l := by
  obtain ⟨css, h1, h2, h3, h4⟩ := h
  rcases h3.2 with ⟨hv, h0⟩ | ⟨g, cap, cur, hv, _, hg, hcap, _⟩
  · subst hv
    have : l = [] := List.eq_nil_of_length_eq_zero h0
    subst this
    exact ⟨none, 0, rfl, fun i x hx => by simp at hx⟩
  · subst hv
    refine ⟨some ⟨g, 0, none⟩, cap, rfl, fun i x hx => ⟨_, rfl, (Array.getElem?_eq_some_iff.1 hg).1, ?_⟩⟩
    have hi := (List.getElem?_eq_some_iff.1 hx).1
    have hcs : css[i]? = some (css[i]'(by omega)) := List.getElem?_eq_getElem (by omega)
    have hlen := (h2 _ (List.mem_of_getElem? hcs)).1
    refine hA _ _ x (h4 i _ x hcs hx) hlen (fun j u hj => ?_) (by simp only [Addr.add_lit])
    have hjl : j < sz := by rw [← hlen]; exact (List.getElem?_eq_some_iff.1 hj).1
    have h5 := flat_get (fun cs hc => (h2 cs hc).1) i _ hcs j hjl
    rw [hj] at h5
    have h6 := h3.cells (g := g) rfl _ _ h5
    simp only [Addr.add_lit] at h6 ⊢
    rw [Nat.zero_add] at h6 ⊢
    exact h6
theorem at_zero {w : World} {p : Addr} {u : Value} (hs : p.spot = none) (h : w.cell? ⟨p.block, p.off + 0, none⟩ = some u) : w.cell? p = some u := by
  cases p
  simp_all
theorem size_of {y : ByteArray} {r : List UInt8} (h : y.data.toList = r) : y.size = r.length := by
  rw [← h]
  rfl
theorem new_cells (w : World) (t : TypeId) (cs : List Value) (b : Nat) (hb : w.heap.size = b) : ∀ j u, cs[j]? = some u → (w.alloc (.cells cs.toArray t)).cell? ((⟨b, 0, none⟩ : Addr).add j) = some u := by
  intro j u hj
  subst hb
  rw [Addr.add_lit, Nat.zero_add]
  exact box_cell (heap_new w _) j u (by simpa using hj)
/-- 'append' of one struct to a row of the call's own. -/
theorem wpList_appX {ops : Array Oper} {rest : List Oper} {o : Oper} {a : Act} {Q : Exit → Act → World → Prop} (w : World) (hgd : o.guard = none) (s x : Operand) (S : TypeId)
    (ho : o.op = .call { callee := .builtin .append, args := #[s, x], argTypes := #[S, S] })
    (E : TypeId) (sz bytes : Nat) (hS : Tryz.prog.underlying S = some (.slice E)) {z : Value} (hinfo : (Tryz.prog.info? E).map (fun i => (i.zero, i.size, i.bytes)) = some (some z, sz, bytes))
    (base : Nat) (v : Value) (n : Nat) (xs : List Value) (hs : a.eval s = v) (hown : w.ownsRow base E sz v n xs)
    (ad : Addr) (c : Nat) (cs : List Value) (hx : a.eval x = .slice (some ad) 1 c) (hl : cs.length = sz) (h1 : ∀ u ∈ cs, u.oneCell' = true) (hnews : ∀ j u, cs[j]? = some u → w.cell? (ad.add j) = some u)
    (hb : n ≤ 1000 ∧ 0 < sz ∧ bytes ≤ 100000 ∧ z.cells.size = sz) (hbase : base ≤ w.heap.size)
    (h : ∀ v' w', w'.ownsRow base E sz v' (n + 1) (xs ++ cs) → Below base w w' → Stay (fun _ => False) E w w' → wpList Tryz.prog ops Q rest (a.put o.dst v') w') : wpList Tryz.prog ops Q (o :: rest) a w := by
  obtain ⟨i0, hi, hz0, hz1, hz2⟩ := info_parts hinfo
  have hm : (n + 1) * bytes ≤ 1001 * 100000 := Nat.mul_le_mul (by omega) hb.2.2.1
  refine wpList_append_own w hgd s x S ho base E i0 z sz bytes hS hi hz0 hz1 hz2 hb.2.2.2 hb.2.1 v n xs hs hown ad 1 c cs hx (by omega) hnews h1 (by unfold maxLen; omega) (by omega) hbase ?_
  intro v' w' hown' hgrow _
  exact h v' w' hown' (Below.grown (Below.refl base w) hgrow hbase (fun k hk => (hown.lt k hk).1)) (Stay.grown hown hgrow)
theorem grown_low {w W W' : World} {p : Nat} (h : w.grownBy W (some p)) (k : Below w.heap.size W W') : w.grownBy W' (some p) :=
  ⟨k.os.trans h.os, k.tape.trans h.tape, k.output.trans h.output, Nat.le_trans h.size k.size, fun i hi hne => (k.block i hi).trans (h.block i hi hne)⟩
theorem own_snoc {α : Type} {V : Nat → World → List Value → α → Prop} {e : TypeId} {sz B : Nat} {w3 : World} {v3 : Value} {acc : List α} {a : α} {cs : List Value} {css : List (List Value)} (hcl : css.length = acc.length) (hcc : ∀ cs ∈ css, cs.length = sz ∧ ∀ u ∈ cs, u.oneCell' = true) (h1 : cs.length = sz) (h2 : ∀ u ∈ cs, u.oneCell' = true)
    (hrow : w3.ownsRow B e sz v3 (acc.length + 1) (css.flatten ++ cs)) (hVs : ∀ (i : Nat) cs x, css[i]? = some cs → acc[i]? = some x → V B w3 cs x) (hVa : V B w3 cs a) : OwnS V e sz B w3 v3 (acc ++ [a]) := by
  refine ⟨css ++ [cs], by simp [hcl], fun c hc => ?_, ?_, fun i c x hi hx => ?_⟩
  · rcases List.mem_append.1 hc with hc | hc
    · exact hcc c hc
    · rw [List.mem_singleton.1 hc]
      exact ⟨h1, h2⟩
  · rw [List.flatten_append, List.length_append]
    simpa using hrow
  · by_cases hlt : i < css.length
    · rw [List.getElem?_append_left hlt] at hi
      rw [List.getElem?_append_left (by omega)] at hx
      exact hVs i c x hi hx
    · rw [List.getElem?_append_right (by omega)] at hi
      rw [List.getElem?_append_right (by omega)] at hx
      have e0 : i - css.length = 0 := by
        have := (List.getElem?_eq_some_iff.1 hi).1
        simp at this
        omega
      rw [e0] at hi
      rw [show i - acc.length = 0 by omega] at hx
      simp at hi hx
      subst hi hx
      exact hVa
/-- Where a row of the call's own lies behind an append. -/
def Num.Near (w : World) (v v' : Value) : Prop := v'.ownBlock = v.ownBlock ∨ ∃ g, v'.ownBlock = some g ∧ w.heap.size ≤ g
end Go.Proofs.YthnbaijkhhbelaaGreat
