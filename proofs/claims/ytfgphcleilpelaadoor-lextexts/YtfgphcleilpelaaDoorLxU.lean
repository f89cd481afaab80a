/-
  A []uint8 that came in, opened.
-/
import Derived.Test.YtfgphcleilpelaaDoorLxS
import Derived.Test.YtfgphcleilpelaaDoorLxX
import Derived.Lib.SmallJoins
import Derived.ProofKit
import Derived.OpenShut
namespace Go.Proofs.YtfgphcleilpelaaDoor
open Go.RowKit Go.ChangeShapes Go.WideShapes Go.Joins Num
set_option linter.unusedVariables false
set_option maxRecDepth 100000

theorem ablock (a : Addr) (i : Nat) : (a.add i).block = a.block := by
  unfold Addr.add
  split <;> rfl
theorem cell_lt {w : World} {a : Addr} {v : Value} (h : w.cell? a = some v) : a.block < w.heap.size := by
  rcases Nat.lt_or_ge a.block w.heap.size with h' | h'
  · exact h'
  · simp [World.cell?, Array.getElem?_eq_none h'] at h
def Num.LiesG {α : Type} (At : World → Addr → α → Prop) (sz : Nat) (w : World) (B : Nat) (ao : Option Addr) (l : List α) : Prop := ∀ i x, l[i]? = some x → ∃ a, ao = some a ∧ a.block < B ∧ At w (a.add (i * sz)) x
theorem open_list {α : Type} [Inhabited α] {H : Type} {enc : TypeId × Value → H} {w : World} {base fuel : Nat} {spare : Nat → Bool} {held : Bool} {v : Value} {x : DataW H × List MemPlace} {t e : TypeId} (At : World → Addr → α → Prop) (Ok : α → Prop) (sz : Nat) (hsz : Tryd.prog.cellsOf e = sz) (ht : Tryd.prog.underlying t = some (.slice e))
    (hlt : ∀ p x, At w p x → p.block < w.heap.size)
    (one : ∀ a n cs y, w.cells? base a sz = some cs → DataW.trod enc Tryd.prog w base spare held n e cs = some y → ∃ x, Ok x ∧ At w a x)
    (h : DataW.trod enc Tryd.prog w base spare held fuel t [v] = some x) :
    ∃ (ao : Option Addr) (cap : Nat) (l : List α), v = .slice ao l.length cap ∧ (∀ x ∈ l, Ok x) ∧ LiesG At sz w w.heap.size ao l ∧ l.length ≤ cap := by
  rcases Go.Deep.open_slice ht h with ⟨h0, _⟩ | ⟨a, len', cap', m, n, D, Pl, h0, _, hlc, hcm, hm, _, hx⟩
  · simp only [List.cons.injEq, and_true] at h0
    subst h0
    exact ⟨none, 0, [], rfl, by simp, fun i x hx => by simp at hx, Nat.le_refl _⟩
  · simp only [List.cons.injEq, and_true] at h0
    subst h0
    have hlm : len' ≤ m := by rw [hm]; split <;> omega
    have each : ∀ i, i < len' → ∃ y : α, Ok y ∧ At w (a.add (i * sz)) y := by
      intro i hi
      obtain ⟨cs, h1, h2⟩ := hx i (by omega)
      rw [hsz] at h1
      exact one _ _ _ _ h1 h2
    obtain ⟨f, hfn⟩ := Go.Deep.choose_lt each
    refine ⟨some a, cap', (List.range len').map f, by simp, ?_, ?_, by simp; omega⟩
    · intro x hx
      obtain ⟨i, hi, rfl⟩ := List.mem_map.1 hx
      exact (hfn i (List.mem_range.1 hi)).1
    · intro i x hx
      have hi : i < len' := by
        have := (List.getElem?_eq_some_iff.1 hx).1
        simpa using this
      have hxx : x = f i := by
        simp [hi] at hx
        exact hx.symm
      subst hxx
      have h4 := hfn i hi
      exact ⟨a, rfl, by have := hlt _ _ h4.2; rwa [ablock] at this, h4.2⟩
def Num.U8At (w : World) (p : Addr) (n : Nat) : Prop := w.cell? p = some (.int .u8 (n : Int)) ∧ n < 256
abbrev Num.LiesU (w : World) (B : Nat) (ao : Option Addr) (l : List Nat) : Prop := LiesG U8At 1 w B ao l
theorem Tryd.cellsU8 : Tryd.prog.cellsOf 5 = 1 := by kernel_rfl
theorem open_u8 {H : Type} {enc : TypeId × Value → H} {w : World} {base : Nat} {spare : Nat → Bool} {held : Bool} (a : Addr) (n : Nat) (cs : List Value) (x : DataW H × List MemPlace)
    (h1 : w.cells? base a 1 = some cs) (h2 : DataW.trod enc Tryd.prog w base spare held n 5 cs = some x) : ∃ y : Nat, True ∧ U8At w a y := by
  obtain ⟨_, hlen, hcell⟩ := World.cells?_some h1
  match cs, hlen with
  | [v0], _ =>
    have e0 := hcell 0 (by omega)
    simp [Addr.add] at e0
    obtain ⟨k, q, _, wf⟩ := DataW.trod_int Tryd.underlying5 h2
    simp only [List.cons.injEq, and_true] at q
    subst q
    have hb := bounds_u8 wf
    obtain ⟨m, rfl⟩ := Int.eq_ofNat_of_zero_le hb.1
    exact ⟨m, trivial, e0, by omega⟩
set_option maxRecDepth 100000 in
theorem open_u8s {H : Type} {enc : TypeId × Value → H} {w : World} {base b0 : Nat} {r : Reach} {spare : Nat → Bool} {held : Bool} {v : Value} {d : DataW H} {p : List MemPlace}
    (hv : Value.okWide Tryd.prog w r b0 34 v) (h : DataW.Trod enc Tryd.prog w base spare held 34 v d p) :
    ∃ (ao : Option Addr) (cap : Nat) (l : List Nat), v = .slice ao l.length cap ∧ LiesU w w.heap.size ao l := by
  obtain ⟨fuel, hf⟩ := h
  obtain ⟨ao, len, cap, rfl⟩ := okWide_slice Tryd.underlying34 hv
  obtain ⟨ao6, c6, k6, q6, _, hl6, _⟩ := open_list U8At (fun _ => True) 1 Tryd.cellsU8 Tryd.underlying34 (fun p x h => cell_lt h.1) open_u8 hf
  exact ⟨ao6, c6, k6, q6, hl6⟩
/-- Bytes that came in: their cells, in every world that keeps what was there. -/
def Num.BytesIn (w : World) (ao : Option Addr) (l : List UInt8) : Prop := ∀ (j : Nat) (hj : j < l.length), ∃ a, ao = some a ∧ a.block < w.heap.size ∧ w.cell? (a.add j) = some (.int .u8 (l[j].toNat : Int))
theorem bytes_of {w : World} {ao : Option Addr} {l : List Nat} (h : LiesU w w.heap.size ao l) : ∃ b : List UInt8, b.length = l.length ∧ BytesIn w ao b := by
  refine ⟨l.map UInt8.ofNat, by simp, fun j hj => ?_⟩
  rw [List.length_map] at hj
  obtain ⟨a, e, ha, h1, h2⟩ := h j l[j] (List.getElem?_eq_getElem hj)
  refine ⟨a, e, ha, ?_⟩
  rw [Nat.mul_one] at h1
  rw [h1, List.getElem_map, ofNat_toNat h2]
theorem conv_in {w W : World} {ao : Option Addr} {b : List UInt8} (h : BytesIn w ao b) (hb : Below w.heap.size w W) (cap : Nat) : (convert 34 9 (.slice ao b.length cap)).run Tryd.prog W = .ok (.string (str b)) W := by
  cases ao with
  | none =>
    have hl : b = [] := by
      cases b with
      | nil => rfl
      | cons x r =>
        obtain ⟨a, e, _⟩ := h 0 (by simp)
        cases e
    subst hl
    rw [show (([] : List UInt8).length) = 0 from rfl, run_convert_bytes_string W 34 9 5 none 0 cap Tryd.underlying34 Tryd.underlying5 Tryd.underlying9]
    rfl
  | some a =>
    refine run_convert_bytes_back W 34 9 5 a cap b Tryd.underlying34 Tryd.underlying5 Tryd.underlying9 ?_
    intro j hj
    obtain ⟨a', e, ha, h1⟩ := h j hj
    cases e
    exact (hb.cell (by rw [ablock]; exact ha)).trans h1
end Go.Proofs.YtfgphcleilpelaaDoor
