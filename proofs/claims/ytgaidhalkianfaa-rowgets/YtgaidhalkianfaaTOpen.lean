/-
  A slice of values that came in, opened: its cells hold the values' parts.
-/
import Derived.Test.YtgaidhalkianfaaTPut
import Derived.Lib.SmallJoins
import Derived.Deep.Slices
import Derived.Carry
namespace Go.Proofs.Ytgaidhalkianfaa
open Go.RowKit Go.ChangeShapes Go.WideShapes Go.Joins Num
set_option linter.unusedVariables false

theorem Try.laidOut : laidOutB Try.prog = true := by kernel_rfl
theorem Try.cellsVal : Try.prog.cellsOf 39 = 4 := by kernel_rfl
theorem cell_lt {w : World} {a : Addr} {v : Value} (h : w.cell? a = some v) : a.block < w.heap.size := by
  rcases Nat.lt_or_ge a.block w.heap.size with h' | h'
  · exact h'
  · simp [World.cell?, Array.getElem?_eq_none h'] at h

/-- One element. -/
theorem open_val {H : Type} {enc : TypeId × Value → H} {w : World} {base : Nat} {spare : Nat → Bool} {held : Bool} {a : Addr} {n : Nat} {cs : List Value} {x : DataW H × List MemPlace}
    (h1 : w.cells? base a 4 = some cs) (h2 : DataW.trod enc Try.prog w base spare held n 39 cs = some x) :
    ∃ y : Val, y.ok ∧ w.cell? a = some (.int .i64 y.k) ∧ w.cell? ⟨a.block, a.off + 1, none⟩ = some (.int .i64 y.n) ∧ w.cell? ⟨a.block, a.off + 2, none⟩ = some (.int .u64 (y.f : Int)) ∧ w.cell? ⟨a.block, a.off + 3, none⟩ = some (.string y.s) := by
  obtain ⟨_, hlen, hcell⟩ := World.cells?_some h1
  obtain ⟨y0, y1, y2, y3, m, hx, _, g0, g1, g2, g3⟩ := trod_struct4 Try.underlying39 h2
  match cs, hlen with
  | [v0, v1, v2, v3], _ =>
    have e0 := hcell 0 (by omega)
    have e1 := hcell 1 (by omega)
    have e2 := hcell 2 (by omega)
    have e3 := hcell 3 (by omega)
    simp [Addr.add] at e0 e1 e2 e3
    have c3 : Try.prog.cellsOf 3 = 1 := by kernel_rfl
    have c4 : Try.prog.cellsOf 2 = 1 := by kernel_rfl
    have c5 : Try.prog.cellsOf 37 = 1 := by kernel_rfl
    have c6 : Try.prog.cellsOf 9 = 1 := by kernel_rfl
    simp [c3, c4, c5, c6] at g0 g1 g2 g3
    obtain ⟨k, ek, _, _⟩ := DataW.trod_int Try.underlying3 g0
    obtain ⟨q, eq, _, wq⟩ := DataW.trod_int Try.underlying2 g1
    obtain ⟨f, ef, _, wf⟩ := DataW.trod_int Try.underlying37 g2
    obtain ⟨s, es, _, _⟩ := DataW.trod_string Try.underlying9 g3
    simp at ek eq ef es
    subst ek eq ef es
    have bq := bounds_i64 wq
    have bf := bounds_u64 wf
    obtain ⟨f', rfl⟩ := Int.eq_ofNat_of_zero_le bf.1
    exact ⟨⟨k, q, f', s⟩, ⟨by show _ ≤ q ∧ q ≤ _; omega, by show f' < _; omega⟩, e0, e1, e2, e3⟩

theorem open_vals {H : Type} {enc : TypeId × Value → H} {w : World} {base b0 : Nat} {r : Reach} {spare : Nat → Bool} {held : Bool} {v : Value} {d : DataW H} {p : List MemPlace}
    (hv : Value.okWide Try.prog w r b0 44 v) (h : DataW.Trod enc Try.prog w base spare held 44 v d p) :
    ∃ (ao : Option Addr) (cap : Nat) (l : List Val), v = .slice ao l.length cap ∧ l.length ≤ maxLen ∧ (∀ x ∈ l, x.ok) ∧ Lies w w.heap.size ao l := by
  obtain ⟨ao, len, cap, rfl⟩ := okWide_slice Try.underlying44 hv
  obtain ⟨fuel, hf⟩ := h
  rcases Go.Deep.open_slice Try.underlying44 hf with ⟨h0, _⟩ | ⟨a, len', cap', m, n, D, Pl, h0, _, hlc, hcm, hm, _, hx⟩
  · simp [Value.cells] at h0
    obtain ⟨rfl, rfl, rfl⟩ := h0
    exact ⟨none, 0, [], rfl, by simp, by simp, fun i x hx => by simp at hx⟩
  · simp [Value.cells] at h0
    obtain ⟨rfl, rfl, rfl⟩ := h0
    have hlm : len ≤ m := by rw [hm]; split <;> omega
    have each : ∀ i, i < len → ∃ y : Val, y.ok ∧ w.cell? (a.add (i * 4)) = some (.int .i64 y.k) ∧ w.cell? ⟨(a.add (i * 4)).block, (a.add (i * 4)).off + 1, none⟩ = some (.int .i64 y.n) ∧ w.cell? ⟨(a.add (i * 4)).block, (a.add (i * 4)).off + 2, none⟩ = some (.int .u64 (y.f : Int)) ∧ w.cell? ⟨(a.add (i * 4)).block, (a.add (i * 4)).off + 3, none⟩ = some (.string y.s) := by
      intro i hi
      obtain ⟨cs, h1, h2⟩ := hx i (by omega)
      rw [Try.cellsVal] at h1
      exact open_val h1 h2
    have inh : Inhabited Val := ⟨⟨0, 0, 0, ByteArray.empty⟩⟩
    obtain ⟨f, hfn⟩ := Go.Deep.choose_lt each
    refine ⟨some a, cap, (List.range len).map f, by simp, by simp; omega, ?_, ?_⟩
    · intro x hx
      obtain ⟨i, hi, rfl⟩ := List.mem_map.1 hx
      exact (hfn i (List.mem_range.1 hi)).1
    · intro i x hx
      have hi : i < len := by
        have := (List.getElem?_eq_some_iff.1 hx).1
        simpa using this
      have hxx : x = f i := by
        simp [hi] at hx
        exact hx.symm
      subst hxx
      have h4 := hfn i hi
      exact ⟨a, rfl, by have := cell_lt h4.2.1; rwa [Addr.block_add] at this, h4.2⟩
end Go.Proofs.Ytgaidhalkianfaa
