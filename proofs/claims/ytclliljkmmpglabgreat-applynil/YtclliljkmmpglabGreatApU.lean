/-
  What comes in to layer 14's statements, opened: an entry, writes, small numbers.
-/
import Derived.Test.YtclliljkmmpglabGreatCMem
namespace Go.Proofs.YtclliljkmmpglabGreat
open Go.RowKit Go.ChangeShapes Go.WideShapes Go.Joins Num
set_option linter.unusedVariables false
set_option maxRecDepth 100000

theorem array2 {cs : Array Value} (h : cs.size = 2) : ∃ a b, cs = #[a, b] := by
  obtain ⟨l⟩ := cs
  match l, h with
  | [a, b], _ => exact ⟨a, b, rfl⟩
theorem Tryz.cellsEnt : Tryz.prog.cellsOf 23 = 2 := by kernel_rfl
set_option maxRecDepth 100000 in
theorem open_ent {H : Type} {enc : TypeId × Value → H} {w : World} {base b0 : Nat} {r : Reach} {spare : Nat → Bool} {held : Bool} {v : Value} {d : DataW H} {p : List MemPlace}
    (hv : Value.okWide Tryz.prog w r b0 23 v) (h : DataW.Trod enc Tryz.prog w base spare held 23 v d p) :
    ∃ (t : Int) (x : ByteArray), v = .agg #[.int .i64 t, .string x] := by
  obtain ⟨cs, rfl, hsz⟩ := okWide_struct Tryz.underlying23 hv
  obtain ⟨v0, v1, rfl⟩ := array2 (hsz.trans Tryz.cellsEnt)
  obtain ⟨fuel, hf0⟩ := h
  have h : DataW.trod enc Tryz.prog w base spare held fuel 23 [v0, v1] = some (d, p) := by simpa [Value.cells] using hf0
  clear hf0
  obtain ⟨xs, m, _, _, _, hxl, hf⟩ := DataW.trod_struct Tryz.underlying23 h
  match xs, hxl with
  | [x0, x1], _ =>
    have g0 := hf 0 _ rfl
    have g1 := hf 1 _ rfl
    simp [Tryz.cellsInt] at g0
    simp [Tryz.cellsStr] at g1
    obtain ⟨k0, q0, _, _⟩ := DataW.trod_int Tryz.underlying3 g0
    obtain ⟨k1, q1, _, _⟩ := DataW.trod_string Tryz.underlying9 g1
    simp only [List.cons.injEq, and_true] at q0 q1
    subst q0 q1
    exact ⟨k0, k1, rfl⟩
end Go.Proofs.YtclliljkmmpglabGreat
