/-
  What comes in to layer 14's statements, opened: an entry, writes, small numbers.
-/
import Derived.Test.YtclliljkmmpglaaGreatCMem
namespace Go.Proofs.YtclliljkmmpglaaGreat
open Go.RowKit Go.ChangeShapes Go.WideShapes Go.Joins Num
set_option linter.unusedVariables false
set_option maxRecDepth 100000

theorem array2 {cs : Array Value} (h : cs.size = 2) : ∃ a b, cs = #[a, b] := by
  obtain ⟨l⟩ := cs
  match l, h with
  | [a, b], _ => exact ⟨a, b, rfl⟩
set_option maxRecDepth 100000 in
theorem open_wrts {H : Type} {enc : TypeId × Value → H} {w : World} {base b0 : Nat} {r : Reach} {spare : Nat → Bool} {held : Bool} {v : Value} {d : DataW H} {p : List MemPlace}
    (hv : Value.okWide Tryz.prog w r b0 38 v) (h : DataW.Trod enc Tryz.prog w base spare held 38 v d p) :
    ∃ (ao : Option Addr) (cap : Nat) (l : List Wrt), v = .slice ao l.length cap ∧ LiesW w w.heap.size ao l := by
  have inhW : Inhabited Wrt := ⟨⟨ByteArray.empty, ByteArray.empty, false⟩⟩
  obtain ⟨fuel, hf⟩ := h
  obtain ⟨ao, len, cap, rfl⟩ := okWide_slice Tryz.underlying38 hv
  obtain ⟨ao6, c6, k6, q6, _, hl6, _⟩ := open_list WrtAt (fun _ => True) 3 Tryz.cellsWrt Tryz.underlying38 (fun p x h => cell_lt h.1) open_wrt hf
  exact ⟨ao6, c6, k6, q6, hl6⟩
def Num.U8At (w : World) (p : Addr) (n : Nat) : Prop := w.cell? p = some (.int .u8 (n : Int)) ∧ n < 256
abbrev Num.LiesU (w : World) (B : Nat) (ao : Option Addr) (l : List Nat) : Prop := LiesG U8At 1 w B ao l
theorem Num.U8At.fast {B : Nat} : Fast B U8At := fun w w' p x hp h hb => ⟨(hb.cell hp).trans h.1, h.2⟩
theorem Tryz.cellsU8 : Tryz.prog.cellsOf 5 = 1 := by kernel_rfl
theorem open_u8 {H : Type} {enc : TypeId × Value → H} {w : World} {base : Nat} {spare : Nat → Bool} {held : Bool} (a : Addr) (n : Nat) (cs : List Value) (x : DataW H × List MemPlace)
    (h1 : w.cells? base a 1 = some cs) (h2 : DataW.trod enc Tryz.prog w base spare held n 5 cs = some x) : ∃ y : Nat, True ∧ U8At w a y := by
  obtain ⟨_, hlen, hcell⟩ := World.cells?_some h1
  match cs, hlen with
  | [v0], _ =>
    have e0 := hcell 0 (by omega)
    simp [Addr.add] at e0
    obtain ⟨k, q, _, wf⟩ := DataW.trod_int Tryz.underlying5 h2
    simp only [List.cons.injEq, and_true] at q
    subst q
    have hb := bounds_u8 wf
    obtain ⟨m, rfl⟩ := Int.eq_ofNat_of_zero_le hb.1
    exact ⟨m, trivial, e0, by omega⟩
set_option maxRecDepth 100000 in
theorem open_u8s {H : Type} {enc : TypeId × Value → H} {w : World} {base b0 : Nat} {r : Reach} {spare : Nat → Bool} {held : Bool} {v : Value} {d : DataW H} {p : List MemPlace}
    (hv : Value.okWide Tryz.prog w r b0 78 v) (h : DataW.Trod enc Tryz.prog w base spare held 78 v d p) :
    ∃ (ao : Option Addr) (cap : Nat) (l : List Nat), v = .slice ao l.length cap ∧ LiesU w w.heap.size ao l := by
  obtain ⟨fuel, hf⟩ := h
  obtain ⟨ao, len, cap, rfl⟩ := okWide_slice Tryz.underlying78 hv
  obtain ⟨ao6, c6, k6, q6, _, hl6, _⟩ := open_list U8At (fun _ => True) 1 Tryz.cellsU8 Tryz.underlying78 (fun p x h => cell_lt h.1) open_u8 hf
  exact ⟨ao6, c6, k6, q6, hl6⟩
end Go.Proofs.YtclliljkmmpglaaGreat
