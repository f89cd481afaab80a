/-
  Contracts: what stands at a key, and between two keys (7.4).
-/
import Derived.Test.YtgldgedbinbigaaPDelB
import Derived.Test.YtgldgedbinbigaaPGtM
namespace Go.Proofs.Ytgldgedbinbigaa
open Go.RowKit Num
open scoped Classical
set_option linter.unusedVariables false

/-- 7.4, of whatever pages. -/
def Num.lookA (ps : Pages) (k : ByteArray) [Decidable (RightP ps)] : Option ByteArray := if RightP ps then lookP ps.flatten k else none
def Num.lookS (o : Option ByteArray) : ByteArray := match o with
  | none => ⟨#[]⟩
  | some v => v
def Num.lookB (o : Option ByteArray) : Bool := match o with
  | none => false
  | some _ => true
theorem lookA_yes {ps : Pages} {k : ByteArray} (h : RightP ps) : lookA ps k = lookP ps.flatten k := if_pos h
theorem lookA_no {ps : Pages} {k : ByteArray} (h : ¬ RightP ps) : lookA ps k = none := if_neg h
def Num.scanA (ps : Pages) (lo hi : ByteArray) (n : Int) [Decidable (RightP ps)] : List Pr := if RightP ps then scanL ps.flatten lo hi n else []
theorem scanA_yes {ps : Pages} {lo hi : ByteArray} {n : Int} (h : RightP ps) : scanA ps lo hi n = scanL ps.flatten lo hi n := if_pos h
theorem scanA_no {ps : Pages} {lo hi : ByteArray} {n : Int} (h : ¬ RightP ps) : scanA ps lo hi n = [] := if_neg h
theorem right_calls (ps : Pages) (ao : Option Addr) (cap : Nat) (h900 : ps.length ≤ 900) (hp4 : ∀ p ∈ ps, p.length ≤ 1000) (hr : RightP ps) (w : World) (hl : LiesPg w w.heap.size ao ps) : Calls Try.prog 49 #[.slice ao ps.length cap] w (fun e w' => e = .returned (.bool true) ∧ Below w.heap.size w w') := by
  have h := right_any ps ao cap (by omega) hp4 w hl
  rw [tru_yes hr] at h
  exact h
end Go.Proofs.Ytgldgedbinbigaa
