/-
  The document's values as bytes, as functions of numbers and lists of bytes: which values may be, the bytes of a value. No program is named here.
-/
import Derived.Test.YtiajlhjjmlakmaaGreatDoorNum
namespace Go.Proofs.YtiajlhjjmlakmaaGreatDoor.Num

/-- Which values may be (2.1). -/
def may (k n : Int) (f : Nat) (s : ByteArray) : Bool :=
  if k = 0 then decide (n = 0) && decide (f = 0) && s.toList.isEmpty
  else if k = 1 then (decide (n = 0) || decide (n = 1)) && decide (f = 0) && s.toList.isEmpty
  else if k = 2 then decide (f = 0) && s.toList.isEmpty
  else if k = 3 then decide (n = 0) && decide (canon f = f) && s.toList.isEmpty
  else if k = 4 ∨ k = 5 then decide (n = 0) && decide (f = 0) && decide ((s.size : Int) ≤ 40)
  else false
end Go.Proofs.YtiajlhjjmlakmaaGreatDoor.Num
