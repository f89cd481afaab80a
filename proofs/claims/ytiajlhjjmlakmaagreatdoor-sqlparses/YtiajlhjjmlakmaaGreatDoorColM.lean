/-
  Columns, as records of numbers and texts. No program is named here.
-/
import Derived.Test.YtiajlhjjmlakmaaGreatDoorTValM
namespace Go.Proofs.YtiajlhjjmlakmaaGreatDoor.Num

/-- A column. -/
structure Colm where
  id : Int
  name : ByteArray
  kind : Int
  state : Int
  null : Int
  d : Val
def Colm.ok (c : Colm) : Prop := -9223372036854775808 ≤ c.id ∧ c.id ≤ 9223372036854775807
end Go.Proofs.YtiajlhjjmlakmaaGreatDoor.Num
