/-
  Columns, as records of numbers and texts. No program is named here.
-/
import Derived.Test.YtienbimjefccmaaDoorTValM
namespace Go.Proofs.YtienbimjefccmaaDoor.Num

/-- A column. -/
structure Colm where
  id : Int
  name : ByteArray
  kind : Int
  state : Int
  null : Int
  d : Val
def Colm.ok (c : Colm) : Prop := -9223372036854775808 ≤ c.id ∧ c.id ≤ 9223372036854775807
end Go.Proofs.YtienbimjefccmaaDoor.Num
