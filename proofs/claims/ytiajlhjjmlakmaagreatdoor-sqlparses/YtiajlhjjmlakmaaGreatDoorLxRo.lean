import Derived.Test.YtiajlhjjmlakmaaGreatDoorLxRn
import Derived.Test.YtiajlhjjmlakmaaGreatDoorLxRm
namespace Go.Proofs.YtiajlhjjmlakmaaGreatDoor
open Go.RowKit Num
set_option linter.unusedVariables false
set_option maxRecDepth 100000

theorem refNumber_any (s : ByteArray) (p : Nat) (hp : p < s.size) (hs2 : s.size ≤ 1000) (h : digB s[p] = true ∨ s[p].toNat = 45) (w : World) :
  Calls Tryz.prog 72 #[.string s, .int .i64 (p : Int)] w fun e w' => RefSays s p (intT (s[p] :: (s.data.toList.drop (p + 1)).take (runL letB (s.data.toList.drop (p + 1))))) e ∧ Below w.heap.size w w' := by
 by_cases h45 : s[p].toNat = 45
 ·exact refNumber_minus s p hp hs2 h45 w
 ·refine refNumber_plus s p hp hs2 h45 ?_ w
  rcases h with h | h
  ·exact h
  ·exact absurd h h45
end Go.Proofs.YtiajlhjjmlakmaaGreatDoor
