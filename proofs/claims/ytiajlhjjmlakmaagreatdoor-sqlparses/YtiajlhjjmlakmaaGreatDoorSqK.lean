/-
  Contracts: package sql's Parse: whole. (Written by mksqj.py.)
-/
import Derived.Test.YtiajlhjjmlakmaaGreatDoorSqJa
import Derived.Test.YtiajlhjjmlakmaaGreatDoorSqJb
import Derived.Test.YtiajlhjjmlakmaaGreatDoorSqJc
import Derived.Test.YtiajlhjjmlakmaaGreatDoorSqJd
namespace Go.Proofs.YtiajlhjjmlakmaaGreatDoor
open Go.RowKit Num
set_option linter.unusedSimpArgs false
set_option linter.unusedVariables false
set_option linter.unusedVariables false
set_option maxRecDepth 100000

/-- PARSE WHOLE. -/
theorem sqParse_any (s : ByteArray) (w : World) (hG : Glob w) :
    Calls Tryz.prog 4 #[.string s] w fun e w' => ParseEnd w.heap.size (parseG s) e w' ∧ Below w.heap.size w w' := by
  by_cases hs : s.size ≤ 400
  · rcases hl : lexAt s 0 with ⟨o, q0⟩
    cases o with
    | none =>
      have hg : parseG s = (none, q0, 3) := by
        unfold parseG
        rw [if_neg (by omega), hl]
      have hL := lex_any s hs
      rw [hl] at hL
      have h := parse_lex s q0 3 (by decide) (fun W hW => (hL W hW).mono fun e w' h => ⟨h.1, h.2⟩) w hG
      rw [hg]
      exact h
    | some l =>
      rcases e1 : stmtR (rem l 0) with ⟨o1, q1⟩
      cases o1 with
      | none => exact parse_no1 s hs l q0 hl q1 e1 w hG
      | some x =>
        rcases e2 : endR q1 with ⟨o2, q⟩
        cases o2 with
        | none => exact parse_no2 s hs l q0 hl x q1 q e1 e2 w hG
        | some u =>
          cases u
          cases ht : tooMany x with
          | true => exact parse_long s hs l q0 hl x q1 q e1 e2 ht w hG
          | false => exact parse_yes s hs l q0 hl x q1 q e1 e2 ht w hG
  · have hg : parseG s = (none, 0, 2) := by
      unfold parseG
      rw [if_pos (by omega)]
    have h := parse_lex s 0 2 (by decide) (fun W hW => (lex_long s hs W).mono fun e w' h => ⟨h.1, by rw [h.2]; exact Below.refl _ _⟩) w hG
    rw [hg]
    exact h
end Go.Proofs.YtiajlhjjmlakmaaGreatDoor
