/-
  What the document's reader of ints rests on.
-/
import Derived.Test.YtiajlhjjmlakmaaGreatDoorLxRt
namespace Go.Proofs.YtiajlhjjmlakmaaGreatDoor
open Go.RowKit Num
set_option linter.unusedVariables false
set_option maxRecDepth 100000

theorem itoa_ne (n : Int) : ∃ a b, Go.Lib.itoa n = a :: b ∧ True := by
  unfold Go.Lib.itoa
  split
  · exact ⟨_, _, rfl, trivial⟩
  · obtain ⟨c, r, e, _⟩ := dec_head n.toNat
    exact ⟨c, r, e, trivial⟩
theorem plus_no {l : List UInt8} (hc : ∃ c d, l = c :: d ∧ c.toNat ≠ 45) (h : ¬ (canonD (l.take (runL letB l)) ∧ decVal (l.take (runL letB l)) < 9223372036854775808)) : intT (l.take (runL letB l)) = none := by
  obtain ⟨c, d, rfl, h45⟩ := hc
  cases hn : runL letB (c :: d) with
  | zero =>
    cases hx : intT ((c :: d).take 0) with
    | none => rfl
    | some x =>
      obtain ⟨n, _, _, e⟩ := intT_some hx
      obtain ⟨a, b, e2, _⟩ := itoa_ne n
      rw [e2] at e
      cases e
  | succ m =>
    rw [hn, List.take_succ_cons] at h
    rw [List.take_succ_cons]
    exact intT_plus_no c _ h45 h
end Go.Proofs.YtiajlhjjmlakmaaGreatDoor
