/-
  Contracts: what the document's own functions (one form, place, float of a place, which is below) return, for every word that they are called with.
-/
import Derived.Test.YtiajlhjjmlakmaaGreatDoorFlo
namespace Go.Proofs.YtiajlhjjmlakmaaGreatDoor
open Go.RowKit Num

theorem refCanon_any (n : Nat) (hn : n < 18446744073709551616) (w : World) :
    Calls Tryz.prog 109 #[.int .u64 (n : Int)] w fun e w' => e = .returned (.int .u64 (canon n : Nat)) ∧ w' = w := by
  have ha := andNot_top n hn
  by_cases h1 : 9218868437227405312 < n % 9223372036854775808
  · have ec : canon n = 9221120237041090560 := by unfold canon; rw [if_pos h1]
    rw [ec]
    go_enter Tryz.func109, Tryz.ntmps109
    go_wp2
    go_ret
    exact ⟨rfl, rfl⟩
  · by_cases h2 : n = 9223372036854775808
    · have ec : canon n = 0 := by unfold canon; rw [if_neg h1, if_pos (by omega)]
      rw [ec]
      go_enter Tryz.func109, Tryz.ntmps109
      go_wp2
      go_ret
      exact ⟨rfl, rfl⟩
    · have ec : canon n = n := by
        unfold canon; rw [if_neg h1]
        split <;> omega
      rw [ec]
      go_enter Tryz.func109, Tryz.ntmps109
      go_wp2
      go_ret
      exact ⟨rfl, rfl⟩



end Go.Proofs.YtiajlhjjmlakmaaGreatDoor
