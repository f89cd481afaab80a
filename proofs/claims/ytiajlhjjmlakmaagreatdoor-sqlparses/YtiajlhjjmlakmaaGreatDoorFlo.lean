/-
  Contracts: what each function of package flo, and each of the document's own functions beside it, returns, for every word that it is called with.
-/
import Derived.Test.YtiajlhjjmlakmaaGreatDoorRows
import Derived.Test.YtiajlhjjmlakmaaGreatDoorNum
import Derived.WalkKit
import Derived.ProofKit
import Derived.WalkSpells
import Derived.WalkLawsBesides
import Derived.Laws.Externs
import Derived.Laws.FloatArith
namespace Go.Proofs.YtiajlhjjmlakmaaGreatDoor
open Go.RowKit Num

theorem frombits_run (n : Nat) (w : World) : (callFunc 123 #[.int .u64 (n : Int)]).run Tryz.prog w = .ok (.value (.float .f64 n)) w := by
  rw [run_callFunc_extern Tryz.func123 (by kernel_rfl) (by kernel_rfl) (by kernel_rfl) (e := Extern.MathFloatBits.float64frombits) (by kernel_rfl)]
  rfl

theorem isNaN_any (n : Nat) (w : World) :
    Calls Tryz.prog 124 #[.float .f64 n] w fun e w' => e = .returned (.bool (decide (9218868437227405312 < n % 9223372036854775808))) ∧ w' = w := by
  go_enter Tryz.func124, Tryz.ntmps124
  go_wp2
  go_ret
  refine ⟨?_, rfl⟩
  have e : FloatKind.f64.format.order n n = if 9218868437227405312 < n % 9223372036854775808 then none else some .eq := order_self n
  rw [e]
  split <;> simp_all

theorem canon_any (n : Nat) (w : World) :
    Calls Tryz.prog 93 #[.int .u64 (n : Int)] w fun e w' => e = .returned (.int .u64 (canon n : Nat)) ∧ w' = w := by
  have hb := frombits_run n
  by_cases h1 : 9218868437227405312 < n % 9223372036854775808
  · have ec : canon n = 9221120237041090560 := by unfold canon; rw [if_pos h1]
    rw [ec]
    go_enter Tryz.func93, Tryz.ntmps93
    go_wp2_with (go_at_call 124; refine (isNaN_any n _).mono ?_; rintro e w' ⟨rfl, rfl⟩)
    go_ret
    exact ⟨rfl, rfl⟩
  · have hz : (FloatKind.f64.format.order n 0 == some .eq) = decide (n % 9223372036854775808 = 0) := order_zero n h1
    by_cases h2 : n % 9223372036854775808 = 0
    · have ec : canon n = 0 := by unfold canon; rw [if_neg h1, if_pos h2]
      rw [ec]
      go_enter Tryz.func93, Tryz.ntmps93
      go_wp2_with (go_at_call 124; refine (isNaN_any n _).mono ?_; rintro e w' ⟨rfl, rfl⟩)
      go_ret
      exact ⟨rfl, rfl⟩
    · have ec : canon n = n := by unfold canon; rw [if_neg h1, if_neg h2]
      rw [ec]
      go_enter Tryz.func93, Tryz.ntmps93
      go_wp2_with (go_at_call 124; refine (isNaN_any n _).mono ?_; rintro e w' ⟨rfl, rfl⟩)
      go_ret
      exact ⟨rfl, rfl⟩









/-! The same contracts at integers as the walk has them. -/
theorem canon_i (x : Int) (hx : 0 ≤ x) (w : World) :
    Calls Tryz.prog 93 #[.int .u64 x] w fun e w' => e = .returned (.int .u64 (canon x.toNat : Nat)) ∧ w' = w := by
  obtain ⟨n, rfl⟩ := Int.eq_ofNat_of_zero_le hx
  exact canon_any n w

end Go.Proofs.YtiajlhjjmlakmaaGreatDoor
