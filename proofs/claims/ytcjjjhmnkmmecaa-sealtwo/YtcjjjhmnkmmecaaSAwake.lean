/-
  Contracts: the document's examples; an error's number.
-/
import Derived.Test.YtcjjjhmnkmmecaaSSum
namespace Go.Proofs.Ytcjjjhmnkmmecaa
open Go.RowKit Num
set_option linter.unusedVariables false

theorem sum_nine (w : World) : Calls Try.prog 8 #[.string ⟨#[49, 50, 51, 52, 53, 54, 55, 56, 57]⟩] w fun e w' => e = .returned (.int .u32 3808858755) ∧ w' = w := by
  have h := sum_any ⟨#[49, 50, 51, 52, 53, 54, 55, 56, 57]⟩ (by decide) w
  rw [show sumL (⟨#[49, 50, 51, 52, 53, 54, 55, 56, 57]⟩ : ByteArray).data.toList = 3808858755 by decide +kernel] at h
  exact h
theorem sum_none (w : World) : Calls Try.prog 8 #[.string ⟨#[]⟩] w fun e w' => e = .returned (.int .u32 0) ∧ w' = w := by
  have h := sum_any ⟨#[]⟩ (by decide) w
  rw [show sumL (⟨#[]⟩ : ByteArray).data.toList = 0 by decide +kernel] at h
  exact h
theorem awake_any (w : World) : Calls Try.prog 10 #[] w fun e w' => e = .returned (.bool true) ∧ w' = w := by
  have hp0 := sum_nine
  go_enter Try.func10, Try.ntmps10
  go_wp2_with (first
    | (go_at_call 8; refine (hp0 _).mono ?_; rintro e w1 ⟨rfl, rfl⟩; clear hp0)
    | (go_at_call 8; refine (sum_none _).mono ?_; rintro e w2 ⟨rfl, rfl⟩))
  go_ret
  exact ⟨rfl, rfl⟩

theorem num_any (x : Int) (w : World) :
    Calls Try.prog 15 #[.int .i64 x] w fun e w' => e = .returned (.int .i64 x) ∧ w' = w := by
  go_enter Try.func15, Try.ntmps15
  go_wp2
  go_ret
  exact ⟨rfl, rfl⟩
end Go.Proofs.Ytcjjjhmnkmmecaa
