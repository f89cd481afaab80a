/-
  Contracts: the document's examples; an error's number; a text that is too long.
-/
import Derived.Test.YtpgpmnecggllcabVPut
namespace Go.Proofs.Ytpgpmnecggllcab
open Go.RowKit Num

theorem num_any (x : Int) (w : World) :
    Calls Try.prog 7 #[.int .i64 x] w fun e w' => e = .returned (.int .i64 x) ∧ w' = w := by
  go_enter Try.func7, Try.ntmps7
  go_wp2
  go_ret
  exact ⟨rfl, rfl⟩
theorem long_any (s : ByteArray) (w : World) :
    Calls Try.prog 4 #[.string s] w fun e w' => e = .returned (.bool (decide (5000 < (s.size : Int)))) ∧ w' = w := by
  go_enter Try.func4, Try.ntmps4
  go_wp2
  go_ret
  exact ⟨rfl, rfl⟩
/-- The document's examples. -/
theorem awake_any (w : World) :
    Calls Try.prog 5 #[] w fun e w' => e = .returned (.bool true) ∧ Below w.heap.size w w' := by
  have r1 : str (putT 2 1 0 ⟨#[]⟩) = ⟨#[4, 128, 0, 0, 0, 0, 0, 0, 1]⟩ := by decide +kernel
  have r2 : putE 2 1 0 ⟨#[]⟩ = 0 := by decide +kernel
  have r3 : str (putT 5 0 0 ⟨#[97]⟩) = ⟨#[7, 97, 0, 1]⟩ := by decide +kernel
  have r4 : putE 5 0 0 ⟨#[97]⟩ = 0 := by decide +kernel
  have hb0 := Below.refl w.heap.size w
  go_enter Try.func5, Try.ntmps5
  go_wp2_with (first
    | (go_at_call 6; refine (put_i _ _ (by decide) _ (by decide) _ _).mono ?_; rintro e w1 ⟨rfl, hb1⟩; have hbn := below_next (B := w.heap.size) (a := w) (by assumption) (Nat.le_refl _) hb1; clear hb1; rw [Int.toNat_zero])
    | (go_at_call 7; refine (num_any _ _).mono ?_; rintro e w3 ⟨rfl, rfl⟩))
  go_ret
  exact ⟨rfl, by assumption⟩
end Go.Proofs.Ytpgpmnecggllcab
