/-
  Contracts: what the document's own functions (one form, place, float of a place, which is below) return, for every word that they are called with.
-/
import Derived.Test.YtgaidhalkianfaaFlo
namespace Go.Proofs.Ytgaidhalkianfaa
open Go.RowKit Num

theorem refCanon_any (n : Nat) (hn : n < 18446744073709551616) (w : World) :
    Calls Try.prog 51 #[.int .u64 (n : Int)] w fun e w' => e = .returned (.int .u64 (canon n : Nat)) ∧ w' = w := by
  have ha := andNot_top n hn
  by_cases h1 : 9218868437227405312 < n % 9223372036854775808
  · have ec : canon n = 9221120237041090560 := by unfold canon; rw [if_pos h1]
    rw [ec]
    go_enter Try.func51, Try.ntmps51
    go_wp2
    go_ret
    exact ⟨rfl, rfl⟩
  · by_cases h2 : n = 9223372036854775808
    · have ec : canon n = 0 := by unfold canon; rw [if_neg h1, if_pos (by omega)]
      rw [ec]
      go_enter Try.func51, Try.ntmps51
      go_wp2
      go_ret
      exact ⟨rfl, rfl⟩
    · have ec : canon n = n := by
        unfold canon; rw [if_neg h1]
        split <;> omega
      rw [ec]
      go_enter Try.func51, Try.ntmps51
      go_wp2
      go_ret
      exact ⟨rfl, rfl⟩

theorem refOrder_any (n : Nat) (hn : n < 18446744073709551616) (w : World) :
    Calls Try.prog 40 #[.int .u64 (n : Int)] w fun e w' => e = .returned (.int .u64 (place n : Nat)) ∧ w' = w := by
  have hc := canon_lt n hn
  have ha := and_top (canon n) hc
  by_cases h : 9223372036854775808 ≤ canon n
  · rw [if_pos h] at ha
    have ex := not_u64 (canon n) hc
    have ep : place n = 18446744073709551615 - canon n := by unfold place; rw [if_pos h]
    rw [ep]
    go_enter Try.func40, Try.ntmps40
    go_wp2_with (go_at_call 51; refine (refCanon_any n hn _).mono ?_; rintro e w' ⟨rfl, rfl⟩)
    go_ret
    exact ⟨rfl, rfl⟩
  · rw [if_neg h] at ha
    have eo := or_top (canon n) (by omega)
    have ep : place n = canon n + 9223372036854775808 := by unfold place; rw [if_neg h]
    rw [ep]
    go_enter Try.func40, Try.ntmps40
    go_wp2_with (go_at_call 51; refine (refCanon_any n hn _).mono ?_; rintro e w' ⟨rfl, rfl⟩)
    go_ret
    exact ⟨rfl, rfl⟩

set_option maxHeartbeats 1000000 in
theorem refBack_any (n : Nat) (hn : n < 18446744073709551616) (w : World) :
    Calls Try.prog 45 #[.int .u64 (n : Int)] w fun e w' => e = .returned (.tuple #[.int .u64 (backV n : Nat), .bool (backOk n)]) ∧ w' = w := by
  have ha := and_top n hn
  have hu := unplace_lt n hn
  have ex := not_u64 n hn
  have ey := andNot_top n hn
  have hs : IntKind.u64.signed = false := rfl
  by_cases hcan : canon (unplace n) = unplace n
  · have e1 : backV n = unplace n := by unfold backV; rw [if_pos hcan]
    have e2 : backOk n = true := by unfold backOk; exact decide_eq_true hcan
    have e3 := place_unplace n hn hcan
    rw [e1, e2]
    by_cases ht : 9223372036854775808 ≤ n
    · rw [if_pos ht] at ha
      have ep : unplace n = n % 9223372036854775808 := by unfold unplace; rw [if_pos ht]; omega
      rw [← ep] at ey
      clear ep
      go_enter Try.func45, Try.ntmps45
      go_wp2_with (first | (go_at_call 40; refine (refOrder_any _ hu _).mono ?_; rintro e w' ⟨rfl, rfl⟩; rw [e3]) | (go_at_call 51; refine (refCanon_any _ hu _).mono ?_; rintro e w' ⟨rfl, rfl⟩; rw [hcan]))
      go_ret2
      exact ⟨rfl, rfl⟩
    · rw [if_neg ht] at ha
      have ep : unplace n = 18446744073709551615 - n := by unfold unplace; rw [if_neg ht]
      rw [← ep] at ex
      clear ep
      go_enter Try.func45, Try.ntmps45
      go_wp2_with (first | (go_at_call 40; refine (refOrder_any _ hu _).mono ?_; rintro e w' ⟨rfl, rfl⟩; rw [e3]) | (go_at_call 51; refine (refCanon_any _ hu _).mono ?_; rintro e w' ⟨rfl, rfl⟩; rw [hcan]))
      go_ret2
      exact ⟨rfl, rfl⟩
  · have e1 : backV n = 0 := by unfold backV; rw [if_neg hcan]
    have e2 : backOk n = false := by unfold backOk; exact decide_eq_false hcan
    rw [e1, e2]
    have hne : ¬ ((canon (unplace n) : Nat) : Int) = ((unplace n : Nat) : Int) := by omega
    by_cases ht : 9223372036854775808 ≤ n
    · rw [if_pos ht] at ha
      have ep : unplace n = n % 9223372036854775808 := by unfold unplace; rw [if_pos ht]; omega
      rw [← ep] at ey
      clear ep
      go_enter Try.func45, Try.ntmps45
      by_cases ho : place (unplace n) = n
      · go_wp2_with (first | (go_at_call 40; refine (refOrder_any _ hu _).mono ?_; rintro e w' ⟨rfl, rfl⟩; rw [ho]) | (go_at_call 51; refine (refCanon_any _ hu _).mono ?_; rintro e w' ⟨rfl, rfl⟩))
        go_ret2
        exact ⟨rfl, rfl⟩
      · go_wp2_with (first | (go_at_call 40; refine (refOrder_any _ hu _).mono ?_; rintro e w' ⟨rfl, rfl⟩) | (go_at_call 51; refine (refCanon_any _ hu _).mono ?_; rintro e w' ⟨rfl, rfl⟩))
        go_ret2
        exact ⟨rfl, rfl⟩
    · rw [if_neg ht] at ha
      have ep : unplace n = 18446744073709551615 - n := by unfold unplace; rw [if_neg ht]
      rw [← ep] at ex
      clear ep
      go_enter Try.func45, Try.ntmps45
      by_cases ho : place (unplace n) = n
      · go_wp2_with (first | (go_at_call 40; refine (refOrder_any _ hu _).mono ?_; rintro e w' ⟨rfl, rfl⟩; rw [ho]) | (go_at_call 51; refine (refCanon_any _ hu _).mono ?_; rintro e w' ⟨rfl, rfl⟩))
        go_ret2
        exact ⟨rfl, rfl⟩
      · go_wp2_with (first | (go_at_call 40; refine (refOrder_any _ hu _).mono ?_; rintro e w' ⟨rfl, rfl⟩) | (go_at_call 51; refine (refCanon_any _ hu _).mono ?_; rintro e w' ⟨rfl, rfl⟩))
        go_ret2
        exact ⟨rfl, rfl⟩

end Go.Proofs.Ytgaidhalkianfaa
