/-
  Contracts: what each function of package flo, and each of the document's own functions beside it, returns, for every word that it is called with.
-/
import Derived.Test.YtgaidhalkianfaaRows
import Derived.Test.YtgaidhalkianfaaNum
import Derived.WalkKit
import Derived.ProofKit
import Derived.WalkSpells
import Derived.WalkLawsBesides
import Derived.Laws.Externs
import Derived.Laws.FloatArith
namespace Go.Proofs.Ytgaidhalkianfaa
open Go.RowKit Num

theorem frombits_run (n : Nat) (w : World) : (callFunc 55 #[.int .u64 (n : Int)]).run Try.prog w = .ok (.value (.float .f64 n)) w := by
  rw [run_callFunc_extern Try.func55 (by kernel_rfl) (by kernel_rfl) (by kernel_rfl) (e := Extern.MathFloatBits.float64frombits) (by kernel_rfl)]
  rfl

theorem isNaN_any (n : Nat) (w : World) :
    Calls Try.prog 56 #[.float .f64 n] w fun e w' => e = .returned (.bool (decide (9218868437227405312 < n % 9223372036854775808))) ∧ w' = w := by
  go_enter Try.func56, Try.ntmps56
  go_wp2
  go_ret
  refine ⟨?_, rfl⟩
  have e : FloatKind.f64.format.order n n = if 9218868437227405312 < n % 9223372036854775808 then none else some .eq := order_self n
  rw [e]
  split <;> simp_all

theorem canon_any (n : Nat) (w : World) :
    Calls Try.prog 50 #[.int .u64 (n : Int)] w fun e w' => e = .returned (.int .u64 (canon n : Nat)) ∧ w' = w := by
  have hb := frombits_run n
  by_cases h1 : 9218868437227405312 < n % 9223372036854775808
  · have ec : canon n = 9221120237041090560 := by unfold canon; rw [if_pos h1]
    rw [ec]
    go_enter Try.func50, Try.ntmps50
    go_wp2_with (go_at_call 56; refine (isNaN_any n _).mono ?_; rintro e w' ⟨rfl, rfl⟩)
    go_ret
    exact ⟨rfl, rfl⟩
  · have hz : (FloatKind.f64.format.order n 0 == some .eq) = decide (n % 9223372036854775808 = 0) := order_zero n h1
    by_cases h2 : n % 9223372036854775808 = 0
    · have ec : canon n = 0 := by unfold canon; rw [if_neg h1, if_pos h2]
      rw [ec]
      go_enter Try.func50, Try.ntmps50
      go_wp2_with (go_at_call 56; refine (isNaN_any n _).mono ?_; rintro e w' ⟨rfl, rfl⟩)
      go_ret
      exact ⟨rfl, rfl⟩
    · have ec : canon n = n := by unfold canon; rw [if_neg h1, if_neg h2]
      rw [ec]
      go_enter Try.func50, Try.ntmps50
      go_wp2_with (go_at_call 56; refine (isNaN_any n _).mono ?_; rintro e w' ⟨rfl, rfl⟩)
      go_ret
      exact ⟨rfl, rfl⟩

theorem order_any (n : Nat) (hn : n < 18446744073709551616) (w : World) :
    Calls Try.prog 36 #[.int .u64 (n : Int)] w fun e w' => e = .returned (.int .u64 (place n : Nat)) ∧ w' = w := by
  have hc := canon_lt n hn
  have ha := and_top (canon n) hc
  by_cases h : 9223372036854775808 ≤ canon n
  · rw [if_pos h] at ha
    have ex := not_u64 (canon n) hc
    have ep : place n = 18446744073709551615 - canon n := by unfold place; rw [if_pos h]
    rw [ep]
    go_enter Try.func36, Try.ntmps36
    go_wp2_with (go_at_call 50; refine (canon_any n _).mono ?_; rintro e w' ⟨rfl, rfl⟩)
    go_ret
    exact ⟨rfl, rfl⟩
  · rw [if_neg h] at ha
    have eo := or_top (canon n) (by omega)
    have ep : place n = canon n + 9223372036854775808 := by unfold place; rw [if_neg h]
    rw [ep]
    go_enter Try.func36, Try.ntmps36
    go_wp2_with (go_at_call 50; refine (canon_any n _).mono ?_; rintro e w' ⟨rfl, rfl⟩)
    go_ret
    exact ⟨rfl, rfl⟩

theorem unplace_any (n : Nat) (hn : n < 18446744073709551616) (w : World) :
    Calls Try.prog 57 #[.int .u64 (n : Int)] w fun e w' => e = .returned (.int .u64 (unplace n : Nat)) ∧ w' = w := by
  have ha := and_top n hn
  by_cases h : 9223372036854775808 ≤ n
  · rw [if_pos h] at ha
    have ex := andNot_top n hn
    have ep : unplace n = n % 9223372036854775808 := by unfold unplace; rw [if_pos h]; omega
    rw [ep]
    go_enter Try.func57, Try.ntmps57
    go_wp2
    go_ret
    exact ⟨rfl, rfl⟩
  · rw [if_neg h] at ha
    have ex := not_u64 n hn
    have ep : unplace n = 18446744073709551615 - n := by unfold unplace; rw [if_neg h]
    rw [ep]
    go_enter Try.func57, Try.ntmps57
    go_wp2
    go_ret
    exact ⟨rfl, rfl⟩


theorem back_any (n : Nat) (hn : n < 18446744073709551616) (w : World) :
    Calls Try.prog 53 #[.int .u64 (n : Int)] w fun e w' => e = .returned (.tuple #[.int .u64 (backV n : Nat), .bool (backOk n)]) ∧ w' = w := by
  by_cases h : canon (unplace n) = unplace n
  · have e1 : backV n = unplace n := by unfold backV; rw [if_pos h]
    have e2 : backOk n = true := by unfold backOk; exact decide_eq_true h
    rw [e1, e2]
    go_enter Try.func53, Try.ntmps53
    go_wp2_with (first | (go_at_call 57; refine (unplace_any n hn _).mono ?_; rintro e w' ⟨rfl, rfl⟩) | (go_at_call 50; refine (canon_any (unplace n) _).mono ?_; rintro e w' ⟨rfl, rfl⟩))
    go_ret2
    exact ⟨rfl, rfl⟩
  · have e1 : backV n = 0 := by unfold backV; rw [if_neg h]
    have e2 : backOk n = false := by unfold backOk; exact decide_eq_false h
    rw [e1, e2]
    have hne : ¬ ((canon (unplace n) : Nat) : Int) = ((unplace n : Nat) : Int) := by omega
    go_enter Try.func53, Try.ntmps53
    go_wp2_with (first | (go_at_call 57; refine (unplace_any n hn _).mono ?_; rintro e w' ⟨rfl, rfl⟩) | (go_at_call 50; refine (canon_any (unplace n) _).mono ?_; rintro e w' ⟨rfl, rfl⟩))
    go_ret2
    exact ⟨rfl, rfl⟩








/-! The same contracts at integers as the walk has them. -/
theorem canon_i (x : Int) (hx : 0 ≤ x) (w : World) :
    Calls Try.prog 50 #[.int .u64 x] w fun e w' => e = .returned (.int .u64 (canon x.toNat : Nat)) ∧ w' = w := by
  obtain ⟨n, rfl⟩ := Int.eq_ofNat_of_zero_le hx
  exact canon_any n w

end Go.Proofs.Ytgaidhalkianfaa
