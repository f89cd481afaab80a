/-
  Contracts: what each function of package flo, and each of the document's own functions beside it, returns, for every word that it is called with.
-/
import Derived.Test.YtmoaadaelhakjaaRows
import Derived.Test.YtmoaadaelhakjaaNum
import Derived.WalkKit
import Derived.ProofKit
import Derived.WalkSpells
import Derived.WalkLawsBesides
import Derived.Laws.Externs
import Derived.Laws.FloatArith
namespace Go.Proofs.Ytmoaadaelhakjaa
open Go.RowKit Num

theorem frombits_run (n : Nat) (w : World) : (callFunc 24 #[.int .u64 (n : Int)]).run Try.prog w = .ok (.value (.float .f64 n)) w := by
  rw [run_callFunc_extern Try.func24 (by kernel_rfl) (by kernel_rfl) (by kernel_rfl) (e := Extern.MathFloatBits.float64frombits) (by kernel_rfl)]
  rfl
theorem bits_run (n : Nat) (w : World) : (callFunc 27 #[.float .f64 n]).run Try.prog w = .ok (.value (.int .u64 (n : Int))) w := by
  rw [run_callFunc_extern Try.func27 (by kernel_rfl) (by kernel_rfl) (by kernel_rfl) (e := Extern.MathFloatBits.float64bits) (by kernel_rfl)]
  rfl

theorem isNaN_any (n : Nat) (w : World) :
    Calls Try.prog 25 #[.float .f64 n] w fun e w' => e = .returned (.bool (decide (9218868437227405312 < n % 9223372036854775808))) ∧ w' = w := by
  go_enter Try.func25, Try.ntmps25
  go_wp2
  go_ret
  refine ⟨?_, rfl⟩
  have e : FloatKind.f64.format.order n n = if 9218868437227405312 < n % 9223372036854775808 then none else some .eq := order_self n
  rw [e]
  split <;> simp_all

theorem canon_any (n : Nat) (w : World) :
    Calls Try.prog 9 #[.int .u64 (n : Int)] w fun e w' => e = .returned (.int .u64 (canon n : Nat)) ∧ w' = w := by
  have hb := frombits_run n
  by_cases h1 : 9218868437227405312 < n % 9223372036854775808
  · have ec : canon n = 9221120237041090560 := by unfold canon; rw [if_pos h1]
    rw [ec]
    go_enter Try.func9, Try.ntmps9
    go_wp2_with (go_at_call 25; refine (isNaN_any n _).mono ?_; rintro e w' ⟨rfl, rfl⟩)
    go_ret
    exact ⟨rfl, rfl⟩
  · have hz : (FloatKind.f64.format.order n 0 == some .eq) = decide (n % 9223372036854775808 = 0) := order_zero n h1
    by_cases h2 : n % 9223372036854775808 = 0
    · have ec : canon n = 0 := by unfold canon; rw [if_neg h1, if_pos h2]
      rw [ec]
      go_enter Try.func9, Try.ntmps9
      go_wp2_with (go_at_call 25; refine (isNaN_any n _).mono ?_; rintro e w' ⟨rfl, rfl⟩)
      go_ret
      exact ⟨rfl, rfl⟩
    · have ec : canon n = n := by unfold canon; rw [if_neg h1, if_neg h2]
      rw [ec]
      go_enter Try.func9, Try.ntmps9
      go_wp2_with (go_at_call 25; refine (isNaN_any n _).mono ?_; rintro e w' ⟨rfl, rfl⟩)
      go_ret
      exact ⟨rfl, rfl⟩

theorem order_any (n : Nat) (hn : n < 18446744073709551616) (w : World) :
    Calls Try.prog 14 #[.int .u64 (n : Int)] w fun e w' => e = .returned (.int .u64 (place n : Nat)) ∧ w' = w := by
  have hc := canon_lt n hn
  have ha := and_top (canon n) hc
  by_cases h : 9223372036854775808 ≤ canon n
  · rw [if_pos h] at ha
    have ex := not_u64 (canon n) hc
    have ep : place n = 18446744073709551615 - canon n := by unfold place; rw [if_pos h]
    rw [ep]
    go_enter Try.func14, Try.ntmps14
    go_wp2_with (go_at_call 9; refine (canon_any n _).mono ?_; rintro e w' ⟨rfl, rfl⟩)
    go_ret
    exact ⟨rfl, rfl⟩
  · rw [if_neg h] at ha
    have eo := or_top (canon n) (by omega)
    have ep : place n = canon n + 9223372036854775808 := by unfold place; rw [if_neg h]
    rw [ep]
    go_enter Try.func14, Try.ntmps14
    go_wp2_with (go_at_call 9; refine (canon_any n _).mono ?_; rintro e w' ⟨rfl, rfl⟩)
    go_ret
    exact ⟨rfl, rfl⟩

theorem unplace_any (n : Nat) (hn : n < 18446744073709551616) (w : World) :
    Calls Try.prog 26 #[.int .u64 (n : Int)] w fun e w' => e = .returned (.int .u64 (unplace n : Nat)) ∧ w' = w := by
  have ha := and_top n hn
  by_cases h : 9223372036854775808 ≤ n
  · rw [if_pos h] at ha
    have ex := andNot_top n hn
    have ep : unplace n = n % 9223372036854775808 := by unfold unplace; rw [if_pos h]; omega
    rw [ep]
    go_enter Try.func26, Try.ntmps26
    go_wp2
    go_ret
    exact ⟨rfl, rfl⟩
  · rw [if_neg h] at ha
    have ex := not_u64 n hn
    have ep : unplace n = 18446744073709551615 - n := by unfold unplace; rw [if_neg h]
    rw [ep]
    go_enter Try.func26, Try.ntmps26
    go_wp2
    go_ret
    exact ⟨rfl, rfl⟩


theorem back_any (n : Nat) (hn : n < 18446744073709551616) (w : World) :
    Calls Try.prog 12 #[.int .u64 (n : Int)] w fun e w' => e = .returned (.tuple #[.int .u64 (backV n : Nat), .bool (backOk n)]) ∧ w' = w := by
  by_cases h : canon (unplace n) = unplace n
  · have e1 : backV n = unplace n := by unfold backV; rw [if_pos h]
    have e2 : backOk n = true := by unfold backOk; exact decide_eq_true h
    rw [e1, e2]
    go_enter Try.func12, Try.ntmps12
    go_wp2_with (first | (go_at_call 26; refine (unplace_any n hn _).mono ?_; rintro e w' ⟨rfl, rfl⟩) | (go_at_call 9; refine (canon_any (unplace n) _).mono ?_; rintro e w' ⟨rfl, rfl⟩))
    go_ret2
    exact ⟨rfl, rfl⟩
  · have e1 : backV n = 0 := by unfold backV; rw [if_neg h]
    have e2 : backOk n = false := by unfold backOk; exact decide_eq_false h
    rw [e1, e2]
    have hne : ¬ ((canon (unplace n) : Nat) : Int) = ((unplace n : Nat) : Int) := by omega
    go_enter Try.func12, Try.ntmps12
    go_wp2_with (first | (go_at_call 26; refine (unplace_any n hn _).mono ?_; rintro e w' ⟨rfl, rfl⟩) | (go_at_call 9; refine (canon_any (unplace n) _).mono ?_; rintro e w' ⟨rfl, rfl⟩))
    go_ret2
    exact ⟨rfl, rfl⟩

theorem cmp_any (a b : Nat) (ha : a < 18446744073709551616) (hb : b < 18446744073709551616) (w : World) :
    Calls Try.prog 16 #[.int .u64 (a : Int), .int .u64 (b : Int)] w fun e w' => e = .returned (.int .i64 (cmp a b)) ∧ w' = w := by
  by_cases h1 : place a < place b
  · have ec : cmp a b = -1 := by unfold cmp; rw [if_pos h1]
    rw [ec]
    go_enter Try.func16, Try.ntmps16
    go_wp2_with (go_at_call 14; refine (order_any _ (by assumption) _).mono ?_; rintro e w' ⟨rfl, rfl⟩)
    go_ret
    exact ⟨rfl, rfl⟩
  · by_cases h2 : place b < place a
    · have ec : cmp a b = 1 := by unfold cmp; rw [if_neg h1, if_pos h2]
      rw [ec]
      go_enter Try.func16, Try.ntmps16
      go_wp2_with (go_at_call 14; refine (order_any _ (by assumption) _).mono ?_; rintro e w' ⟨rfl, rfl⟩)
      go_ret
      exact ⟨rfl, rfl⟩
    · have ec : cmp a b = 0 := by unfold cmp; rw [if_neg h1, if_neg h2]
      rw [ec]
      go_enter Try.func16, Try.ntmps16
      go_wp2_with (go_at_call 14; refine (order_any _ (by assumption) _).mono ?_; rintro e w' ⟨rfl, rfl⟩)
      go_ret
      exact ⟨rfl, rfl⟩

theorem sum_any (a b : Nat) (W w : World) (hg : Grown W w) :
    Calls Try.prog 18 #[.int .u64 (a : Int), .int .u64 (b : Int)] w fun e w' => e = .returned (.int .u64 (canon (fadd a b) : Nat)) ∧ Grown W w' := by
  have f1 := frombits_run a
  have f2 := frombits_run b
  have f3 := bits_run
  cases h : Ieee.double.add a b with
  | some r =>
    have hr : floatBits .add .f64 a b = some r := h
    have ha : ∀ t w, (binOp .add t (.float .f64 a) (.float .f64 b)).run Try.prog w = .ok (.float .f64 r) w := fun t w => run_float_arith w .add t .f64 a b r hr
    have ef : fadd a b = r := by unfold fadd; rw [h]
    rw [ef]
    go_enter Try.func18, Try.ntmps18
    go_wp2_with (go_at_call 9; refine (canon_any r _).mono ?_; rintro e w' ⟨rfl, rfl⟩)
    go_ret
    exact ⟨rfl, hg⟩
  | none =>
    have ha : ∀ t w, (binOp .add t (.float .f64 a) (.float .f64 b)).run Try.prog w = .ok (.float .f64 ((Question.nanBits .f64 a b).cut (w.tape w.drawn (Question.nanBits .f64 a b)))) w.drew := by
      intro t w
      have h' : FloatKind.f64.format.add a b = none := h
      simp [binOp, Op.floatArith, h', Question.forced]
    have ef : fadd a b = 9221120237041090560 := by unfold fadd; rw [h]
    have ec : ∀ t, canon ((Question.nanBits .f64 a b).cut t) = 9221120237041090560 := canon_nan
    rw [ef, show canon 9221120237041090560 = 9221120237041090560 by decide]
    go_enter Try.func18, Try.ntmps18
    go_wp2_with (go_at_call 9; refine (canon_any _ _).mono ?_; rintro e w' ⟨rfl, rfl⟩)
    go_ret
    exact ⟨rfl, hg.drew⟩

theorem of_any (n : Int) (w : World) :
    Calls Try.prog 22 #[.int .i64 n] w fun e w' => e = .returned (.int .u64 (floatOfInt .f64 n : Nat)) ∧ w' = w := by
  have f3 := bits_run
  go_enter Try.func22, Try.ntmps22
  go_wp2
  go_ret
  exact ⟨rfl, rfl⟩

theorem archTrunc_run (n : Nat) (hn : ¬ 9218868437227405312 < n % 9223372036854775808) (w : World) :
    (callFunc 32 #[.float .f64 n]).run Try.prog w = .ok (.value (.float .f64 (Ieee.double.write ((Ieee.double.read n).integral .zero)))) w := by
  rw [run_callFunc_extern Try.func32 (by kernel_rfl) (by kernel_rfl) (by kernel_rfl) (e := Extern.MathFloor.toIntegral "math.archTrunc" .zero) (by kernel_rfl)]
  have nn : ∀ s t, Ieee.double.read n ≠ .nan s t := by
    intro s t
    rw [read_double]
    split
    · simp
    · split
      · simp
      · split
        · simp
        · omega
  have k : ∀ (h1 : Nat → Sem Value) (h2 : Array Value → Sem Value), Extern.MathFloor.toIntegral.match_2 (fun _ => Sem Value) #[.float .f64 n] h1 h2 = h1 n := fun _ _ => rfl
  cases hd : Ieee.double.read n with
  | nan s t => exact absurd hd (nn s t)
  | number s m i =>
    have hd' : FloatKind.f64.decode n = .number s m i := hd
    delta Extern.MathFloor.toIntegral
    rw [k, hd']
    rfl
  | infinity s =>
    have hd' : FloatKind.f64.decode n = .infinity s := hd
    delta Extern.MathFloor.toIntegral
    rw [k, hd']
    rfl

theorem trunc_any (n : Nat) (hn : ¬ 9218868437227405312 < n % 9223372036854775808) (w : World) :
    Calls Try.prog 31 #[.float .f64 n] w fun e w' => e = .returned (.float .f64 (Ieee.double.write ((Ieee.double.read n).integral .zero))) ∧ w' = w := by
  have ha := archTrunc_run n hn
  go_enter Try.func31, Try.ntmps31
  go_wp2
  go_ret
  exact ⟨rfl, rfl⟩

/-- Int of 0.5: false (the document's example). -/
theorem int_half (w : World) :
    Calls Try.prog 20 #[.int .u64 4602678819172646912] w fun e w' => e = .returned (.tuple #[.int .i64 0, .bool false]) ∧ w' = w := by
  have f1 : ∀ w, (callFunc 24 #[.int .u64 4602678819172646912]).run Try.prog w = .ok (.value (.float .f64 4602678819172646912)) w := frombits_run 4602678819172646912
  have g1 : (FloatKind.f64.format.order 4602678819172646912 14114281232179134464 == some .lt) = false := by decide +kernel
  have g2 : (FloatKind.f64.format.order 4602678819172646912 4890909195324358656 == some .gt) = false := by decide +kernel
  have g3 : (FloatKind.f64.format.order 4602678819172646912 4890909195324358656 == some .eq) = false := by decide +kernel
  have g4 : Ieee.double.write ((Ieee.double.read 4602678819172646912).integral .zero) = 0 := by decide +kernel
  have g5 : (FloatKind.f64.format.order 4602678819172646912 0 != some .eq) = true := by decide +kernel
  go_enter Try.func20, Try.ntmps20
  go_wp2_with (first | (go_at_call 25; refine (isNaN_any 4602678819172646912 _).mono ?_; rintro e w' ⟨rfl, rfl⟩) | (go_at_call 31; refine (trunc_any 4602678819172646912 (by decide) _).mono ?_; rintro e w' ⟨rfl, rfl⟩; rw [g4]))
  go_ret2
  exact ⟨rfl, rfl⟩

/-- The document's examples. -/
theorem awake_any (W w : World) (hg : Grown W w) :
    Calls Try.prog 11 #[] w fun e w' => e = .returned (.bool true) ∧ Grown W w' := by
  have e1 : place 4607182418800017408 = 13830554455654793216 := by decide
  have e2 : canon (fadd 9218868437227405312 18442240474082181120) = 9221120237041090560 := by decide +kernel
  have e3 : floatOfInt .f64 9007199254740993 = 4845873199050653696 := by decide +kernel
  go_enter Try.func11, Try.ntmps11
  go_wp2_with (first | (go_at_call 20; refine (int_half _).mono ?_; rintro e w' ⟨rfl, rfl⟩) | (go_at_call 14; refine (order_any 4607182418800017408 (by decide) _).mono ?_; rintro e w' ⟨rfl, rfl⟩; rw [e1]) | (go_at_call 18; refine (sum_any 9218868437227405312 18442240474082181120 W _ (by assumption)).mono ?_; rintro e w' ⟨rfl, hg'⟩; rw [e2]) | (go_at_call 22; refine (of_any 9007199254740993 _).mono ?_; rintro e w' ⟨rfl, rfl⟩; rw [e3]))
  go_ret
  exact ⟨rfl, by assumption⟩

/-! The same contracts at integers as the walk has them. -/
theorem canon_i (x : Int) (hx : 0 ≤ x) (w : World) :
    Calls Try.prog 9 #[.int .u64 x] w fun e w' => e = .returned (.int .u64 (canon x.toNat : Nat)) ∧ w' = w := by
  obtain ⟨n, rfl⟩ := Int.eq_ofNat_of_zero_le hx
  exact canon_any n w
theorem cmp_i (x y : Int) (hx : 0 ≤ x ∧ x < 18446744073709551616) (hy : 0 ≤ y ∧ y < 18446744073709551616) (w : World) :
    Calls Try.prog 16 #[.int .u64 x, .int .u64 y] w fun e w' => e = .returned (.int .i64 (cmp x.toNat y.toNat)) ∧ w' = w := by
  obtain ⟨a, rfl⟩ := Int.eq_ofNat_of_zero_le hx.1
  obtain ⟨b, rfl⟩ := Int.eq_ofNat_of_zero_le hy.1
  exact cmp_any a b (by omega) (by omega) w
theorem sum_i (x y : Int) (hx : 0 ≤ x) (hy : 0 ≤ y) (W w : World) (hg : Grown W w) :
    Calls Try.prog 18 #[.int .u64 x, .int .u64 y] w fun e w' => e = .returned (.int .u64 (canon (fadd x.toNat y.toNat) : Nat)) ∧ Grown W w' := by
  obtain ⟨a, rfl⟩ := Int.eq_ofNat_of_zero_le hx
  obtain ⟨b, rfl⟩ := Int.eq_ofNat_of_zero_le hy
  exact sum_any a b W w hg
end Go.Proofs.Ytmoaadaelhakjaa
