/-
  The contract of flo.Int: for every word it tells the whole number that the float is, if it is one and an int64, else 0 and false.
-/
import Derived.Test.YtmoaadaelhakjaaFlo
import Derived.Test.YtmoaadaelhakjaaIntM
namespace Go.Proofs.Ytmoaadaelhakjaa
open Go.RowKit Num

theorem int_no (n : Nat) (h : intOk n = false) (P : Ending → World → Prop) (w : World) (hc : Calls Try.prog 20 #[.int .u64 (n : Int)] w fun e w' => e = .returned (.tuple #[.int .i64 0, .bool false]) ∧ w' = w) (hP : ∀ e w', e = .returned (.tuple #[.int .i64 (intNum n), .bool (intOk n)]) ∧ w' = w → P e w') :
    Calls Try.prog 20 #[.int .u64 (n : Int)] w P := by
  rw [intNum_no n h, h] at hP
  exact hc.mono hP

theorem int_any (n : Nat) (w : World) :
    Calls Try.prog 20 #[.int .u64 (n : Int)] w fun e w' => e = .returned (.tuple #[.int .i64 (intNum n), .bool (intOk n)]) ∧ w' = w := by
  have f1 := frombits_run n
  by_cases h1 : 9218868437227405312 < n % 9223372036854775808
  · refine int_no n (decide_eq_false (fun hh => by omega)) _ w ?_ (fun _ _ hh => hh)
    go_enter Try.func20, Try.ntmps20
    go_wp2_with (go_at_call 25; refine (isNaN_any n _).mono ?_; rintro e w' ⟨rfl, rfl⟩)
    go_ret2
    exact ⟨rfl, rfl⟩
  · by_cases h2 : n % 9223372036854775808 = 9218868437227405312
    · refine int_no n (decide_eq_false (fun hh => by omega)) _ w ?_ (fun _ _ hh => hh)
      have hr := read_inf n h2
      have ra : Ieee.double.read 14114281232179134464 = .number true 4503599627370496 11 := by decide
      have rb : Ieee.double.read 4890909195324358656 = .number false 4503599627370496 11 := by decide
      have o1 : FloatKind.f64.format.order n 14114281232179134464 = if sgn n then some .lt else some .gt := by
        show (Ieee.double.read n).order (Ieee.double.read 14114281232179134464) = _
        rw [hr, ra]
        cases sgn n <;> rfl
      have o2 : FloatKind.f64.format.order n 4890909195324358656 = if sgn n then some .lt else some .gt := by
        show (Ieee.double.read n).order (Ieee.double.read 4890909195324358656) = _
        rw [hr, rb]
        cases sgn n <;> rfl
      cases hs : sgn n
      · rw [hs] at o1 o2
        simp only [Bool.false_eq_true, if_false] at o1 o2
        go_enter Try.func20, Try.ntmps20
        go_wp2_with (go_at_call 25; refine (isNaN_any n _).mono ?_; rintro e w' ⟨rfl, rfl⟩)
        go_ret2
        exact ⟨rfl, rfl⟩
      · rw [hs] at o1 o2
        simp only [if_true] at o1 o2
        go_enter Try.func20, Try.ntmps20
        go_wp2_with (go_at_call 25; refine (isNaN_any n _).mono ?_; rintro e w' ⟨rfl, rfl⟩)
        go_ret2
        exact ⟨rfl, rfl⟩
    · have h3 : n % 9223372036854775808 < 9218868437227405312 := by omega
      have g1 : (FloatKind.f64.format.order n 14114281232179134464 == some .lt) = decide (val n < -9223372036854775808 * (U : Int)) := order_low63 n h3
      have g2 : (FloatKind.f64.format.order n 4890909195324358656 == some .gt) = decide (9223372036854775808 * (U : Int) < val n) := order_top63_gt n h3
      have g3 : (FloatKind.f64.format.order n 4890909195324358656 == some .eq) = decide (val n = 9223372036854775808 * (U : Int)) := order_top63_eq n h3
      have g5 : (FloatKind.f64.format.order n (truncBits n) != some .eq) = !decide (val n % (U : Int) = 0) := trunc_eq n h3
      by_cases k1 : val n < -9223372036854775808 * (U : Int)
      · rw [decide_eq_true k1] at g1
        refine int_no n (decide_eq_false (fun hh => by omega)) _ w ?_ (fun _ _ hh => hh)
        clear g2 g3 g5
        go_enter Try.func20, Try.ntmps20
        go_wp2_with (go_at_call 25; refine (isNaN_any n _).mono ?_; rintro e w' ⟨rfl, rfl⟩)
        go_ret2
        exact ⟨rfl, rfl⟩
      · rw [decide_eq_false k1] at g1
        by_cases k2 : val n < 9223372036854775808 * (U : Int)
        · have k3 : ¬ 9223372036854775808 * (U : Int) < val n := by omega
          have k4 : ¬ val n = 9223372036854775808 * (U : Int) := by omega
          rw [decide_eq_false k3] at g2
          rw [decide_eq_false k4] at g3
          by_cases k5 : val n % (U : Int) = 0
          · rw [decide_eq_true k5] at g5
            have hok : intOk n = true := decide_eq_true ⟨h3, k5, by omega, k2⟩
            have hcv := conv_int n hok
            have hcon : ∀ src dst w, (Try.prog.underlying src).isSome = true → Try.prog.underlying dst = some (.int .i64) → (convert src dst (.float .f64 n)).run Try.prog w = .ok (.int .i64 (intNum n)) w := fun src dst w hs hd => run_convert_float_int w src dst .f64 .i64 n (intNum n) hs hd hcv
            rw [hok]
            clear hcv k1 k2 k3 k4 k5 h3 h2
            go_enter Try.func20, Try.ntmps20
            go_wp2_with (first | (go_at_call 25; refine (isNaN_any n _).mono ?_; rintro e w' ⟨rfl, rfl⟩) | (go_at_call 31; refine (trunc_any n h1 _).mono ?_; rintro e w' ⟨rfl, rfl⟩; rw [show Ieee.double.write (Ieee.Datum.integral .zero (Ieee.double.read n)) = truncBits n from rfl]))
            go_ret2
            exact ⟨rfl, rfl⟩
          · rw [decide_eq_false k5] at g5
            refine int_no n (decide_eq_false (fun hh => k5 hh.2.1)) _ w ?_ (fun _ _ hh => hh)
            clear k1 k2 k3 k4 k5 h3 h2
            go_enter Try.func20, Try.ntmps20
            go_wp2_with (first | (go_at_call 25; refine (isNaN_any n _).mono ?_; rintro e w' ⟨rfl, rfl⟩) | (go_at_call 31; refine (trunc_any n h1 _).mono ?_; rintro e w' ⟨rfl, rfl⟩; rw [show Ieee.double.write (Ieee.Datum.integral .zero (Ieee.double.read n)) = truncBits n from rfl]))
            go_ret2
            exact ⟨rfl, rfl⟩
        · refine int_no n (decide_eq_false (fun hh => by omega)) _ w ?_ (fun _ _ hh => hh)
          by_cases k4 : val n = 9223372036854775808 * (U : Int)
          · have k3 : ¬ 9223372036854775808 * (U : Int) < val n := by omega
            rw [decide_eq_false k3] at g2
            rw [decide_eq_true k4] at g3
            clear k1 k2 k3 k4 g5
            go_enter Try.func20, Try.ntmps20
            go_wp2_with (go_at_call 25; refine (isNaN_any n _).mono ?_; rintro e w' ⟨rfl, rfl⟩)
            go_ret2
            exact ⟨rfl, rfl⟩
          · have k3 : 9223372036854775808 * (U : Int) < val n := by omega
            rw [decide_eq_true k3] at g2
            clear k1 k2 k3 k4 g5 g3
            go_enter Try.func20, Try.ntmps20
            go_wp2_with (go_at_call 25; refine (isNaN_any n _).mono ?_; rintro e w' ⟨rfl, rfl⟩)
            go_ret2
            exact ⟨rfl, rfl⟩
end Go.Proofs.Ytmoaadaelhakjaa
