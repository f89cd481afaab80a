/-
  The contracts of the document's own Of and Int: the float nearest to any number of int64, and the whole number that any float is.
-/
import Derived.Test.YtmoaadaelhakjaaOfC
import Derived.Test.YtmoaadaelhakjaaRIntM
namespace Go.Proofs.Ytmoaadaelhakjaa
open Go.RowKit Num

theorem refOf_any (n : Int) (h1 : -9223372036854775808 ≤ n) (h2 : n ≤ 9223372036854775807) (w : World) :
    Calls Try.prog 23 #[.int .i64 n] w fun e w' => e = .returned (.int .u64 (floatOfInt .f64 n : Nat)) ∧ w' = w := by
  rcases (show n = 0 ∨ 0 < n ∨ n < 0 by omega) with rfl | hp | hp
  · have e : floatOfInt .f64 0 = 0 := by decide
    rw [e]
    go_enter Try.func23, Try.ntmps23
    go_wp2
    go_ret
    exact ⟨rfl, rfl⟩
  · obtain ⟨u, rfl⟩ := Int.eq_ofNat_of_zero_le (Int.le_of_lt hp)
    have hl : u.log2 < 64 := (Nat.log2_lt (by omega)).2 (by omega)
    by_cases hd : u.log2 ≤ 52
    · exact refOf_pos_low u (52 - u.log2) (by omega) (by omega) (by omega) w
    · exact refOf_pos_high u (u.log2 - 53) (by omega) (by omega) (by omega) (by omega) w
  · obtain ⟨u, hu⟩ := Int.eq_ofNat_of_zero_le (show 0 ≤ -n by omega)
    obtain rfl : n = -(u : Int) := by omega
    have hl : u.log2 < 64 := (Nat.log2_lt (by omega)).2 (by omega)
    by_cases hd : u.log2 ≤ 52
    · exact refOf_neg_low u (52 - u.log2) (by omega) (by omega) (by omega) w
    · exact refOf_neg_high u (u.log2 - 53) (by omega) (by omega) (by omega) (by omega) w

theorem bad_e {e l u : Nat} (h1 : l ≤ e) (h2 : e < u) (hl : 1023 ≤ l) (hu : u ≤ 2047) (hb : (e : Int) < 1023 ∨ ((e : Int) == 2047) = true) : False := by
  rw [beq_iff_eq] at hb
  omega
theorem refInt_no (n : Nat) (h : intOk n = false) (w : World) (hc : Calls Try.prog 21 #[.int .u64 (n : Int)] w fun e w' => e = .returned (.tuple #[.int .i64 0, .bool false]) ∧ w' = w) :
    Calls Try.prog 21 #[.int .u64 (n : Int)] w fun e w' => e = .returned (.tuple #[.int .i64 (intNum n), .bool (intOk n)]) ∧ w' = w := by
  rw [intNum_no n h, h]
  exact hc
theorem refInt_yes (n : Nat) (k : Int) (h : intOk n = true) (h2 : intNum n = k) (w : World) (hc : Calls Try.prog 21 #[.int .u64 (n : Int)] w fun e w' => e = .returned (.tuple #[.int .i64 k, .bool true]) ∧ w' = w) :
    Calls Try.prog 21 #[.int .u64 (n : Int)] w fun e w' => e = .returned (.tuple #[.int .i64 (intNum n), .bool (intOk n)]) ∧ w' = w := by
  rw [h2, h]
  exact hc

theorem refInt_mid (n c e m P Q r q : Nat) (hn : n < 18446744073709551616) (hc : canon n = c) (hc0 : ((c : Int) == 0) = false) (he1 : 1023 ≤ e) (he2 : e < 1075) (hq : q < 9007199254740992)
    (f1 : bits .and .u64 ((c : Int) / 4503599627370496) 2047 = (e : Int)) (f2 : bits .or .u64 (bits .and .u64 (c : Int) 4503599627370495) 4503599627370496 = (m : Int))
    (f3 : IntKind.u64.wrap (2 ^ (52 - (e - 1023))) = (P : Int)) (f4 : IntKind.u64.wrap ((P : Int) - 1) = (Q : Int)) (f5 : bits .and .u64 (m : Int) (Q : Int) = (r : Int)) (f6 : (m : Int) / 2 ^ (52 - (e - 1023)) = (q : Int)) (s : Bool) (f7 : (bits .and .u64 (c : Int) 9223372036854775808 != 0) = s) (w : World) :
    Calls Try.prog 21 #[.int .u64 (n : Int)] w fun e w' => e = .returned (if r = 0 then .tuple #[.int .i64 (if s then -(q : Int) else q), .bool true] else .tuple #[.int .i64 0, .bool false]) ∧ w' = w := by
  by_cases hr : r = 0
  · subst hr
    have f5' : bits .and .u64 (m : Int) (Q : Int) = 0 := f5
    clear f5
    cases s
    · go_enter Try.func21, Try.ntmps21
      go_wp2_with (go_at_call 10; refine (refCanon_any n hn _).mono ?_; rintro e w' ⟨rfl, rfl⟩; rw [hc])
      all_goals first | exact (bad_e he1 he2 (by decide) (by decide) (by assumption)).elim | (go_ret2; exact ⟨rfl, rfl⟩)
    · go_enter Try.func21, Try.ntmps21
      go_wp2_with (go_at_call 10; refine (refCanon_any n hn _).mono ?_; rintro e w' ⟨rfl, rfl⟩; rw [hc])
      all_goals first | exact (bad_e he1 he2 (by decide) (by decide) (by assumption)).elim | (go_ret2; exact ⟨rfl, rfl⟩)
  · have g2 : ((r : Int) != 0) = true := by rw [bne_iff_ne]; omega
    go_enter Try.func21, Try.ntmps21
    go_wp2_with (go_at_call 10; refine (refCanon_any n hn _).mono ?_; rintro e w' ⟨rfl, rfl⟩; rw [hc])
    all_goals first | exact (bad_e he1 he2 (by decide) (by decide) (by assumption)).elim | (go_ret2; exact ⟨rfl, rfl⟩)

theorem refInt_high (n c e m q : Nat) (hn : n < 18446744073709551616) (hc : canon n = c) (hc0 : ((c : Int) == 0) = false) (he1 : 1075 ≤ e) (he2 : e < 1086) (hq : q < 9223372036854775808)
    (f1 : bits .and .u64 ((c : Int) / 4503599627370496) 2047 = (e : Int)) (f2 : bits .or .u64 (bits .and .u64 (c : Int) 4503599627370495) 4503599627370496 = (m : Int))
    (f3 : IntKind.u64.wrap ((m : Int) * 2 ^ (e - 1023 - 52)) = (q : Int)) (s : Bool) (f7 : (bits .and .u64 (c : Int) 9223372036854775808 != 0) = s) (w : World) :
    Calls Try.prog 21 #[.int .u64 (n : Int)] w fun e w' => e = .returned (.tuple #[.int .i64 (if s then -(q : Int) else q), .bool true]) ∧ w' = w := by
  cases s
  · go_enter Try.func21, Try.ntmps21
    go_wp2_with (go_at_call 10; refine (refCanon_any n hn _).mono ?_; rintro e w' ⟨rfl, rfl⟩; rw [hc])
    all_goals first | exact (bad_e he1 he2 (by decide) (by decide) (by assumption)).elim | (go_ret2; exact ⟨rfl, rfl⟩)
  · go_enter Try.func21, Try.ntmps21
    go_wp2_with (go_at_call 10; refine (refCanon_any n hn _).mono ?_; rintro e w' ⟨rfl, rfl⟩; rw [hc])
    all_goals first | exact (bad_e he1 he2 (by decide) (by decide) (by assumption)).elim | (go_ret2; exact ⟨rfl, rfl⟩)

theorem refInt_any (n : Nat) (hn : n < 18446744073709551616) (w : World) :
    Calls Try.prog 21 #[.int .u64 (n : Int)] w fun e w' => e = .returned (.tuple #[.int .i64 (intNum n), .bool (intOk n)]) ∧ w' = w := by
  by_cases hnan : 9218868437227405312 < n % 9223372036854775808
  · refine refInt_no n (decide_eq_false (fun hh => by omega)) w ?_
    have hc := canon_isnan n hnan
    have f1 : bits .and .u64 (9221120237041090560 / 4503599627370496) 2047 = 2047 := by decide
    have f1' : bits .and .u64 2047 2047 = 2047 := by decide
    go_enter Try.func21, Try.ntmps21
    go_wp2_with (go_at_call 10; refine (refCanon_any n hn _).mono ?_; rintro e w' ⟨rfl, rfl⟩; rw [hc])
    go_ret2
    exact ⟨rfl, rfl⟩
  · by_cases h0 : n % 9223372036854775808 = 0
    · have hm : mag n = 0 * U := by
        rw [Nat.zero_mul]
        exact (mag_zero n (by omega)).2 h0
      have hv : val n = 0 * U := by
        rw [val_of_sgn n 0 hm]
        cases sgn n <;> rfl
      obtain ⟨a, b⟩ := int_whole n 0 (by omega) hv (by decide) (by decide)
      refine refInt_yes n 0 a b w ?_
      have hc : canon n = 0 := by rw [canon_word n hnan, if_pos h0]
      clear hm hv a b
      go_enter Try.func21, Try.ntmps21
      go_wp2_with (go_at_call 10; refine (refCanon_any n hn _).mono ?_; rintro e w' ⟨rfl, rfl⟩; rw [hc])
      go_ret2
      exact ⟨rfl, rfl⟩
    · have hc : canon n = n := by rw [canon_word n hnan, if_neg h0]
      have hc0 : ((n : Int) == 0) = false := by rw [beq_eq_false_iff_ne]; omega
      have f1 := field_e n hn
      have ff := field_f n hn
      have fm := field_m (n % 9223372036854775808 % 4503599627370496) (by omega)
      rw [← ff] at fm
      have hsg : (bits .and .u64 (n : Int) 9223372036854775808 != 0) = sgn n := by
        rw [and_top n hn]
        unfold sgn
        by_cases h : 9223372036854775808 ≤ n
        · rw [if_pos h, show n / 9223372036854775808 = 1 by omega]; rfl
        · rw [if_neg h, show n / 9223372036854775808 = 0 by omega]; rfl
      by_cases he1 : n % 9223372036854775808 / 4503599627370496 < 1023
      · refine refInt_no n (int_small n h0 he1) w ?_
        obtain ⟨e, he⟩ : ∃ e, n % 9223372036854775808 / 4503599627370496 = e := ⟨_, rfl⟩
        rw [he] at f1 he1
        clear ff fm hsg he h0 hnan
        go_enter Try.func21, Try.ntmps21
        go_wp2_with (go_at_call 10; refine (refCanon_any n hn _).mono ?_; rintro e w' ⟨rfl, rfl⟩; rw [hc])
        go_ret2
        exact ⟨rfl, rfl⟩
      · by_cases hinf : n % 9223372036854775808 = 9218868437227405312
        · refine refInt_no n (decide_eq_false (fun hh => by omega)) w ?_
          have f1' : bits .and .u64 ((n : Int) / 4503599627370496) 2047 = 2047 := by rw [f1, hinf]; rfl
          clear f1 ff fm hsg h0 hnan hinf he1
          go_enter Try.func21, Try.ntmps21
          go_wp2_with (go_at_call 10; refine (refCanon_any n hn _).mono ?_; rintro e w' ⟨rfl, rfl⟩; rw [hc])
          go_ret2
          exact ⟨rfl, rfl⟩
        · by_cases he2 : n % 9223372036854775808 / 4503599627370496 < 1075
          · have hk := int_mid n (52 - (n % 9223372036854775808 / 4503599627370496 - 1023)) (by omega) (by omega) (by omega)
            obtain ⟨d, hd⟩ : ∃ d, 52 - (n % 9223372036854775808 / 4503599627370496 - 1023) = d := ⟨_, rfl⟩
            have hd2 : d ≤ 52 := by omega
            have hp : (2 : Nat) ^ d ≤ 4503599627370496 := Nat.pow_le_pow_right (n := 2) (by decide) hd2
            have hp0 : 0 < (2 : Nat) ^ d := Nat.two_pow_pos d
            have hml : 4503599627370496 + n % 9223372036854775808 % 4503599627370496 < 9007199254740992 := by omega
            have f3 : IntKind.u64.wrap (2 ^ d) = ((2 ^ d : Nat) : Int) := by
              rw [show ((2 : Int) ^ d) = ((2 ^ d : Nat) : Int) by rw [Int.natCast_pow]; rfl, IntKind.wrap_u64]
              omega
            have f4 : IntKind.u64.wrap (((2 ^ d : Nat) : Int) - 1) = ((2 ^ d - 1 : Nat) : Int) := by
              rw [IntKind.wrap_u64]
              omega
            have f5 := u64_and_nat (4503599627370496 + n % 9223372036854775808 % 4503599627370496) (2 ^ d - 1) (by omega) (by omega)
            rw [Nat.and_two_pow_sub_one_eq_mod] at f5
            have f6 : ((4503599627370496 + n % 9223372036854775808 % 4503599627370496 : Nat) : Int) / 2 ^ d = (((4503599627370496 + n % 9223372036854775808 % 4503599627370496) / 2 ^ d : Nat) : Int) := by
              rw [Int.natCast_ediv, Int.natCast_pow]; rfl
            have hq := Nat.lt_of_le_of_lt (Nat.div_le_self (4503599627370496 + n % 9223372036854775808 % 4503599627370496) (2 ^ d)) hml
            rw [hd] at hk
            have hW := refInt_mid n n (n % 9223372036854775808 / 4503599627370496) (4503599627370496 + n % 9223372036854775808 % 4503599627370496) (2 ^ d) (2 ^ d - 1) _ _ hn hc hc0 (by omega) he2 hq f1 fm (by rw [hd]; exact f3) f4 f5 (by rw [hd]; exact f6) (sgn n) hsg w
            split at hk
            · rename_i hz
              refine refInt_yes n _ hk.1 hk.2 w ?_
              rw [hz] at hW
              exact hW
            · rename_i hz
              refine refInt_no n hk w ?_
              rw [if_neg hz] at hW
              exact hW
          · by_cases he3 : n % 9223372036854775808 / 4503599627370496 < 1086
            · obtain ⟨a, b, c⟩ := int_high n (n % 9223372036854775808 / 4503599627370496 - 1023 - 52) (by omega) (by omega)
              refine refInt_yes n _ a b w ?_
              refine refInt_high n n (n % 9223372036854775808 / 4503599627370496) (4503599627370496 + n % 9223372036854775808 % 4503599627370496) _ hn hc hc0 (by omega) he3 c f1 fm ?_ (sgn n) hsg w
              have e2 : ∀ j : Nat, ((2 : Int) ^ j) = ((2 ^ j : Nat) : Int) := fun j => by rw [Int.natCast_pow]; rfl
              rw [e2, ← Int.natCast_mul, IntKind.wrap_u64]
              omega
            · have hk := int_top n (by omega) (by omega)
              have hfr : n % 9223372036854775808 % 4503599627370496 < 4503599627370496 := by omega
              have hel : n % 9223372036854775808 / 4503599627370496 < 2047 := by omega
              obtain ⟨e, he⟩ : ∃ e, n % 9223372036854775808 / 4503599627370496 = e := ⟨_, rfl⟩
              obtain ⟨fr, hfe⟩ : ∃ fr, n % 9223372036854775808 % 4503599627370496 = fr := ⟨_, rfl⟩
              rw [he] at f1 he3 hk hel
              rw [hfe] at fm hk hfr
              obtain ⟨m, hm⟩ : ∃ m, 4503599627370496 + fr = m := ⟨_, rfl⟩
              rw [hm] at fm
              obtain ⟨s, hs⟩ : ∃ s, sgn n = s := ⟨_, rfl⟩
              rw [hs] at hsg hk
              clear ff h0 hnan he1 he2 hinf he hfe hs
              by_cases k1 : e = 1086
              · cases s
                · rw [if_neg (by simp)] at hk
                  refine refInt_no n hk w ?_
                  subst k1
                  clear hm hk he3 hel
                  have f1' : bits .and .u64 ((n : Int) / 4503599627370496) 2047 = 1086 := f1
                  clear f1
                  go_enter Try.func21, Try.ntmps21
                  go_wp2_with (go_at_call 10; refine (refCanon_any n hn _).mono ?_; rintro e w' ⟨rfl, rfl⟩; rw [hc])
                  go_ret2
                  exact ⟨rfl, rfl⟩
                · subst k1
                  have f1' : bits .and .u64 ((n : Int) / 4503599627370496) 2047 = 1086 := f1
                  clear f1
                  by_cases k2 : fr = 0
                  · rw [if_pos ⟨rfl, rfl, k2⟩] at hk
                    refine refInt_yes n _ hk.1 hk.2 w ?_
                    have k3 : ((m : Int) == 4503599627370496) = true := by rw [beq_iff_eq]; omega
                    clear hm hk he3 hel k2
                    go_enter Try.func21, Try.ntmps21
                    go_wp2_with (go_at_call 10; refine (refCanon_any n hn _).mono ?_; rintro e w' ⟨rfl, rfl⟩; rw [hc])
                    go_ret2
                    exact ⟨rfl, rfl⟩
                  · rw [if_neg (fun hh => k2 hh.2.2)] at hk
                    refine refInt_no n hk w ?_
                    have k3 : ((m : Int) == 4503599627370496) = false := by rw [beq_eq_false_iff_ne]; omega
                    clear hm hk he3 hel k2
                    go_enter Try.func21, Try.ntmps21
                    go_wp2_with (go_at_call 10; refine (refCanon_any n hn _).mono ?_; rintro e w' ⟨rfl, rfl⟩; rw [hc])
                    go_ret2
                    exact ⟨rfl, rfl⟩
              · rw [if_neg (fun hh => k1 hh.1)] at hk
                refine refInt_no n hk w ?_
                have k4 : ((e : Int) - 1023 == 63) = false := by rw [beq_eq_false_iff_ne]; omega
                have he4 : 1023 ≤ e := by omega
                have he5 : ¬ (e : Int) < 1086 := by omega
                clear hm hk k1
                go_enter Try.func21, Try.ntmps21
                go_wp2_with (go_at_call 10; refine (refCanon_any n hn _).mono ?_; rintro e w' ⟨rfl, rfl⟩; rw [hc])
                all_goals first | exact (bad_e he4 hel (by decide) (by decide) (by assumption)).elim | (go_ret2; exact ⟨rfl, rfl⟩)
end Go.Proofs.Ytmoaadaelhakjaa
