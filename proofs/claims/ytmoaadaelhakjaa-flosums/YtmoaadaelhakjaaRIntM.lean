/-
  Which floats are whole numbers of int64, told by a float's exponent and fraction. No program is named here.
-/
import Derived.Test.YtmoaadaelhakjaaOfM
namespace Go.Proofs.Ytmoaadaelhakjaa.Num

theorem mag_parts (n : Nat) (h : 4503599627370496 ≤ n % 9223372036854775808) : mag n = (4503599627370496 + n % 9223372036854775808 % 4503599627370496) * 2 ^ (n % 9223372036854775808 / 4503599627370496 - 1) := by
  unfold mag
  rw [if_neg (by omega)]

theorem not_whole (n : Nat) (h2 : ¬ mag n / U * U = mag n) : intOk n = false := by
  refine decide_eq_false ?_
  rintro ⟨_, h, _⟩
  exact h2 ((val_div n).1 h)

theorem int_small (n : Nat) (h0 : n % 9223372036854775808 ≠ 0) (h : n % 9223372036854775808 / 4503599627370496 < 1023) : intOk n = false := by
  have hf : n % 9223372036854775808 < 9218868437227405312 := by omega
  have hp : 0 < mag n := by
    have := mag_zero n hf
    omega
  refine not_whole n ?_
  have hlt : mag n < U := by
    obtain ⟨J, hJ, hU⟩ : ∃ J, J = 1021 ∧ U = 9007199254740992 * 2 ^ J := by
      refine ⟨E - 53, by decide, ?_⟩
      have h := U_split (E - 53) (by decide)
      rw [show 1074 - (E - 53) = 53 by decide, show (2 : Nat) ^ 53 = 9007199254740992 by decide] at h
      exact h
    by_cases hs : n % 9223372036854775808 < 4503599627370496
    · have e : mag n = n % 9223372036854775808 := by unfold mag; rw [if_pos hs]
      have h2 : 0 < (2 : Nat) ^ J := Nat.two_pow_pos _
      rw [hU, e]
      have := Nat.mul_le_mul_left 9007199254740992 h2
      omega
    · rw [mag_parts n (by omega), hU]
      refine Nat.lt_of_lt_of_le (Nat.mul_lt_mul_of_pos_right (show _ < 9007199254740992 by omega) (Nat.two_pow_pos _)) ?_
      exact Nat.mul_le_mul_left _ (Nat.pow_le_pow_right (by decide) (by omega))
  rw [Nat.div_eq_of_lt hlt]
  omega

theorem val_of_sgn (n : Nat) (k : Nat) (h : mag n = k * U) : val n = (if sgn n then -(k : Int) else (k : Int)) * U := by
  unfold val
  rw [h, Int.natCast_mul]
  cases sgn n
  · simp only [Bool.false_eq_true, if_false]
  · simp only [if_true]
    rw [Int.neg_mul]

theorem sign_bounds (s : Bool) (k : Nat) (h : k < 9223372036854775808) : -9223372036854775808 ≤ (if s then -(k : Int) else (k : Int)) ∧ (if s then -(k : Int) else (k : Int)) < 9223372036854775808 := by
  cases s <;> simp <;> omega

theorem int_mid (n d : Nat) (h1 : 4607182418800017408 ≤ n % 9223372036854775808) (hd : d + n % 9223372036854775808 / 4503599627370496 = 1075) (hd1 : 1 ≤ d) :
    if (4503599627370496 + n % 9223372036854775808 % 4503599627370496) % 2 ^ d = 0 then intOk n = true ∧ intNum n = if sgn n then -(((4503599627370496 + n % 9223372036854775808 % 4503599627370496) / 2 ^ d : Nat) : Int) else (((4503599627370496 + n % 9223372036854775808 % 4503599627370496) / 2 ^ d : Nat) : Int) else intOk n = false := by
  have hm := mag_parts n (by omega)
  have hU : U = 2 ^ d * 2 ^ (n % 9223372036854775808 / 4503599627370496 - 1) := by
    have := U_split (n % 9223372036854775808 / 4503599627370496 - 1) (by omega)
    rw [this, show 1074 - (n % 9223372036854775808 / 4503599627370496 - 1) = d by omega]
  have hk : (4503599627370496 + n % 9223372036854775808 % 4503599627370496) / 2 ^ d ≤ 4503599627370496 + n % 9223372036854775808 % 4503599627370496 := Nat.div_le_self _ _
  have hm0 : 0 < mag n := by
    have := mag_zero n (by omega)
    omega
  have hlt : 4503599627370496 + n % 9223372036854775808 % 4503599627370496 < 9007199254740992 := by omega
  generalize 4503599627370496 + n % 9223372036854775808 % 4503599627370496 = m at *
  have hfin : n % 9223372036854775808 < 9218868437227405312 := by omega
  generalize n % 9223372036854775808 / 4503599627370496 - 1 = k at *
  split
  · rename_i hz
    have e : mag n = m / 2 ^ d * U := by
      rw [hm, hU, ← Nat.mul_assoc, Nat.div_mul_cancel (Nat.dvd_of_mod_eq_zero hz)]
    have hsb := sign_bounds (sgn n) (m / 2 ^ d) (by omega)
    exact int_whole n _ hfin (val_of_sgn n _ e) hsb.1 hsb.2
  · rename_i hz
    refine not_whole n ?_
    intro h
    apply hz
    have e1 : mag n / U = m / 2 ^ d := by
      rw [hm, hU, Nat.mul_div_mul_right _ _ (Nat.two_pow_pos k)]
    rw [e1, hm, hU, ← Nat.mul_assoc] at h
    have h2 := Nat.eq_of_mul_eq_mul_right (Nat.two_pow_pos k) h
    exact Nat.mod_eq_zero_of_dvd ⟨m / 2 ^ d, by rw [Nat.mul_comm]; exact h2.symm⟩

theorem int_high (n j : Nat) (hj : n % 9223372036854775808 / 4503599627370496 = j + 1075) (hj2 : j ≤ 10) :
    intOk n = true ∧ (intNum n = if sgn n then -(((4503599627370496 + n % 9223372036854775808 % 4503599627370496) * 2 ^ j : Nat) : Int) else (((4503599627370496 + n % 9223372036854775808 % 4503599627370496) * 2 ^ j : Nat) : Int)) ∧ (4503599627370496 + n % 9223372036854775808 % 4503599627370496) * 2 ^ j < 9223372036854775808 := by
  have hm := mag_parts n (by omega)
  rw [hj, show j + 1075 - 1 = j + 1074 by omega, pow_split (j + 1074) (by omega), show j + 1074 - 1074 = j by omega, ← Nat.mul_assoc] at hm
  have hlt : 4503599627370496 + n % 9223372036854775808 % 4503599627370496 < 9007199254740992 := by omega
  have hfin : n % 9223372036854775808 < 9218868437227405312 := by omega
  generalize 4503599627370496 + n % 9223372036854775808 % 4503599627370496 = m at *
  have hp : (2 : Nat) ^ j ≤ 1024 := Nat.pow_le_pow_right (n := 2) (by decide) hj2
  have hp0 : 0 < (2 : Nat) ^ j := Nat.two_pow_pos j
  have hb : m * 2 ^ j < 9223372036854775808 := by
    have h1 := Nat.mul_lt_mul_of_pos_right hlt hp0
    have h2 := Nat.mul_le_mul_left 9007199254740992 hp
    omega
  have hsb := sign_bounds (sgn n) (m * 2 ^ j) hb
  obtain ⟨a, b⟩ := int_whole n _ hfin (val_of_sgn n _ hm) hsb.1 hsb.2
  exact ⟨a, b, hb⟩

theorem int_top (n : Nat) (he : 1086 ≤ n % 9223372036854775808 / 4503599627370496) (hf : n % 9223372036854775808 < 9218868437227405312) :
    if n % 9223372036854775808 / 4503599627370496 = 1086 ∧ sgn n = true ∧ n % 9223372036854775808 % 4503599627370496 = 0 then intOk n = true ∧ intNum n = -9223372036854775808 else intOk n = false := by
  have hm := mag_parts n (by omega)
  have hU := U_pos
  split
  · rename_i h
    obtain ⟨h1, h2, h3⟩ := h
    have e : mag n = 9223372036854775808 * U := by
      rw [hm, h1, h3, show 1086 - 1 = 1085 from rfl, pow_split 1085 (by decide), ← Nat.mul_assoc]
    have := int_whole n _ hf (val_of_sgn n _ e) (by rw [h2]; decide) (by rw [h2]; decide)
    rw [h2] at this
    exact this
  · rename_i h
    have e : mag n = (4503599627370496 + n % 9223372036854775808 % 4503599627370496) * 2 ^ (n % 9223372036854775808 / 4503599627370496 - 1 - 1074) * U := by
      rw [hm, pow_split (n % 9223372036854775808 / 4503599627370496 - 1) (by omega), ← Nat.mul_assoc]
    have hge : 2048 ≤ 2 ^ (n % 9223372036854775808 / 4503599627370496 - 1 - 1074) := by
      have := Nat.pow_le_pow_right (n := 2) (by decide) (show 11 ≤ n % 9223372036854775808 / 4503599627370496 - 1 - 1074 by omega)
      exact this
    have hge2 : n % 9223372036854775808 / 4503599627370496 ≠ 1086 → 4096 ≤ 2 ^ (n % 9223372036854775808 / 4503599627370496 - 1 - 1074) := by
      intro hh
      have := Nat.pow_le_pow_right (n := 2) (by decide) (show 12 ≤ n % 9223372036854775808 / 4503599627370496 - 1 - 1074 by omega)
      exact this
    refine decide_eq_false ?_
    rintro ⟨_, _, g1, g2⟩
    rw [val_of_sgn n _ e] at g1 g2
    have hUi : (0 : Int) < (U : Int) := by omega
    have k1 := Int.le_of_mul_le_mul_right g1 hUi
    have k2 := Int.lt_of_mul_lt_mul_right g2 (Int.le_of_lt hUi)
    generalize n % 9223372036854775808 % 4503599627370496 = fr at *
    generalize 2 ^ (n % 9223372036854775808 / 4503599627370496 - 1 - 1074) = p at *
    have m1 : (4503599627370496 + fr) * 2048 ≤ (4503599627370496 + fr) * p := Nat.mul_le_mul_left _ hge
    have m2 : n % 9223372036854775808 / 4503599627370496 ≠ 1086 → (4503599627370496 + fr) * 4096 ≤ (4503599627370496 + fr) * p := fun hh => Nat.mul_le_mul_left _ (hge2 hh)
    generalize (4503599627370496 + fr) * p = q at *
    cases hs : sgn n
    · rw [hs] at k2
      simp only [Bool.false_eq_true, if_false] at k2
      omega
    · rw [hs] at k1 h
      simp only [if_true] at k1
      simp only [true_and] at h
      omega

/-! The words' fields, by bits. -/
theorem field_e (n : Nat) (hn : n < 18446744073709551616) : bits .and .u64 ((n : Int) / 4503599627370496) 2047 = ((n % 9223372036854775808 / 4503599627370496 : Nat) : Int) := by
  have e : ((n : Int) / 4503599627370496) = ((n / 4503599627370496 : Nat) : Int) := by rw [Int.natCast_ediv]; rfl
  have e2 := u64_and_nat (n / 4503599627370496) 2047 (by omega) (by decide)
  rw [show ((2047 : Nat) : Int) = 2047 from rfl] at e2
  rw [e, e2, nat_mask11]
  omega
theorem field_f (n : Nat) (hn : n < 18446744073709551616) : bits .and .u64 (n : Int) 4503599627370495 = ((n % 9223372036854775808 % 4503599627370496 : Nat) : Int) := by
  have e := u64_and_nat n 4503599627370495 hn (by decide)
  rw [show ((4503599627370495 : Nat) : Int) = 4503599627370495 from rfl] at e
  rw [e]
  have := Nat.and_two_pow_sub_one_eq_mod n 52
  rw [show (2 : Nat) ^ 52 - 1 = 4503599627370495 from rfl, show (2 : Nat) ^ 52 = 4503599627370496 from rfl] at this
  rw [this]
  omega
theorem field_m (f : Nat) (hf : f < 4503599627370496) : bits .or .u64 (f : Int) 4503599627370496 = ((4503599627370496 + f : Nat) : Int) := by
  have e := u64_or_nat f 4503599627370496 (by omega) (by decide)
  rw [show ((4503599627370496 : Nat) : Int) = 4503599627370496 from rfl] at e
  rw [e, Nat.or_comm, nat_join 52 4503599627370496 f (by decide) hf]
end Go.Proofs.Ytmoaadaelhakjaa.Num
