/-
  The float nearest to a whole number, reckoned by its highest bit; and what joining a sign, an exponent and a fraction by bits gives. No program is named here.
-/
import Derived.Test.YtmoaadaelhakjaaIntM
namespace Go.Proofs.Ytmoaadaelhakjaa.Num

def hiBit (u k : Nat) : Nat := (u % 2 ^ k).log2
theorem hiBit_zero (u : Nat) : hiBit u 0 = 0 := by
  unfold hiBit
  rw [Nat.pow_zero, Nat.mod_one]; rfl
theorem hiBit_all (u : Nat) (h : u < 18446744073709551616) : hiBit u 64 = u.log2 := by
  unfold hiBit
  rw [Nat.mod_eq_of_lt (by omega)]
theorem hiBit_set (u k : Nat) (h : u / 2 ^ k % 2 = 1) : hiBit u (k + 1) = k := by
  unfold hiBit
  rw [Nat.mod_pow_succ, h, Nat.mul_one]
  have h1 : u % 2 ^ k < 2 ^ k := Nat.mod_lt _ (Nat.two_pow_pos k)
  refine (Nat.log2_eq_iff (by omega)).2 ⟨by omega, ?_⟩
  rw [Nat.pow_succ]; omega
theorem hiBit_clear (u k : Nat) (h : u / 2 ^ k % 2 = 0) : hiBit u (k + 1) = hiBit u k := by
  unfold hiBit
  rw [Nat.mod_pow_succ, h, Nat.mul_zero, Nat.add_zero]
theorem bit_at (u k : Nat) (h : u < 18446744073709551616) : bits .and .u64 ((u : Int) / 2 ^ k) 1 = ((u / 2 ^ k % 2 : Nat) : Int) := by
  have e : ((u : Int) / 2 ^ k) = ((u / 2 ^ k : Nat) : Int) := by
    rw [Int.natCast_ediv, Int.natCast_pow]; rfl
  have h2 : u / 2 ^ k ≤ u := Nat.div_le_self _ _
  have e2 := u64_and_nat (u / 2 ^ k) 1 (by omega) (by decide)
  rw [show ((1 : Nat) : Int) = 1 from rfl] at e2
  rw [e, e2, nat_mask1]

theorem joinBits (S x m : Nat) (hS : S = 0 ∨ S = 9223372036854775808) (hx : x < 2048) (hm : m < 18446744073709551616) :
    bits .or .u64 (bits .or .u64 (S : Int) ((x * 4503599627370496 : Nat) : Int)) (bits .and .u64 (m : Int) 4503599627370495) = ((S + x * 4503599627370496 + m % 4503599627370496 : Nat) : Int) := by
  have e1 : bits .and .u64 (m : Int) 4503599627370495 = ((m % 4503599627370496 : Nat) : Int) := by
    have e := u64_and_nat m 4503599627370495 hm (by decide)
    rw [show ((4503599627370495 : Nat) : Int) = 4503599627370495 from rfl] at e
    rw [e]
    have := Nat.and_two_pow_sub_one_eq_mod m 52
    rw [show (2 : Nat) ^ 52 - 1 = 4503599627370495 from rfl, show (2 : Nat) ^ 52 = 4503599627370496 from rfl] at this
    rw [this]
  have e2 : bits .or .u64 (S : Int) ((x * 4503599627370496 : Nat) : Int) = ((S + x * 4503599627370496 : Nat) : Int) := by
    have hx2 : x * 4503599627370496 < 9223372036854775808 := by omega
    rw [u64_or_nat S (x * 4503599627370496) (by omega) (by omega)]
    rcases hS with rfl | rfl
    · rw [Nat.zero_or, Nat.zero_add]
    · rw [nat_join 63 9223372036854775808 (x * 4503599627370496) (by decide) hx2]
  rw [e1, e2, u64_or_nat _ _ (by omega) (by omega), nat_join 52 (S + x * 4503599627370496) (m % 4503599627370496) (by omega) (by omega)]

/-- The rung of a whole number, by its highest bit. -/
theorem rnd_of (u : Nat) (h0 : 0 < u) (h1 : u < 18446744073709551616) : rnd (u * U) = (u.log2 + 1022) * 4503599627370496 + (if u.log2 ≤ 52 then u * 2 ^ (52 - u.log2) else near u (u.log2 - 52)) := by
  have hne : u * U ≠ 0 := by
    have := U_pos
    intro h
    rcases Nat.mul_eq_zero.1 h with h2 | h2 <;> omega
  have hl : u.log2 < 64 := (Nat.log2_lt (by omega)).2 (by omega)
  have hlog : (u * U).log2 = u.log2 + 1074 := log2_mul_pow u E (by omega)
  unfold rnd
  rw [if_neg hne, hlog, show u.log2 + 1074 - 52 = u.log2 + 1022 by omega]
  have key : near (u * U) (u.log2 + 1022) = if u.log2 ≤ 52 then u * 2 ^ (52 - u.log2) else near u (u.log2 - 52) := by
    split
    · rename_i hle
      have e : u * U = u * 2 ^ (52 - u.log2) * 2 ^ (u.log2 + 1022) := by
        rw [U_split (u.log2 + 1022) (by omega), Nat.mul_assoc, show 1074 - (u.log2 + 1022) = 52 - u.log2 by omega]
      rw [e]
      have := near_scale (u * 2 ^ (52 - u.log2)) 0 (u.log2 + 1022)
      rw [Nat.zero_add] at this
      rw [this, near_zero]
    · have := near_scale u (u.log2 - 52) E
      rw [show u.log2 - 52 + E = u.log2 + 1022 by rw [E_is]; omega] at this
      exact this
  rw [key]
  have hb : (if u.log2 ≤ 52 then u * 2 ^ (52 - u.log2) else near u (u.log2 - 52)) ≤ 9007199254740992 := by
    split
    · have h3 : u < 2 ^ (u.log2 + 1) := Nat.lt_log2_self
      have h4 : u * 2 ^ (52 - u.log2) < 2 ^ (u.log2 + 1) * 2 ^ (52 - u.log2) := Nat.mul_lt_mul_of_pos_right h3 (Nat.two_pow_pos _)
      rw [← Nat.pow_add, show u.log2 + 1 + (52 - u.log2) = 53 by omega] at h4
      omega
    · unfold near
      have h6 : u < 2 ^ (u.log2 + 1) := Nat.lt_log2_self
      have h3 : u / 2 ^ (u.log2 - 52) < 9007199254740992 := by
        rw [Nat.div_lt_iff_lt_mul (Nat.two_pow_pos _), show 9007199254740992 = 2 ^ 53 from rfl, ← Nat.pow_add, show 53 + (u.log2 - 52) = u.log2 + 1 by omega]
        exact h6
      have h4 : ∀ b : Bool, b.toNat ≤ 1 := fun b => by cases b <;> decide
      have h5 := h4 (decide (2 ^ (u.log2 - 52) < 2 * (u % 2 ^ (u.log2 - 52))) || (decide (2 ^ (u.log2 - 52) = 2 * (u % 2 ^ (u.log2 - 52))) && decide (u / 2 ^ (u.log2 - 52) % 2 = 1)))
      omega
  omega

theorem near_up (u t : Nat) (h : 2 ^ t < u % 2 ^ (t + 1) ∨ (2 ^ t = u % 2 ^ (t + 1) ∧ u / 2 ^ (t + 1) % 2 = 1)) : near u (t + 1) = u / 2 ^ (t + 1) + 1 := by
  unfold near
  rw [Nat.pow_succ] at *
  have : (decide (2 ^ t * 2 < 2 * (u % (2 ^ t * 2))) || (decide (2 ^ t * 2 = 2 * (u % (2 ^ t * 2))) && decide (u / (2 ^ t * 2) % 2 = 1))) = true := by
    rw [Bool.or_eq_true, Bool.and_eq_true, decide_eq_true_eq, decide_eq_true_eq, decide_eq_true_eq]
    rcases h with h | ⟨h, h2⟩
    · exact .inl (by omega)
    · exact .inr ⟨by omega, h2⟩
  rw [this]; rfl
theorem near_down (u t : Nat) (h : u % 2 ^ (t + 1) < 2 ^ t ∨ (2 ^ t = u % 2 ^ (t + 1) ∧ u / 2 ^ (t + 1) % 2 = 0)) : near u (t + 1) = u / 2 ^ (t + 1) := by
  unfold near
  rw [Nat.pow_succ] at *
  have : (decide (2 ^ t * 2 < 2 * (u % (2 ^ t * 2))) || (decide (2 ^ t * 2 = 2 * (u % (2 ^ t * 2))) && decide (u / (2 ^ t * 2) % 2 = 1))) = false := by
    rw [Bool.or_eq_false_iff, Bool.and_eq_false_iff, decide_eq_false_iff_not, decide_eq_false_iff_not, decide_eq_false_iff_not]
    rcases h with h | ⟨h, h2⟩
    · exact ⟨by omega, .inl (by omega)⟩
    · exact ⟨by omega, .inr (by omega)⟩
  rw [this]; rfl

theorem of_sign (s : Bool) (u : Nat) (h0 : 0 < u) : floatOfInt .f64 (if s then -(u : Int) else u) = word s (rnd (u * U)) := by
  rw [of_word]
  cases s
  · simp only [Bool.false_eq_true, if_false, Int.natAbs_natCast]
    rw [decide_eq_false (by omega)]
  · simp only [if_true, Int.natAbs_neg, Int.natAbs_natCast]
    rw [decide_eq_true (by omega)]
end Go.Proofs.Ytmoaadaelhakjaa.Num
