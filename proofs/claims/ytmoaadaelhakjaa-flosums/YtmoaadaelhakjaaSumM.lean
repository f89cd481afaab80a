/-
  Rounding with three bits more, of which the lowest tells whether anything fell out: why it gives the nearest float. No program is named here.
-/
import Derived.Test.YtmoaadaelhakjaaRIntM
namespace Go.Proofs.Ytmoaadaelhakjaa.Num

/-- One place to the right; what falls out is told by the lowest bit. -/
def st (m : Nat) : Nat := m / 2 ||| m % 2
theorem st_eq (m : Nat) : st m = if m % 2 = 1 then m / 2 / 2 * 2 + 1 else m / 2 := by
  unfold st
  split
  · rename_i h
    rw [h, or_one]
  · rename_i h
    rw [show m % 2 = 0 by omega, Nat.or_zero]
theorem st_le (m : Nat) : st m ≤ m := by
  rw [st_eq]; split <;> omega
theorem st_bits (m : Nat) (h : m < 18446744073709551616) : bits .or .u64 ((m : Int) / 2) (bits .and .u64 (m : Int) 1) = ((st m : Nat) : Int) := by
  have e1 : ((m : Int) / 2) = ((m / 2 : Nat) : Int) := by omega
  have e2 := u64_and_nat m 1 h (by decide)
  rw [show ((1 : Nat) : Int) = 1 from rfl] at e2
  rw [e1, e2, nat_mask1, u64_or_nat (m / 2) (m % 2) (by omega) (by omega)]
  rfl
/-- So many places. -/
def sts : Nat → Nat → Nat
  | 0, m => m
  | k + 1, m => st (sts k m)
theorem sts_le (k m : Nat) : sts k m ≤ m := by
  induction k with
  | zero => exact Nat.le_refl _
  | succ k ih => exact Nat.le_trans (st_le _) ih
theorem sts_small (k j m : Nat) (h : sts k m ≤ 1) : sts (k + j) m = sts k m := by
  induction j with
  | zero => rfl
  | succ j ih =>
    show st (sts (k + j) m) = _
    rw [ih, st_eq]
    have : sts k m = 0 ∨ sts k m = 1 := by omega
    rcases this with h0 | h0 <;> rw [h0] <;> rfl

/-- What was shifted: exact, or odd and within one of what it should be. -/
def Near (m T d : Nat) : Prop := T = m * 2 ^ d ∨ (1 ≤ d ∧ m % 2 = 1 ∧ (m - 1) * 2 ^ d < T ∧ T < (m + 1) * 2 ^ d)

theorem near_st (m T d : Nat) (h : Near m T d) : Near (st m) T (d + 1) := by
  have hp : 0 < 2 ^ d := Nat.two_pow_pos d
  rw [st_eq]
  unfold Near at *
  rw [Nat.pow_succ]
  rcases h with h | ⟨h0, h1, h2, h3⟩
  · by_cases hm : m % 2 = 1
    · rw [if_pos hm]
      refine .inr ⟨by omega, by omega, ?_, ?_⟩
      · rw [h, Nat.mul_comm (2 ^ d) 2, ← Nat.mul_assoc]
        exact Nat.mul_lt_mul_of_pos_right (by omega) hp
      · rw [h, Nat.mul_comm (2 ^ d) 2, ← Nat.mul_assoc]
        exact Nat.mul_lt_mul_of_pos_right (by omega) hp
    · rw [if_neg hm]
      refine .inl ?_
      rw [h, Nat.mul_comm (2 ^ d) 2, ← Nat.mul_assoc, show m / 2 * 2 = m by omega]
  · rw [if_pos h1]
    refine .inr ⟨by omega, by omega, ?_, ?_⟩
    · rw [Nat.mul_comm (2 ^ d) 2, ← Nat.mul_assoc]
      refine Nat.lt_of_le_of_lt (Nat.mul_le_mul_right _ ?_) h2
      omega
    · rw [Nat.mul_comm (2 ^ d) 2, ← Nat.mul_assoc]
      refine Nat.lt_of_lt_of_le h3 (Nat.mul_le_mul_right _ ?_)
      omega
theorem near_sts (k m : Nat) : Near (sts k m) m k := by
  induction k with
  | zero => exact .inl (by simp [sts])
  | succ k ih => exact near_st _ _ _ ih

/-- Within the same quarter the roundings are one. -/
theorem near_quarter (m T d j : Nat) (h1 : 4 * j < m) (h2 : m < 4 * j + 4) (h3 : 4 * j * 2 ^ d < T) (h4 : T < (4 * j + 4) * 2 ^ d) : near T (d + 3) = near m 3 := by
  have hp : 0 < 2 ^ d := Nat.two_pow_pos d
  have e8 : (2 : Nat) ^ (d + 3) = 2 ^ d * 8 := by rw [Nat.pow_add]
  have q1 : T / 2 ^ (d + 3) = j / 2 := by
    rw [e8, Nat.div_eq_iff (by omega)]
    generalize 2 ^ d = p at *
    have hj : j = 2 * (j / 2) + j % 2 := by omega
    generalize j / 2 = i at *
    have hb : j % 2 = 0 ∨ j % 2 = 1 := by omega
    rcases hb with hb | hb
    · rw [hb] at hj
      subst hj
      rw [show 4 * (2 * i + 0) * p = i * (p * 8) by rw [Nat.add_zero, ← Nat.mul_assoc, Nat.mul_comm (4 * 2) i, Nat.mul_assoc, Nat.mul_comm 8 p]] at h3
      rw [Nat.add_mul, show 4 * (2 * i + 0) * p = i * (p * 8) by rw [Nat.add_zero, ← Nat.mul_assoc, Nat.mul_comm (4 * 2) i, Nat.mul_assoc, Nat.mul_comm 8 p]] at h4
      generalize i * (p * 8) = z at *
      omega
    · rw [hb] at hj
      subst hj
      rw [show 4 * (2 * i + 1) = 8 * i + 4 by omega, Nat.add_mul, show 8 * i * p = i * (p * 8) by rw [Nat.mul_comm 8 i, Nat.mul_assoc, Nat.mul_comm 8 p]] at h3
      rw [show 4 * (2 * i + 1) + 4 = 8 * i + 8 by omega, Nat.add_mul, show 8 * i * p = i * (p * 8) by rw [Nat.mul_comm 8 i, Nat.mul_assoc, Nat.mul_comm 8 p]] at h4
      generalize i * (p * 8) = z at *
      omega
  have q2 : m / 2 ^ 3 = j / 2 := by
    rw [show (2 : Nat) ^ 3 = 8 from rfl]; omega
  have r1 : T % 2 ^ (d + 3) = T - j / 2 * (2 ^ d * 8) := by
    have := Nat.div_add_mod T (2 ^ (d + 3))
    rw [q1, Nat.mul_comm, e8] at this
    rw [e8]
    omega
  unfold near
  rw [q1, q2, r1, e8]
  have hb : j % 2 = 0 ∨ j % 2 = 1 := by omega
  have hm8 : m % 2 ^ 3 = m - j / 2 * 8 := by
    rw [show (2 : Nat) ^ 3 = 8 from rfl]; omega
  rw [hm8]
  have hj : j = 2 * (j / 2) + j % 2 := by omega
  generalize 2 ^ d = p at *
  generalize j / 2 = i at *
  rw [show (2 : Nat) ^ 3 = 8 from rfl]
  have e1 : 8 * i * p = i * (p * 8) := by rw [Nat.mul_comm 8 i, Nat.mul_assoc, Nat.mul_comm 8 p]
  rcases hb with hb | hb
  · rw [hb, Nat.add_zero] at hj
    subst hj
    rw [show 4 * (2 * i) = 8 * i by omega, e1] at h3
    rw [show 4 * (2 * i) + 4 = 8 * i + 4 by omega, Nat.add_mul, e1] at h4
    have f1 : decide (p * 8 < 2 * (T - i * (p * 8))) = false := decide_eq_false (by generalize i * (p * 8) = z at *; omega)
    have f2 : decide (p * 8 = 2 * (T - i * (p * 8))) = false := decide_eq_false (by generalize i * (p * 8) = z at *; omega)
    have f3 : decide (8 < 2 * (m - i * 8)) = false := decide_eq_false (by omega)
    have f4 : decide (8 = 2 * (m - i * 8)) = false := decide_eq_false (by omega)
    rw [f1, f2, f3, f4]
  · rw [hb] at hj
    subst hj
    rw [show 4 * (2 * i + 1) = 8 * i + 4 by omega, Nat.add_mul, e1] at h3
    rw [show 4 * (2 * i + 1) + 4 = 8 * i + 8 by omega, Nat.add_mul, e1] at h4
    have f1 : decide (p * 8 < 2 * (T - i * (p * 8))) = true := decide_eq_true (by generalize i * (p * 8) = z at *; omega)
    have f3 : decide (8 < 2 * (m - i * 8)) = true := decide_eq_true (by omega)
    rw [f1, f3, Bool.true_or, Bool.true_or]
end Go.Proofs.Ytmoaadaelhakjaa.Num
