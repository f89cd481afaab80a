/-
  Floats as whole numbers of the least unit (two to the -1074): what a finite word stands for, what rounding gives, and what the float64 sum, order and conversions are in these words. No program is named here.
-/
import Derived.Test.YtmoaadaelhakjaaNum
namespace Go.Proofs.Ytmoaadaelhakjaa.Num

theorem log2_mul_pow (m k : Nat) (h : m ≠ 0) : (m * 2 ^ k).log2 = m.log2 + k := by
  have hk : 0 < 2 ^ k := Nat.two_pow_pos k
  have hne : m * 2 ^ k ≠ 0 := by
    intro h0
    rcases Nat.mul_eq_zero.1 h0 with h1 | h1 <;> omega
  refine (Nat.log2_eq_iff hne).2 ⟨?_, ?_⟩
  · rw [Nat.pow_add]
    exact Nat.mul_le_mul_right _ (Nat.log2_self_le h)
  · rw [show m.log2 + k + 1 = (m.log2 + 1) + k by omega, Nat.pow_add]
    exact Nat.mul_lt_mul_of_pos_right Nat.lt_log2_self hk

/-- 'M' over two to the 'L', to the nearest, of two as near the even one. -/
def near (M L : Nat) : Nat := M / 2 ^ L + (decide (2 ^ L < 2 * (M % 2 ^ L)) || (decide (2 ^ L = 2 * (M % 2 ^ L)) && decide (M / 2 ^ L % 2 = 1))).toNat

theorem cut_near (neg : Bool) (M L : Nat) (h : L ≤ M.log2 + 2) : Ieee.Toward.even.cut neg M L = near M L := by
  unfold Ieee.Toward.cut near
  simp only [Nat.min_eq_left h, Nat.one_shiftLeft]
  congr 2

theorem near_scale (M L k : Nat) : near (M * 2 ^ k) (L + k) = near M L := by
  have hk : 0 < 2 ^ k := Nat.two_pow_pos k
  have e1 : M * 2 ^ k / 2 ^ (L + k) = M / 2 ^ L := by
    rw [Nat.pow_add, Nat.mul_div_mul_right _ _ hk]
  have e2 : M * 2 ^ k % 2 ^ (L + k) = M % 2 ^ L * 2 ^ k := by
    rw [Nat.pow_add, Nat.mul_mod_mul_right]
  unfold near
  rw [e1, e2, Nat.pow_add]
  have a1 : (2 ^ L * 2 ^ k < 2 * (M % 2 ^ L * 2 ^ k)) ↔ (2 ^ L < 2 * (M % 2 ^ L)) := by
    rw [← Nat.mul_assoc]
    exact Nat.mul_lt_mul_right hk
  have a2 : (2 ^ L * 2 ^ k = 2 * (M % 2 ^ L * 2 ^ k)) ↔ (2 ^ L = 2 * (M % 2 ^ L)) := by
    rw [← Nat.mul_assoc]
    exact Nat.mul_left_inj (by omega)
  simp only [a1, a2]

theorem near_zero (M : Nat) : near M 0 = M := by
  unfold near
  simp [Nat.mod_one]

/-- The rung nearest to 'M' units. -/
def rnd (M : Nat) : Nat := if M = 0 then 0 else min ((M.log2 - 52) * 4503599627370496 + near M (M.log2 - 52)) 9218868437227405312

def word (neg : Bool) (r : Nat) : Nat := if neg then 9223372036854775808 + r else r

theorem double_word (neg : Bool) (r : Nat) : Ieee.double.word neg r = word neg r := by
  have e1 : Ieee.double.signWeight = 9223372036854775808 := by decide
  unfold Ieee.Format.word word
  rw [e1]

theorem nearest_rnd (neg : Bool) (m k : Nat) : Ieee.double.nearest neg m (-1074 + (k : Int)) = word neg (rnd (m * 2 ^ k)) := by
  have e2 : Ieee.double.binade = 4503599627370496 := by decide
  have e3 : Ieee.double.infRung = 9218868437227405312 := by decide
  have e4 : Ieee.double.leastPlace = -1074 := by decide
  have e5 : (Ieee.double.fractionBits : Int) = 52 := by decide
  have hk : 0 < 2 ^ k := Nat.two_pow_pos k
  unfold Ieee.Format.nearest rnd
  by_cases h0 : m = 0
  · subst h0
    simp [double_word]
  · have hne : m * 2 ^ k ≠ 0 := by
      intro h
      rcases Nat.mul_eq_zero.1 h with h1 | h1 <;> omega
    rw [if_neg h0, if_neg hne]
    simp only [e2, e3, e4, e5, double_word]
    rw [log2_mul_pow m k h0]
    have hlast : max (-1074 + (k : Int) + (m.log2 : Int) - 52) (-1074) = -1074 + ((m.log2 + k - 52 : Nat) : Int) := by omega
    rw [hlast]
    have hq : (-1074 + ((m.log2 + k - 52 : Nat) : Int) - -1074).toNat = m.log2 + k - 52 := by omega
    rw [hq]
    congr 3
    by_cases hc : k ≤ m.log2 + k - 52
    · have h1 : (-1074 + (k : Int) - (-1074 + ((m.log2 + k - 52 : Nat) : Int))).toNat = 0 := by omega
      have h2 : (-1074 + ((m.log2 + k - 52 : Nat) : Int) - (-1074 + (k : Int))).toNat = m.log2 - 52 := by omega
      rw [h1, h2, Nat.shiftLeft_zero, cut_near _ _ _ (by omega), show m.log2 + k - 52 = (m.log2 - 52) + k by omega, near_scale]
    · have h1 : (-1074 + (k : Int) - (-1074 + ((m.log2 + k - 52 : Nat) : Int))).toNat = k - (m.log2 + k - 52) := by omega
      have h2 : (-1074 + ((m.log2 + k - 52 : Nat) : Int) - (-1074 + (k : Int))).toNat = 0 := by omega
      rw [h1, h2, cut_near _ _ _ (by omega), near_zero, Nat.shiftLeft_eq]
      have h3 : m * 2 ^ k = m * 2 ^ (k - (m.log2 + k - 52)) * 2 ^ (m.log2 + k - 52) := by
        rw [Nat.mul_assoc, ← Nat.pow_add]
        congr 2
        omega
      rw [h3]
      have := near_scale (m * 2 ^ (k - (m.log2 + k - 52))) 0 (m.log2 + k - 52)
      rw [Nat.zero_add] at this
      rw [this, near_zero]

/-- Units of a word's rung (finite words alone). -/
def mag (n : Nat) : Nat := if n % 9223372036854775808 < 4503599627370496 then n % 9223372036854775808 else (4503599627370496 + n % 9223372036854775808 % 4503599627370496) * 2 ^ (n % 9223372036854775808 / 4503599627370496 - 1)
def sgn (n : Nat) : Bool := n / 9223372036854775808 % 2 == 1
/-- Units of a finite word. -/
def val (n : Nat) : Int := if sgn n then -(mag n : Int) else mag n

theorem read_finite (n : Nat) (h : n % 9223372036854775808 < 9218868437227405312) : ∃ m k : Nat, Ieee.double.read n = .number (sgn n) m (-1074 + (k : Int)) ∧ mag n = m * 2 ^ k ∧ m < 9007199254740992 ∧ k ≤ 2045 ∧ (k = 0 ∨ 4503599627370496 ≤ m) ∧ n % 9223372036854775808 = k * 4503599627370496 + m := by
  rw [read_double]
  unfold mag
  by_cases h1 : n % 9223372036854775808 < 4503599627370496
  · rw [if_pos h1, if_pos h1]
    exact ⟨n % 9223372036854775808, 0, rfl, by simp, by omega, by omega, .inl rfl, by omega⟩
  · rw [if_neg h1, if_neg h1, if_pos h]
    exact ⟨_, _, rfl, rfl, by omega, by omega, .inr (by omega), by omega⟩

theorem signed_eq (s : Bool) (m u : Nat) : Ieee.signed s m u = if s then -((m * 2 ^ u : Nat) : Int) else ((m * 2 ^ u : Nat) : Int) := by
  unfold Ieee.signed
  rw [Nat.shiftLeft_eq]

theorem signed_scale (s : Bool) (m k b : Nat) (h : b ≤ k) : Ieee.signed s m (k - b) * ((2 ^ b : Nat) : Int) = if s then -((m * 2 ^ k : Nat) : Int) else ((m * 2 ^ k : Nat) : Int) := by
  have e : m * 2 ^ (k - b) * 2 ^ b = m * 2 ^ k := by
    rw [Nat.mul_assoc, ← Nat.pow_add]; congr 2; omega
  rw [signed_eq]
  split
  · rw [Int.neg_mul, ← Int.natCast_mul, e]
  · rw [← Int.natCast_mul, e]

/-- The sum of two finite words: the exact sum, rounded once. -/
theorem add_finite (a b : Nat) (ha : a % 9223372036854775808 < 9218868437227405312) (hb : b % 9223372036854775808 < 9218868437227405312) :
    Ieee.double.add a b = some (word (if val a + val b = 0 then sgn a && sgn b else decide (val a + val b < 0)) (rnd (val a + val b).natAbs)) := by
  obtain ⟨m, k, r1, g1, _⟩ := read_finite a ha
  obtain ⟨n, j, r2, g2, _⟩ := read_finite b hb
  unfold Ieee.Format.add
  rw [r1, r2]
  simp only [Ieee.Datum.sum, Option.map_some]
  have hbase : min (-1074 + (k : Int)) (-1074 + (j : Int)) = -1074 + ((min k j : Nat) : Int) := by omega
  rw [hbase]
  have t1 : (-1074 + (k : Int) - (-1074 + ((min k j : Nat) : Int))).toNat = k - min k j := by omega
  have t2 : (-1074 + (j : Int) - (-1074 + ((min k j : Nat) : Int))).toNat = j - min k j := by omega
  rw [t1, t2]
  have s1 := signed_scale (sgn a) m k (min k j) (by omega)
  have s2 := signed_scale (sgn b) n j (min k j) (by omega)
  generalize Ieee.signed (sgn a) m (k - min k j) = x at *
  generalize Ieee.signed (sgn b) n (j - min k j) = y at *
  have hv : (x + y) * ((2 ^ min k j : Nat) : Int) = val a + val b := by
    rw [Int.add_mul, s1, s2]
    unfold val
    rw [g1, g2]
  have hp : (0 : Int) < ((2 ^ min k j : Nat) : Int) := by
    have := Nat.two_pow_pos (min k j)
    omega
  have hz : x + y = 0 ↔ val a + val b = 0 := by
    rw [← hv]
    constructor
    · intro h; rw [h, Int.zero_mul]
    · intro h
      rcases Int.mul_eq_zero.1 h with h1 | h1 <;> omega
  have hn : x + y < 0 ↔ val a + val b < 0 := by
    rw [← hv]
    constructor
    · intro h
      exact Int.mul_neg_of_neg_of_pos h hp
    · intro h
      by_cases hc : x + y < 0
      · exact hc
      · have := Int.mul_nonneg (show 0 ≤ x + y by omega) (Int.le_of_lt hp)
        omega
  have hab : (val a + val b).natAbs = (x + y).natAbs * 2 ^ min k j := by
    rw [← hv, Int.natAbs_mul, Int.natAbs_natCast]
  rw [hab]
  simp only [Ieee.Format.write]
  rw [nearest_rnd]
  simp only [hz, hn]

theorem log2_top (q : Nat) (h1 : 4503599627370496 ≤ q) (h2 : q < 9007199254740992) : q.log2 = 52 :=
  (Nat.log2_eq_iff (by omega)).2 ⟨by omega, by omega⟩

theorem log2_le52 (q : Nat) (h2 : q < 9007199254740992) : q.log2 ≤ 52 := by
  by_cases h : q = 0
  · subst h; decide
  · have := (Nat.log2_lt h).2 (show q < 2 ^ 53 by omega)
    omega

/-- What a float is, exactly, is rounded to itself. -/
theorem rnd_exact (q k : Nat) (hq : q < 9007199254740992) (hk : k ≤ 2045) (hn : k = 0 ∨ 4503599627370496 ≤ q) : rnd (q * 2 ^ k) = k * 4503599627370496 + q := by
  unfold rnd
  rcases hn with rfl | hn
  · have := log2_le52 q hq
    rw [Nat.pow_zero, Nat.mul_one, show q.log2 - 52 = 0 by omega, near_zero]
    split <;> omega
  · have hk0 : 0 < 2 ^ k := Nat.two_pow_pos k
    have hne : q * 2 ^ k ≠ 0 := by
      intro h
      rcases Nat.mul_eq_zero.1 h with h1 | h1 <;> omega
    rw [if_neg hne, log2_mul_pow q k (by omega), log2_top q hn hq, Nat.add_sub_cancel_left]
    have := near_scale q 0 k
    rw [Nat.zero_add] at this
    rw [this, near_zero]
    omega

theorem mag_at (q k : Nat) (hq : q < 9007199254740992) (hk : k ≤ 2045) (hn : k = 0 ∨ 4503599627370496 ≤ q) : mag (k * 4503599627370496 + q) = q * 2 ^ k := by
  unfold mag
  have h63 : (k * 4503599627370496 + q) % 9223372036854775808 = k * 4503599627370496 + q := by omega
  rw [h63]
  by_cases h : k * 4503599627370496 + q < 4503599627370496
  · rw [if_pos h]
    have : k = 0 := by omega
    subst this
    simp
  · rw [if_neg h]
    have hq2 : 4503599627370496 ≤ q := by
      rcases hn with h0 | h0 <;> omega
    have e1 : (k * 4503599627370496 + q) % 4503599627370496 = q - 4503599627370496 := by omega
    have e2 : (k * 4503599627370496 + q) / 4503599627370496 - 1 = k := by omega
    rw [e1, e2, Nat.add_sub_cancel' hq2]

theorem rnd_mag (n : Nat) (h : n % 9223372036854775808 < 9218868437227405312) : rnd (mag n) = n % 9223372036854775808 := by
  obtain ⟨m, k, _, g, h1, h2, h3, h4⟩ := read_finite n h
  rw [g, rnd_exact m k h1 h2 h3, h4]

/-- A whole number of fewer than 54 digits times a power of two, brought to a float's form. -/
theorem form_of (t j : Nat) (ht : t < 9007199254740992) : ∃ q k, t * 2 ^ j = q * 2 ^ k ∧ q < 9007199254740992 ∧ k ≤ j ∧ (k = 0 ∨ 4503599627370496 ≤ q) := by
  by_cases h0 : t = 0
  · subst h0
    exact ⟨0, 0, by simp, by omega, by omega, .inl rfl⟩
  · have hl := log2_le52 t ht
    by_cases hs : t.log2 + j < 53
    · refine ⟨t * 2 ^ j, 0, by simp, ?_, by omega, .inl rfl⟩
      have h2 : (t * 2 ^ j).log2 < 53 := by rw [log2_mul_pow t j h0]; exact hs
      have hne : t * 2 ^ j ≠ 0 := by
        have := Nat.two_pow_pos j
        intro h
        rcases Nat.mul_eq_zero.1 h with h1 | h1 <;> omega
      have := (Nat.log2_lt hne).1 h2
      omega
    · have hne : t * 2 ^ (52 - t.log2) ≠ 0 := by
        have := Nat.two_pow_pos (52 - t.log2)
        intro h
        rcases Nat.mul_eq_zero.1 h with h1 | h1 <;> omega
      have hlog : (t * 2 ^ (52 - t.log2)).log2 = 52 := by rw [log2_mul_pow t _ h0]; omega
      refine ⟨t * 2 ^ (52 - t.log2), j - (52 - t.log2), ?_, ?_, by omega, .inr ?_⟩
      · rw [Nat.mul_assoc, ← Nat.pow_add]; congr 2; omega
      · have := (Nat.log2_lt hne).1 (show _ < 53 by omega)
        omega
      · have := Nat.log2_self_le hne
        rw [hlog] at this
        omega

/-- Such a number's float is that number. -/
theorem rnd_form (t j : Nat) (ht : t < 9007199254740992) (hj : j ≤ 2045) : mag (rnd (t * 2 ^ j)) = t * 2 ^ j ∧ rnd (t * 2 ^ j) < 9218868437227405312 := by
  obtain ⟨q, k, e, h1, h2, h3⟩ := form_of t j ht
  rw [e, rnd_exact q k h1 (by omega) h3]
  exact ⟨mag_at q k h1 (by omega) h3, by omega⟩

theorem rnd_le (M : Nat) : rnd M ≤ 9218868437227405312 := by
  unfold rnd
  split
  · omega
  · exact Nat.min_le_right _ _

theorem sgn_word (s : Bool) (r : Nat) (h : r < 9223372036854775808) : sgn (word s r) = s := by
  unfold sgn word
  cases s
  · simp only [Bool.false_eq_true, if_false]
    rw [Nat.div_eq_of_lt h]; rfl
  · simp only [if_true]
    rw [show (9223372036854775808 + r) / 9223372036854775808 = 1 by omega]; rfl
theorem low_word (s : Bool) (r : Nat) (h : r < 9223372036854775808) : word s r % 9223372036854775808 = r := by
  unfold word
  split <;> omega
theorem word_lt (s : Bool) (r : Nat) (h : r < 9223372036854775808) : word s r < 18446744073709551616 := by
  unfold word
  split <;> omega
theorem mag_low (n : Nat) : mag (n % 9223372036854775808) = mag n := by
  unfold mag
  rw [Nat.mod_mod]
theorem mag_word (s : Bool) (r : Nat) (h : r < 9223372036854775808) : mag (word s r) = mag r := by
  rw [← mag_low, low_word s r h]
theorem val_word (s : Bool) (r : Nat) (h : r < 9223372036854775808) : val (word s r) = if s then -(mag r : Int) else mag r := by
  unfold val
  rw [sgn_word s r h, mag_word s r h]
theorem word_of (n : Nat) (h : n < 18446744073709551616) : word (sgn n) (n % 9223372036854775808) = n := by
  unfold word sgn
  by_cases h1 : n < 9223372036854775808
  · rw [Nat.div_eq_of_lt h1]
    simp
    omega
  · rw [show n / 9223372036854775808 = 1 by omega]
    simp
    omega

theorem mag_zero (n : Nat) (h : n % 9223372036854775808 < 9218868437227405312) : mag n = 0 ↔ n % 9223372036854775808 = 0 := by
  constructor
  · intro h0
    have := rnd_mag n h
    rw [h0] at this
    rw [← this]; rfl
  · intro h0
    unfold mag
    rw [h0]; rfl

theorem mag_mono (a b : Nat) (ha : a % 9223372036854775808 < 9218868437227405312) (hb : b % 9223372036854775808 < 9218868437227405312) (h : a % 9223372036854775808 < b % 9223372036854775808) : mag a < mag b := by
  obtain ⟨m, k, _, g1, p1, p2, p3, p4⟩ := read_finite a ha
  obtain ⟨n, j, _, g2, q1, q2, q3, q4⟩ := read_finite b hb
  rw [g1, g2]
  by_cases hkj : k = j
  · subst hkj
    exact Nat.mul_lt_mul_of_pos_right (by omega) (Nat.two_pow_pos k)
  · have hlt : k < j := by
      rcases p3 with h0 | h0 <;> rcases q3 with h1 | h1 <;> omega
    have hn : 4503599627370496 ≤ n := by
      rcases q3 with h1 | h1 <;> omega
    have e1 : m * 2 ^ k < 4503599627370496 * 2 ^ (k + 1) := by
      have := Nat.mul_lt_mul_of_pos_right p1 (Nat.two_pow_pos k)
      rw [Nat.pow_succ]
      omega
    have e2 : 4503599627370496 * 2 ^ (k + 1) ≤ n * 2 ^ j :=
      Nat.mul_le_mul hn (Nat.pow_le_pow_right (by decide) hlt)
    omega

theorem compare_iff (x y x' y' : Int) (h1 : x < y ↔ x' < y') (h2 : x = y ↔ x' = y') : compare x y = compare x' y' := by
  simp only [compare, compareOfLessAndEq, h1, h2]

/-- The order of two finite words is that of what they stand for. -/
theorem order_finite (a b : Nat) (ha : a % 9223372036854775808 < 9218868437227405312) (hb : b % 9223372036854775808 < 9218868437227405312) :
    Ieee.double.order a b = some (compare (val a) (val b)) := by
  obtain ⟨m, k, r1, g1, _⟩ := read_finite a ha
  obtain ⟨n, j, r2, g2, _⟩ := read_finite b hb
  unfold Ieee.Format.order
  rw [r1, r2]
  simp only [Ieee.Datum.order]
  have hbase : min (-1074 + (k : Int)) (-1074 + (j : Int)) = -1074 + ((min k j : Nat) : Int) := by omega
  rw [hbase]
  have t1 : (-1074 + (k : Int) - (-1074 + ((min k j : Nat) : Int))).toNat = k - min k j := by omega
  have t2 : (-1074 + (j : Int) - (-1074 + ((min k j : Nat) : Int))).toNat = j - min k j := by omega
  rw [t1, t2]
  have s1 := signed_scale (sgn a) m k (min k j) (by omega)
  have s2 := signed_scale (sgn b) n j (min k j) (by omega)
  generalize Ieee.signed (sgn a) m (k - min k j) = x at *
  generalize Ieee.signed (sgn b) n (j - min k j) = y at *
  have va : x * ((2 ^ min k j : Nat) : Int) = val a := by rw [s1]; unfold val; rw [g1]
  have vb : y * ((2 ^ min k j : Nat) : Int) = val b := by rw [s2]; unfold val; rw [g2]
  have hp : (0 : Int) < ((2 ^ min k j : Nat) : Int) := by
    have := Nat.two_pow_pos (min k j)
    omega
  congr 1
  rw [← va, ← vb]
  generalize ((2 ^ min k j : Nat) : Int) = c at *
  apply compare_iff
  · constructor
    · intro h; exact Int.mul_lt_mul_of_pos_right h hp
    · intro h; exact Int.lt_of_mul_lt_mul_right h (Int.le_of_lt hp)
  · constructor
    · intro h; rw [h]
    · intro h; exact Int.eq_of_mul_eq_mul_right (by omega) h

/-! Sums with what is not finite. -/
theorem read_inf (n : Nat) (h : n % 9223372036854775808 = 9218868437227405312) : Ieee.double.read n = .infinity (sgn n) := by
  rw [read_double, if_neg (by omega), if_neg (by omega), if_pos h]; rfl
theorem read_nan (n : Nat) (h : 9218868437227405312 < n % 9223372036854775808) : ∃ t, Ieee.double.read n = .nan (sgn n) t := by
  rw [read_double, if_neg (by omega), if_neg (by omega), if_neg (by omega)]
  exact ⟨_, rfl⟩
theorem write_inf (s : Bool) : Ieee.double.write (.infinity s) = word s 9218868437227405312 := by
  cases s <;> decide
theorem add_nan (a b : Nat) (h : 9218868437227405312 < a % 9223372036854775808 ∨ 9218868437227405312 < b % 9223372036854775808) : Ieee.double.add a b = none := by
  unfold Ieee.Format.add
  rcases h with h | h
  · obtain ⟨t, e⟩ := read_nan a h
    rw [e]
    cases Ieee.double.read b <;> rfl
  · obtain ⟨t, e⟩ := read_nan b h
    rw [e]
    cases Ieee.double.read a <;> rfl
theorem add_inf_right (a b : Nat) (ha : a % 9223372036854775808 < 9218868437227405312) (hb : b % 9223372036854775808 = 9218868437227405312) : Ieee.double.add a b = some (word (sgn b) 9218868437227405312) := by
  obtain ⟨m, k, r1, _⟩ := read_finite a ha
  unfold Ieee.Format.add
  rw [r1, read_inf b hb]
  simp [Ieee.Datum.sum, write_inf]
theorem add_inf_left (a b : Nat) (ha : a % 9223372036854775808 = 9218868437227405312) (hb : b % 9223372036854775808 < 9218868437227405312) : Ieee.double.add a b = some (word (sgn a) 9218868437227405312) := by
  obtain ⟨m, k, r1, _⟩ := read_finite b hb
  unfold Ieee.Format.add
  rw [r1, read_inf a ha]
  simp [Ieee.Datum.sum, write_inf]
theorem add_inf_both (a b : Nat) (ha : a % 9223372036854775808 = 9218868437227405312) (hb : b % 9223372036854775808 = 9218868437227405312) : Ieee.double.add a b = if sgn a = sgn b then some (word (sgn a) 9218868437227405312) else none := by
  unfold Ieee.Format.add
  rw [read_inf a ha, read_inf b hb]
  simp only [Ieee.Datum.sum]
  split <;> simp [write_inf]
end Go.Proofs.Ytmoaadaelhakjaa.Num
