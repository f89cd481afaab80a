/-
  Which floats are whole numbers of int64, and which number each is; that order and places go by what a float stands for; the float nearest to a whole number. No program is named here.
-/
import Derived.Test.YtmoaadaelhakjaaEdge
namespace Go.Proofs.Ytmoaadaelhakjaa.Num

def E : Nat := 1074
theorem E_is : E = 1074 := rfl
/-- How many of the least unit one is. -/
def U : Nat := 2 ^ E
theorem U_pos : 0 < U := Nat.two_pow_pos E
theorem U_split (k : Nat) (h : k ≤ 1074) : U = 2 ^ (1074 - k) * 2 ^ k := by
  have e : 1074 - k + k = E := by rw [E_is]; omega
  rw [← Nat.pow_add, e]
  rfl
theorem pow_split (k : Nat) (h : 1074 ≤ k) : 2 ^ k = 2 ^ (k - 1074) * U := by
  have e : k - 1074 + E = k := by rw [E_is]; omega
  unfold U
  rw [← Nat.pow_add, e]
/-- Is the float a whole number, and an int64 (1.4)? -/
def intOk (n : Nat) : Bool := decide (n % 9223372036854775808 < 9218868437227405312 ∧ val n % (U : Int) = 0 ∧ -9223372036854775808 * (U : Int) ≤ val n ∧ val n < 9223372036854775808 * (U : Int))
def intNum (n : Nat) : Int := if intOk n = true then val n / (U : Int) else 0
/-- The float cut towards nought. -/
def truncBits (n : Nat) : Nat := Ieee.double.write ((Ieee.double.read n).integral .zero)

theorem cut_zero (s : Bool) (M D : Nat) : Ieee.Toward.zero.cut s M D = M / 2 ^ D := by
  unfold Ieee.Toward.cut
  simp only [Nat.one_shiftLeft, Bool.toNat_false, Nat.add_zero]
  by_cases h : D ≤ M.log2 + 2
  · rw [Nat.min_eq_left h]
  · rw [Nat.min_eq_right (by omega)]
    have h1 : M < 2 ^ (M.log2 + 1) := Nat.lt_log2_self
    have h2 : 2 ^ (M.log2 + 1) ≤ 2 ^ (M.log2 + 2) := Nat.pow_le_pow_right (by decide) (by omega)
    have h3 : 2 ^ (M.log2 + 1) ≤ 2 ^ D := Nat.pow_le_pow_right (by decide) (by omega)
    rw [Nat.div_eq_of_lt (by omega), Nat.div_eq_of_lt (by omega)]

theorem integral_finite (n : Nat) (h : n % 9223372036854775808 < 9218868437227405312) : (Ieee.double.read n).integral .zero = .number (sgn n) (mag n / U) 0 := by
  obtain ⟨m, k, r, g, _⟩ := read_finite n h
  rw [r]
  simp only [Ieee.Datum.integral]
  rw [cut_zero, Nat.shiftLeft_eq, g]
  have t1 : (-1074 + (k : Int)).toNat = k - 1074 := by omega
  have t2 : (-(-1074 + (k : Int))).toNat = 1074 - k := by omega
  rw [t1, t2]
  have key : m * 2 ^ (k - 1074) / 2 ^ (1074 - k) = m * 2 ^ k / U := by
    by_cases hk : 1074 ≤ k
    · rw [show 1074 - k = 0 by omega, Nat.pow_zero, Nat.div_one, (pow_split k hk), ← Nat.mul_assoc, Nat.mul_div_cancel _ U_pos]
    · rw [show k - 1074 = 0 by omega, Nat.pow_zero, Nat.mul_one, U_split k (by omega), Nat.mul_div_mul_right _ _ (Nat.two_pow_pos k)]
  rw [key]

theorem write_int (s : Bool) (t : Nat) : Ieee.double.write (.number s t 0) = word s (rnd (t * U)) := by
  have h := nearest_rnd s t E
  rw [show (-1074 + (E : Int)) = 0 by decide] at h
  exact h

theorem trunc_finite (n : Nat) (h : n % 9223372036854775808 < 9218868437227405312) :
    truncBits n % 9223372036854775808 < 9218868437227405312 ∧ val (truncBits n) = if sgn n then -((mag n / U * U : Nat) : Int) else ((mag n / U * U : Nat) : Int) := by
  unfold truncBits
  rw [integral_finite n h, write_int]
  obtain ⟨m, k, r, g, h1, h2, h3, h4⟩ := read_finite n h
  have key : mag (rnd (mag n / U * U)) = mag n / U * U ∧ rnd (mag n / U * U) < 9218868437227405312 := by
    by_cases hk : 1074 ≤ k
    · have e2 : mag n / U * U = mag n := by
        rw [g, pow_split k hk, ← Nat.mul_assoc, Nat.mul_div_cancel _ U_pos]
      rw [e2, rnd_mag n h, mag_low]
      exact ⟨rfl, h⟩
    · have e : mag n / U = m / 2 ^ (1074 - k) := by
        rw [g, U_split k (by omega), Nat.mul_div_mul_right _ _ (Nat.two_pow_pos k)]
      have hlt : mag n / U < 9007199254740992 := by
        rw [e]
        exact Nat.lt_of_le_of_lt (Nat.div_le_self _ _) h1
      exact rnd_form _ E hlt (by decide)
  rw [low_word _ _ (by omega), val_word _ _ (by omega), key.1]
  exact ⟨key.2, rfl⟩

theorem val_div (n : Nat) : (val n % (U : Int) = 0) ↔ mag n / U * U = mag n := by
  have hp := U_pos
  unfold val
  generalize U = V at *
  have e : (V : Int) ∣ (mag n : Int) ↔ mag n / V * V = mag n := by
    rw [Int.natCast_dvd_natCast]
    constructor
    · exact Nat.div_mul_cancel
    · intro h; exact ⟨mag n / V, by rw [Nat.mul_comm]; exact h.symm⟩
  rw [← e]
  cases sgn n
  · simp only [Bool.false_eq_true, if_false]
    exact ⟨Int.dvd_of_emod_eq_zero, Int.emod_eq_zero_of_dvd⟩
  · simp only [if_true]
    constructor
    · intro h; exact Int.dvd_neg.1 (Int.dvd_of_emod_eq_zero h)
    · intro h; exact Int.emod_eq_zero_of_dvd (Int.dvd_neg.2 h)

theorem trunc_eq (n : Nat) (h : n % 9223372036854775808 < 9218868437227405312) :
    (Ieee.double.order n (truncBits n) != some .eq) = !decide (val n % (U : Int) = 0) := by
  obtain ⟨t1, t2⟩ := trunc_finite n h
  rw [order_finite n _ h t1, t2]
  have hv := val_div n
  have cz : ∀ x y : Int, (compare x y = .eq) ↔ x = y := fun x y => Std.LawfulEqCmp.compare_eq_iff_eq
  rw [Bool.eq_iff_iff]
  simp only [bne_iff_ne, ne_eq, Option.some.injEq, cz, Bool.not_eq_true', decide_eq_false_iff_not, hv]
  unfold val
  cases sgn n
  · simp only [Bool.false_eq_true, if_false]
    omega
  · simp only [if_true]
    omega

theorem val_low63 : val 14114281232179134464 = -9223372036854775808 * (U : Int) := by decide +kernel
theorem val_top63 : val 4890909195324358656 = 9223372036854775808 * (U : Int) := by decide +kernel

theorem some_lt (x y : Int) : (some (compare x y) == some .lt) = decide (x < y) := by
  rw [Bool.eq_iff_iff]
  simp only [beq_iff_eq, Option.some.injEq, decide_eq_true_eq]
  exact Std.compare_eq_lt
theorem some_gt (x y : Int) : (some (compare x y) == some .gt) = decide (y < x) := by
  rw [Bool.eq_iff_iff]
  simp only [beq_iff_eq, Option.some.injEq, decide_eq_true_eq]
  exact Std.compare_eq_gt
theorem some_eq (x y : Int) : (some (compare x y) == some .eq) = decide (x = y) := by
  rw [Bool.eq_iff_iff]
  simp only [beq_iff_eq, Option.some.injEq, decide_eq_true_eq]
  exact Std.LawfulEqCmp.compare_eq_iff_eq

theorem order_low63 (n : Nat) (h : n % 9223372036854775808 < 9218868437227405312) : (Ieee.double.order n 14114281232179134464 == some .lt) = decide (val n < -9223372036854775808 * (U : Int)) := by
  rw [order_finite n _ h (by decide), val_low63, some_lt]
theorem order_top63_gt (n : Nat) (h : n % 9223372036854775808 < 9218868437227405312) : (Ieee.double.order n 4890909195324358656 == some .gt) = decide (9223372036854775808 * (U : Int) < val n) := by
  rw [order_finite n _ h (by decide), val_top63, some_gt]
theorem order_top63_eq (n : Nat) (h : n % 9223372036854775808 < 9218868437227405312) : (Ieee.double.order n 4890909195324358656 == some .eq) = decide (val n = 9223372036854775808 * (U : Int)) := by
  rw [order_finite n _ h (by decide), val_top63, some_eq]

theorem toInt_finite (n : Nat) (h : n % 9223372036854775808 < 9218868437227405312) : (Ieee.double.read n).toInt .zero = some (if sgn n then -((mag n / U : Nat) : Int) else ((mag n / U : Nat) : Int)) := by
  unfold Ieee.Datum.toInt
  rw [integral_finite n h]
  simp only [signed_eq, Nat.pow_zero, Nat.mul_one]

theorem val_quot (n : Nat) (hd : val n % (U : Int) = 0) : (if sgn n then -((mag n / U : Nat) : Int) else ((mag n / U : Nat) : Int)) = val n / (U : Int) := by
  have hp := U_pos
  have hv := (val_div n).1 hd
  unfold val
  generalize U = V at *
  have hd2 : (V : Int) ∣ (mag n : Int) := by
    rw [Int.natCast_dvd_natCast]
    exact ⟨mag n / V, by rw [Nat.mul_comm]; exact hv.symm⟩
  cases sgn n
  · simp only [Bool.false_eq_true, if_false]
    exact Int.natCast_ediv _ _
  · simp only [if_true]
    rw [Int.neg_ediv_of_dvd hd2, Int.natCast_ediv]

/-- The conversion to int64 of a whole number in range. -/
theorem conv_int (n : Nat) (hok : intOk n = true) : floatToIntVal .f64 n .i64 = some (intNum n) := by
  have hd := of_decide_eq_true hok
  obtain ⟨h1, h2, h3, h4⟩ := hd
  unfold floatToIntVal
  have e : (FloatKind.f64.decode n).toInt .zero = _ := toInt_finite n h1
  rw [e, val_quot n h2]
  simp only
  unfold intNum
  rw [if_pos hok]
  have hp : (0 : Int) < (U : Int) := by
    have := U_pos
    omega
  generalize (U : Int) = V at *
  have l1 : -9223372036854775808 ≤ val n / V := (Int.le_ediv_iff_mul_le hp).2 h3
  have l2 : val n / V < 9223372036854775808 := (Int.ediv_lt_iff_lt_mul hp).2 h4
  rw [if_pos]
  exact ⟨by rw [show IntKind.i64.min = -9223372036854775808 by decide]; exact l1, by rw [show IntKind.i64.max = 9223372036854775807 by decide]; omega⟩

theorem intNum_no (n : Nat) (h : intOk n = false) : intNum n = 0 := by
  unfold intNum
  rw [if_neg (by rw [h]; decide)]

/-! Order and places go by what finite words stand for. -/
theorem mag_inj (a b : Nat) (ha : a % 9223372036854775808 < 9218868437227405312) (hb : b % 9223372036854775808 < 9218868437227405312) : (mag a < mag b ↔ a % 9223372036854775808 < b % 9223372036854775808) ∧ (mag a = mag b ↔ a % 9223372036854775808 = b % 9223372036854775808) := by
  have h1 := mag_mono a b ha hb
  have h2 := mag_mono b a hb ha
  have h3 : a % 9223372036854775808 = b % 9223372036854775808 → mag a = mag b := fun h => by rw [← mag_low a, h, mag_low]
  constructor
  · constructor
    · intro h; omega
    · exact h1
  · constructor
    · intro h; omega
    · exact h3
theorem place_of (n : Nat) (hn : n < 18446744073709551616) (h : n % 9223372036854775808 < 9218868437227405312) :
    (place n : Int) = if val n < 0 then 9223372036854775807 - ((n % 9223372036854775808 : Nat) : Int) else 9223372036854775808 + ((n % 9223372036854775808 : Nat) : Int) := by
  have hz := mag_zero n h
  unfold place
  rw [canon_word n (by omega)]
  unfold val sgn
  by_cases h1 : n < 9223372036854775808
  · rw [Nat.div_eq_of_lt h1]
    simp
    split <;> split <;> omega
  · rw [show n / 9223372036854775808 = 1 by omega]
    simp
    split <;> split <;> split <;> omega
theorem place_val (a b : Nat) (ha : a < 18446744073709551616) (hb : b < 18446744073709551616) (fa : a % 9223372036854775808 < 9218868437227405312) (fb : b % 9223372036854775808 < 9218868437227405312) :
    (place a < place b ↔ val a < val b) ∧ (place a = place b ↔ val a = val b) := by
  have pa := place_of a ha fa
  have pb := place_of b hb fb
  obtain ⟨m1, m2⟩ := mag_inj a b fa fb
  have va : val a = mag a ∨ val a = -(mag a : Int) := by
    unfold val; cases sgn a <;> simp
  have vb : val b = mag b ∨ val b = -(mag b : Int) := by
    unfold val; cases sgn b <;> simp
  have za := mag_zero a fa
  have zb := mag_zero b fb
  obtain ⟨m3, _⟩ := mag_inj b a fb fa
  generalize a % 9223372036854775808 = la at *
  generalize b % 9223372036854775808 = lb at *
  generalize mag a = ma at *
  generalize mag b = mb at *
  by_cases sa : val a < 0 <;> by_cases sb : val b < 0 <;> simp only [sa, sb, if_true, if_false] at pa pb <;> rcases va with va | va <;> rcases vb with vb | vb <;> constructor <;> constructor <;> intro hh <;> omega

theorem val_canon (n : Nat) (h : n % 9223372036854775808 < 9218868437227405312) : val (canon n) = val n ∧ canon n % 9223372036854775808 < 9218868437227405312 := by
  rw [canon_word n (by omega)]
  split
  · rename_i h0
    have := (mag_zero n h).2 h0
    refine ⟨?_, by omega⟩
    unfold val
    rw [this]
    cases sgn n <;> decide
  · exact ⟨rfl, h⟩

/-! The float of a whole number. -/
theorem of_word (n : Int) : floatOfInt .f64 n = word (decide (n < 0)) (rnd (n.natAbs * U)) := write_int (decide (n < 0)) n.natAbs
theorem rnd_whole (t : Nat) (h : t ≤ 9007199254740992) : mag (rnd (t * U)) = t * U ∧ rnd (t * U) < 9218868437227405312 := by
  by_cases h1 : t < 9007199254740992
  · exact rnd_form t E h1 (by decide)
  · have e : t * U = 4503599627370496 * 2 ^ (E + 1) := by
      unfold U
      rw [Nat.pow_succ, show t = 9007199254740992 by omega]
      omega
    rw [e]
    exact rnd_form 4503599627370496 (E + 1) (by decide) (by decide)
theorem of_whole (n : Int) (h : n.natAbs ≤ 9007199254740992) : val (floatOfInt .f64 n) = n * U ∧ floatOfInt .f64 n % 9223372036854775808 < 9218868437227405312 ∧ floatOfInt .f64 n < 18446744073709551616 := by
  obtain ⟨h1, h2⟩ := rnd_whole n.natAbs h
  rw [of_word, val_word _ _ (by omega), low_word _ _ (by omega), h1]
  refine ⟨?_, h2, word_lt _ _ (by omega)⟩
  by_cases hn : n < 0
  · rw [decide_eq_true hn, if_pos rfl, Int.natCast_mul, ← Int.neg_mul, show -(n.natAbs : Int) = n by omega]
  · rw [decide_eq_false hn]
    simp only [Bool.false_eq_true, if_false]
    rw [Int.natCast_mul, show (n.natAbs : Int) = n by omega]
theorem int_whole (f : Nat) (n : Int) (hf : f % 9223372036854775808 < 9218868437227405312) (hv : val f = n * U) (h1 : -9223372036854775808 ≤ n) (h2 : n < 9223372036854775808) : intOk f = true ∧ intNum f = n := by
  have hp : (0 : Int) < (U : Int) := by
    have := U_pos
    omega
  have hok : intOk f = true := by
    unfold intOk
    rw [hv]
    refine decide_eq_true ⟨hf, Int.mul_emod_left _ _, ?_, ?_⟩
    · exact Int.mul_le_mul_of_nonneg_right h1 (Int.le_of_lt hp)
    · exact Int.mul_lt_mul_of_pos_right h2 hp
  refine ⟨hok, ?_⟩
  unfold intNum
  rw [if_pos hok, hv, Int.mul_ediv_cancel _ (by omega)]
theorem whole_int (f : Nat) (h : intOk f = true) : val f = intNum f * U ∧ f % 9223372036854775808 < 9218868437227405312 ∧ -9223372036854775808 ≤ intNum f ∧ intNum f < 9223372036854775808 := by
  have hd := of_decide_eq_true h
  obtain ⟨h1, h2, h3, h4⟩ := hd
  have hp : (0 : Int) < (U : Int) := by
    have := U_pos
    omega
  unfold intNum
  rw [if_pos h]
  exact ⟨(Int.ediv_mul_cancel (Int.dvd_of_emod_eq_zero h2)).symm, h1, (Int.le_ediv_iff_mul_le hp).2 h3, (Int.ediv_lt_iff_lt_mul hp).2 h4⟩
end Go.Proofs.Ytmoaadaelhakjaa.Num
