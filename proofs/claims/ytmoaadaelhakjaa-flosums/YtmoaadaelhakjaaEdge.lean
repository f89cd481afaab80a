/-
  What sums with the infinities, the noughts, NaNs and the opposite float give, and where the infinities and NaNs stand among the places; the words that the statement on edges makes by bits. No program is named here.
-/
import Derived.Test.YtmoaadaelhakjaaRnd
namespace Go.Proofs.Ytmoaadaelhakjaa.Num

theorem or_one (x : Nat) : x ||| 1 = x / 2 * 2 + 1 := by
  have h : x / 2 * 2 ||| x % 2 = x := by
    rw [nat_join 1 (x / 2 * 2) (x % 2) (by omega) (by omega)]; omega
  have h2 : x % 2 = 0 ∨ x % 2 = 1 := by omega
  have e : x ||| 1 = x / 2 * 2 ||| 1 := by
    conv => lhs; rw [← h]
    rw [Nat.or_assoc]
    rcases h2 with h2 | h2 <;> rw [h2] <;> rfl
  rw [e, nat_join 1 (x / 2 * 2) 1 (by omega) (by omega)]

theorem xor_top (n : Nat) (h : n < 18446744073709551616) : n ^^^ 9223372036854775808 = if 9223372036854775808 ≤ n then n - 9223372036854775808 else n + 9223372036854775808 := by
  have key : ∀ m, m < 9223372036854775808 → m ^^^ 9223372036854775808 = m + 9223372036854775808 := by
    intro m hm
    have e : 9223372036854775808 ||| m = 9223372036854775808 + m := nat_join 63 9223372036854775808 m (by decide) hm
    have e2 : m ^^^ 9223372036854775808 = 9223372036854775808 ||| m := by
      apply Nat.eq_of_testBit_eq
      intro i
      rw [Nat.testBit_xor, Nat.testBit_or]
      by_cases hi : i = 63
      · subst hi
        have h1 : m.testBit 63 = false := Nat.testBit_lt_two_pow hm
        rw [h1]; decide
      · have h2 : Nat.testBit 9223372036854775808 i = false := by
          have := @Nat.testBit_two_pow_of_ne 63 i (by omega)
          exact this
        rw [h2]; simp
    omega
  split
  · rename_i h1
    have e := key (n - 9223372036854775808) (by omega)
    rw [show n - 9223372036854775808 + 9223372036854775808 = n by omega] at e
    conv => lhs; rw [← e]
    rw [Nat.xor_assoc, Nat.xor_self, Nat.xor_zero]
  · exact key n (by omega)

theorem edge_bits (f p : Nat) (hf : f < 18446744073709551616) (hp : p < 18446744073709551616) : ∃ r s N T g : Nat,
    bits .and .u64 (p : Int) 4503599627370495 = (r : Int) ∧ bits .or .u64 (r : Int) 9218868437227405312 = (s : Int) ∧ bits .or .u64 (s : Int) 1 = (N : Int) ∧
    bits .or .u64 (N : Int) 9223372036854775808 = (T : Int) ∧ bits .xor .u64 (f : Int) 9223372036854775808 = (g : Int) ∧
    9218868437227405312 < N ∧ N < 9223372036854775808 ∧ T = N + 9223372036854775808 ∧ g % 9223372036854775808 = f % 9223372036854775808 ∧ sgn g = !sgn f ∧ g < 18446744073709551616 := by
  have e1 : bits .and .u64 (p : Int) 4503599627370495 = ((p % 4503599627370496 : Nat) : Int) := by
    have e := u64_and_nat p 4503599627370495 hp (by decide)
    rw [show ((4503599627370495 : Nat) : Int) = 4503599627370495 from rfl] at e
    rw [e]
    have := Nat.and_two_pow_sub_one_eq_mod p 52
    rw [show (2 : Nat) ^ 52 - 1 = 4503599627370495 from rfl, show (2 : Nat) ^ 52 = 4503599627370496 from rfl] at this
    rw [this]
  have e2 : bits .or .u64 ((p % 4503599627370496 : Nat) : Int) 9218868437227405312 = ((9218868437227405312 + p % 4503599627370496 : Nat) : Int) := by
    have e := u64_or_nat (p % 4503599627370496) 9218868437227405312 (by omega) (by decide)
    rw [show ((9218868437227405312 : Nat) : Int) = 9218868437227405312 from rfl] at e
    rw [e, Nat.or_comm, nat_join 52 9218868437227405312 (p % 4503599627370496) (by decide) (by omega)]
  have e3 : bits .or .u64 ((9218868437227405312 + p % 4503599627370496 : Nat) : Int) 1 = (((9218868437227405312 + p % 4503599627370496) / 2 * 2 + 1 : Nat) : Int) := by
    have e := u64_or_nat (9218868437227405312 + p % 4503599627370496) 1 (by omega) (by decide)
    rw [show ((1 : Nat) : Int) = 1 from rfl] at e
    rw [e, or_one]
  have e4 := or_top ((9218868437227405312 + p % 4503599627370496) / 2 * 2 + 1) (by omega)
  have e5 : bits .xor .u64 (f : Int) 9223372036854775808 = ((f ^^^ 9223372036854775808 : Nat) : Int) := by
    have e := u64_xor_nat f 9223372036854775808 hf (by decide)
    rw [show ((9223372036854775808 : Nat) : Int) = 9223372036854775808 from rfl] at e
    exact e
  refine ⟨_, _, _, _, _, e1, e2, e3, by rw [e4]; exact (Int.natCast_add _ 9223372036854775808).symm, e5, by omega, by omega, rfl, ?_, ?_, ?_⟩
  · rw [xor_top f hf]; split <;> omega
  · rw [xor_top f hf]
    unfold sgn
    by_cases h : 9223372036854775808 ≤ f
    · rw [if_pos h, show (f - 9223372036854775808) / 9223372036854775808 = 0 by omega, show f / 9223372036854775808 = 1 by omega]; rfl
    · rw [if_neg h, show (f + 9223372036854775808) / 9223372036854775808 = 1 by omega, show f / 9223372036854775808 = 0 by omega]; rfl
  · rw [xor_top f hf]; split <;> omega

theorem canon_isnan (n : Nat) (h : 9218868437227405312 < n % 9223372036854775808) : canon n = 9221120237041090560 := by
  unfold canon; rw [if_pos h]
theorem canon_word (n : Nat) (h : ¬ 9218868437227405312 < n % 9223372036854775808) : canon n = if n % 9223372036854775808 = 0 then 0 else n := by
  unfold canon; rw [if_neg h]

theorem sum_nan (a b : Nat) (h : 9218868437227405312 < a % 9223372036854775808 ∨ 9218868437227405312 < b % 9223372036854775808) : canon (fadd a b) = 9221120237041090560 := by
  unfold fadd
  rw [add_nan a b h]
  decide
theorem sum_inf (f : Nat) (h : f % 9223372036854775808 < 9218868437227405312) : canon (fadd f 9218868437227405312) = 9218868437227405312 ∧ canon (fadd f 18442240474082181120) = 18442240474082181120 := by
  unfold fadd
  rw [add_inf_right f _ h (by decide), add_inf_right f _ h (by decide)]
  decide
theorem sum_opposite (f g : Nat) (h : f % 9223372036854775808 < 9218868437227405312) (hg : g % 9223372036854775808 = f % 9223372036854775808) (hs : sgn g = !sgn f) : canon (fadd f g) = 0 := by
  have hm : mag g = mag f := by rw [← mag_low g, hg, mag_low]
  have hv : val f + val g = 0 := by
    unfold val
    rw [hs, hm]
    cases sgn f <;> simp <;> omega
  unfold fadd
  rw [add_finite f g h (by omega), hv, hs]
  cases sgn f <;> decide
theorem sum_nought (f z : Nat) (h : f % 9223372036854775808 < 9218868437227405312) (hf : f < 18446744073709551616) (hz : z % 9223372036854775808 = 0) : canon (fadd f z) = canon f := by
  have hm : mag z = 0 := (mag_zero z (by omega)).2 hz
  have hv : val z = 0 := by
    unfold val
    rw [hm]
    cases sgn z <;> rfl
  unfold fadd
  rw [add_finite f z h (by omega), hv, Int.add_zero]
  by_cases h0 : mag f = 0
  · have hvf : val f = 0 := by
      unfold val
      rw [h0]
      cases sgn f <;> rfl
    rw [hvf, canon_word f (by omega), if_pos ((mag_zero f h).1 h0)]
    cases sgn f <;> cases sgn z <;> decide
  · have hvf : val f ≠ 0 := by
      unfold val
      cases sgn f <;> simp <;> omega
    have hs : decide (val f < 0) = sgn f := by
      unfold val
      cases sgn f <;> simp <;> omega
    have ha : (val f).natAbs = mag f := by
      unfold val
      cases sgn f <;> simp
    rw [if_neg hvf, hs, ha, rnd_mag f h]
    simp only
    rw [word_of f hf]

theorem cmp_lt (a b : Nat) (h : place a < place b) : cmp a b = -1 := by unfold cmp; rw [if_pos h]
theorem cmp_eq (a b : Nat) (h : place a = place b) : cmp a b = 0 := by unfold cmp; rw [if_neg (by omega), if_neg (by omega)]
theorem place_nan (n : Nat) (h : 9218868437227405312 < n % 9223372036854775808) : place n = 18444492273895866368 := by
  unfold place; rw [canon_isnan n h]; decide
theorem place_finite (n : Nat) (hn : n < 18446744073709551616) (h : n % 9223372036854775808 < 9218868437227405312) : 4503599627370495 < place n ∧ place n < 18442240474082181120 := by
  unfold place
  rw [canon_word n (by omega)]
  by_cases h0 : n % 9223372036854775808 = 0
  · rw [if_pos h0]; decide
  · rw [if_neg h0]
    split <;> omega
end Go.Proofs.Ytmoaadaelhakjaa.Num
