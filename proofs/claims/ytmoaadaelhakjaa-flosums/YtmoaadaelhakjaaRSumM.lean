/-
  The sum of two finite floats by exponents and fractions with three bits more: that what the document reckons is the exact sum, rounded once. No program is named here.
-/
import Derived.Test.YtmoaadaelhakjaaPackM
namespace Go.Proofs.Ytmoaadaelhakjaa.Num

/-- The exponent and the fraction of a finite float. -/
def pe (n : Nat) : Nat := if n % 9223372036854775808 < 4503599627370496 then 1 else n % 9223372036854775808 / 4503599627370496
def pq (n : Nat) : Nat := if n % 9223372036854775808 < 4503599627370496 then n % 9223372036854775808 else 4503599627370496 + n % 9223372036854775808 % 4503599627370496

theorem pq_lt (n : Nat) : pq n < 9007199254740992 := by
  unfold pq; split <;> omega
theorem pe_le (n : Nat) (h : n % 9223372036854775808 < 9218868437227405312) : 1 ≤ pe n ∧ pe n ≤ 2046 := by
  unfold pe; split <;> omega
theorem pq_ge (n : Nat) (h : 1 < pe n) : 4503599627370496 ≤ pq n := by
  unfold pe at h
  unfold pq
  by_cases h1 : n % 9223372036854775808 < 4503599627370496
  · rw [if_pos h1] at h; omega
  · rw [if_neg h1]; omega
theorem mag_pq (n : Nat) : mag n = pq n * 2 ^ (pe n - 1) := by
  unfold mag pq pe
  split
  · simp
  · rfl
theorem low_pq (n : Nat) : n % 9223372036854775808 = (pe n - 1) * 4503599627370496 + pq n := by
  unfold pq pe
  split <;> omega

theorem sts_succ (k m : Nat) : sts (k + 1) m = st (sts k m) := rfl
theorem sts_down (k j m : Nat) : sts (k + j) m ≤ sts k m := by
  induction j with
  | zero => exact Nat.le_refl _
  | succ j ih => exact Nat.le_trans (st_le _) ih
theorem st_even (q : Nat) : st (q * 2) = q := by
  rw [st_eq, if_neg (by omega)]; omega
theorem sts_eight (q : Nat) : sts 1 (q * 8) = q * 4 ∧ sts 2 (q * 8) = q * 2 ∧ sts 3 (q * 8) = q := by
  have h1 : sts 1 (q * 8) = q * 4 := by
    show st (q * 8) = q * 4
    rw [show q * 8 = q * 4 * 2 by omega, st_even]
  have h2 : sts 2 (q * 8) = q * 2 := by
    show st (sts 1 (q * 8)) = q * 2
    rw [h1, show q * 4 = q * 2 * 2 by omega, st_even]
  refine ⟨h1, h2, ?_⟩
  show st (sts 2 (q * 8)) = q
  rw [h2, st_even]

theorem near_plus (c m T d : Nat) (hc : c % 2 = 0) (h : Near m T d) : Near (c + m) (c * 2 ^ d + T) d := by
  rcases h with h | ⟨a, b, p, q⟩
  · exact .inl (by rw [h, Nat.add_mul])
  · refine .inr ⟨a, by omega, ?_, ?_⟩
    · rw [show c + m - 1 = c + (m - 1) by omega, Nat.add_mul]; omega
    · rw [show c + m + 1 = c + (m + 1) by omega, Nat.add_mul]; omega
theorem near_minus (c m T d : Nat) (hc : c % 2 = 0) (hm : m ≤ c) (hT : T ≤ c * 2 ^ d) (h : Near m T d) : Near (c - m) (c * 2 ^ d - T) d := by
  rcases h with h | ⟨a, b, p, q⟩
  · exact .inl (by rw [h, Nat.sub_mul])
  · have e1 : (c - m - 1) * 2 ^ d = c * 2 ^ d - (m + 1) * 2 ^ d := by rw [← Nat.sub_mul]; congr 1
    have e2 : (c - m + 1) * 2 ^ d = c * 2 ^ d - (m - 1) * 2 ^ d := by rw [← Nat.sub_mul]; congr 1; omega
    have e3 : (m + 1) * 2 ^ d ≤ c * 2 ^ d := Nat.mul_le_mul_right _ (by omega)
    refine .inr ⟨a, by omega, ?_, ?_⟩
    · rw [e1]; omega
    · rw [e2]; omega

/-- The magnitude of the exact sum, and what the document reckons for it. -/
theorem reckon (X Y D : Nat) (hX : X % 9223372036854775808 < 9218868437227405312) (hY : Y % 9223372036854775808 ≤ X % 9223372036854775808) (hD : pe X - pe Y = D) :
    pe Y ≤ pe X ∧ sts D (pq Y * 8) ≤ pq X * 8 ∧ mag Y ≤ mag X ∧ D < 4096 ∧
    (Exa (pe X) (pq X * 8 + sts D (pq Y * 8)) (mag X + mag Y) ∨ (Inx (pe X) (pq X * 8 + sts D (pq Y * 8)) (mag X + mag Y) ∧ 18014398509481984 ≤ pq X * 8 + sts D (pq Y * 8))) ∧
    (Exa (pe X) (pq X * 8 - sts D (pq Y * 8)) (mag X - mag Y) ∨ (Inx (pe X) (pq X * 8 - sts D (pq Y * 8)) (mag X - mag Y) ∧ 18014398509481984 ≤ pq X * 8 - sts D (pq Y * 8))) := by
  have x1 := pq_lt X
  have y1 := pq_lt Y
  have x2 := pe_le X hX
  have y2 := pe_le Y (by omega)
  have x3 := pq_ge X
  have lx := low_pq X
  have ly := low_pq Y
  have hle : pe Y ≤ pe X := by
    have y3 := pq_ge Y
    omega
  have hmag : mag Y ≤ mag X := by
    by_cases heq : Y % 9223372036854775808 = X % 9223372036854775808
    · rw [← mag_low Y, heq, mag_low]
      exact Nat.le_refl _
    · exact Nat.le_of_lt (mag_mono Y X (by omega) hX (by omega))
  have mx := mag_pq X
  have my := mag_pq Y
  have hpw : 2 ^ (pe X - 1) = 2 ^ D * 2 ^ (pe Y - 1) := by
    rw [← Nat.pow_add]; congr 1; omega
  have hF : 0 < 2 ^ (pe Y - 1) := Nat.two_pow_pos _
  rw [hpw, ← Nat.mul_assoc] at mx
  have hT : pq Y ≤ pq X * 2 ^ D := by
    rw [mx, my] at hmag
    exact Nat.le_of_mul_le_mul_right hmag hF
  have e8 := sts_eight (pq Y)
  have hs : sts D (pq Y * 8) ≤ pq X * 8 := by
    by_cases h0 : D = 0
    · subst h0
      show pq Y * 8 ≤ pq X * 8
      rw [Nat.pow_zero, Nat.mul_one] at hT
      omega
    · have := sts_down 1 (D - 1) (pq Y * 8)
      rw [show 1 + (D - 1) = D by omega, e8.1] at this
      have := x3 (by omega)
      omega
  have hbig : 4 ≤ D → sts D (pq Y * 8) ≤ pq Y := by
    intro h
    have := sts_down 3 (D - 3) (pq Y * 8)
    rw [show 3 + (D - 3) = D by omega, e8.2.2] at this
    exact this
  have hsmall : D < 4 → pq Y * 8 = sts D (pq Y * 8) * 2 ^ D := by
    intro h
    rcases (show D = 0 ∨ D = 1 ∨ D = 2 ∨ D = 3 by omega) with h | h | h | h <;> subst h
    · simp [sts]
    · rw [e8.1]; omega
    · rw [e8.2.1]; omega
    · rw [e8.2.2]
  have near := near_sts D (pq Y * 8)
  have c2 : (pq X * 8) % 2 = 0 := by omega
  have tP : (mag X + mag Y) * 2 ^ 3 = (pq X * 8 * 2 ^ D + pq Y * 8) * 2 ^ (pe Y - 1) := by
    rw [mx, my, ← Nat.add_mul, Nat.mul_right_comm, Nat.add_mul, show (2 : Nat) ^ 3 = 8 from rfl, Nat.mul_right_comm (pq X) (2 ^ D) 8]
  have tM : (mag X - mag Y) * 2 ^ 3 = (pq X * 8 * 2 ^ D - pq Y * 8) * 2 ^ (pe Y - 1) := by
    rw [mx, my, ← Nat.sub_mul, Nat.mul_right_comm, Nat.sub_mul, show (2 : Nat) ^ 3 = 8 from rfl, Nat.mul_right_comm (pq X) (2 ^ D) 8]
  have hT8 : pq Y * 8 ≤ pq X * 8 * 2 ^ D := by
    rw [Nat.mul_right_comm]
    exact Nat.mul_le_mul_right 8 hT
  refine ⟨hle, hs, hmag, by omega, ?_, ?_⟩
  · by_cases h4 : 4 ≤ D
    · have hb := hbig h4
      have := x3 (by omega)
      rcases rep_split (pe X) _ _ _ D (pe Y - 1) (by omega) tP (near_plus _ _ _ _ c2 near) with h | h
      · exact .inl h
      · exact .inr ⟨h, by omega⟩
    · refine .inl ⟨x2.1, ?_⟩
      rw [tP, hpw, ← Nat.mul_assoc, Nat.add_mul (pq X * 8), ← hsmall (by omega)]
  · by_cases h4 : 4 ≤ D
    · have hb := hbig h4
      have := x3 (by omega)
      rcases rep_split (pe X) _ _ _ D (pe Y - 1) (by omega) tM (near_minus _ _ _ _ c2 hs hT8 near) with h | h
      · exact .inl h
      · exact .inr ⟨h, by omega⟩
    · refine .inl ⟨x2.1, ?_⟩
      rw [tM, hpw, ← Nat.mul_assoc, Nat.sub_mul (pq X * 8), ← hsmall (by omega)]

theorem rep_zero (e m M : Nat) (h : Exa e m M ∨ (Inx e m M ∧ 18014398509481984 ≤ m)) : m = 0 ↔ M = 0 := by
  rcases h with ⟨a, b⟩ | ⟨⟨T, d, F, a, b, c, g, p, q⟩, _⟩
  · have hp : 0 < 2 ^ (e - 1) := Nat.two_pow_pos _
    constructor
    · intro h; subst h; omega
    · intro h
      rw [h, Nat.zero_mul] at b
      rcases Nat.mul_eq_zero.1 b.symm with h | h <;> omega
  · have hp : 0 < T * 2 ^ F := Nat.mul_pos (by omega) (Nat.two_pow_pos _)
    omega

/-- The float64 sum of two finite words, by the one of the greater magnitude. -/
theorem sum_by (a b X Y : Nat) (ha : a % 9223372036854775808 < 9218868437227405312) (hb : b % 9223372036854775808 < 9218868437227405312)
    (hv : val a + val b = val X + val Y) (hm : mag Y ≤ mag X) :
    canon (fadd a b) = if (if sgn X = sgn Y then mag X + mag Y else mag X - mag Y) = 0 then 0 else canon (word (sgn X) (rnd (if sgn X = sgn Y then mag X + mag Y else mag X - mag Y))) := by
  unfold fadd
  rw [add_finite a b ha hb, hv]
  have hn : (val X + val Y).natAbs = if sgn X = sgn Y then mag X + mag Y else mag X - mag Y := by
    unfold val
    cases sgn X <;> cases sgn Y <;> simp <;> omega
  rw [hn]
  by_cases h0 : (if sgn X = sgn Y then mag X + mag Y else mag X - mag Y) = 0
  · rw [if_pos h0, h0]
    have hz : val X + val Y = 0 := by omega
    rw [if_pos hz]
    cases sgn a <;> cases sgn b <;> decide
  · rw [if_neg h0]
    have hz : ¬ val X + val Y = 0 := by omega
    rw [if_neg hz]
    have hs : decide (val X + val Y < 0) = sgn X := by
      unfold val at *
      cases hx : sgn X <;> cases hy : sgn Y <;> rw [hx, hy] at h0 <;> simp at h0 ⊢ <;> omega
    rw [hs]

theorem xor_sign (X Y : Nat) (hX : X < 18446744073709551616) (hY : Y < 18446744073709551616) : (bits .and .u64 (bits .xor .u64 (X : Int) (Y : Int)) 9223372036854775808 != 0) = !(sgn X == sgn Y) := by
  rw [u64_xor_nat X Y hX hY]
  have hx : X ^^^ Y < 18446744073709551616 := Nat.xor_lt_two_pow (n := 64) hX hY
  rw [and_top _ hx]
  have key : ∀ n, n < 18446744073709551616 → (9223372036854775808 ≤ n ↔ n.testBit 63 = true) := by
    intro n hn
    have h1 : n.testBit 63 = decide (n / 2 ^ 63 % 2 = 1) := Nat.testBit_eq_decide_div_mod_eq
    rw [h1, decide_eq_true_eq, show (2 : Nat) ^ 63 = 9223372036854775808 from rfl]
    omega
  have sg : ∀ n, n < 18446744073709551616 → sgn n = n.testBit 63 := by
    intro n hn
    rw [Bool.eq_iff_iff, ← key n hn]
    unfold sgn
    rw [beq_iff_eq]
    omega
  rw [sg X hX, sg Y hY]
  have k := key _ hx
  rw [Nat.testBit_xor] at k
  by_cases h : 9223372036854775808 ≤ X ^^^ Y
  · rw [if_pos h]
    have := k.1 h
    cases hx : X.testBit 63 <;> cases hy : Y.testBit 63 <;> rw [hx, hy] at this <;> first | rfl | (exact absurd this (by decide))
  · rw [if_neg h]
    have : ¬ (X.testBit 63 ^^ Y.testBit 63) = true := fun hh => h (k.2 hh)
    cases hx : X.testBit 63 <;> cases hy : Y.testBit 63 <;> rw [hx, hy] at this <;> first | rfl | (exact absurd (by decide) this)
end Go.Proofs.Ytmoaadaelhakjaa.Num
