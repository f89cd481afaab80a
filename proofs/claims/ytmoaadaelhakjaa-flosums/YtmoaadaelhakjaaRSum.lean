/-
  The contract of the document's own Sum: for every two words it returns the one form of their float64 sum.
-/
import Derived.Test.YtmoaadaelhakjaaPackC
namespace Go.Proofs.Ytmoaadaelhakjaa
open Go.RowKit Num

theorem two_canon (a : Nat) (ha : a < 18446744073709551616) (h : ¬ 9218868437227405312 < a % 9223372036854775808) : canon a % 9223372036854775808 = a % 9223372036854775808 ∧ ((canon a : Int) == 9221120237041090560) = false ∧ canon a < 18446744073709551616 := by
  have hl := canon_lt a ha
  rw [canon_word a h] at *
  refine ⟨?_, ?_, hl⟩
  · split <;> omega
  · rw [beq_eq_false_iff_ne]
    split <;> omega

set_option maxHeartbeats 1000000 in
/-- Both are finite, and the first is not below the other in magnitude. -/
theorem refSum_a (a b A B lA lB R : Nat) (ha : a < 18446744073709551616) (hb : b < 18446744073709551616) (hA : canon a = A) (hB : canon b = B) (cA : A < 18446744073709551616) (cB : B < 18446744073709551616)
    (nA : ((A : Int) == 9221120237041090560) = false) (nB : ((B : Int) == 9221120237041090560) = false) (eA : A % 9223372036854775808 = lA) (eB : B % 9223372036854775808 = lB)
    (fA : lA < 9218868437227405312) (fB : lB < 9218868437227405312) (hlt : lB ≤ lA)
    (hR : R = if (if sgn A = sgn B then mag A + mag B else mag A - mag B) = 0 then 0 else canon (word (sgn A) (rnd (if sgn A = sgn B then mag A + mag B else mag A - mag B)))) (w : World) :
    Calls Try.prog 19 #[.int .u64 (a : Int), .int .u64 (b : Int)] w fun e w' => e = .returned (.int .u64 (R : Nat)) ∧ w' = w := by
  have d1 : bits .andNot .u64 (A : Int) 9223372036854775808 = (lA : Int) := by rw [andNot_top A cA, eA]
  have d2 : bits .andNot .u64 (B : Int) 9223372036854775808 = (lB : Int) := by rw [andNot_top B cB, eB]
  have i1 : decide ((9218868437227405312 : Int) ≤ (lA : Int)) = false := decide_eq_false (by omega)
  have i2 : decide ((9218868437227405312 : Int) ≤ (lB : Int)) = false := decide_eq_false (by omega)
  have i3 : decide ((lA : Int) < (lB : Int)) = false := decide_eq_false (by omega)
  obtain ⟨D, hD⟩ : ∃ D, pe A - pe B = D := ⟨_, rfl⟩
  obtain ⟨r1, r2, r3, r4, r5, r6⟩ := reckon A B D (by omega) (by omega) hD
  have x1 := pq_lt A
  have y1 := pq_lt B
  have x2 := pe_le A (by omega)
  have hDi : ((pe A : Nat) : Int) - ((pe B : Nat) : Int) = (D : Int) := by omega
  have hx := xor_sign A B cA cB
  have hSt := and_top A cA
  have z1 := rep_zero _ _ _ r5
  have z2 := rep_zero _ _ _ r6
  have hsl := sts_le D (pq B * 8)
  obtain ⟨z, hz⟩ : ∃ z, sts D (pq B * 8) = z := ⟨_, rfl⟩
  rw [hz] at r2 r5 r6 z1 z2 hsl
  obtain ⟨Px, hPx⟩ : ∃ P, pq A * 8 = P := ⟨_, rfl⟩
  obtain ⟨Py, hPy⟩ : ∃ P, pq B * 8 = P := ⟨_, rfl⟩
  rw [hPx] at r2 r5 r6 z1 z2
  rw [hPy] at hz hsl
  have hPx2 : Px < 72057594037927936 := by omega
  have hPy2 : Py < 72057594037927936 := by omega
  obtain ⟨ex, hex⟩ : ∃ e, pe A = e := ⟨_, rfl⟩
  obtain ⟨ey, hey⟩ : ∃ e, pe B = e := ⟨_, rfl⟩
  rw [hex] at x2 r5 r6 hDi
  rw [hey] at hDi
  obtain ⟨mp, hmp⟩ : ∃ m, Px + z = m := ⟨_, rfl⟩
  obtain ⟨mm, hmm⟩ : ∃ m, Px - z = m := ⟨_, rfl⟩
  have hmpi : (Px : Int) + (z : Int) = (mp : Int) := by omega
  have hmmi : (Px : Int) - (z : Int) = (mm : Int) := by omega
  rw [hmp] at r5 z1
  rw [hmm] at r6 z2
  have hmpl : mp < 144115188075855872 := by omega
  have hmml : mm < 144115188075855872 := by omega
  obtain ⟨S, hS, hSw⟩ : ∃ S : Nat, (if 9223372036854775808 ≤ A then (9223372036854775808 : Int) else 0) = (S : Int) ∧ ((S = 0 ∨ S = 9223372036854775808) ∧ ∀ r, word (sgn A) r = S + r) := by
    by_cases h : 9223372036854775808 ≤ A
    · refine ⟨9223372036854775808, by rw [if_pos h]; rfl, .inr rfl, ?_⟩
      intro r
      have : sgn A = true := by unfold sgn; rw [show A / 9223372036854775808 = 1 by omega]; rfl
      rw [this]; rfl
    · refine ⟨0, by rw [if_neg h]; rfl, .inl rfl, ?_⟩
      intro r
      have : sgn A = false := by unfold sgn; rw [show A / 9223372036854775808 = 0 by omega]; rfl
      rw [this, Nat.zero_add]; rfl
  rw [hS] at hSt
  obtain ⟨hS2, hSw⟩ := hSw
  have rl := rnd_le
  clear hS hD r1 r2 r3 x1 y1 hmp hmm eA eB i3
  by_cases hsg : sgn A = sgn B
  · rw [if_pos hsg] at hR
    have hxs : (sgn A == sgn B) = true := by rw [beq_iff_eq]; exact hsg
    rw [hxs, Bool.not_true] at hx
    clear hsg hxs
    by_cases hz0 : mp = 0
    · have q1 : ((mp : Int) == 0) = true := by rw [beq_iff_eq]; omega
      have hR0 : R = 0 := by rw [hR, if_pos (z1.1 hz0)]
      subst hR0
      clear hR r5 r6 z1 z2 hz0 hSw rl
      go_enter Try.func19, Try.ntmps19
      go_wp2_with (first | (go_at_call 10; refine (refCanon_any _ (by assumption) _).mono ?_; rintro e w' ⟨rfl, rfl⟩; try simp only [hA, hB]) | (go_at_call 28; refine (parts_any _ (by assumption) _).mono ?_; rintro e w' ⟨rfl, rfl⟩; simp only [hPx, hPy, hex, hey]) | (go_at_call 29; refine (shift_any Py D (by omega) r4 _).mono ?_; rintro e w' ⟨rfl, rfl⟩; rw [hz]))
      go_ret
      exact ⟨rfl, rfl⟩
    · have q1 : ((mp : Int) == 0) = false := by rw [beq_eq_false_iff_ne]; omega
      obtain ⟨G, hG⟩ : ∃ G, S + rnd (mag A + mag B) = G := ⟨_, rfl⟩
      have hG2 : G < 18446744073709551616 := by have := rl (mag A + mag B); omega
      have hRG : R = canon G := by rw [hR, if_neg (fun hh => hz0 (z1.2 hh)), hSw, hG]
      subst hRG
      have hpk := pack_any S ex mp (mag A + mag B) hS2 x2 hmpl r5
      rw [hG] at hpk
      clear hR r5 r6 z1 z2 hz0 hSw rl hG
      go_enter Try.func19, Try.ntmps19
      go_wp2_with (first | (go_at_call 10; refine (refCanon_any _ (by assumption) _).mono ?_; rintro e w' ⟨rfl, rfl⟩; try simp only [hA, hB]) | (go_at_call 28; refine (parts_any _ (by assumption) _).mono ?_; rintro e w' ⟨rfl, rfl⟩; simp only [hPx, hPy, hex, hey]) | (go_at_call 29; refine (shift_any Py D (by omega) r4 _).mono ?_; rintro e w' ⟨rfl, rfl⟩; rw [hz]) | (go_at_call 30; refine (hpk _).mono ?_; rintro e w' ⟨rfl, rfl⟩))
      go_ret
      exact ⟨rfl, rfl⟩
  · rw [if_neg hsg] at hR
    have hxs : (sgn A == sgn B) = false := by rw [beq_eq_false_iff_ne]; exact hsg
    rw [hxs, Bool.not_false] at hx
    clear hsg hxs
    by_cases hz0 : mm = 0
    · have q1 : ((mm : Int) == 0) = true := by rw [beq_iff_eq]; omega
      have hR0 : R = 0 := by rw [hR, if_pos (z2.1 hz0)]
      subst hR0
      clear hR r5 r6 z1 z2 hz0 hSw rl
      go_enter Try.func19, Try.ntmps19
      go_wp2_with (first | (go_at_call 10; refine (refCanon_any _ (by assumption) _).mono ?_; rintro e w' ⟨rfl, rfl⟩; try simp only [hA, hB]) | (go_at_call 28; refine (parts_any _ (by assumption) _).mono ?_; rintro e w' ⟨rfl, rfl⟩; simp only [hPx, hPy, hex, hey]) | (go_at_call 29; refine (shift_any Py D (by omega) r4 _).mono ?_; rintro e w' ⟨rfl, rfl⟩; rw [hz]))
      go_ret
      exact ⟨rfl, rfl⟩
    · have q1 : ((mm : Int) == 0) = false := by rw [beq_eq_false_iff_ne]; omega
      obtain ⟨G, hG⟩ : ∃ G, S + rnd (mag A - mag B) = G := ⟨_, rfl⟩
      have hG2 : G < 18446744073709551616 := by have := rl (mag A - mag B); omega
      have hRG : R = canon G := by rw [hR, if_neg (fun hh => hz0 (z2.2 hh)), hSw, hG]
      subst hRG
      have hpk := pack_any S ex mm (mag A - mag B) hS2 x2 hmml r6
      rw [hG] at hpk
      clear hR r5 r6 z1 z2 hz0 hSw rl hG
      go_enter Try.func19, Try.ntmps19
      go_wp2_with (first | (go_at_call 10; refine (refCanon_any _ (by assumption) _).mono ?_; rintro e w' ⟨rfl, rfl⟩; try simp only [hA, hB]) | (go_at_call 28; refine (parts_any _ (by assumption) _).mono ?_; rintro e w' ⟨rfl, rfl⟩; simp only [hPx, hPy, hex, hey]) | (go_at_call 29; refine (shift_any Py D (by omega) r4 _).mono ?_; rintro e w' ⟨rfl, rfl⟩; rw [hz]) | (go_at_call 30; refine (hpk _).mono ?_; rintro e w' ⟨rfl, rfl⟩))
      go_ret
      exact ⟨rfl, rfl⟩

set_option maxHeartbeats 1000000 in
/-- Both are finite, and the second is not below the other in magnitude. -/
theorem refSum_b (a b A B lA lB R : Nat) (ha : a < 18446744073709551616) (hb : b < 18446744073709551616) (hA : canon a = A) (hB : canon b = B) (cA : A < 18446744073709551616) (cB : B < 18446744073709551616)
    (nA : ((A : Int) == 9221120237041090560) = false) (nB : ((B : Int) == 9221120237041090560) = false) (eA : A % 9223372036854775808 = lA) (eB : B % 9223372036854775808 = lB)
    (fA : lA < 9218868437227405312) (fB : lB < 9218868437227405312) (hlt : lA < lB)
    (hR : R = if (if sgn B = sgn A then mag B + mag A else mag B - mag A) = 0 then 0 else canon (word (sgn B) (rnd (if sgn B = sgn A then mag B + mag A else mag B - mag A)))) (w : World) :
    Calls Try.prog 19 #[.int .u64 (a : Int), .int .u64 (b : Int)] w fun e w' => e = .returned (.int .u64 (R : Nat)) ∧ w' = w := by
  have d1 : bits .andNot .u64 (A : Int) 9223372036854775808 = (lA : Int) := by rw [andNot_top A cA, eA]
  have d2 : bits .andNot .u64 (B : Int) 9223372036854775808 = (lB : Int) := by rw [andNot_top B cB, eB]
  have i1 : decide ((9218868437227405312 : Int) ≤ (lA : Int)) = false := decide_eq_false (by omega)
  have i2 : decide ((9218868437227405312 : Int) ≤ (lB : Int)) = false := decide_eq_false (by omega)
  have i3 : decide ((lA : Int) < (lB : Int)) = true := decide_eq_true (by omega)
  obtain ⟨D, hD⟩ : ∃ D, pe B - pe A = D := ⟨_, rfl⟩
  obtain ⟨r1, r2, r3, r4, r5, r6⟩ := reckon B A D (by omega) (by omega) hD
  have x1 := pq_lt B
  have y1 := pq_lt A
  have x2 := pe_le B (by omega)
  have hDi : ((pe B : Nat) : Int) - ((pe A : Nat) : Int) = (D : Int) := by omega
  have hx := xor_sign B A cB cA
  have hSt := and_top B cB
  have z1 := rep_zero _ _ _ r5
  have z2 := rep_zero _ _ _ r6
  have hsl := sts_le D (pq A * 8)
  obtain ⟨z, hz⟩ : ∃ z, sts D (pq A * 8) = z := ⟨_, rfl⟩
  rw [hz] at r2 r5 r6 z1 z2 hsl
  obtain ⟨Px, hPx⟩ : ∃ P, pq B * 8 = P := ⟨_, rfl⟩
  obtain ⟨Py, hPy⟩ : ∃ P, pq A * 8 = P := ⟨_, rfl⟩
  rw [hPx] at r2 r5 r6 z1 z2
  rw [hPy] at hz hsl
  have hPx2 : Px < 72057594037927936 := by omega
  have hPy2 : Py < 72057594037927936 := by omega
  obtain ⟨ex, hex⟩ : ∃ e, pe B = e := ⟨_, rfl⟩
  obtain ⟨ey, hey⟩ : ∃ e, pe A = e := ⟨_, rfl⟩
  rw [hex] at x2 r5 r6 hDi
  rw [hey] at hDi
  obtain ⟨mp, hmp⟩ : ∃ m, Px + z = m := ⟨_, rfl⟩
  obtain ⟨mm, hmm⟩ : ∃ m, Px - z = m := ⟨_, rfl⟩
  have hmpi : (Px : Int) + (z : Int) = (mp : Int) := by omega
  have hmmi : (Px : Int) - (z : Int) = (mm : Int) := by omega
  rw [hmp] at r5 z1
  rw [hmm] at r6 z2
  have hmpl : mp < 144115188075855872 := by omega
  have hmml : mm < 144115188075855872 := by omega
  obtain ⟨S, hS, hSw⟩ : ∃ S : Nat, (if 9223372036854775808 ≤ B then (9223372036854775808 : Int) else 0) = (S : Int) ∧ ((S = 0 ∨ S = 9223372036854775808) ∧ ∀ r, word (sgn B) r = S + r) := by
    by_cases h : 9223372036854775808 ≤ B
    · refine ⟨9223372036854775808, by rw [if_pos h]; rfl, .inr rfl, ?_⟩
      intro r
      have : sgn B = true := by unfold sgn; rw [show B / 9223372036854775808 = 1 by omega]; rfl
      rw [this]; rfl
    · refine ⟨0, by rw [if_neg h]; rfl, .inl rfl, ?_⟩
      intro r
      have : sgn B = false := by unfold sgn; rw [show B / 9223372036854775808 = 0 by omega]; rfl
      rw [this, Nat.zero_add]; rfl
  rw [hS] at hSt
  obtain ⟨hS2, hSw⟩ := hSw
  have rl := rnd_le
  clear hS hD r1 r2 r3 x1 y1 hmp hmm eA eB i3
  by_cases hsg : sgn B = sgn A
  · rw [if_pos hsg] at hR
    have hxs : (sgn B == sgn A) = true := by rw [beq_iff_eq]; exact hsg
    rw [hxs, Bool.not_true] at hx
    clear hsg hxs
    by_cases hz0 : mp = 0
    · have q1 : ((mp : Int) == 0) = true := by rw [beq_iff_eq]; omega
      have hR0 : R = 0 := by rw [hR, if_pos (z1.1 hz0)]
      subst hR0
      clear hR r5 r6 z1 z2 hz0 hSw rl
      go_enter Try.func19, Try.ntmps19
      go_wp2_with (first | (go_at_call 10; refine (refCanon_any _ (by assumption) _).mono ?_; rintro e w' ⟨rfl, rfl⟩; try simp only [hA, hB]) | (go_at_call 28; refine (parts_any _ (by assumption) _).mono ?_; rintro e w' ⟨rfl, rfl⟩; simp only [hPx, hPy, hex, hey]) | (go_at_call 29; refine (shift_any Py D (by omega) r4 _).mono ?_; rintro e w' ⟨rfl, rfl⟩; rw [hz]))
      go_ret
      exact ⟨rfl, rfl⟩
    · have q1 : ((mp : Int) == 0) = false := by rw [beq_eq_false_iff_ne]; omega
      obtain ⟨G, hG⟩ : ∃ G, S + rnd (mag B + mag A) = G := ⟨_, rfl⟩
      have hG2 : G < 18446744073709551616 := by have := rl (mag B + mag A); omega
      have hRG : R = canon G := by rw [hR, if_neg (fun hh => hz0 (z1.2 hh)), hSw, hG]
      subst hRG
      have hpk := pack_any S ex mp (mag B + mag A) hS2 x2 hmpl r5
      rw [hG] at hpk
      clear hR r5 r6 z1 z2 hz0 hSw rl hG
      go_enter Try.func19, Try.ntmps19
      go_wp2_with (first | (go_at_call 10; refine (refCanon_any _ (by assumption) _).mono ?_; rintro e w' ⟨rfl, rfl⟩; try simp only [hA, hB]) | (go_at_call 28; refine (parts_any _ (by assumption) _).mono ?_; rintro e w' ⟨rfl, rfl⟩; simp only [hPx, hPy, hex, hey]) | (go_at_call 29; refine (shift_any Py D (by omega) r4 _).mono ?_; rintro e w' ⟨rfl, rfl⟩; rw [hz]) | (go_at_call 30; refine (hpk _).mono ?_; rintro e w' ⟨rfl, rfl⟩))
      go_ret
      exact ⟨rfl, rfl⟩
  · rw [if_neg hsg] at hR
    have hxs : (sgn B == sgn A) = false := by rw [beq_eq_false_iff_ne]; exact hsg
    rw [hxs, Bool.not_false] at hx
    clear hsg hxs
    by_cases hz0 : mm = 0
    · have q1 : ((mm : Int) == 0) = true := by rw [beq_iff_eq]; omega
      have hR0 : R = 0 := by rw [hR, if_pos (z2.1 hz0)]
      subst hR0
      clear hR r5 r6 z1 z2 hz0 hSw rl
      go_enter Try.func19, Try.ntmps19
      go_wp2_with (first | (go_at_call 10; refine (refCanon_any _ (by assumption) _).mono ?_; rintro e w' ⟨rfl, rfl⟩; try simp only [hA, hB]) | (go_at_call 28; refine (parts_any _ (by assumption) _).mono ?_; rintro e w' ⟨rfl, rfl⟩; simp only [hPx, hPy, hex, hey]) | (go_at_call 29; refine (shift_any Py D (by omega) r4 _).mono ?_; rintro e w' ⟨rfl, rfl⟩; rw [hz]))
      go_ret
      exact ⟨rfl, rfl⟩
    · have q1 : ((mm : Int) == 0) = false := by rw [beq_eq_false_iff_ne]; omega
      obtain ⟨G, hG⟩ : ∃ G, S + rnd (mag B - mag A) = G := ⟨_, rfl⟩
      have hG2 : G < 18446744073709551616 := by have := rl (mag B - mag A); omega
      have hRG : R = canon G := by rw [hR, if_neg (fun hh => hz0 (z2.2 hh)), hSw, hG]
      subst hRG
      have hpk := pack_any S ex mm (mag B - mag A) hS2 x2 hmml r6
      rw [hG] at hpk
      clear hR r5 r6 z1 z2 hz0 hSw rl hG
      go_enter Try.func19, Try.ntmps19
      go_wp2_with (first | (go_at_call 10; refine (refCanon_any _ (by assumption) _).mono ?_; rintro e w' ⟨rfl, rfl⟩; try simp only [hA, hB]) | (go_at_call 28; refine (parts_any _ (by assumption) _).mono ?_; rintro e w' ⟨rfl, rfl⟩; simp only [hPx, hPy, hex, hey]) | (go_at_call 29; refine (shift_any Py D (by omega) r4 _).mono ?_; rintro e w' ⟨rfl, rfl⟩; rw [hz]) | (go_at_call 30; refine (hpk _).mono ?_; rintro e w' ⟨rfl, rfl⟩))
      go_ret
      exact ⟨rfl, rfl⟩


theorem sgn_canon (a : Nat) (h0 : ¬ 9218868437227405312 < a % 9223372036854775808) (h1 : a % 9223372036854775808 ≠ 0) : canon a = a := by
  rw [canon_word a h0, if_neg h1]

set_option maxHeartbeats 1000000 in
theorem refSum_any (a b : Nat) (ha : a < 18446744073709551616) (hb : b < 18446744073709551616) (w : World) :
    Calls Try.prog 19 #[.int .u64 (a : Int), .int .u64 (b : Int)] w fun e w' => e = .returned (.int .u64 (canon (fadd a b) : Nat)) ∧ w' = w := by
  by_cases hna : 9218868437227405312 < a % 9223372036854775808
  · rw [sum_nan a b (.inl hna)]
    have hA := canon_isnan a hna
    have hBl := canon_lt b hb
    obtain ⟨B, hB⟩ : ∃ B, canon b = B := ⟨_, rfl⟩
    rw [hB] at hBl
    have d2 := andNot_top B hBl
    obtain ⟨lB, elB⟩ : ∃ l, B % 9223372036854775808 = l := ⟨_, rfl⟩
    rw [elB] at d2
    clear hna elB
    go_enter Try.func19, Try.ntmps19
    go_wp2_with (go_at_call 10; refine (refCanon_any _ (by assumption) _).mono ?_; rintro e w' ⟨rfl, rfl⟩; simp only [hA, hB])
    all_goals (go_ret; exact ⟨rfl, rfl⟩)
  · obtain ⟨lwA, nA, cA⟩ := two_canon a ha hna
    by_cases hnb : 9218868437227405312 < b % 9223372036854775808
    · rw [sum_nan a b (.inr hnb)]
      have hB := canon_isnan b hnb
      obtain ⟨A, hA⟩ : ∃ A, canon a = A := ⟨_, rfl⟩
      rw [hA] at nA cA
      have d1 := andNot_top A cA
      obtain ⟨lA, elA⟩ : ∃ l, A % 9223372036854775808 = l := ⟨_, rfl⟩
      rw [elA] at d1
      clear hna hnb lwA elA
      go_enter Try.func19, Try.ntmps19
      go_wp2_with (go_at_call 10; refine (refCanon_any _ (by assumption) _).mono ?_; rintro e w' ⟨rfl, rfl⟩; simp only [hA, hB])
      all_goals (go_ret; exact ⟨rfl, rfl⟩)
    · obtain ⟨lwB, nB, cB⟩ := two_canon b hb hnb
      by_cases hia : a % 9223372036854775808 = 9218868437227405312
      · have eA := sgn_canon a hna (by omega)
        have hwa := word_of a ha
        rw [hia] at hwa
        by_cases hib : b % 9223372036854775808 = 9218868437227405312
        · have eB := sgn_canon b hnb (by omega)
          have hwb := word_of b hb
          rw [hib] at hwb
          have d1 : bits .andNot .u64 (a : Int) 9223372036854775808 = 9218868437227405312 := by rw [andNot_top a ha, hia]; rfl
          have d2 : bits .andNot .u64 (b : Int) 9223372036854775808 = 9218868437227405312 := by rw [andNot_top b hb, hib]; rfl
          have hadd := add_inf_both a b hia hib
          rw [eA] at nA
          rw [eB] at nB
          by_cases hsg : sgn a = sgn b
          · have hab : a = b := by rw [← hwa, ← hwb, hsg]
            have hR : canon (fadd a b) = a := by
              unfold fadd
              rw [hadd, if_pos hsg]
              simp only
              rw [hwa, eA]
            rw [hR]
            have hne : ((a : Int) == (b : Int)) = true := by rw [beq_iff_eq, hab]
            clear hab hR hadd hsg hwa hwb hia hib hna hnb lwA lwB cA cB
            go_enter Try.func19, Try.ntmps19
            go_wp2_with (go_at_call 10; refine (refCanon_any _ (by assumption) _).mono ?_; rintro e w' ⟨rfl, rfl⟩; simp only [eA, eB])
            go_ret
            exact ⟨rfl, rfl⟩
          · have hR : canon (fadd a b) = 9221120237041090560 := by
              unfold fadd
              rw [hadd, if_neg hsg]
              decide
            rw [hR]
            have hne : ((a : Int) == (b : Int)) = false := by
              rw [beq_eq_false_iff_ne]
              intro hh
              have : a = b := by omega
              exact hsg (by rw [this])
            clear hR hadd hsg hwa hwb hia hib hna hnb lwA lwB cA cB
            go_enter Try.func19, Try.ntmps19
            go_wp2_with (go_at_call 10; refine (refCanon_any _ (by assumption) _).mono ?_; rintro e w' ⟨rfl, rfl⟩; simp only [eA, eB])
            go_ret
            exact ⟨rfl, rfl⟩
        · have d1 : bits .andNot .u64 (a : Int) 9223372036854775808 = 9218868437227405312 := by rw [andNot_top a ha, hia]; rfl
          have hR : canon (fadd a b) = a := by
            unfold fadd
            rw [add_inf_left a b hia (by omega)]
            simp only
            rw [hwa, eA]
          rw [hR]
          rw [eA] at nA
          obtain ⟨B, hB⟩ : ∃ B, canon b = B := ⟨_, rfl⟩
          rw [hB] at nB cB lwB
          have d2 := andNot_top B cB
          obtain ⟨lB, elB⟩ : ∃ l, B % 9223372036854775808 = l := ⟨_, rfl⟩
          rw [elB] at d2 lwB
          have i2 : decide ((9218868437227405312 : Int) ≤ (lB : Int)) = false := decide_eq_false (by omega)
          clear hR hwa hia hib hna hnb lwA lwB cA cB elB
          go_enter Try.func19, Try.ntmps19
          go_wp2_with (go_at_call 10; refine (refCanon_any _ (by assumption) _).mono ?_; rintro e w' ⟨rfl, rfl⟩; simp only [eA, hB])
          go_ret
          exact ⟨rfl, rfl⟩
      · have fa : a % 9223372036854775808 < 9218868437227405312 := by omega
        by_cases hib : b % 9223372036854775808 = 9218868437227405312
        · have eB := sgn_canon b hnb (by omega)
          have hwb := word_of b hb
          rw [hib] at hwb
          have d2 : bits .andNot .u64 (b : Int) 9223372036854775808 = 9218868437227405312 := by rw [andNot_top b hb, hib]; rfl
          have hR : canon (fadd a b) = b := by
            unfold fadd
            rw [add_inf_right a b fa hib]
            simp only
            rw [hwb, eB]
          rw [hR]
          rw [eB] at nB
          obtain ⟨A, hA⟩ : ∃ A, canon a = A := ⟨_, rfl⟩
          rw [hA] at nA cA lwA
          have d1 := andNot_top A cA
          obtain ⟨lA, elA⟩ : ∃ l, A % 9223372036854775808 = l := ⟨_, rfl⟩
          rw [elA] at d1 lwA
          have i1 : decide ((9218868437227405312 : Int) ≤ (lA : Int)) = false := decide_eq_false (by omega)
          clear hR hwb hia hib hna hnb lwA lwB cA cB elA fa
          go_enter Try.func19, Try.ntmps19
          go_wp2_with (go_at_call 10; refine (refCanon_any _ (by assumption) _).mono ?_; rintro e w' ⟨rfl, rfl⟩; simp only [hA, eB])
          go_ret
          exact ⟨rfl, rfl⟩
        · have fb : b % 9223372036854775808 < 9218868437227405312 := by omega
          have va := (val_canon a fa).1
          have vb := (val_canon b fb).1
          by_cases hlt : canon a % 9223372036854775808 < canon b % 9223372036854775808
          · have hm := Nat.le_of_lt (mag_mono (canon a) (canon b) (by omega) (by omega) hlt)
            exact refSum_b a b (canon a) (canon b) _ _ _ ha hb rfl rfl cA cB nA nB rfl rfl (by omega) (by omega) hlt (sum_by a b (canon b) (canon a) fa fb (by rw [va, vb]; omega) hm) w
          · have hm : mag (canon b) ≤ mag (canon a) := by
              by_cases heq : canon b % 9223372036854775808 = canon a % 9223372036854775808
              · rw [← mag_low (canon b), heq, mag_low]
                exact Nat.le_refl _
              · exact Nat.le_of_lt (mag_mono (canon b) (canon a) (by omega) (by omega) (by omega))
            exact refSum_a a b (canon a) (canon b) _ _ _ ha hb rfl rfl cA cB nA nB rfl rfl (by omega) (by omega) (by omega) (sum_by a b (canon a) (canon b) fa fb (by rw [va, vb]) hm) w

theorem sum_comm (a b : Nat) : canon (fadd b a) = canon (fadd a b) := by
  by_cases hna : 9218868437227405312 < a % 9223372036854775808
  · rw [sum_nan a b (.inl hna), sum_nan b a (.inr hna)]
  · by_cases hnb : 9218868437227405312 < b % 9223372036854775808
    · rw [sum_nan a b (.inr hnb), sum_nan b a (.inl hnb)]
    · unfold fadd
      by_cases hia : a % 9223372036854775808 = 9218868437227405312
      · by_cases hib : b % 9223372036854775808 = 9218868437227405312
        · rw [add_inf_both a b hia hib, add_inf_both b a hib hia]
          by_cases hs : sgn a = sgn b
          · rw [if_pos hs, if_pos hs.symm, hs]
          · rw [if_neg hs, if_neg (fun h => hs h.symm)]
        · rw [add_inf_left a b hia (by omega), add_inf_right b a (by omega) hia]
      · by_cases hib : b % 9223372036854775808 = 9218868437227405312
        · rw [add_inf_right a b (by omega) hib, add_inf_left b a hib (by omega)]
        · rw [add_finite a b (by omega) (by omega), add_finite b a (by omega) (by omega), Int.add_comm (val b), Bool.and_comm (sgn b)]
end Go.Proofs.Ytmoaadaelhakjaa
