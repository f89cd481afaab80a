/-
  What an exponent and a fraction with three bits more stand for, how it is brought to a float's form, and that what is packed then is the nearest float. No program is named here.
-/
import Derived.Test.YtmoaadaelhakjaaSumM
namespace Go.Proofs.Ytmoaadaelhakjaa.Num

/-- 'm' eighths of the unit of exponent 'e' are 'M' least units, exactly; or all but what fell out. -/
def Exa (e m M : Nat) : Prop := 1 ≤ e ∧ M * 2 ^ 3 = m * 2 ^ (e - 1)
def Inx (e m M : Nat) : Prop := ∃ T d F, 1 ≤ d ∧ d + F + 1 = e ∧ M * 2 ^ 3 = T * 2 ^ F ∧ m % 2 = 1 ∧ (m - 1) * 2 ^ d < T ∧ T < (m + 1) * 2 ^ d
/-- It is in a float's form, and its rounding is the nearest float. -/
def Fin (e m M : Nat) : Prop := 1 ≤ e ∧ m < 72057594037927936 ∧ (36028797018963968 ≤ m ∨ e = 1) ∧ rnd M = min ((e - 1) * 4503599627370496 + near m 3) 9218868437227405312

theorem rep_split (e m M T d F : Nat) (h1 : d + F + 1 = e) (h2 : M * 2 ^ 3 = T * 2 ^ F) (h3 : Near m T d) : Exa e m M ∨ Inx e m M := by
  rcases h3 with h | ⟨a, b, c, g⟩
  · refine .inl ⟨by omega, ?_⟩
    rw [h2, h, Nat.mul_assoc, ← Nat.pow_add, show d + F = e - 1 by omega]
  · exact .inr ⟨T, d, F, a, h1, h2, b, c, g⟩
theorem rep_st (e m M : Nat) (h : Exa e m M ∨ Inx e m M) : Exa (e + 1) (st m) M ∨ Inx (e + 1) (st m) M := by
  rcases h with ⟨a, b⟩ | ⟨T, d, F, a, b, c, g⟩
  · have := near_st m m 0 (.inl (by simp))
    exact rep_split (e + 1) (st m) M m 1 (e - 1) (by omega) b this
  · exact rep_split (e + 1) (st m) M T (d + 1) F (by omega) c (near_st m T d (.inr ⟨a, g⟩))

theorem rnd_at (M L : Nat) (h0 : M ≠ 0) (h : M.log2 - 52 = L) : rnd M = min (L * 4503599627370496 + near (M * 2 ^ 3) (L + 3)) 9218868437227405312 := by
  unfold rnd
  rw [if_neg h0, h, near_scale]

theorem log2_between (T k : Nat) (h1 : 2 ^ k ≤ T) (h2 : T < 2 ^ (k + 1)) : T.log2 = k := by
  have := Nat.two_pow_pos k
  exact (Nat.log2_eq_iff (by omega)).2 ⟨h1, h2⟩

theorem log2_eighth (M k : Nat) (h0 : M ≠ 0) (h : (M * 2 ^ 3).log2 = k) : M.log2 = k - 3 := by
  rw [log2_mul_pow M 3 h0] at h
  omega

theorem ne_of_eighths (M x : Nat) (h : M * 2 ^ 3 = x) (hx : 0 < x) : M ≠ 0 := by
  intro h0
  rw [h0] at h
  omega

theorem exa_fin (e m M : Nat) (h : Exa e m M) (h1 : 36028797018963968 ≤ m) (h2 : m < 72057594037927936) : Fin e m M := by
  obtain ⟨a, b⟩ := h
  have hp : 0 < 2 ^ (e - 1) := Nat.two_pow_pos _
  have h0 : M ≠ 0 := ne_of_eighths M _ b (Nat.mul_pos (by omega) hp)
  have hlog : m.log2 = 55 := log2_between m 55 (by omega) (by omega)
  have hM : M.log2 - 52 = e - 1 := by
    rw [log2_eighth M _ h0 (congrArg Nat.log2 b), log2_mul_pow m (e - 1) (by omega), hlog]
    omega
  refine ⟨a, h2, .inl h1, ?_⟩
  rw [rnd_at M (e - 1) h0 hM, b, Nat.add_comm (e - 1) 3, near_scale]

theorem log2_odd (m T d k : Nat) (hk : 1 ≤ k) (ho : m % 2 = 1) (h1 : 2 ^ k ≤ m) (h2 : m < 2 ^ (k + 1)) (g1 : (m - 1) * 2 ^ d < T) (g2 : T < (m + 1) * 2 ^ d) : T.log2 = k + d := by
  have hp : 0 < 2 ^ d := Nat.two_pow_pos d
  obtain ⟨i, rfl⟩ : ∃ i, k = i + 1 := ⟨k - 1, by omega⟩
  rw [Nat.pow_succ] at h1
  rw [Nat.pow_succ, Nat.pow_succ] at h2
  apply log2_between
  · rw [Nat.pow_add, Nat.pow_succ]
    refine Nat.le_of_lt (Nat.lt_of_le_of_lt (Nat.mul_le_mul_right _ ?_) g1)
    omega
  · rw [show i + 1 + d + 1 = i + 1 + 1 + d by omega, Nat.pow_add, Nat.pow_succ, Nat.pow_succ]
    refine Nat.lt_of_lt_of_le g2 (Nat.mul_le_mul_right _ ?_)
    omega

theorem inx_fin (e m M : Nat) (h : Inx e m M) (h1 : 36028797018963968 ≤ m) (h2 : m < 72057594037927936) : Fin e m M := by
  obtain ⟨T, d, F, a, b, c, g, p, q⟩ := h
  have hT : 0 < T := by omega
  have h0 : M ≠ 0 := ne_of_eighths M _ c (Nat.mul_pos hT (Nat.two_pow_pos _))
  have hl : T.log2 = 55 + d := log2_odd m T d 55 (by decide) g (by omega) (by omega) p q
  have hM : M.log2 - 52 = e - 1 := by
    rw [log2_eighth M _ h0 (congrArg Nat.log2 c), log2_mul_pow T F (by omega), hl]
    omega
  refine ⟨by omega, h2, .inl h1, ?_⟩
  rw [rnd_at M (e - 1) h0 hM, c, show e - 1 + 3 = d + 3 + F by omega, near_scale]
  have hq : near T (d + 3) = near m 3 := by
    refine near_quarter m T d (m / 4) (by omega) (by omega) ?_ ?_
    · exact Nat.lt_of_le_of_lt (Nat.mul_le_mul_right _ (by omega)) p
    · exact Nat.lt_of_lt_of_le q (Nat.mul_le_mul_right _ (by omega))
  rw [hq]

theorem exa_fin1 (m M : Nat) (h : Exa 1 m M) (h2 : m < 36028797018963968) : Fin 1 m M := by
  obtain ⟨a, b⟩ := h
  rw [Nat.sub_self, Nat.pow_zero, Nat.mul_one] at b
  refine ⟨a, by omega, .inr rfl, ?_⟩
  have hM : M < 4503599627370496 := by omega
  have hl := log2_le52 M (by omega)
  by_cases h0 : M = 0
  · subst h0
    have : m = 0 := by omega
    subst this
    decide
  · rw [rnd_at M 0 h0 (by omega), b]

theorem exa_double (e m M : Nat) (h : Exa e m M) (h1 : 1 < e) : Exa (e - 1) (m * 2) M := by
  obtain ⟨a, b⟩ := h
  refine ⟨by omega, ?_⟩
  rw [b, Nat.mul_assoc, ← Nat.pow_succ', show (e - 1 - 1).succ = e - 1 by omega]

theorem inx_double (e m M : Nat) (h : Inx e m M) (h1 : 18014398509481984 ≤ m) (h2 : m < 36028797018963968) : 1 < e ∧ Fin (e - 1) (m * 2) M := by
  obtain ⟨T, d, F, a, b, c, g, p, q⟩ := h
  have hT : 0 < T := by omega
  have h0 : M ≠ 0 := ne_of_eighths M _ c (Nat.mul_pos hT (Nat.two_pow_pos _))
  have hl : T.log2 = 54 + d := log2_odd m T d 54 (by decide) g (by omega) (by omega) p q
  have hM : M.log2 - 52 = e - 1 - 1 := by
    rw [log2_eighth M _ h0 (congrArg Nat.log2 c), log2_mul_pow T F (by omega), hl]
    omega
  refine ⟨by omega, by omega, by omega, .inl (by omega), ?_⟩
  rw [rnd_at M (e - 1 - 1) h0 hM, c, show e - 1 - 1 + 3 = (d - 1) + 3 + F by omega, near_scale]
  obtain ⟨i, rfl⟩ : ∃ i, d = i + 1 := ⟨d - 1, by omega⟩
  have hq : near T (i + 1 - 1 + 3) = near (m * 2) 3 := by
    rw [Nat.add_sub_cancel]
    refine near_quarter (m * 2) T i (m / 2) (by omega) (by omega) ?_ ?_
    · refine Nat.lt_of_le_of_lt ?_ p
      rw [Nat.pow_succ, Nat.mul_comm (2 ^ i) 2, ← Nat.mul_assoc]
      exact Nat.mul_le_mul_right _ (by omega)
    · refine Nat.lt_of_lt_of_le q ?_
      rw [Nat.pow_succ, Nat.mul_comm (2 ^ i) 2, ← Nat.mul_assoc]
      exact Nat.mul_le_mul_right _ (by omega)
  rw [hq]
end Go.Proofs.Ytmoaadaelhakjaa.Num
