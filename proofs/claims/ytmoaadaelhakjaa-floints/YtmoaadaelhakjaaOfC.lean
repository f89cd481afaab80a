/-
  The contract of the document's own Of: for every number of int64 it returns the float nearest to it.
-/
import Derived.Test.YtmoaadaelhakjaaRef
import Derived.Test.YtmoaadaelhakjaaOfM
import Derived.LoopTactic
namespace Go.Proofs.Ytmoaadaelhakjaa
open Go.RowKit Num

theorem refOf_pos_low (u d : Nat) (h0 : 0 < u) (h1 : u ≤ 9223372036854775807) (hd : u.log2 + d = 52) (w : World) :
    Calls Try.prog 23 #[.int .i64 (u : Int)] w fun e w' => e = .returned (.int .u64 (floatOfInt .f64 (u : Int) : Nat)) ∧ w' = w := by
  have hu : u < 18446744073709551616 := by omega
  have hH : ((hiBit u 64 : Nat) : Int) = 52 - (d : Int) := by rw [hiBit_all u hu]; omega
  have hdd : d ≤ 52 := by omega
  obtain ⟨m, hm⟩ : ∃ m, u * 2 ^ d = m := ⟨_, rfl⟩
  have hm1 : 4503599627370496 ≤ m ∧ m < 9007199254740992 := by
    have a1 : 2 ^ u.log2 ≤ u := Nat.log2_self_le (by omega)
    have a2 : u < 2 ^ (u.log2 + 1) := Nat.lt_log2_self
    have a3 := Nat.mul_le_mul_right (2 ^ d) a1
    have a4 := Nat.mul_lt_mul_of_pos_right a2 (Nat.two_pow_pos d)
    rw [← Nat.pow_add, hd, hm] at a3
    rw [← Nat.pow_add, show u.log2 + 1 + d = 53 by omega, hm] at a4
    exact ⟨by omega, by omega⟩
  have hw : IntKind.u64.wrap ((u : Int) * 2 ^ d) = (m : Int) := by
    have e : (u : Int) * 2 ^ d = (m : Int) := by
      rw [← hm, Int.natCast_mul, Int.natCast_pow]; rfl
    rw [e, IntKind.wrap_u64]
    omega
  obtain ⟨F, hF, hFv⟩ : ∃ F, floatOfInt .f64 (u : Int) = F ∧ F = 0 + (52 - d + 1023) * 4503599627370496 + m % 4503599627370496 := by
    refine ⟨_, rfl, ?_⟩
    have hof : floatOfInt .f64 (u : Int) = word false (rnd (u * U)) := of_sign false u h0
    rw [hof, rnd_of u h0 hu, if_pos (by omega), show 52 - u.log2 = d by omega, show u.log2 = 52 - d by omega, hm]
    unfold word; simp only [Bool.false_eq_true, if_false]
    omega
  rw [hF]
  clear hF
  have hj := joinBits 0 (52 - d + 1023) m (by simp) (by omega) (by omega)
  rw [← hFv] at hj
  clear hFv hm
  have n1 : ((u : Int) == 0) = false := by simp only [beq_eq_false_iff_ne, ne_eq]; omega
  go_enter Try.func23, Try.ntmps23
  go_wp2
  go_loop [5, 6] (fun h i => ∃ k : Nat, k ≤ 64 ∧ i = .int .i64 k ∧ h = .int .i64 (hiBit u k : Nat)) (fun _ i => 64 - (intOf i).toNat)
  case atStart => exact ⟨0, by omega, rfl, by rw [hiBit_zero]; rfl⟩
  case round =>
    obtain ⟨k, hk, rfl, rfl⟩ := hrel
    by_cases hlt : k < 64
    · have hbit := bit_at u k hu
      have hs := hiBit_set u k
      have hc := hiBit_clear u k
      clear hH
      rcases (show u / 2 ^ k % 2 = 0 ∨ u / 2 ^ k % 2 = 1 by omega) with hz | hz
      · rw [hz] at hbit
        have hz2 := hc hz
        clear hs hc hz
        go_wp2
        go_round
        case rel => exact ⟨k + 1, by omega, by go_num, by rw [hz2]⟩
        case measure => simp [intOf]; omega
      · rw [hz] at hbit
        have hz2 := hs hz
        clear hs hc hz
        go_wp2
        go_round
        case rel => exact ⟨k + 1, by omega, by go_num, by rw [hz2]⟩
        case measure => simp [intOf]; omega
    · have hk64 : k = 64 := by omega
      subst hk64
      rw [hH]
      clear hH hk hlt hu
      go_wp2
      go_ret
      refine ⟨?_, rfl⟩
      show Ending.returned (.int .u64 (bits .or .u64 (bits .or .u64 0 ((52 - (d : Int) + 1023) * 4503599627370496)) (bits .and .u64 (IntKind.u64.wrap ((u : Int) * 2 ^ (52 - (52 - d)))) 4503599627370495))) = _
      rw [show 52 - (52 - d) = d by omega, hw, show (52 - (d : Int) + 1023) * 4503599627370496 = (((52 - d + 1023) * 4503599627370496 : Nat) : Int) by omega]
      exact congrArg (fun x => Ending.returned (.int .u64 x)) hj

set_option maxHeartbeats 2000000 in
theorem refOf_pos_high (u t : Nat) (h0 : 0 < u) (h1 : u ≤ 9223372036854775807) (hd : u.log2 = t + 53) (ht : t ≤ 10) (w : World) :
    Calls Try.prog 23 #[.int .i64 (u : Int)] w fun e w' => e = .returned (.int .u64 (floatOfInt .f64 (u : Int) : Nat)) ∧ w' = w := by
  have hu : u < 18446744073709551616 := by omega
  have hH : ((hiBit u 64 : Nat) : Int) = (t : Int) + 53 := by rw [hiBit_all u hu]; omega
  obtain ⟨F, hF, hr⟩ : ∃ F, floatOfInt .f64 (u : Int) = F ∧ F = 0 + (t + 53 + 1022) * 4503599627370496 + near u (t + 1) := by
    refine ⟨_, rfl, ?_⟩
    have hof : floatOfInt .f64 (u : Int) = word false (rnd (u * U)) := of_sign false u h0
    rw [hof, rnd_of u h0 hu, if_neg (by omega), show u.log2 - 52 = t + 1 by omega, hd]
    unfold word; simp only [Bool.false_eq_true, if_false]
    omega
  rw [hF]
  clear hF
  have hup := near_up u t
  have hdn := near_down u t
  have hp : (2 : Nat) ^ t ≤ 1024 := Nat.pow_le_pow_right (n := 2) (by decide) ht
  have hp0 : 0 < (2 : Nat) ^ t := Nat.two_pow_pos t
  have hps : (2 : Nat) ^ (t + 1) = 2 ^ t * 2 := Nat.pow_succ 2 t
  have hV1 : u / 2 ^ (t + 1) < 9007199254740992 := by
    have h6 : u < 2 ^ (u.log2 + 1) := Nat.lt_log2_self
    rw [Nat.div_lt_iff_lt_mul (Nat.two_pow_pos _), show 9007199254740992 = 2 ^ 53 from rfl, ← Nat.pow_add, show 53 + (t + 1) = u.log2 + 1 by omega]
    exact h6
  have hV2 : 4503599627370496 ≤ u / 2 ^ (t + 1) := by
    have h6 : 2 ^ u.log2 ≤ u := Nat.log2_self_le (by omega)
    rw [Nat.le_div_iff_mul_le (Nat.two_pow_pos _), show 4503599627370496 = 2 ^ 52 from rfl, ← Nat.pow_add, show 52 + (t + 1) = u.log2 by omega]
    exact h6
  have e1 : IntKind.u64.wrap (2 ^ (t + 1)) = ((2 ^ (t + 1) : Nat) : Int) := by
    rw [show ((2 : Int) ^ (t + 1)) = ((2 ^ (t + 1) : Nat) : Int) by rw [Int.natCast_pow]; rfl, IntKind.wrap_u64]
    omega
  have e3 : IntKind.u64.wrap (2 ^ t) = ((2 ^ t : Nat) : Int) := by
    rw [show ((2 : Int) ^ t) = ((2 ^ t : Nat) : Int) by rw [Int.natCast_pow]; rfl, IntKind.wrap_u64]
    omega
  have e5 : (u : Int) / 2 ^ (t + 1) = ((u / 2 ^ (t + 1) : Nat) : Int) := by
    rw [Int.natCast_ediv, Int.natCast_pow]; rfl
  have e4 : bits .and .u64 (u : Int) ((2 ^ (t + 1) - 1 : Nat) : Int) = ((u % 2 ^ (t + 1) : Nat) : Int) := by
    rw [u64_and_nat u (2 ^ (t + 1) - 1) hu (by omega), Nat.and_two_pow_sub_one_eq_mod]
  have e6 : bits .and .u64 ((u / 2 ^ (t + 1) : Nat) : Int) 1 = ((u / 2 ^ (t + 1) % 2 : Nat) : Int) := by
    rw [← e5]; exact bit_at u (t + 1) hu
  have e2 : IntKind.u64.wrap (((2 ^ (t + 1) : Nat) : Int) - 1) = ((2 ^ (t + 1) - 1 : Nat) : Int) := by
    rw [IntKind.wrap_u64]
    omega
  obtain ⟨N, hN⟩ : ∃ N, near u (t + 1) = N := ⟨_, rfl⟩
  rw [hN] at hr hup hdn
  have ej := fun m hm => joinBits 0 (t + 53 + 1023) m (by simp) (by omega) hm
  have ek := fun m hm => joinBits 0 (t + 53 + 1 + 1023) m (by simp) (by omega) hm
  rw [show ((2 ^ (t + 1) - 1 : Nat)) = 2 ^ t * 2 - 1 by omega] at e2 e4
  clear hN
  generalize hV : u / 2 ^ (t + 1) = V at *
  generalize hR : u % 2 ^ (t + 1) = R at *
  generalize hP : 2 ^ (t + 1) = P at e1 e2 hps
  generalize 2 ^ t * 2 - 1 = Q at e2 e4
  generalize hG : 2 ^ t = G at e3 hup hdn hp hp0 hps
  clear hV hR hP hG hps
  have n1 : ((u : Int) == 0) = false := by simp only [beq_eq_false_iff_ne, ne_eq]; omega
  have hcase : (G < R ∧ V = 9007199254740991) ∨ (G < R ∧ V < 9007199254740991) ∨ (¬ G < R ∧ ((R : Int) == (G : Int)) = true ∧ V % 2 = 1 ∧ V = 9007199254740991) ∨ (¬ G < R ∧ ((R : Int) == (G : Int)) = true ∧ V % 2 = 1 ∧ V < 9007199254740991) ∨ (¬ G < R ∧ ((R : Int) == (G : Int)) = true ∧ V % 2 = 0) ∨ (¬ G < R ∧ ((R : Int) == (G : Int)) = false) := by
    rw [beq_iff_eq, beq_eq_false_iff_ne]
    omega
  rcases hcase with ⟨q1, q2⟩ | ⟨q1, q2⟩ | ⟨q1, q2, q3, q4⟩ | ⟨q1, q2, q3, q4⟩ | ⟨q1, q2, q3⟩ | ⟨q1, q2⟩
  · have hNv : N = V + 1 := hup (.inl q1)
    have hFv : F = 0 + (t + 53 + 1 + 1023) * 4503599627370496 + 4503599627370496 % 4503599627370496 := by
      rw [Nat.mod_self, hr, hNv, q2]
      omega
    have e5' : (u : Int) / 2 ^ (t + 1) = 9007199254740991 := by rw [e5]; omega
    rw [q2] at e6
    have e6' : bits .and .u64 9007199254740991 1 = 1 := by decide
    have fk := ek 4503599627370496 (by decide)
    rw [← hFv, show (((t + 53 + 1 + 1023) * 4503599627370496 : Nat) : Int) = ((t : Int) + 53 + 1 + 1023) * 4503599627370496 by omega] at fk
    clear q2 hNv hFv e5 e6 ek ej hr hup hdn hV1 hV2
    go_enter Try.func23, Try.ntmps23
    go_wp2
    go_loop [5, 6] (fun h i => ∃ k : Nat, k ≤ 64 ∧ i = .int .i64 k ∧ h = .int .i64 (hiBit u k : Nat)) (fun _ i => 64 - (intOf i).toNat)
    case atStart => exact ⟨0, by omega, rfl, by rw [hiBit_zero]; rfl⟩
    case round =>
      obtain ⟨k, hk, rfl, rfl⟩ := hrel
      by_cases hlt : k < 64
      · have hbit := bit_at u k hu
        have hs := hiBit_set u k
        have hc := hiBit_clear u k
        clear hH
        rcases (show u / 2 ^ k % 2 = 0 ∨ u / 2 ^ k % 2 = 1 by omega) with hz | hz
        · rw [hz] at hbit
          have hz2 := hc hz
          clear hs hc hz
          go_wp2
          go_round
          case rel => exact ⟨k + 1, by omega, by go_num, by rw [hz2]⟩
          case measure => simp [intOf]; omega
        · rw [hz] at hbit
          have hz2 := hs hz
          clear hs hc hz
          go_wp2
          go_round
          case rel => exact ⟨k + 1, by omega, by go_num, by rw [hz2]⟩
          case measure => simp [intOf]; omega
      · have hk64 : k = 64 := by omega
        subst hk64
        rw [hH]
        clear hH hk hlt hu
        go_wp2
        go_ret
        refine ⟨?_, rfl⟩
        exact congrArg (fun x => Ending.returned (.int .u64 x)) fk
  · have hNv : N = V + 1 := hup (.inl q1)
    have c1 : ((V : Int) + 1 == 9007199254740992) = false := by rw [beq_eq_false_iff_ne]; omega
    have hFv : F = 0 + (t + 53 + 1023) * 4503599627370496 + (V + 1) % 4503599627370496 := by
      have e : (V + 1) % 4503599627370496 = V + 1 - 4503599627370496 := by omega
      rw [e, hr, hNv]
      omega
    have fk := ej (V + 1) (by omega)
    rw [← hFv, show (((t + 53 + 1023) * 4503599627370496 : Nat) : Int) = ((t : Int) + 53 + 1023) * 4503599627370496 by omega, show ((V + 1 : Nat) : Int) = (V : Int) + 1 by omega] at fk
    clear hNv hFv ek ej hr hup hdn
    go_enter Try.func23, Try.ntmps23
    go_wp2
    go_loop [5, 6] (fun h i => ∃ k : Nat, k ≤ 64 ∧ i = .int .i64 k ∧ h = .int .i64 (hiBit u k : Nat)) (fun _ i => 64 - (intOf i).toNat)
    case atStart => exact ⟨0, by omega, rfl, by rw [hiBit_zero]; rfl⟩
    case round =>
      obtain ⟨k, hk, rfl, rfl⟩ := hrel
      by_cases hlt : k < 64
      · have hbit := bit_at u k hu
        have hs := hiBit_set u k
        have hc := hiBit_clear u k
        clear hH
        rcases (show u / 2 ^ k % 2 = 0 ∨ u / 2 ^ k % 2 = 1 by omega) with hz | hz
        · rw [hz] at hbit
          have hz2 := hc hz
          clear hs hc hz
          go_wp2
          go_round
          case rel => exact ⟨k + 1, by omega, by go_num, by rw [hz2]⟩
          case measure => simp [intOf]; omega
        · rw [hz] at hbit
          have hz2 := hs hz
          clear hs hc hz
          go_wp2
          go_round
          case rel => exact ⟨k + 1, by omega, by go_num, by rw [hz2]⟩
          case measure => simp [intOf]; omega
      · have hk64 : k = 64 := by omega
        subst hk64
        rw [hH]
        clear hH hk hlt hu
        go_wp2
        go_ret
        refine ⟨?_, rfl⟩
        exact congrArg (fun x => Ending.returned (.int .u64 x)) fk
  · have q5 : R = G := by have := beq_iff_eq.1 q2; omega
    have hNv : N = V + 1 := hup (.inr ⟨q5.symm, q3⟩)
    rw [q3] at e6
    clear q3 q5
    have hFv : F = 0 + (t + 53 + 1 + 1023) * 4503599627370496 + 4503599627370496 % 4503599627370496 := by
      rw [Nat.mod_self, hr, hNv, q4]
      omega
    have e5' : (u : Int) / 2 ^ (t + 1) = 9007199254740991 := by rw [e5]; omega
    rw [q4] at e6
    have e6' : bits .and .u64 9007199254740991 1 = 1 := by decide
    have fk := ek 4503599627370496 (by decide)
    rw [← hFv, show (((t + 53 + 1 + 1023) * 4503599627370496 : Nat) : Int) = ((t : Int) + 53 + 1 + 1023) * 4503599627370496 by omega] at fk
    clear q4 hNv hFv e5 e6 ek ej hr hup hdn hV1 hV2
    go_enter Try.func23, Try.ntmps23
    go_wp2
    go_loop [5, 6] (fun h i => ∃ k : Nat, k ≤ 64 ∧ i = .int .i64 k ∧ h = .int .i64 (hiBit u k : Nat)) (fun _ i => 64 - (intOf i).toNat)
    case atStart => exact ⟨0, by omega, rfl, by rw [hiBit_zero]; rfl⟩
    case round =>
      obtain ⟨k, hk, rfl, rfl⟩ := hrel
      by_cases hlt : k < 64
      · have hbit := bit_at u k hu
        have hs := hiBit_set u k
        have hc := hiBit_clear u k
        clear hH
        rcases (show u / 2 ^ k % 2 = 0 ∨ u / 2 ^ k % 2 = 1 by omega) with hz | hz
        · rw [hz] at hbit
          have hz2 := hc hz
          clear hs hc hz
          go_wp2
          go_round
          case rel => exact ⟨k + 1, by omega, by go_num, by rw [hz2]⟩
          case measure => simp [intOf]; omega
        · rw [hz] at hbit
          have hz2 := hs hz
          clear hs hc hz
          go_wp2
          go_round
          case rel => exact ⟨k + 1, by omega, by go_num, by rw [hz2]⟩
          case measure => simp [intOf]; omega
      · have hk64 : k = 64 := by omega
        subst hk64
        rw [hH]
        clear hH hk hlt hu
        go_wp2
        go_ret
        refine ⟨?_, rfl⟩
        exact congrArg (fun x => Ending.returned (.int .u64 x)) fk
  · have q5 : R = G := by have := beq_iff_eq.1 q2; omega
    have hNv : N = V + 1 := hup (.inr ⟨q5.symm, q3⟩)
    rw [q3] at e6
    clear q3 q5
    have c1 : ((V : Int) + 1 == 9007199254740992) = false := by rw [beq_eq_false_iff_ne]; omega
    have hFv : F = 0 + (t + 53 + 1023) * 4503599627370496 + (V + 1) % 4503599627370496 := by
      have e : (V + 1) % 4503599627370496 = V + 1 - 4503599627370496 := by omega
      rw [e, hr, hNv]
      omega
    have fk := ej (V + 1) (by omega)
    rw [← hFv, show (((t + 53 + 1023) * 4503599627370496 : Nat) : Int) = ((t : Int) + 53 + 1023) * 4503599627370496 by omega, show ((V + 1 : Nat) : Int) = (V : Int) + 1 by omega] at fk
    clear hNv hFv ek ej hr hup hdn
    go_enter Try.func23, Try.ntmps23
    go_wp2
    go_loop [5, 6] (fun h i => ∃ k : Nat, k ≤ 64 ∧ i = .int .i64 k ∧ h = .int .i64 (hiBit u k : Nat)) (fun _ i => 64 - (intOf i).toNat)
    case atStart => exact ⟨0, by omega, rfl, by rw [hiBit_zero]; rfl⟩
    case round =>
      obtain ⟨k, hk, rfl, rfl⟩ := hrel
      by_cases hlt : k < 64
      · have hbit := bit_at u k hu
        have hs := hiBit_set u k
        have hc := hiBit_clear u k
        clear hH
        rcases (show u / 2 ^ k % 2 = 0 ∨ u / 2 ^ k % 2 = 1 by omega) with hz | hz
        · rw [hz] at hbit
          have hz2 := hc hz
          clear hs hc hz
          go_wp2
          go_round
          case rel => exact ⟨k + 1, by omega, by go_num, by rw [hz2]⟩
          case measure => simp [intOf]; omega
        · rw [hz] at hbit
          have hz2 := hs hz
          clear hs hc hz
          go_wp2
          go_round
          case rel => exact ⟨k + 1, by omega, by go_num, by rw [hz2]⟩
          case measure => simp [intOf]; omega
      · have hk64 : k = 64 := by omega
        subst hk64
        rw [hH]
        clear hH hk hlt hu
        go_wp2
        go_ret
        refine ⟨?_, rfl⟩
        exact congrArg (fun x => Ending.returned (.int .u64 x)) fk
  · have q5 : R = G := by have := beq_iff_eq.1 q2; omega
    have hNv : N = V := hdn (.inr ⟨q5.symm, q3⟩)
    rw [q3] at e6
    clear q3 q5
    have c1 : ((V : Int) == 9007199254740992) = false := by rw [beq_eq_false_iff_ne]; omega
    have hFv : F = 0 + (t + 53 + 1023) * 4503599627370496 + V % 4503599627370496 := by
      have e : V % 4503599627370496 = V - 4503599627370496 := by omega
      rw [e, hr, hNv]
      omega
    have fk := ej V (by omega)
    rw [← hFv, show (((t + 53 + 1023) * 4503599627370496 : Nat) : Int) = ((t : Int) + 53 + 1023) * 4503599627370496 by omega] at fk
    clear hNv hFv ek ej hr hup hdn
    go_enter Try.func23, Try.ntmps23
    go_wp2
    go_loop [5, 6] (fun h i => ∃ k : Nat, k ≤ 64 ∧ i = .int .i64 k ∧ h = .int .i64 (hiBit u k : Nat)) (fun _ i => 64 - (intOf i).toNat)
    case atStart => exact ⟨0, by omega, rfl, by rw [hiBit_zero]; rfl⟩
    case round =>
      obtain ⟨k, hk, rfl, rfl⟩ := hrel
      by_cases hlt : k < 64
      · have hbit := bit_at u k hu
        have hs := hiBit_set u k
        have hc := hiBit_clear u k
        clear hH
        rcases (show u / 2 ^ k % 2 = 0 ∨ u / 2 ^ k % 2 = 1 by omega) with hz | hz
        · rw [hz] at hbit
          have hz2 := hc hz
          clear hs hc hz
          go_wp2
          go_round
          case rel => exact ⟨k + 1, by omega, by go_num, by rw [hz2]⟩
          case measure => simp [intOf]; omega
        · rw [hz] at hbit
          have hz2 := hs hz
          clear hs hc hz
          go_wp2
          go_round
          case rel => exact ⟨k + 1, by omega, by go_num, by rw [hz2]⟩
          case measure => simp [intOf]; omega
      · have hk64 : k = 64 := by omega
        subst hk64
        rw [hH]
        clear hH hk hlt hu
        go_wp2
        go_ret
        refine ⟨?_, rfl⟩
        exact congrArg (fun x => Ending.returned (.int .u64 x)) fk
  · have hNv : N = V := hdn (.inl (by have := beq_eq_false_iff_ne.1 q2; omega))
    have c1 : ((V : Int) == 9007199254740992) = false := by rw [beq_eq_false_iff_ne]; omega
    have hFv : F = 0 + (t + 53 + 1023) * 4503599627370496 + V % 4503599627370496 := by
      have e : V % 4503599627370496 = V - 4503599627370496 := by omega
      rw [e, hr, hNv]
      omega
    have fk := ej V (by omega)
    rw [← hFv, show (((t + 53 + 1023) * 4503599627370496 : Nat) : Int) = ((t : Int) + 53 + 1023) * 4503599627370496 by omega] at fk
    clear hNv hFv ek ej hr hup hdn
    go_enter Try.func23, Try.ntmps23
    go_wp2
    go_loop [5, 6] (fun h i => ∃ k : Nat, k ≤ 64 ∧ i = .int .i64 k ∧ h = .int .i64 (hiBit u k : Nat)) (fun _ i => 64 - (intOf i).toNat)
    case atStart => exact ⟨0, by omega, rfl, by rw [hiBit_zero]; rfl⟩
    case round =>
      obtain ⟨k, hk, rfl, rfl⟩ := hrel
      by_cases hlt : k < 64
      · have hbit := bit_at u k hu
        have hs := hiBit_set u k
        have hc := hiBit_clear u k
        clear hH
        rcases (show u / 2 ^ k % 2 = 0 ∨ u / 2 ^ k % 2 = 1 by omega) with hz | hz
        · rw [hz] at hbit
          have hz2 := hc hz
          clear hs hc hz
          go_wp2
          go_round
          case rel => exact ⟨k + 1, by omega, by go_num, by rw [hz2]⟩
          case measure => simp [intOf]; omega
        · rw [hz] at hbit
          have hz2 := hs hz
          clear hs hc hz
          go_wp2
          go_round
          case rel => exact ⟨k + 1, by omega, by go_num, by rw [hz2]⟩
          case measure => simp [intOf]; omega
      · have hk64 : k = 64 := by omega
        subst hk64
        rw [hH]
        clear hH hk hlt hu
        go_wp2
        go_ret
        refine ⟨?_, rfl⟩
        exact congrArg (fun x => Ending.returned (.int .u64 x)) fk

theorem refOf_neg_low (u d : Nat) (h0 : 0 < u) (h1 : u ≤ 9223372036854775808) (hd : u.log2 + d = 52) (w : World) :
    Calls Try.prog 23 #[.int .i64 (-(u : Int))] w fun e w' => e = .returned (.int .u64 (floatOfInt .f64 (-(u : Int)) : Nat)) ∧ w' = w := by
  have hu : u < 18446744073709551616 := by omega
  have hH : ((hiBit u 64 : Nat) : Int) = 52 - (d : Int) := by rw [hiBit_all u hu]; omega
  have hdd : d ≤ 52 := by omega
  obtain ⟨m, hm⟩ : ∃ m, u * 2 ^ d = m := ⟨_, rfl⟩
  have hm1 : 4503599627370496 ≤ m ∧ m < 9007199254740992 := by
    have a1 : 2 ^ u.log2 ≤ u := Nat.log2_self_le (by omega)
    have a2 : u < 2 ^ (u.log2 + 1) := Nat.lt_log2_self
    have a3 := Nat.mul_le_mul_right (2 ^ d) a1
    have a4 := Nat.mul_lt_mul_of_pos_right a2 (Nat.two_pow_pos d)
    rw [← Nat.pow_add, hd, hm] at a3
    rw [← Nat.pow_add, show u.log2 + 1 + d = 53 by omega, hm] at a4
    exact ⟨by omega, by omega⟩
  have hw : IntKind.u64.wrap ((u : Int) * 2 ^ d) = (m : Int) := by
    have e : (u : Int) * 2 ^ d = (m : Int) := by
      rw [← hm, Int.natCast_mul, Int.natCast_pow]; rfl
    rw [e, IntKind.wrap_u64]
    omega
  obtain ⟨F, hF, hFv⟩ : ∃ F, floatOfInt .f64 (-(u : Int)) = F ∧ F = 9223372036854775808 + (52 - d + 1023) * 4503599627370496 + m % 4503599627370496 := by
    refine ⟨_, rfl, ?_⟩
    have hof : floatOfInt .f64 (-(u : Int)) = word true (rnd (u * U)) := of_sign true u h0
    rw [hof, rnd_of u h0 hu, if_pos (by omega), show 52 - u.log2 = d by omega, show u.log2 = 52 - d by omega, hm]
    unfold word; simp only [if_true]
    omega
  rw [hF]
  clear hF
  have hj := joinBits 9223372036854775808 (52 - d + 1023) m (by simp) (by omega) (by omega)
  rw [← hFv] at hj
  clear hFv hm
  have n1 : (-(u : Int) == 0) = false := by simp only [beq_eq_false_iff_ne, ne_eq]; omega
  have n2 : IntKind.u64.wrap (-(u : Int)) = 18446744073709551616 - (u : Int) := by rw [IntKind.wrap_u64]; omega
  have n3 : IntKind.u64.wrap (-(18446744073709551616 - (u : Int))) = (u : Int) := by rw [IntKind.wrap_u64]; omega
  go_enter Try.func23, Try.ntmps23
  go_wp2
  go_loop [5, 6] (fun h i => ∃ k : Nat, k ≤ 64 ∧ i = .int .i64 k ∧ h = .int .i64 (hiBit u k : Nat)) (fun _ i => 64 - (intOf i).toNat)
  case atStart => exact ⟨0, by omega, rfl, by rw [hiBit_zero]; rfl⟩
  case round =>
    obtain ⟨k, hk, rfl, rfl⟩ := hrel
    by_cases hlt : k < 64
    · have hbit := bit_at u k hu
      have hs := hiBit_set u k
      have hc := hiBit_clear u k
      clear hH
      rcases (show u / 2 ^ k % 2 = 0 ∨ u / 2 ^ k % 2 = 1 by omega) with hz | hz
      · rw [hz] at hbit
        have hz2 := hc hz
        clear hs hc hz
        go_wp2
        go_round
        case rel => exact ⟨k + 1, by omega, by go_num, by rw [hz2]⟩
        case measure => simp [intOf]; omega
      · rw [hz] at hbit
        have hz2 := hs hz
        clear hs hc hz
        go_wp2
        go_round
        case rel => exact ⟨k + 1, by omega, by go_num, by rw [hz2]⟩
        case measure => simp [intOf]; omega
    · have hk64 : k = 64 := by omega
      subst hk64
      rw [hH]
      clear hH hk hlt hu
      go_wp2
      go_ret
      refine ⟨?_, rfl⟩
      show Ending.returned (.int .u64 (bits .or .u64 (bits .or .u64 9223372036854775808 ((52 - (d : Int) + 1023) * 4503599627370496)) (bits .and .u64 (IntKind.u64.wrap ((u : Int) * 2 ^ (52 - (52 - d)))) 4503599627370495))) = _
      rw [show 52 - (52 - d) = d by omega, hw, show (52 - (d : Int) + 1023) * 4503599627370496 = (((52 - d + 1023) * 4503599627370496 : Nat) : Int) by omega]
      exact congrArg (fun x => Ending.returned (.int .u64 x)) hj

set_option maxHeartbeats 2000000 in
theorem refOf_neg_high (u t : Nat) (h0 : 0 < u) (h1 : u ≤ 9223372036854775808) (hd : u.log2 = t + 53) (ht : t ≤ 10) (w : World) :
    Calls Try.prog 23 #[.int .i64 (-(u : Int))] w fun e w' => e = .returned (.int .u64 (floatOfInt .f64 (-(u : Int)) : Nat)) ∧ w' = w := by
  have hu : u < 18446744073709551616 := by omega
  have hH : ((hiBit u 64 : Nat) : Int) = (t : Int) + 53 := by rw [hiBit_all u hu]; omega
  obtain ⟨F, hF, hr⟩ : ∃ F, floatOfInt .f64 (-(u : Int)) = F ∧ F = 9223372036854775808 + (t + 53 + 1022) * 4503599627370496 + near u (t + 1) := by
    refine ⟨_, rfl, ?_⟩
    have hof : floatOfInt .f64 (-(u : Int)) = word true (rnd (u * U)) := of_sign true u h0
    rw [hof, rnd_of u h0 hu, if_neg (by omega), show u.log2 - 52 = t + 1 by omega, hd]
    unfold word; simp only [if_true]
    omega
  rw [hF]
  clear hF
  have hup := near_up u t
  have hdn := near_down u t
  have hp : (2 : Nat) ^ t ≤ 1024 := Nat.pow_le_pow_right (n := 2) (by decide) ht
  have hp0 : 0 < (2 : Nat) ^ t := Nat.two_pow_pos t
  have hps : (2 : Nat) ^ (t + 1) = 2 ^ t * 2 := Nat.pow_succ 2 t
  have hV1 : u / 2 ^ (t + 1) < 9007199254740992 := by
    have h6 : u < 2 ^ (u.log2 + 1) := Nat.lt_log2_self
    rw [Nat.div_lt_iff_lt_mul (Nat.two_pow_pos _), show 9007199254740992 = 2 ^ 53 from rfl, ← Nat.pow_add, show 53 + (t + 1) = u.log2 + 1 by omega]
    exact h6
  have hV2 : 4503599627370496 ≤ u / 2 ^ (t + 1) := by
    have h6 : 2 ^ u.log2 ≤ u := Nat.log2_self_le (by omega)
    rw [Nat.le_div_iff_mul_le (Nat.two_pow_pos _), show 4503599627370496 = 2 ^ 52 from rfl, ← Nat.pow_add, show 52 + (t + 1) = u.log2 by omega]
    exact h6
  have e1 : IntKind.u64.wrap (2 ^ (t + 1)) = ((2 ^ (t + 1) : Nat) : Int) := by
    rw [show ((2 : Int) ^ (t + 1)) = ((2 ^ (t + 1) : Nat) : Int) by rw [Int.natCast_pow]; rfl, IntKind.wrap_u64]
    omega
  have e3 : IntKind.u64.wrap (2 ^ t) = ((2 ^ t : Nat) : Int) := by
    rw [show ((2 : Int) ^ t) = ((2 ^ t : Nat) : Int) by rw [Int.natCast_pow]; rfl, IntKind.wrap_u64]
    omega
  have e5 : (u : Int) / 2 ^ (t + 1) = ((u / 2 ^ (t + 1) : Nat) : Int) := by
    rw [Int.natCast_ediv, Int.natCast_pow]; rfl
  have e4 : bits .and .u64 (u : Int) ((2 ^ (t + 1) - 1 : Nat) : Int) = ((u % 2 ^ (t + 1) : Nat) : Int) := by
    rw [u64_and_nat u (2 ^ (t + 1) - 1) hu (by omega), Nat.and_two_pow_sub_one_eq_mod]
  have e6 : bits .and .u64 ((u / 2 ^ (t + 1) : Nat) : Int) 1 = ((u / 2 ^ (t + 1) % 2 : Nat) : Int) := by
    rw [← e5]; exact bit_at u (t + 1) hu
  have e2 : IntKind.u64.wrap (((2 ^ (t + 1) : Nat) : Int) - 1) = ((2 ^ (t + 1) - 1 : Nat) : Int) := by
    rw [IntKind.wrap_u64]
    omega
  obtain ⟨N, hN⟩ : ∃ N, near u (t + 1) = N := ⟨_, rfl⟩
  rw [hN] at hr hup hdn
  have ej := fun m hm => joinBits 9223372036854775808 (t + 53 + 1023) m (by simp) (by omega) hm
  have ek := fun m hm => joinBits 9223372036854775808 (t + 53 + 1 + 1023) m (by simp) (by omega) hm
  rw [show ((2 ^ (t + 1) - 1 : Nat)) = 2 ^ t * 2 - 1 by omega] at e2 e4
  clear hN
  generalize hV : u / 2 ^ (t + 1) = V at *
  generalize hR : u % 2 ^ (t + 1) = R at *
  generalize hP : 2 ^ (t + 1) = P at e1 e2 hps
  generalize 2 ^ t * 2 - 1 = Q at e2 e4
  generalize hG : 2 ^ t = G at e3 hup hdn hp hp0 hps
  clear hV hR hP hG hps
  have n1 : (-(u : Int) == 0) = false := by simp only [beq_eq_false_iff_ne, ne_eq]; omega
  have n2 : IntKind.u64.wrap (-(u : Int)) = 18446744073709551616 - (u : Int) := by rw [IntKind.wrap_u64]; omega
  have n3 : IntKind.u64.wrap (-(18446744073709551616 - (u : Int))) = (u : Int) := by rw [IntKind.wrap_u64]; omega
  have hcase : (G < R ∧ V = 9007199254740991) ∨ (G < R ∧ V < 9007199254740991) ∨ (¬ G < R ∧ ((R : Int) == (G : Int)) = true ∧ V % 2 = 1 ∧ V = 9007199254740991) ∨ (¬ G < R ∧ ((R : Int) == (G : Int)) = true ∧ V % 2 = 1 ∧ V < 9007199254740991) ∨ (¬ G < R ∧ ((R : Int) == (G : Int)) = true ∧ V % 2 = 0) ∨ (¬ G < R ∧ ((R : Int) == (G : Int)) = false) := by
    rw [beq_iff_eq, beq_eq_false_iff_ne]
    omega
  rcases hcase with ⟨q1, q2⟩ | ⟨q1, q2⟩ | ⟨q1, q2, q3, q4⟩ | ⟨q1, q2, q3, q4⟩ | ⟨q1, q2, q3⟩ | ⟨q1, q2⟩
  · have hNv : N = V + 1 := hup (.inl q1)
    have hFv : F = 9223372036854775808 + (t + 53 + 1 + 1023) * 4503599627370496 + 4503599627370496 % 4503599627370496 := by
      rw [Nat.mod_self, hr, hNv, q2]
      omega
    have e5' : (u : Int) / 2 ^ (t + 1) = 9007199254740991 := by rw [e5]; omega
    rw [q2] at e6
    have e6' : bits .and .u64 9007199254740991 1 = 1 := by decide
    have fk := ek 4503599627370496 (by decide)
    rw [← hFv, show (((t + 53 + 1 + 1023) * 4503599627370496 : Nat) : Int) = ((t : Int) + 53 + 1 + 1023) * 4503599627370496 by omega] at fk
    clear q2 hNv hFv e5 e6 ek ej hr hup hdn hV1 hV2
    go_enter Try.func23, Try.ntmps23
    go_wp2
    go_loop [5, 6] (fun h i => ∃ k : Nat, k ≤ 64 ∧ i = .int .i64 k ∧ h = .int .i64 (hiBit u k : Nat)) (fun _ i => 64 - (intOf i).toNat)
    case atStart => exact ⟨0, by omega, rfl, by rw [hiBit_zero]; rfl⟩
    case round =>
      obtain ⟨k, hk, rfl, rfl⟩ := hrel
      by_cases hlt : k < 64
      · have hbit := bit_at u k hu
        have hs := hiBit_set u k
        have hc := hiBit_clear u k
        clear hH
        rcases (show u / 2 ^ k % 2 = 0 ∨ u / 2 ^ k % 2 = 1 by omega) with hz | hz
        · rw [hz] at hbit
          have hz2 := hc hz
          clear hs hc hz
          go_wp2
          go_round
          case rel => exact ⟨k + 1, by omega, by go_num, by rw [hz2]⟩
          case measure => simp [intOf]; omega
        · rw [hz] at hbit
          have hz2 := hs hz
          clear hs hc hz
          go_wp2
          go_round
          case rel => exact ⟨k + 1, by omega, by go_num, by rw [hz2]⟩
          case measure => simp [intOf]; omega
      · have hk64 : k = 64 := by omega
        subst hk64
        rw [hH]
        clear hH hk hlt hu
        go_wp2
        go_ret
        refine ⟨?_, rfl⟩
        exact congrArg (fun x => Ending.returned (.int .u64 x)) fk
  · have hNv : N = V + 1 := hup (.inl q1)
    have c1 : ((V : Int) + 1 == 9007199254740992) = false := by rw [beq_eq_false_iff_ne]; omega
    have hFv : F = 9223372036854775808 + (t + 53 + 1023) * 4503599627370496 + (V + 1) % 4503599627370496 := by
      have e : (V + 1) % 4503599627370496 = V + 1 - 4503599627370496 := by omega
      rw [e, hr, hNv]
      omega
    have fk := ej (V + 1) (by omega)
    rw [← hFv, show (((t + 53 + 1023) * 4503599627370496 : Nat) : Int) = ((t : Int) + 53 + 1023) * 4503599627370496 by omega, show ((V + 1 : Nat) : Int) = (V : Int) + 1 by omega] at fk
    clear hNv hFv ek ej hr hup hdn
    go_enter Try.func23, Try.ntmps23
    go_wp2
    go_loop [5, 6] (fun h i => ∃ k : Nat, k ≤ 64 ∧ i = .int .i64 k ∧ h = .int .i64 (hiBit u k : Nat)) (fun _ i => 64 - (intOf i).toNat)
    case atStart => exact ⟨0, by omega, rfl, by rw [hiBit_zero]; rfl⟩
    case round =>
      obtain ⟨k, hk, rfl, rfl⟩ := hrel
      by_cases hlt : k < 64
      · have hbit := bit_at u k hu
        have hs := hiBit_set u k
        have hc := hiBit_clear u k
        clear hH
        rcases (show u / 2 ^ k % 2 = 0 ∨ u / 2 ^ k % 2 = 1 by omega) with hz | hz
        · rw [hz] at hbit
          have hz2 := hc hz
          clear hs hc hz
          go_wp2
          go_round
          case rel => exact ⟨k + 1, by omega, by go_num, by rw [hz2]⟩
          case measure => simp [intOf]; omega
        · rw [hz] at hbit
          have hz2 := hs hz
          clear hs hc hz
          go_wp2
          go_round
          case rel => exact ⟨k + 1, by omega, by go_num, by rw [hz2]⟩
          case measure => simp [intOf]; omega
      · have hk64 : k = 64 := by omega
        subst hk64
        rw [hH]
        clear hH hk hlt hu
        go_wp2
        go_ret
        refine ⟨?_, rfl⟩
        exact congrArg (fun x => Ending.returned (.int .u64 x)) fk
  · have q5 : R = G := by have := beq_iff_eq.1 q2; omega
    have hNv : N = V + 1 := hup (.inr ⟨q5.symm, q3⟩)
    rw [q3] at e6
    clear q3 q5
    have hFv : F = 9223372036854775808 + (t + 53 + 1 + 1023) * 4503599627370496 + 4503599627370496 % 4503599627370496 := by
      rw [Nat.mod_self, hr, hNv, q4]
      omega
    have e5' : (u : Int) / 2 ^ (t + 1) = 9007199254740991 := by rw [e5]; omega
    rw [q4] at e6
    have e6' : bits .and .u64 9007199254740991 1 = 1 := by decide
    have fk := ek 4503599627370496 (by decide)
    rw [← hFv, show (((t + 53 + 1 + 1023) * 4503599627370496 : Nat) : Int) = ((t : Int) + 53 + 1 + 1023) * 4503599627370496 by omega] at fk
    clear q4 hNv hFv e5 e6 ek ej hr hup hdn hV1 hV2
    go_enter Try.func23, Try.ntmps23
    go_wp2
    go_loop [5, 6] (fun h i => ∃ k : Nat, k ≤ 64 ∧ i = .int .i64 k ∧ h = .int .i64 (hiBit u k : Nat)) (fun _ i => 64 - (intOf i).toNat)
    case atStart => exact ⟨0, by omega, rfl, by rw [hiBit_zero]; rfl⟩
    case round =>
      obtain ⟨k, hk, rfl, rfl⟩ := hrel
      by_cases hlt : k < 64
      · have hbit := bit_at u k hu
        have hs := hiBit_set u k
        have hc := hiBit_clear u k
        clear hH
        rcases (show u / 2 ^ k % 2 = 0 ∨ u / 2 ^ k % 2 = 1 by omega) with hz | hz
        · rw [hz] at hbit
          have hz2 := hc hz
          clear hs hc hz
          go_wp2
          go_round
          case rel => exact ⟨k + 1, by omega, by go_num, by rw [hz2]⟩
          case measure => simp [intOf]; omega
        · rw [hz] at hbit
          have hz2 := hs hz
          clear hs hc hz
          go_wp2
          go_round
          case rel => exact ⟨k + 1, by omega, by go_num, by rw [hz2]⟩
          case measure => simp [intOf]; omega
      · have hk64 : k = 64 := by omega
        subst hk64
        rw [hH]
        clear hH hk hlt hu
        go_wp2
        go_ret
        refine ⟨?_, rfl⟩
        exact congrArg (fun x => Ending.returned (.int .u64 x)) fk
  · have q5 : R = G := by have := beq_iff_eq.1 q2; omega
    have hNv : N = V + 1 := hup (.inr ⟨q5.symm, q3⟩)
    rw [q3] at e6
    clear q3 q5
    have c1 : ((V : Int) + 1 == 9007199254740992) = false := by rw [beq_eq_false_iff_ne]; omega
    have hFv : F = 9223372036854775808 + (t + 53 + 1023) * 4503599627370496 + (V + 1) % 4503599627370496 := by
      have e : (V + 1) % 4503599627370496 = V + 1 - 4503599627370496 := by omega
      rw [e, hr, hNv]
      omega
    have fk := ej (V + 1) (by omega)
    rw [← hFv, show (((t + 53 + 1023) * 4503599627370496 : Nat) : Int) = ((t : Int) + 53 + 1023) * 4503599627370496 by omega, show ((V + 1 : Nat) : Int) = (V : Int) + 1 by omega] at fk
    clear hNv hFv ek ej hr hup hdn
    go_enter Try.func23, Try.ntmps23
    go_wp2
    go_loop [5, 6] (fun h i => ∃ k : Nat, k ≤ 64 ∧ i = .int .i64 k ∧ h = .int .i64 (hiBit u k : Nat)) (fun _ i => 64 - (intOf i).toNat)
    case atStart => exact ⟨0, by omega, rfl, by rw [hiBit_zero]; rfl⟩
    case round =>
      obtain ⟨k, hk, rfl, rfl⟩ := hrel
      by_cases hlt : k < 64
      · have hbit := bit_at u k hu
        have hs := hiBit_set u k
        have hc := hiBit_clear u k
        clear hH
        rcases (show u / 2 ^ k % 2 = 0 ∨ u / 2 ^ k % 2 = 1 by omega) with hz | hz
        · rw [hz] at hbit
          have hz2 := hc hz
          clear hs hc hz
          go_wp2
          go_round
          case rel => exact ⟨k + 1, by omega, by go_num, by rw [hz2]⟩
          case measure => simp [intOf]; omega
        · rw [hz] at hbit
          have hz2 := hs hz
          clear hs hc hz
          go_wp2
          go_round
          case rel => exact ⟨k + 1, by omega, by go_num, by rw [hz2]⟩
          case measure => simp [intOf]; omega
      · have hk64 : k = 64 := by omega
        subst hk64
        rw [hH]
        clear hH hk hlt hu
        go_wp2
        go_ret
        refine ⟨?_, rfl⟩
        exact congrArg (fun x => Ending.returned (.int .u64 x)) fk
  · have q5 : R = G := by have := beq_iff_eq.1 q2; omega
    have hNv : N = V := hdn (.inr ⟨q5.symm, q3⟩)
    rw [q3] at e6
    clear q3 q5
    have c1 : ((V : Int) == 9007199254740992) = false := by rw [beq_eq_false_iff_ne]; omega
    have hFv : F = 9223372036854775808 + (t + 53 + 1023) * 4503599627370496 + V % 4503599627370496 := by
      have e : V % 4503599627370496 = V - 4503599627370496 := by omega
      rw [e, hr, hNv]
      omega
    have fk := ej V (by omega)
    rw [← hFv, show (((t + 53 + 1023) * 4503599627370496 : Nat) : Int) = ((t : Int) + 53 + 1023) * 4503599627370496 by omega] at fk
    clear hNv hFv ek ej hr hup hdn
    go_enter Try.func23, Try.ntmps23
    go_wp2
    go_loop [5, 6] (fun h i => ∃ k : Nat, k ≤ 64 ∧ i = .int .i64 k ∧ h = .int .i64 (hiBit u k : Nat)) (fun _ i => 64 - (intOf i).toNat)
    case atStart => exact ⟨0, by omega, rfl, by rw [hiBit_zero]; rfl⟩
    case round =>
      obtain ⟨k, hk, rfl, rfl⟩ := hrel
      by_cases hlt : k < 64
      · have hbit := bit_at u k hu
        have hs := hiBit_set u k
        have hc := hiBit_clear u k
        clear hH
        rcases (show u / 2 ^ k % 2 = 0 ∨ u / 2 ^ k % 2 = 1 by omega) with hz | hz
        · rw [hz] at hbit
          have hz2 := hc hz
          clear hs hc hz
          go_wp2
          go_round
          case rel => exact ⟨k + 1, by omega, by go_num, by rw [hz2]⟩
          case measure => simp [intOf]; omega
        · rw [hz] at hbit
          have hz2 := hs hz
          clear hs hc hz
          go_wp2
          go_round
          case rel => exact ⟨k + 1, by omega, by go_num, by rw [hz2]⟩
          case measure => simp [intOf]; omega
      · have hk64 : k = 64 := by omega
        subst hk64
        rw [hH]
        clear hH hk hlt hu
        go_wp2
        go_ret
        refine ⟨?_, rfl⟩
        exact congrArg (fun x => Ending.returned (.int .u64 x)) fk
  · have hNv : N = V := hdn (.inl (by have := beq_eq_false_iff_ne.1 q2; omega))
    have c1 : ((V : Int) == 9007199254740992) = false := by rw [beq_eq_false_iff_ne]; omega
    have hFv : F = 9223372036854775808 + (t + 53 + 1023) * 4503599627370496 + V % 4503599627370496 := by
      have e : V % 4503599627370496 = V - 4503599627370496 := by omega
      rw [e, hr, hNv]
      omega
    have fk := ej V (by omega)
    rw [← hFv, show (((t + 53 + 1023) * 4503599627370496 : Nat) : Int) = ((t : Int) + 53 + 1023) * 4503599627370496 by omega] at fk
    clear hNv hFv ek ej hr hup hdn
    go_enter Try.func23, Try.ntmps23
    go_wp2
    go_loop [5, 6] (fun h i => ∃ k : Nat, k ≤ 64 ∧ i = .int .i64 k ∧ h = .int .i64 (hiBit u k : Nat)) (fun _ i => 64 - (intOf i).toNat)
    case atStart => exact ⟨0, by omega, rfl, by rw [hiBit_zero]; rfl⟩
    case round =>
      obtain ⟨k, hk, rfl, rfl⟩ := hrel
      by_cases hlt : k < 64
      · have hbit := bit_at u k hu
        have hs := hiBit_set u k
        have hc := hiBit_clear u k
        clear hH
        rcases (show u / 2 ^ k % 2 = 0 ∨ u / 2 ^ k % 2 = 1 by omega) with hz | hz
        · rw [hz] at hbit
          have hz2 := hc hz
          clear hs hc hz
          go_wp2
          go_round
          case rel => exact ⟨k + 1, by omega, by go_num, by rw [hz2]⟩
          case measure => simp [intOf]; omega
        · rw [hz] at hbit
          have hz2 := hs hz
          clear hs hc hz
          go_wp2
          go_round
          case rel => exact ⟨k + 1, by omega, by go_num, by rw [hz2]⟩
          case measure => simp [intOf]; omega
      · have hk64 : k = 64 := by omega
        subst hk64
        rw [hH]
        clear hH hk hlt hu
        go_wp2
        go_ret
        refine ⟨?_, rfl⟩
        exact congrArg (fun x => Ending.returned (.int .u64 x)) fk

end Go.Proofs.Ytmoaadaelhakjaa
