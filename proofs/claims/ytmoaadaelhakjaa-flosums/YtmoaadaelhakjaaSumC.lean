/-
  Contracts of the document's own helpers for the sum: the parts of a float, the shift that tells what fell out, and the packing, which gives the nearest float.
-/
import Derived.Test.YtmoaadaelhakjaaRef
import Derived.Test.YtmoaadaelhakjaaRSumM
import Derived.LoopTactic
namespace Go.Proofs.Ytmoaadaelhakjaa
open Go.RowKit Num

theorem shift_any (m d : Nat) (hm : m < 18446744073709551616) (hd : d < 4096) (w : World) :
    Calls Try.prog 29 #[.int .u64 (m : Int), .int .i64 (d : Int)] w fun e w' => e = .returned (.int .u64 (sts d m : Nat)) ∧ w' = w := by
  go_enter Try.func29, Try.ntmps29
  go_wp2
  go_loop [0, 5] (fun x i => ∃ k : Nat, k ≤ d ∧ i = .int .i64 k ∧ x = .int .u64 (sts k m : Nat)) (fun _ i => d - (intOf i).toNat)
  case atStart => exact ⟨0, by omega, rfl, rfl⟩
  case round =>
    obtain ⟨k, hk, rfl, rfl⟩ := hrel
    have hle := sts_le k m
    have hb := st_bits (sts k m) (by omega)
    have hs : st (sts k m) = sts (k + 1) m := rfl
    rw [hs] at hb
    by_cases hlt : k < d
    · by_cases h1 : 1 < sts k m
      · clear hs
        go_wp2
        go_round
        case rel => exact ⟨k + 1, by omega, by go_num, rfl⟩
        case measure => simp [intOf]; omega
      · have hsm := sts_small k (d - k) m (by omega)
        rw [show k + (d - k) = d by omega] at hsm
        clear hs hb
        go_wp2
        go_ret
        exact ⟨rfl, rfl⟩
    · have hkd : k = d := by omega
      subst hkd
      clear hs hb
      go_wp2
      go_ret
      exact ⟨rfl, rfl⟩

theorem parts_any (n : Nat) (hn : n < 18446744073709551616) (w : World) :
    Calls Try.prog 28 #[.int .u64 (n : Int)] w fun e w' => e = .returned (.tuple #[.int .i64 (pe n : Nat), .int .u64 (pq n * 8 : Nat)]) ∧ w' = w := by
  have f1 := field_e n hn
  have ff := field_f n hn
  have hfr : n % 9223372036854775808 % 4503599627370496 < 4503599627370496 := by omega
  by_cases h : n % 9223372036854775808 < 4503599627370496
  · have e1 : pe n = 1 := by unfold pe; rw [if_pos h]
    have e2 : pq n = n % 9223372036854775808 % 4503599627370496 := by unfold pq; rw [if_pos h]; omega
    have f1' : bits .and .u64 ((n : Int) / 4503599627370496) 2047 = 0 := by rw [f1, Nat.div_eq_of_lt h]; rfl
    obtain ⟨fr, hfe⟩ : ∃ fr, n % 9223372036854775808 % 4503599627370496 = fr := ⟨_, rfl⟩
    rw [e1, e2, hfe]
    rw [hfe] at ff hfr
    clear f1 e1 e2 h hfe
    go_enter Try.func28, Try.ntmps28
    go_wp2
    go_ret2
    exact ⟨rfl, rfl⟩
  · have e1 : pe n = n % 9223372036854775808 / 4503599627370496 := by unfold pe; rw [if_neg h]
    have e2 : pq n = 4503599627370496 + n % 9223372036854775808 % 4503599627370496 := by unfold pq; rw [if_neg h]
    have fm := field_m (n % 9223372036854775808 % 4503599627370496) hfr
    obtain ⟨m, hme⟩ : ∃ m, 4503599627370496 + n % 9223372036854775808 % 4503599627370496 = m := ⟨_, rfl⟩
    have hm : m < 9007199254740992 := by omega
    obtain ⟨fr, hfe⟩ : ∃ fr, n % 9223372036854775808 % 4503599627370496 = fr := ⟨_, rfl⟩
    obtain ⟨ex, hee⟩ : ∃ ex, n % 9223372036854775808 / 4503599627370496 = ex := ⟨_, rfl⟩
    have hz : ((ex : Int) == 0) = false := by rw [beq_eq_false_iff_ne]; omega
    have hex : ex < 2048 := by omega
    rw [e1, e2, hee, hme]
    rw [hme, hfe] at fm
    rw [hfe] at ff
    rw [hee] at f1
    clear e1 e2 h hfe hee hme hfr
    go_enter Try.func28, Try.ntmps28
    go_wp2
    go_ret2
    exact ⟨rfl, rfl⟩
end Go.Proofs.Ytmoaadaelhakjaa
