/-
  Contracts: the sum of a text: of the program and of the document's own.
-/
import Derived.Test.YtbhaahkjglfjmaaSBase
namespace Go.Proofs.Ytbhaahkjglfjmaa
open Go.RowKit Num
set_option linter.unusedVariables false

theorem sum_any (s : ByteArray) (hs : s.size ≤ 900000) (w : World) :
    Calls Try.prog 44 #[.string s] w fun e w' => e = .returned (.int .u32 ((sumL s.data.toList : Nat) : Int)) ∧ w' = w := by
  go_enter Try.func44, Try.ntmps44
  go_wp2
  go_loop [3, 8] (fun h i => ∃ k : Nat, k ≤ s.size ∧ i = .int .i64 (k : Int) ∧ h = .int .u32 ((stS 4294967295 (s.data.toList.take k) : Nat) : Int)) (fun _ i => s.size - (intOf i).toNat)
  case atStart => exact ⟨0, by omega, rfl, rfl⟩
  case round =>
    obtain ⟨k, hk, rfl, rfl⟩ := hrel
    have hH := stS_lt (s.data.toList.take k) (h := 4294967295) (by omega)
    by_cases hks : k < s.size
    · have hsn := st_next s k hks 4294967295
      have hb := (s[k]).toNat_lt
      have hx := u32_xor_nat (stS 4294967295 (s.data.toList.take k)) s[k].toNat hH (by omega)
      have hX := xor_byte_lt hH s[k]
      generalize stS 4294967295 (s.data.toList.take k) = H at *
      generalize H ^^^ s[k].toNat = X at *
      go_wp2
      go_loop [3, 17] (fun h j => ∃ m : Nat, m ≤ 8 ∧ j = .int .i64 (m : Int) ∧ h = .int .u32 ((shN m X : Nat) : Int)) (fun _ j => 8 - (intOf j).toNat)
      case atStart => exact ⟨0, by omega, rfl, rfl⟩
      case round =>
        obtain ⟨m, hm, rfl, rfl⟩ := hrel
        have hY := shN_lt m hX
        have hsc := shN_succ m X
        by_cases hm8 : m < 8
        · generalize shN m X = Y at *
          have ha := and_low Y hY
          rcases Nat.mod_two_eq_zero_or_one Y with hp | hp
          · rw [hp] at ha
            have ht := turn_even Y hp
            go_wp2
            go_round
            case rel => exact ⟨m + 1, by omega, by go_num, by rw [hsc]⟩
            case measure => simp [intOf]; omega
          · rw [hp] at ha
            have ht := turn_odd Y hY hp
            go_wp2
            go_round
            case rel => exact ⟨m + 1, by omega, by go_num, by rw [hsc]⟩
            case measure => simp [intOf]; omega
        · have hme : m = 8 := by omega
          subst hme
          go_wp2
          go_round
          case rel => exact ⟨k + 1, by omega, by go_num, by rw [hsn]⟩
          case measure => simp [intOf]; omega
    · have hke : k = s.size := by omega
      subst hke
      rw [List.take_of_length_le (by simp)] at *
      go_wp2
      go_ret
      refine ⟨?_, rfl⟩
      rw [← not_sum]
      rfl

theorem refSum_any (s : ByteArray) (hs : s.size ≤ 900000) (w : World) :
    Calls Try.prog 55 #[.string s] w fun e w' => e = .returned (.int .u32 ((sumL s.data.toList : Nat) : Int)) ∧ w' = w := by
  go_enter Try.func55, Try.ntmps55
  go_wp2
  go_loop [3, 4] (fun h i => ∃ k : Nat, k ≤ s.size ∧ i = .int .i64 (k : Int) ∧ h = .int .u32 ((stS 4294967295 (s.data.toList.take k) : Nat) : Int)) (fun _ i => s.size - (intOf i).toNat)
  case atStart => exact ⟨0, by omega, rfl, rfl⟩
  case round =>
    obtain ⟨k, hk, rfl, rfl⟩ := hrel
    have hH := stS_lt (s.data.toList.take k) (h := 4294967295) (by omega)
    by_cases hks : k < s.size
    · have hsn := st_next s k hks 4294967295
      have hb := (s[k]).toNat_lt
      have hx := u32_xor_nat (stS 4294967295 (s.data.toList.take k)) s[k].toNat hH (by omega)
      have hX := xor_byte_lt hH s[k]
      generalize stS 4294967295 (s.data.toList.take k) = H at *
      generalize H ^^^ s[k].toNat = X at *
      go_wp2
      go_loop [3, 5] (fun h j => ∃ m : Nat, m ≤ 8 ∧ j = .int .i64 (m : Int) ∧ h = .int .u32 ((shN m X : Nat) : Int)) (fun _ j => 8 - (intOf j).toNat)
      case atStart => exact ⟨0, by omega, rfl, rfl⟩
      case round =>
        obtain ⟨m, hm, rfl, rfl⟩ := hrel
        have hY := shN_lt m hX
        have hsc := shN_succ m X
        by_cases hm8 : m < 8
        · generalize shN m X = Y at *
          have ha := and_low Y hY
          rcases Nat.mod_two_eq_zero_or_one Y with hp | hp
          · rw [hp] at ha
            have ht := turn_even Y hp
            go_wp2
            go_round
            case rel => exact ⟨m + 1, by omega, by go_num, by rw [hsc]⟩
            case measure => simp [intOf]; omega
          · rw [hp] at ha
            have ht := turn_odd Y hY hp
            go_wp2
            go_round
            case rel => exact ⟨m + 1, by omega, by go_num, by rw [hsc]⟩
            case measure => simp [intOf]; omega
        · have hme : m = 8 := by omega
          subst hme
          go_wp2
          go_round
          case rel => exact ⟨k + 1, by omega, by go_num, by rw [hsn]⟩
          case measure => simp [intOf]; omega
    · have hke : k = s.size := by omega
      subst hke
      rw [List.take_of_length_le (by simp)] at *
      go_wp2
      go_ret
      refine ⟨?_, rfl⟩
      rw [← not_sum]
      rfl
end Go.Proofs.Ytbhaahkjglfjmaa
