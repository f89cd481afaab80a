/-
  Contracts: the number of eight bytes.
-/
import Derived.Test.YtiajlhjjmlakmaaGreatDoorVRef
import Derived.Test.YtiajlhjjmlakmaaGreatDoorVGetM
import Derived.Lib.Strings
namespace Go.Proofs.YtiajlhjjmlakmaaGreatDoor
open Go.RowKit Num
set_option linter.unusedVariables false
set_option maxRecDepth 100000

theorem or_byte (N : Nat) (b : UInt8) (hN : N < 72057594037927936) : bits .or .u64 ((N : Int) * 256) (b.toNat : Int) = ((N * 256 + b.toNat : Nat) : Int) := by
  have hb : b.toNat < 256 := b.toNat_lt
  obtain ⟨m, hm⟩ : ∃ m, N * 256 = m := ⟨_, rfl⟩
  have hm1 : m < 18446744073709551616 := by omega
  have hb1 : b.toNat < 18446744073709551616 := by omega
  have e := u64_or_nat m b.toNat hm1 hb1
  have e2 : (N : Int) * 256 = (m : Int) := by omega
  rw [e2, e, nat_join 8 m b.toNat (by omega) hb, hm]

theorem number_ok (s : ByteArray) (hs : ¬ s.size < 8) (w : World) :
    Calls Tryz.prog 110 #[.string s] w fun e w' => e = .returned (.int .u64 (numOf (s.data.toList.take 8) : Nat)) ∧ w' = w := by
  go_enter Tryz.func110, Tryz.ntmps110
  go_wp2
  go_loop [3, 4] (fun n i => ∃ k : Nat, k ≤ 8 ∧ i = .int .i64 (k : Int) ∧ n = .int .u64 ((numOf (s.data.toList.take k) : Nat) : Int)) (fun _ i => 8 - (intOf i).toNat)
  case atStart => exact ⟨0, by omega, rfl, rfl⟩
  case round =>
    obtain ⟨k, hk, rfl, rfl⟩ := hrel
    by_cases hk8 : k < 8
    · have hks : k < s.size := by omega
      have hN := numOf_take_lt s.data.toList k (by omega)
      have hN' := numOf_take s k hks
      obtain ⟨N, hNe⟩ : ∃ N, numOf (s.data.toList.take k) = N := ⟨_, rfl⟩
      obtain ⟨M, hMe⟩ : ∃ M, numOf (s.data.toList.take (k + 1)) = M := ⟨_, rfl⟩
      rw [hNe] at hN hN' ⊢
      rw [hMe] at hN'
      have hb : s[k].toNat < 256 := s[k].toNat_lt
      have hN2 : N < 72057594037927936 := Nat.lt_of_lt_of_le hN (Nat.le_trans (Nat.pow_le_pow_right (by omega) (show k ≤ 7 by omega)) (by decide))
      have ho := or_byte N s[k] hN2
      rw [← hN'] at ho
      have HM : Hid (numOf (s.data.toList.take (k + 1)) = M) := hMe
      clear hNe hMe hN hN'
      go_wp2
      go_round
      case rel => exact ⟨k + 1, by omega, by go_num, by rw [HM.out]⟩
      case measure => simp [intOf]; omega
    · have hk8 : k = 8 := by omega
      subst hk8
      go_wp2
      go_ret
      exact ⟨rfl, rfl⟩

/-! An int and a float behind their heads. -/
theorem size_tail (s : ByteArray) : (s.extract 1 s.size).size = s.size - 1 := by simp
theorem data_tail (s : ByteArray) : (s.extract 1 s.size).data.toList = s.data.toList.drop 1 := by
  rw [Go.Lib.extract_data]
  apply List.take_of_length_le
  have : s.data.toList.length = s.size := rfl
  simp only [List.length_drop]
  omega

end Go.Proofs.YtiajlhjjmlakmaaGreatDoor
