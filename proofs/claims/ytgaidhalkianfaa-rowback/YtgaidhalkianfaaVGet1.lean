/-
  Contracts: the number of eight bytes.
-/
import Derived.Test.YtgaidhalkianfaaVRef
import Derived.Test.YtgaidhalkianfaaVGetM
import Derived.Lib.Strings
namespace Go.Proofs.Ytgaidhalkianfaa
open Go.RowKit Num
set_option linter.unusedVariables false

theorem or_byte (N : Nat) (b : UInt8) (hN : N < 72057594037927936) : bits .or .u64 ((N : Int) * 256) (b.toNat : Int) = ((N * 256 + b.toNat : Nat) : Int) := by
  have hb : b.toNat < 256 := b.toNat_lt
  obtain ⟨m, hm⟩ : ∃ m, N * 256 = m := ⟨_, rfl⟩
  have hm1 : m < 18446744073709551616 := by omega
  have hb1 : b.toNat < 18446744073709551616 := by omega
  have e := u64_or_nat m b.toNat hm1 hb1
  have e2 : (N : Int) * 256 = (m : Int) := by omega
  rw [e2, e, nat_join 8 m b.toNat (by omega) hb, hm]

theorem getWord_bad (s : ByteArray) (hs : s.size < 8) (w : World) :
    Calls Try.prog 52 #[.string s] w fun e w' => e = .returned (.tuple #[.int .u64 0, .bool false]) ∧ w' = w := by
  go_enter Try.func52, Try.ntmps52
  go_wp2
  go_ret2
  exact ⟨rfl, rfl⟩
theorem getWord_ok (s : ByteArray) (hs : ¬ s.size < 8) (w : World) :
    Calls Try.prog 52 #[.string s] w fun e w' => e = .returned (.tuple #[.int .u64 (numOf (s.data.toList.take 8) : Nat), .bool true]) ∧ w' = w := by
  go_enter Try.func52, Try.ntmps52
  go_wp2
  go_loop [4, 9] (fun n i => ∃ k : Nat, k ≤ 8 ∧ i = .int .i64 (k : Int) ∧ n = .int .u64 ((numOf (s.data.toList.take k) : Nat) : Int)) (fun _ i => 8 - (intOf i).toNat)
  case atStart => exact ⟨0, by omega, rfl, rfl⟩
  case round =>
    obtain ⟨k, hk, rfl, rfl⟩ := hrel
    by_cases hk8 : k < 8
    · have hks : k < s.size := by omega
      have hN := numOf_take_lt s.data.toList k (by omega)
      have hN' := numOf_take s k hks
      obtain ⟨N, hNe⟩ : ∃ N, numOf (s.data.toList.take k) = N := ⟨_, rfl⟩
      obtain ⟨M, hMe⟩ : ∃ M, numOf (s.data.toList.take (k + 1)) = M := ⟨_, rfl⟩
      rw [hNe] at hN hN' ⊢
      rw [hMe] at hN'
      have hb : s[k].toNat < 256 := s[k].toNat_lt
      have hN2 : N < 72057594037927936 := Nat.lt_of_lt_of_le hN (Nat.le_trans (Nat.pow_le_pow_right (by omega) (show k ≤ 7 by omega)) (by decide))
      have ho := or_byte N s[k] hN2
      rw [← hN'] at ho
      have HM : Hid (numOf (s.data.toList.take (k + 1)) = M) := hMe
      clear hNe hMe hN hN'
      go_wp2
      go_round
      case rel => exact ⟨k + 1, by omega, by go_num, by rw [HM.out]⟩
      case measure => simp [intOf]; omega
    · have hk8 : k = 8 := by omega
      subst hk8
      go_wp2
      go_ret2
      exact ⟨rfl, rfl⟩
theorem number_ok (s : ByteArray) (hs : ¬ s.size < 8) (w : World) :
    Calls Try.prog 44 #[.string s] w fun e w' => e = .returned (.int .u64 (numOf (s.data.toList.take 8) : Nat)) ∧ w' = w := by
  go_enter Try.func44, Try.ntmps44
  go_wp2
  go_loop [3, 4] (fun n i => ∃ k : Nat, k ≤ 8 ∧ i = .int .i64 (k : Int) ∧ n = .int .u64 ((numOf (s.data.toList.take k) : Nat) : Int)) (fun _ i => 8 - (intOf i).toNat)
  case atStart => exact ⟨0, by omega, rfl, rfl⟩
  case round =>
    obtain ⟨k, hk, rfl, rfl⟩ := hrel
    by_cases hk8 : k < 8
    · have hks : k < s.size := by omega
      have hN := numOf_take_lt s.data.toList k (by omega)
      have hN' := numOf_take s k hks
      obtain ⟨N, hNe⟩ : ∃ N, numOf (s.data.toList.take k) = N := ⟨_, rfl⟩
      obtain ⟨M, hMe⟩ : ∃ M, numOf (s.data.toList.take (k + 1)) = M := ⟨_, rfl⟩
      rw [hNe] at hN hN' ⊢
      rw [hMe] at hN'
      have hb : s[k].toNat < 256 := s[k].toNat_lt
      have hN2 : N < 72057594037927936 := Nat.lt_of_lt_of_le hN (Nat.le_trans (Nat.pow_le_pow_right (by omega) (show k ≤ 7 by omega)) (by decide))
      have ho := or_byte N s[k] hN2
      rw [← hN'] at ho
      have HM : Hid (numOf (s.data.toList.take (k + 1)) = M) := hMe
      clear hNe hMe hN hN'
      go_wp2
      go_round
      case rel => exact ⟨k + 1, by omega, by go_num, by rw [HM.out]⟩
      case measure => simp [intOf]; omega
    · have hk8 : k = 8 := by omega
      subst hk8
      go_wp2
      go_ret
      exact ⟨rfl, rfl⟩

/-! An int and a float behind their heads. -/
theorem size_tail (s : ByteArray) : (s.extract 1 s.size).size = s.size - 1 := by simp
theorem data_tail (s : ByteArray) : (s.extract 1 s.size).data.toList = s.data.toList.drop 1 := by
  rw [Go.Lib.extract_data]
  apply List.take_of_length_le
  have : s.data.toList.length = s.size := rfl
  simp only [List.length_drop]
  omega

theorem getInt_bad (s : ByteArray) (h1 : 1 ≤ s.size) (hs : s.size < 9) (w : World) :
    Calls Try.prog 41 #[.string s] w fun e w' => e = .returned (.tuple #[.agg #[.int .i64 0, .int .i64 0, .int .u64 0, .string ⟨#[]⟩], .int .i64 0, .int .i64 3]) ∧ Below w.heap.size w w' := by
  go_enter Try.func41, Try.ntmps41
  go_wp2_with (first
    | (go_at_call 52; refine (getWord_bad _ (by rw [size_tail]; omega) _).mono ?_; rintro e w1 ⟨rfl, rfl⟩))
  refine bodyPost_ret (v := .tuple #[.agg #[.int .i64 0, .int .i64 0, .int .u64 0, .string ⟨#[]⟩], .int .i64 0, .int .i64 3]) (by simp [results, Try.results41, go_sem]) rfl ⟨rfl, ?_⟩
  exact (Below.refl _ _).alloc (Nat.le_refl _) _
theorem getInt_ok (s : ByteArray) (hs : ¬ s.size < 9) (x : Int) (hx : IntKind.i64.wrap ((shiftN (numOf ((s.data.toList.drop 1).take 8)) : Nat) : Int) = x) (w : World) :
    Calls Try.prog 41 #[.string s] w fun e w' => e = .returned (.tuple #[.agg #[.int .i64 2, .int .i64 x, .int .u64 0, .string ⟨#[]⟩], .int .i64 9, .int .i64 0]) ∧ Below w.heap.size w w' := by
  have hw := getWord_ok (s.extract 1 s.size) (by rw [size_tail]; omega)
  rw [data_tail] at hw
  generalize numOf ((s.data.toList.drop 1).take 8) = u at hw hx
  have hsh := shift_any u
  generalize shiftN u = v at hsh hx
  go_enter Try.func41, Try.ntmps41
  go_wp2_with (first
    | (go_at_call 52; refine (hw _).mono ?_; rintro e w1 ⟨rfl, rfl⟩)
    | (go_at_call 35; refine (hsh _).mono ?_; rintro e w1 ⟨rfl, rfl⟩))
  refine bodyPost_ret (v := .tuple #[.agg #[.int .i64 2, .int .i64 x, .int .u64 0, .string ⟨#[]⟩], .int .i64 9, .int .i64 0]) (by simp [results, Try.results41, go_sem]) rfl ⟨rfl, ?_⟩
  exact (Below.refl _ _).alloc (Nat.le_refl _) _
theorem getFloat_bad (s : ByteArray) (h1 : 1 ≤ s.size) (hs : s.size < 9) (w : World) :
    Calls Try.prog 42 #[.string s] w fun e w' => e = .returned (.tuple #[.agg #[.int .i64 0, .int .i64 0, .int .u64 0, .string ⟨#[]⟩], .int .i64 0, .int .i64 3]) ∧ Below w.heap.size w w' := by
  go_enter Try.func42, Try.ntmps42
  go_wp2_with (first
    | (go_at_call 52; refine (getWord_bad _ (by rw [size_tail]; omega) _).mono ?_; rintro e w1 ⟨rfl, rfl⟩))
  refine bodyPost_ret (v := .tuple #[.agg #[.int .i64 0, .int .i64 0, .int .u64 0, .string ⟨#[]⟩], .int .i64 0, .int .i64 3]) (by simp [results, Try.results42, go_sem]) rfl ⟨rfl, ?_⟩
  exact (Below.refl _ _).alloc (Nat.le_refl _) _
theorem getFloat_no (s : ByteArray) (hs : ¬ s.size < 9) (hx : backOk (numOf ((s.data.toList.drop 1).take 8)) = false) (w : World) :
    Calls Try.prog 42 #[.string s] w fun e w' => e = .returned (.tuple #[.agg #[.int .i64 0, .int .i64 0, .int .u64 0, .string ⟨#[]⟩], .int .i64 0, .int .i64 3]) ∧ Below w.heap.size w w' := by
  have hw := getWord_ok (s.extract 1 s.size) (by rw [size_tail]; omega)
  rw [data_tail] at hw
  have hlt := numOf_take_lt (s.data.toList.drop 1) 8 (by omega)
  generalize numOf ((s.data.toList.drop 1).take 8) = u at hw hx hlt
  have hbk := back_any u hlt
  rw [hx] at hbk
  generalize backV u = v at hbk
  clear hx hlt
  go_enter Try.func42, Try.ntmps42
  go_wp2_with (first
    | (go_at_call 52; refine (hw _).mono ?_; rintro e w1 ⟨rfl, rfl⟩)
    | (go_at_call 53; refine (hbk _).mono ?_; rintro e w1 ⟨rfl, rfl⟩))
  refine bodyPost_ret (v := .tuple #[.agg #[.int .i64 0, .int .i64 0, .int .u64 0, .string ⟨#[]⟩], .int .i64 0, .int .i64 3]) (by simp [results, Try.results42, go_sem]) rfl ⟨rfl, ?_⟩
  exact (Below.refl _ _).alloc (Nat.le_refl _) _
theorem getFloat_ok (s : ByteArray) (hs : ¬ s.size < 9) (hx : backOk (numOf ((s.data.toList.drop 1).take 8)) = true) (v : Nat) (hv : backV (numOf ((s.data.toList.drop 1).take 8)) = v) (w : World) :
    Calls Try.prog 42 #[.string s] w fun e w' => e = .returned (.tuple #[.agg #[.int .i64 3, .int .i64 0, .int .u64 (v : Int), .string ⟨#[]⟩], .int .i64 9, .int .i64 0]) ∧ Below w.heap.size w w' := by
  have hw := getWord_ok (s.extract 1 s.size) (by rw [size_tail]; omega)
  rw [data_tail] at hw
  have hlt := numOf_take_lt (s.data.toList.drop 1) 8 (by omega)
  generalize numOf ((s.data.toList.drop 1).take 8) = u at hw hx hlt hv
  have hbk := back_any u hlt
  rw [hx, hv] at hbk
  clear hx hlt hv
  go_enter Try.func42, Try.ntmps42
  go_wp2_with (first
    | (go_at_call 52; refine (hw _).mono ?_; rintro e w1 ⟨rfl, rfl⟩)
    | (go_at_call 53; refine (hbk _).mono ?_; rintro e w1 ⟨rfl, rfl⟩))
  refine bodyPost_ret (v := .tuple #[.agg #[.int .i64 3, .int .i64 0, .int .u64 (v : Int), .string ⟨#[]⟩], .int .i64 9, .int .i64 0]) (by simp [results, Try.results42, go_sem]) rfl ⟨rfl, ?_⟩
  exact (Below.refl _ _).alloc (Nat.le_refl _) _
end Go.Proofs.Ytgaidhalkianfaa
