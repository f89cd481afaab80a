/-
  Joined:
  Contracts: the sum of a text: of the program and of the document's own.
  Contracts: a text with its sum behind it, and the text ahead of a sum: of the program and of the document's own.
-/
import Derived.Test.YtclliljkmmpglaaGreatBase
import Derived.Lib.Strings
namespace Go.Proofs.YtclliljkmmpglaaGreat
open Go.RowKit Num
set_option linter.unusedVariables false
set_option maxRecDepth 100000

theorem sealsum_any (s : ByteArray) (hs : s.size ≤ 900000) (w : World) :
    Calls Tryz.prog 104 #[.string s] w fun e w' => e = .returned (.int .u32 ((sumL s.data.toList : Nat) : Int)) ∧ w' = w := by
  go_enter Tryz.func104, Tryz.ntmps104
  go_wp2
  go_loop [3, 8] (fun h i => ∃ k : Nat, k ≤ s.size ∧ i = .int .i64 (k : Int) ∧ h = .int .u32 ((stS 4294967295 (s.data.toList.take k) : Nat) : Int)) (fun _ i => s.size - (intOf i).toNat)
  case atStart => exact ⟨0, by omega, rfl, rfl⟩
  case round =>
    obtain ⟨k, hk, rfl, rfl⟩ := hrel
    have hH := stS_lt (s.data.toList.take k) (h := 4294967295) (by omega)
    by_cases hks : k < s.size
    · have hsn := st_next s k hks 4294967295
      have hb := (s[k]).toNat_lt
      have hx := u32_xor_nat (stS 4294967295 (s.data.toList.take k)) s[k].toNat hH (by omega)
      have hX := xor_byte_lt hH s[k]
      generalize stS 4294967295 (s.data.toList.take k) = H at *
      generalize H ^^^ s[k].toNat = X at *
      go_wp2
      go_loop [3, 17] (fun h j => ∃ m : Nat, m ≤ 8 ∧ j = .int .i64 (m : Int) ∧ h = .int .u32 ((shN m X : Nat) : Int)) (fun _ j => 8 - (intOf j).toNat)
      case atStart => exact ⟨0, by omega, rfl, rfl⟩
      case round =>
        obtain ⟨m, hm, rfl, rfl⟩ := hrel
        have hY := shN_lt m hX
        have hsc := shN_succ m X
        by_cases hm8 : m < 8
        · generalize shN m X = Y at *
          have ha := and_low Y hY
          rcases Nat.mod_two_eq_zero_or_one Y with hp | hp
          · rw [hp] at ha
            have ht := turn_even Y hp
            go_wp2
            go_round
            case rel => exact ⟨m + 1, by omega, by go_num, by rw [hsc]⟩
            case measure => simp [intOf]; omega
          · rw [hp] at ha
            have ht := turn_odd Y hY hp
            go_wp2
            go_round
            case rel => exact ⟨m + 1, by omega, by go_num, by rw [hsc]⟩
            case measure => simp [intOf]; omega
        · have hme : m = 8 := by omega
          subst hme
          go_wp2
          go_round
          case rel => exact ⟨k + 1, by omega, by go_num, by rw [hsn]⟩
          case measure => simp [intOf]; omega
    · have hke : k = s.size := by omega
      subst hke
      rw [List.take_of_length_le (by simp)] at *
      go_wp2
      go_ret
      refine ⟨?_, rfl⟩
      rw [← not_sum]
      rfl

theorem refSum_any (s : ByteArray) (hs : s.size ≤ 900000) (w : World) :
    Calls Tryz.prog 97 #[.string s] w fun e w' => e = .returned (.int .u32 ((sumL s.data.toList : Nat) : Int)) ∧ w' = w := by
  go_enter Tryz.func97, Tryz.ntmps97
  go_wp2
  go_loop [3, 4] (fun h i => ∃ k : Nat, k ≤ s.size ∧ i = .int .i64 (k : Int) ∧ h = .int .u32 ((stS 4294967295 (s.data.toList.take k) : Nat) : Int)) (fun _ i => s.size - (intOf i).toNat)
  case atStart => exact ⟨0, by omega, rfl, rfl⟩
  case round =>
    obtain ⟨k, hk, rfl, rfl⟩ := hrel
    have hH := stS_lt (s.data.toList.take k) (h := 4294967295) (by omega)
    by_cases hks : k < s.size
    · have hsn := st_next s k hks 4294967295
      have hb := (s[k]).toNat_lt
      have hx := u32_xor_nat (stS 4294967295 (s.data.toList.take k)) s[k].toNat hH (by omega)
      have hX := xor_byte_lt hH s[k]
      generalize stS 4294967295 (s.data.toList.take k) = H at *
      generalize H ^^^ s[k].toNat = X at *
      go_wp2
      go_loop [3, 5] (fun h j => ∃ m : Nat, m ≤ 8 ∧ j = .int .i64 (m : Int) ∧ h = .int .u32 ((shN m X : Nat) : Int)) (fun _ j => 8 - (intOf j).toNat)
      case atStart => exact ⟨0, by omega, rfl, rfl⟩
      case round =>
        obtain ⟨m, hm, rfl, rfl⟩ := hrel
        have hY := shN_lt m hX
        have hsc := shN_succ m X
        by_cases hm8 : m < 8
        · generalize shN m X = Y at *
          have ha := and_low Y hY
          rcases Nat.mod_two_eq_zero_or_one Y with hp | hp
          · rw [hp] at ha
            have ht := turn_even Y hp
            go_wp2
            go_round
            case rel => exact ⟨m + 1, by omega, by go_num, by rw [hsc]⟩
            case measure => simp [intOf]; omega
          · rw [hp] at ha
            have ht := turn_odd Y hY hp
            go_wp2
            go_round
            case rel => exact ⟨m + 1, by omega, by go_num, by rw [hsc]⟩
            case measure => simp [intOf]; omega
        · have hme : m = 8 := by omega
          subst hme
          go_wp2
          go_round
          case rel => exact ⟨k + 1, by omega, by go_num, by rw [hsn]⟩
          case measure => simp [intOf]; omega
    · have hke : k = s.size := by omega
      subst hke
      rw [List.take_of_length_le (by simp)] at *
      go_wp2
      go_ret
      refine ⟨?_, rfl⟩
      rw [← not_sum]
      rfl
end Go.Proofs.YtclliljkmmpglaaGreat
namespace Go.Proofs.YtclliljkmmpglaaGreat
open Go.RowKit Num
set_option linter.unusedVariables false
set_option maxRecDepth 100000

/-- 'string(b)' of four new bytes. -/
theorem conv_four (n : Nat) (x0 x1 x2 x3 : Int) (h0 : x0 = ((byteAt n 3).toNat : Int)) (h1 : x1 = ((byteAt n 2).toNat : Int)) (h2 : x2 = ((byteAt n 1).toNat : Int)) (h3 : x3 = ((byteAt n 0).toNat : Int)) (w : World) :
    (convert 78 9 (.slice (some ⟨w.heap.size, 0, none⟩) 4 4)).run Tryz.prog (w.alloc (.cells #[.int .u8 x0, .int .u8 x1, .int .u8 x2, .int .u8 x3] 5)) = .ok (.string (str (be4 n))) (w.alloc (.cells #[.int .u8 x0, .int .u8 x1, .int .u8 x2, .int .u8 x3] 5)) := by
  refine run_convert_bytes_back _ 78 9 5 ⟨w.heap.size, 0, none⟩ 4 (be4 n) Tryz.underlying78 Tryz.underlying5 Tryz.underlying9 ?_
  intro j hj
  subst h0 h1 h2 h3
  have hj4 : j < 4 := hj
  match j, hj4 with
  | 0, _ => simp [Addr.add, be4]
  | 1, _ => simp [Addr.add, be4]
  | 2, _ => simp [Addr.add, be4]
  | 3, _ => simp [Addr.add, be4]
theorem byte_div (n j d : Nat) (hd : d = 2 ^ (8 * j)) : ((n : Int) / (d : Int) % 256) = ((byteAt n j).toNat : Int) := by
  subst hd
  rw [← Int.natCast_ediv]
  simp only [byteAt, UInt8.toNat_ofNat']
  omega
theorem byte_low (n : Nat) : ((n : Int) % 256) = ((byteAt n 0).toNat : Int) := by
  simp only [byteAt, UInt8.toNat_ofNat', Nat.mul_zero, Nat.pow_zero, Nat.div_one]
  omega
theorem byte_top (n : Nat) (hn : n < 4294967296) : ((n : Int) / 16777216) = ((byteAt n 3).toNat : Int) := by
  rw [← byte_div n 3 16777216 rfl]
  omega
theorem conv_sum (n : Nat) (hn : n < 4294967296) (w : World) :
    (convert 78 9 (.slice (some ⟨w.heap.size, 0, none⟩) 4 4)).run Tryz.prog (w.alloc (.cells #[.int .u8 ((n : Int) / 16777216), .int .u8 ((n : Int) / 65536 % 256), .int .u8 ((n : Int) / 256 % 256), .int .u8 ((n : Int) % 256)] 5)) = .ok (.string (str (be4 n))) (w.alloc (.cells #[.int .u8 ((n : Int) / 16777216), .int .u8 ((n : Int) / 65536 % 256), .int .u8 ((n : Int) / 256 % 256), .int .u8 ((n : Int) % 256)] 5)) :=
  conv_four n _ _ _ _ (byte_top n hn) (byte_div n 2 65536 rfl) (byte_div n 1 256 rfl) (byte_low n) w

theorem str_app (s : ByteArray) (l : List UInt8) : s ++ str l = str (s.data.toList ++ l) := by
  apply ByteArray.ext
  simp [str]
theorem str_data (l : List UInt8) : (str l).data.toList = l := by simp [str]
theorem str_self (s : ByteArray) : str s.data.toList = s := by simp [str]
theorem str_size (l : List UInt8) : (str l).size = l.length := by simp [str, ByteArray.size]

theorem written_any (n : Nat) (hn : n < 4294967296) (w : World) :
    Calls Tryz.prog 103 #[.int .u32 (n : Int)] w fun e w' => e = .returned (.string (str (be4 n))) ∧ Below w.heap.size w w' := by
  have hc := conv_sum n hn
  go_enter Tryz.func103, Tryz.ntmps103
  go_wp2
  go_ret
  exact ⟨rfl, (Below.refl _ _).alloc (Nat.le_refl _) _⟩

theorem sealput_any (s : ByteArray) (hs : s.size ≤ 900000) (w : World) :
    Calls Tryz.prog 116 #[.string s] w fun e w' => e = .returned (.string (str (sealL s.data.toList))) ∧ Below w.heap.size w w' := by
  have h1 := sealsum_any s hs
  have h2 := written_any (sumL s.data.toList) (sumL_lt _)
  have he := str_app s (be4 (sumL s.data.toList))
  have hz : (str (be4 (sumL s.data.toList))).size = 4 := rfl
  go_enter Tryz.func116, Tryz.ntmps116
  go_wp2_with (first
    | (go_at_call 104; refine (h1 _).mono ?_; rintro e w1 ⟨rfl, rfl⟩)
    | (go_at_call 103; refine (h2 _).mono ?_; rintro e w2 ⟨rfl, hb2⟩))
  go_ret
  exact ⟨rfl, hb2⟩
theorem refSeal_any (s : ByteArray) (hs : s.size ≤ 900000) (w : World) :
    Calls Tryz.prog 62 #[.string s] w fun e w' => e = .returned (.string (str (sealL s.data.toList))) ∧ Below w.heap.size w w' := by
  have h1 := refSum_any s hs
  have hc := conv_sum (sumL s.data.toList) (sumL_lt _)
  have hlt := sumL_lt s.data.toList
  have he := str_app s (be4 (sumL s.data.toList))
  have hz : (str (be4 (sumL s.data.toList))).size = 4 := rfl
  have hsl : sealL s.data.toList = s.data.toList ++ be4 (sumL s.data.toList) := rfl
  rw [hsl]
  clear hsl
  generalize sumL s.data.toList = n at *
  go_enter Tryz.func62, Tryz.ntmps62
  go_wp2_with (first
    | (go_at_call 97; refine (h1 _).mono ?_; rintro e w1 ⟨rfl, rfl⟩))
  go_ret
  exact ⟨rfl, (Below.refl _ _).alloc (Nat.le_refl _) _⟩
end Go.Proofs.YtclliljkmmpglaaGreat
