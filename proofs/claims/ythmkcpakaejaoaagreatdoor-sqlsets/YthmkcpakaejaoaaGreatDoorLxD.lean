/-
  Contracts: the document's digits of an int.
-/
import Derived.Test.YthmkcpakaejaoaaGreatDoorLxQ
import Derived.Lib.ItoaLen
import Derived.Lib.ItoaWalk
namespace Go.Proofs.YthmkcpakaejaoaaGreatDoor
open Go.RowKit Num
set_option linter.unusedVariables false
set_option maxRecDepth 100000

theorem str_cat (a b : List UInt8) : str a ++ str b = str (a ++ b) := by
  apply ByteArray.ext
  simp [str]
/-- The digits of U are those of u with S behind. -/
def DigTo (U u : Nat) (S : List UInt8) : Prop := (u = 0 ∧ Go.Lib.decDigits U = S) ∨ (1 ≤ u ∧ Go.Lib.decDigits U = Go.Lib.decDigits u ++ S)
theorem digTo_start {U : Nat} (h : 1 ≤ U) : DigTo U U [] := .inr ⟨h, by simp⟩
theorem digTo_end {U : Nat} {S : List UInt8} (h : DigTo U 0 S) : Go.Lib.decDigits U = S := by
  rcases h with ⟨_, h⟩ | ⟨h, _⟩
  · exact h
  · omega
theorem digTo_next {U u : Nat} {S : List UInt8} (h : DigTo U u S) (hu : 1 ≤ u) : DigTo U (u / 10) (UInt8.ofNat (48 + u % 10) :: S) := by
  rcases h with ⟨h, _⟩ | ⟨_, h⟩
  · omega
  · have e : Go.Lib.decDigits u = if h : u < 10 then [UInt8.ofNat (48 + u)] else Go.Lib.decDigits (u / 10) ++ [UInt8.ofNat (48 + u % 10)] := by rw [Go.Lib.decDigits]
    rw [e] at h
    by_cases h10 : u < 10
    · rw [dif_pos h10] at h
      refine .inl ⟨by omega, ?_⟩
      rw [h, Nat.mod_eq_of_lt h10]
      rfl
    · rw [dif_neg h10] at h
      refine .inr ⟨by omega, ?_⟩
      rw [h]
      simp
theorem digTo_len {U u B : Nat} {S : List UInt8} (hU : U ≤ B) (h : DigTo U u S) (hB : B ≤ 9223372036854775808 := by omega) : S.length ≤ 20 := by
  have h1 := Go.Lib.decDigits_length U
  have h2 := Go.Lib.nDigits_le20 U (by omega)
  rcases h with ⟨_, h⟩ | ⟨_, h⟩
  · rw [h] at h1
    omega
  · rw [h, List.length_append] at h1
    omega
theorem digits_pos (U : Nat) (hU : 1 ≤ U) (hU2 : U ≤ 9223372036854775807) (w : World) :
    Calls Tryz.prog 36 #[.int .i64 ((U : Int))] w fun e w' => e = .returned (.string (str (Go.Lib.decDigits U))) ∧ Below w.heap.size w w' := by
  have hn0 : (((U : Int) : Int) == 0) = false := by simp; omega
  have hn1 : ¬ ((U : Int) : Int) = 0 := by omega
  have hn2 : ¬ ((U : Int) : Int) < 0 := by omega
  go_enter Tryz.func36, Tryz.ntmps36
  go_wp2
  go_loopw [3, 4, 5] (fun s m _ wr => ∃ (u : Nat) (S : List UInt8) (T : ByteArray), u ≤ U ∧ S.length ≤ 20 ∧ m = .int .i64 ((u : Int)) ∧ s = .string T ∧ T.size ≤ 20 ∧ Hid (T = str S ∧ DigTo U u S) ∧ Below w.heap.size w wr) (fun _ m _ _ => (intOf m).natAbs)
  case atStart => exact ⟨U, [], ⟨#[]⟩, by omega, by simp, rfl, rfl, by decide, ⟨rfl, digTo_start hU⟩, Below.refl _ _⟩
  case round =>
    obtain ⟨u, S, T, hu, hS, rfl, rfl, hT, HD, hbel⟩ := hrel
    have hsz := hbel.size
    by_cases hu0 : u = 0
    · subst hu0
      have hfin : Hid (str (Go.Lib.decDigits U) = T) := by
        have h1 := HD.out.1
        have h2 := digTo_end HD.out.2
        unfold Hid
        rw [h1, h2]
        
      
      clear HD
      go_wp2
      go_ret
      exact ⟨by rw [hfin.out]; rfl, hbel⟩
    · have hm0 : (((u : Int) : Int) == 0) = false := by simp; omega
      have hm1 : ¬ ((u : Int) : Int) = 0 := by omega
      have hr : ((u : Int) : Int).tmod 10 = ((u % 10 : Nat) : Int) := by rfl
      have hq : ((u : Int) : Int).tdiv 10 = ((u / 10 : Nat) : Int) := by rfl
      have hd : u % 10 < 10 := Nat.mod_lt _ (by omega)
      have hqu : u / 10 ≤ U := by omega
      have hlt : u / 10 < u := by omega
      obtain ⟨d, hde⟩ : ∃ d, u % 10 = d := ⟨_, rfl⟩
      obtain ⟨q, hqe⟩ : ∃ q, u / 10 = q := ⟨_, rfl⟩
      have HD2 := digTo_next HD.out.2 (by omega)
      rw [hde, hqe] at HD2
      rw [hde] at hr hd
      rw [hqe] at hq hqu hlt
      have hS2 := digTo_len hU2 HD2
      obtain ⟨b, hb⟩ : ∃ b, UInt8.ofNat (48 + d) = b := ⟨_, rfl⟩
      rw [hb] at HD2 hS2
      have hbn : (48 : Int) + (d : Int) = (b.toNat : Int) := by
        rw [← hb, ofNat_toNat (by omega)]
        omega
      have hcv := conv_own (wr.alloc (.cells #[.int .u8 (b.toNat : Int)] 5)) wr.heap.size _ 1 [b] (own_built wr b _ rfl)
      obtain ⟨T2, hT2⟩ : ∃ T2, str [b] ++ T = T2 := ⟨_, rfl⟩
      have hT2s : Hid (T2 = str (b :: S) ∧ DigTo U q (b :: S)) := ⟨by rw [← hT2, HD.out.1, str_cat]; rfl, HD2⟩
      have hT3 : T2.size ≤ 20 := by
        rw [hT2s.out.1, size_str]
        exact hS2
      have hone : (str [b]).size = 1 := rfl
      clear HD HD2 hde hqe hb
      go_wp2
      go_roundw
      case rel => exact ⟨q, b :: S, T2, hqu, hS2, by go_num, rfl, hT3, hT2s, hbel.alloc hsz _⟩
      case measure => simp [intOf]; omega
theorem digits_neg (U : Nat) (hU : 1 ≤ U) (hU2 : U ≤ 9223372036854775808) (w : World) :
    Calls Tryz.prog 36 #[.int .i64 (-(U : Int))] w fun e w' => e = .returned (.string (str (45 :: Go.Lib.decDigits U))) ∧ Below w.heap.size w w' := by
  have hn0 : ((-(U : Int) : Int) == 0) = false := by simp; omega
  have hn1 : ¬ (-(U : Int) : Int) = 0 := by omega
  have hn2 : (-(U : Int) : Int) < 0 := by omega
  go_enter Tryz.func36, Tryz.ntmps36
  go_wp2
  go_loopw [3, 4, 5] (fun s m _ wr => ∃ (u : Nat) (S : List UInt8) (T : ByteArray), u ≤ U ∧ S.length ≤ 20 ∧ m = .int .i64 (-(u : Int)) ∧ s = .string T ∧ T.size ≤ 20 ∧ Hid (T = str S ∧ DigTo U u S) ∧ Below w.heap.size w wr) (fun _ m _ _ => (intOf m).natAbs)
  case atStart => exact ⟨U, [], ⟨#[]⟩, by omega, by simp, rfl, rfl, by decide, ⟨rfl, digTo_start hU⟩, Below.refl _ _⟩
  case round =>
    obtain ⟨u, S, T, hu, hS, rfl, rfl, hT, HD, hbel⟩ := hrel
    have hsz := hbel.size
    by_cases hu0 : u = 0
    · subst hu0
      have hfin : Hid (str (45 :: Go.Lib.decDigits U) = str [45] ++ T) := by
        have h1 := HD.out.1
        have h2 := digTo_end HD.out.2
        unfold Hid
        rw [h1, h2, str_cat]
        rfl
      have hone : (str [45]).size = 1 := rfl
      clear HD
      go_wp2
      go_ret
      exact ⟨by rw [hfin.out]; rfl, hbel⟩
    · have hm0 : ((-(u : Int) : Int) == 0) = false := by simp; omega
      have hm1 : ¬ (-(u : Int) : Int) = 0 := by omega
      have hr : (-(u : Int) : Int).tmod 10 = -((u % 10 : Nat) : Int) := by rw [Int.neg_tmod]; rfl
      have hq : (-(u : Int) : Int).tdiv 10 = -((u / 10 : Nat) : Int) := by rw [Int.neg_tdiv]; rfl
      have hd : u % 10 < 10 := Nat.mod_lt _ (by omega)
      have hqu : u / 10 ≤ U := by omega
      have hlt : u / 10 < u := by omega
      obtain ⟨d, hde⟩ : ∃ d, u % 10 = d := ⟨_, rfl⟩
      obtain ⟨q, hqe⟩ : ∃ q, u / 10 = q := ⟨_, rfl⟩
      have HD2 := digTo_next HD.out.2 (by omega)
      rw [hde, hqe] at HD2
      rw [hde] at hr hd
      rw [hqe] at hq hqu hlt
      have hS2 := digTo_len hU2 HD2
      obtain ⟨b, hb⟩ : ∃ b, UInt8.ofNat (48 + d) = b := ⟨_, rfl⟩
      rw [hb] at HD2 hS2
      have hbn : (48 : Int) + (d : Int) = (b.toNat : Int) := by
        rw [← hb, ofNat_toNat (by omega)]
        omega
      have hcv := conv_own (wr.alloc (.cells #[.int .u8 (b.toNat : Int)] 5)) wr.heap.size _ 1 [b] (own_built wr b _ rfl)
      obtain ⟨T2, hT2⟩ : ∃ T2, str [b] ++ T = T2 := ⟨_, rfl⟩
      have hT2s : Hid (T2 = str (b :: S) ∧ DigTo U q (b :: S)) := ⟨by rw [← hT2, HD.out.1, str_cat]; rfl, HD2⟩
      have hT3 : T2.size ≤ 20 := by
        rw [hT2s.out.1, size_str]
        exact hS2
      have hone : (str [b]).size = 1 := rfl
      clear HD HD2 hde hqe hb
      by_cases hd0 : 0 < d
      · go_wp2
        go_roundw
        case rel => exact ⟨q, b :: S, T2, hqu, hS2, by go_num, rfl, hT3, hT2s, hbel.alloc hsz _⟩
        case measure => simp [intOf]; omega
      · have hbm : (48 : Int) + -(d : Int) = (b.toNat : Int) := by omega
        go_wp2
        go_roundw
        case rel => exact ⟨q, b :: S, T2, hqu, hS2, by go_num, rfl, hT3, hT2s, hbel.alloc hsz _⟩
        case measure => simp [intOf]; omega
theorem digits_any (n : Int) (h0 : -9223372036854775808 ≤ n) (h1 : n ≤ 9223372036854775807) (w : World) :
    Calls Tryz.prog 17 #[.int .i64 n] w fun e w' => e = .returned (.string (str (Go.Lib.itoa n))) ∧ Below w.heap.size w w' := by
  have key : ∀ w, Calls Tryz.prog 36 #[.int .i64 n] w fun e w' => e = .returned (.string (str (Go.Lib.itoa n))) ∧ Below w.heap.size w w' := by
    intro w
    rcases Int.lt_trichotomy n 0 with h | h | h
    · obtain ⟨U, hU⟩ : ∃ U : Nat, n = -(U : Int) := ⟨n.natAbs, by omega⟩
      subst hU
      have e := Go.Lib.itoa_neg U (by omega)
      rw [e]
      exact digits_neg U (by omega) (by omega) w
    · subst h
      show Calls _ _ _ _ fun e w' => e = .returned (.string (str (Go.Lib.itoa ((0 : Nat) : Int)))) ∧ Below w.heap.size w w'
      rw [Go.Lib.itoa_nonneg, Go.Lib.decDigits, dif_pos (by omega)]
      go_enter Tryz.func36, Tryz.ntmps36
      go_wp2
      go_ret
      exact ⟨rfl, Below.refl _ _⟩
    · obtain ⟨U, hU⟩ : ∃ U : Nat, n = (U : Int) := ⟨n.toNat, by omega⟩
      subst hU
      rw [Go.Lib.itoa_nonneg]
      exact digits_pos U (by omega) (by omega) w
  go_enter Tryz.func17, Tryz.ntmps17
  go_wp2_with (go_at_call 36; refine (key _).mono ?_; rintro e w1 ⟨rfl, hb1⟩)
  go_ret
  exact ⟨rfl, hb1⟩
end Go.Proofs.YthmkcpakaejaoaaGreatDoor
