import Derived.Test.YtiajlhjjmlakmaaGreatDoorLxIt
import Derived.Lib.Strings
namespace Go.Proofs.YtiajlhjjmlakmaaGreatDoor
open Go.RowKit Num
set_option linter.unusedVariables false
set_option maxRecDepth 100000

theorem int_eq (b : UInt8) (k : Nat) : (((b.toNat : Nat) : Int) == (k : Int)) = decide (b.toNat = k) := by
 rw [Bool.eq_iff_iff, beq_iff_eq, decide_eq_true_iff]
 omega
theorem letter_any (b : UInt8) (w : World) :
  Calls Tryz.prog 49 #[.int .u8 (b.toNat : Int)] w fun e w' => e = .returned (.bool (lowB b)) ∧ w' = w := by
 by_cases h1 : (97 : Int) ≤ (b.toNat : Int)
 ·by_cases h2 : (b.toNat : Int) ≤ 122
  ·rw [show lowB b = true by unfold lowB; rw [decide_eq_true (show 97 ≤ b.toNat by omega), decide_eq_true (show b.toNat ≤ 122 by omega)]; rfl]
   go_enter Tryz.func49, Tryz.ntmps49
   go_wp2
   go_ret
   exact ⟨rfl, rfl⟩
  ·rw [show lowB b = false by unfold lowB; rw [decide_eq_false (show ¬ b.toNat ≤ 122 by omega), Bool.and_false]]
   go_enter Tryz.func49, Tryz.ntmps49
   go_wp2
   go_ret
   exact ⟨rfl, rfl⟩
 ·rw [show lowB b = false by unfold lowB; rw [decide_eq_false (show ¬ 97 ≤ b.toNat by omega), Bool.false_and]]
  go_enter Tryz.func49, Tryz.ntmps49
  go_wp2
  go_ret
  exact ⟨rfl, rfl⟩
theorem digit_any (b : UInt8) (w : World) :
  Calls Tryz.prog 51 #[.int .u8 (b.toNat : Int)] w fun e w' => e = .returned (.bool (digB b)) ∧ w' = w := by
 by_cases h1 : (48 : Int) ≤ (b.toNat : Int)
 ·by_cases h2 : (b.toNat : Int) ≤ 57
  ·rw [show digB b = true by unfold digB; rw [decide_eq_true (show 48 ≤ b.toNat by omega), decide_eq_true (show b.toNat ≤ 57 by omega)]; rfl]
   go_enter Tryz.func51, Tryz.ntmps51
   go_wp2
   go_ret
   exact ⟨rfl, rfl⟩
  ·rw [show digB b = false by unfold digB; rw [decide_eq_false (show ¬ b.toNat ≤ 57 by omega), Bool.and_false]]
   go_enter Tryz.func51, Tryz.ntmps51
   go_wp2
   go_ret
   exact ⟨rfl, rfl⟩
 ·rw [show digB b = false by unfold digB; rw [decide_eq_false (show ¬ 48 ≤ b.toNat by omega), Bool.false_and]]
  go_enter Tryz.func51, Tryz.ntmps51
  go_wp2
  go_ret
  exact ⟨rfl, rfl⟩
theorem plain_any (b : UInt8) (w : World) :
  Calls Tryz.prog 99 #[.int .u8 (b.toNat : Int)] w fun e w' => e = .returned (.bool (plainB b)) ∧ w' = w := by
 by_cases h1 : (32 : Int) ≤ (b.toNat : Int)
 ·by_cases h2 : (b.toNat : Int) ≤ 126
  ·rw [show plainB b = true by unfold plainB; rw [decide_eq_true (show 32 ≤ b.toNat by omega), decide_eq_true (show b.toNat ≤ 126 by omega)]; rfl]
   go_enter Tryz.func99, Tryz.ntmps99
   go_wp2
   go_ret
   exact ⟨rfl, rfl⟩
  ·rw [show plainB b = false by unfold plainB; rw [decide_eq_false (show ¬ b.toNat ≤ 126 by omega), Bool.and_false]]
   go_enter Tryz.func99, Tryz.ntmps99
   go_wp2
   go_ret
   exact ⟨rfl, rfl⟩
 ·rw [show plainB b = false by unfold plainB; rw [decide_eq_false (show ¬ 32 ≤ b.toNat by omega), Bool.false_and]]
  go_enter Tryz.func99, Tryz.ntmps99
  go_wp2
  go_ret
  exact ⟨rfl, rfl⟩
theorem refLow_any (b : UInt8) (w : World) :
  Calls Tryz.prog 68 #[.int .u8 (b.toNat : Int)] w fun e w' => e = .returned (.bool (lowB b)) ∧ w' = w := by
 by_cases h1 : (97 : Int) ≤ (b.toNat : Int)
 ·by_cases h2 : (b.toNat : Int) ≤ 122
  ·rw [show lowB b = true by unfold lowB; rw [decide_eq_true (show 97 ≤ b.toNat by omega), decide_eq_true (show b.toNat ≤ 122 by omega)]; rfl]
   go_enter Tryz.func68, Tryz.ntmps68
   go_wp2
   go_ret
   exact ⟨rfl, rfl⟩
  ·rw [show lowB b = false by unfold lowB; rw [decide_eq_false (show ¬ b.toNat ≤ 122 by omega), Bool.and_false]]
   go_enter Tryz.func68, Tryz.ntmps68
   go_wp2
   go_ret
   exact ⟨rfl, rfl⟩
 ·rw [show lowB b = false by unfold lowB; rw [decide_eq_false (show ¬ 97 ≤ b.toNat by omega), Bool.false_and]]
  go_enter Tryz.func68, Tryz.ntmps68
  go_wp2
  go_ret
  exact ⟨rfl, rfl⟩
theorem refDigit_any (b : UInt8) (w : World) :
  Calls Tryz.prog 71 #[.int .u8 (b.toNat : Int)] w fun e w' => e = .returned (.bool (digB b)) ∧ w' = w := by
 by_cases h1 : (48 : Int) ≤ (b.toNat : Int)
 ·by_cases h2 : (b.toNat : Int) ≤ 57
  ·rw [show digB b = true by unfold digB; rw [decide_eq_true (show 48 ≤ b.toNat by omega), decide_eq_true (show b.toNat ≤ 57 by omega)]; rfl]
   go_enter Tryz.func71, Tryz.ntmps71
   go_wp2
   go_ret
   exact ⟨rfl, rfl⟩
  ·rw [show digB b = false by unfold digB; rw [decide_eq_false (show ¬ b.toNat ≤ 57 by omega), Bool.and_false]]
   go_enter Tryz.func71, Tryz.ntmps71
   go_wp2
   go_ret
   exact ⟨rfl, rfl⟩
 ·rw [show digB b = false by unfold digB; rw [decide_eq_false (show ¬ 48 ≤ b.toNat by omega), Bool.false_and]]
  go_enter Tryz.func71, Tryz.ntmps71
  go_wp2
  go_ret
  exact ⟨rfl, rfl⟩
theorem nameByte_any (b : UInt8) (w : World) :
  Calls Tryz.prog 95 #[.int .u8 (b.toNat : Int)] w fun e w' => e = .returned (.bool (letB b)) ∧ w' = w := by
 have hl := letter_any b
 have hd := digit_any b
 unfold letB
 rcases Bool.eq_false_or_eq_true (lowB b) with h0 | h0
 ·rw [h0] at hl ⊢
  go_enter Tryz.func95, Tryz.ntmps95
  go_wp2_with (go_at_call 49; refine (hl _).mono ?_; rintro e w1 ⟨rfl, rfl⟩)
  go_ret
  exact ⟨rfl, rfl⟩
 ·rw [h0] at hl ⊢
  rcases Bool.eq_false_or_eq_true (digB b) with h1 | h1
  ·rw [h1] at hd ⊢
   go_enter Tryz.func95, Tryz.ntmps95
   go_wp2_with (first | (go_at_call 49; refine (hl _).mono ?_; rintro e w1 ⟨rfl, rfl⟩) | (go_at_call 51; refine (hd _).mono ?_; rintro e w2 ⟨rfl, rfl⟩))
   go_ret
   exact ⟨rfl, rfl⟩
  ·rw [h1] at hd ⊢
   go_enter Tryz.func95, Tryz.ntmps95
   go_wp2_with (first | (go_at_call 49; refine (hl _).mono ?_; rintro e w1 ⟨rfl, rfl⟩) | (go_at_call 51; refine (hd _).mono ?_; rintro e w2 ⟨rfl, rfl⟩))
   go_ret
   have h3 : (((b.toNat : Nat) : Int) == 95) = decide (b.toNat = 95) := by
    rw [Bool.eq_iff_iff, beq_iff_eq, decide_eq_true_iff]
    omega
   exact ⟨by simp [h3], rfl⟩
theorem refLetter_any (b : UInt8) (w : World) :
  Calls Tryz.prog 69 #[.int .u8 (b.toNat : Int)] w fun e w' => e = .returned (.bool (letB b)) ∧ w' = w := by
 have hl := refLow_any b
 have hd := refDigit_any b
 unfold letB
 rcases Bool.eq_false_or_eq_true (lowB b) with h0 | h0
 ·rw [h0] at hl ⊢
  go_enter Tryz.func69, Tryz.ntmps69
  go_wp2_with (go_at_call 68; refine (hl _).mono ?_; rintro e w1 ⟨rfl, rfl⟩)
  go_ret
  exact ⟨rfl, rfl⟩
 ·rw [h0] at hl ⊢
  rcases Bool.eq_false_or_eq_true (digB b) with h1 | h1
  ·rw [h1] at hd ⊢
   go_enter Tryz.func69, Tryz.ntmps69
   go_wp2_with (first | (go_at_call 68; refine (hl _).mono ?_; rintro e w1 ⟨rfl, rfl⟩) | (go_at_call 71; refine (hd _).mono ?_; rintro e w2 ⟨rfl, rfl⟩))
   go_ret
   exact ⟨rfl, rfl⟩
  ·rw [h1] at hd ⊢
   go_enter Tryz.func69, Tryz.ntmps69
   go_wp2_with (first | (go_at_call 68; refine (hl _).mono ?_; rintro e w1 ⟨rfl, rfl⟩) | (go_at_call 71; refine (hd _).mono ?_; rintro e w2 ⟨rfl, rfl⟩))
   go_ret
   have h3 : (((b.toNat : Nat) : Int) == 95) = decide (b.toNat = 95) := by
    rw [Bool.eq_iff_iff, beq_iff_eq, decide_eq_true_iff]
    omega
   exact ⟨by simp [h3], rfl⟩
theorem hexDigit_any (b : UInt8) (w : World) :
  Calls Tryz.prog 122 #[.int .u8 (b.toNat : Int)] w fun e w' => e = .returned (.bool (hexB b)) ∧ w' = w := by
 have hd := digit_any b
 unfold hexB
 rcases Bool.eq_false_or_eq_true (digB b) with h0 | h0
 ·rw [h0] at hd ⊢
  go_enter Tryz.func122, Tryz.ntmps122
  go_wp2_with (go_at_call 51; refine (hd _).mono ?_; rintro e w1 ⟨rfl, rfl⟩)
  go_ret
  exact ⟨rfl, rfl⟩
 ·rw [h0] at hd ⊢
  by_cases h1 : (97 : Int) ≤ (b.toNat : Int)
  ·by_cases h2 : (b.toNat : Int) ≤ 102
   ·rw [decide_eq_true (show 97 ≤ b.toNat by omega), decide_eq_true (show b.toNat ≤ 102 by omega)]
    go_enter Tryz.func122, Tryz.ntmps122
    go_wp2_with (go_at_call 51; refine (hd _).mono ?_; rintro e w1 ⟨rfl, rfl⟩)
    go_ret
    exact ⟨rfl, rfl⟩
   ·rw [decide_eq_false (show ¬ b.toNat ≤ 102 by omega), Bool.and_false]
    have h3 : decide ((b.toNat : Int) ≤ 102) = false := decide_eq_false h2
    go_enter Tryz.func122, Tryz.ntmps122
    go_wp2_with (go_at_call 51; refine (hd _).mono ?_; rintro e w1 ⟨rfl, rfl⟩)
    go_ret
    exact ⟨rfl, rfl⟩
  ·rw [decide_eq_false (show ¬ 97 ≤ b.toNat by omega), Bool.false_and]
   go_enter Tryz.func122, Tryz.ntmps122
   go_wp2_with (go_at_call 51; refine (hd _).mono ?_; rintro e w1 ⟨rfl, rfl⟩)
   go_ret
   exact ⟨rfl, rfl⟩
theorem blank_any (b : UInt8) (w : World) :
  Calls Tryz.prog 25 #[.int .u8 (b.toNat : Int)] w fun e w' => e = .returned (.bool (blankB b)) ∧ w' = w := by
 have e1 := int_eq b 32
 have e2 := int_eq b 9
 have e3 := int_eq b 10
 unfold blankB
 by_cases h1 : b.toNat = 32
 ·rw [h1]
  go_enter Tryz.func25, Tryz.ntmps25
  go_wp2
  go_ret
  exact ⟨rfl, rfl⟩
 ·by_cases h2 : b.toNat = 9
  ·rw [h2]
   go_enter Tryz.func25, Tryz.ntmps25
   go_wp2
   go_ret
   exact ⟨rfl, rfl⟩
  ·rw [decide_eq_false h1] at e1 ⊢
   rw [decide_eq_false h2] at e2 ⊢
   have e1 : (((b.toNat : Nat) : Int) == 32) = false := e1
   have e2 : (((b.toNat : Nat) : Int) == 9) = false := e2
   have e3 : (((b.toNat : Nat) : Int) == 10) = decide (b.toNat = 10) := e3
   clear h1 h2
   go_enter Tryz.func25, Tryz.ntmps25
   go_wp2
   go_ret
   exact ⟨by simp, rfl⟩
theorem index_sign (b : UInt8) (l : List UInt8) : (0 ≤ Lib.indexByte l b ↔ l.contains b = true) ∧ -1 ≤ Lib.indexByte l b := by
 induction l with
 | nil => simp [Lib.indexByte]
 | cons c r ih =>
  obtain ⟨ih, ih2⟩ := ih
  unfold Lib.indexByte
  rw [List.contains_cons]
  by_cases h : c = b
  ·subst h
   simp
  ·have h1 : (c == b) = false := by simpa using h
   have h2 : (b == c) = false := by simpa using fun e : b = c => h e.symm
   rw [h1, h2, Bool.false_or, if_neg (by simp), ← ih]
   by_cases h3 : Lib.indexByte r b = -1
   ·simp [h3]
   ·rw [if_neg (by simpa using h3)]
    omega
theorem sign_any (b : UInt8) (w : World) :
  Calls Tryz.prog 54 #[.int .u8 (b.toNat : Int)] w fun e w' => e = .returned (.bool (signB b)) ∧ w' = w := by
 have hi := index_any ⟨#[40, 41, 44, 59, 61, 60, 62, 43, 42]⟩ b
 have hs := (index_sign b signs).1
 have e : signB b = decide (0 ≤ Lib.indexByte signs b) := by
  rw [Bool.eq_iff_iff, decide_eq_true_iff, hs]
  rfl
 rw [show (ByteArray.mk #[40, 41, 44, 59, 61, 60, 62, 43, 42]).data.toList = signs from rfl] at hi
 rw [e]
 generalize Lib.indexByte signs b = k at *
 clear hs e
 go_enter Tryz.func54, Tryz.ntmps54
 go_wp2_with (go_at_call 100; refine (hi _).mono ?_; rintro e w1 ⟨rfl, rfl⟩)
 go_ret
 exact ⟨rfl, rfl⟩
end Go.Proofs.YtiajlhjjmlakmaaGreatDoor
