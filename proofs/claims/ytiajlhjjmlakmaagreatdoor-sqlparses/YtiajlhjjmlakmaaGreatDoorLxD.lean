/-
  Contracts: the document's digits of an int.
-/
import Derived.Test.YtiajlhjjmlakmaaGreatDoorLxQ
import Derived.Lib.ItoaLen
import Derived.Lib.ItoaWalk
namespace Go.Proofs.YtiajlhjjmlakmaaGreatDoor
open Go.RowKit Num
set_option linter.unusedVariables false
set_option maxRecDepth 100000

theorem str_cat (a b : List UInt8) : str a ++ str b = str (a ++ b) := by
  apply ByteArray.ext
  simp [str]
/-- The digits of U are those of u with S behind. -/
def DigTo (U u : Nat) (S : List UInt8) : Prop := (u = 0 ∧ Go.Lib.decDigits U = S) ∨ (1 ≤ u ∧ Go.Lib.decDigits U = Go.Lib.decDigits u ++ S)
theorem digTo_start {U : Nat} (h : 1 ≤ U) : DigTo U U [] := .inr ⟨h, by simp⟩
theorem digTo_end {U : Nat} {S : List UInt8} (h : DigTo U 0 S) : Go.Lib.decDigits U = S := by
  rcases h with ⟨_, h⟩ | ⟨h, _⟩
  · exact h
  · omega
theorem digTo_next {U u : Nat} {S : List UInt8} (h : DigTo U u S) (hu : 1 ≤ u) : DigTo U (u / 10) (UInt8.ofNat (48 + u % 10) :: S) := by
  rcases h with ⟨h, _⟩ | ⟨_, h⟩
  · omega
  · have e : Go.Lib.decDigits u = if h : u < 10 then [UInt8.ofNat (48 + u)] else Go.Lib.decDigits (u / 10) ++ [UInt8.ofNat (48 + u % 10)] := by rw [Go.Lib.decDigits]
    rw [e] at h
    by_cases h10 : u < 10
    · rw [dif_pos h10] at h
      refine .inl ⟨by omega, ?_⟩
      rw [h, Nat.mod_eq_of_lt h10]
      rfl
    · rw [dif_neg h10] at h
      refine .inr ⟨by omega, ?_⟩
      rw [h]
      simp
theorem digTo_len {U u B : Nat} {S : List UInt8} (hU : U ≤ B) (h : DigTo U u S) (hB : B ≤ 9223372036854775808 := by omega) : S.length ≤ 20 := by
  have h1 := Go.Lib.decDigits_length U
  have h2 := Go.Lib.nDigits_le20 U (by omega)
  rcases h with ⟨_, h⟩ | ⟨_, h⟩
  · rw [h] at h1
    omega
  · rw [h, List.length_append] at h1
    omega
end Go.Proofs.YtiajlhjjmlakmaaGreatDoor
