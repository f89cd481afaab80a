/-
  A text begins with another one just if it is not below that, and below what is behind all that begin so: over lists of bytes. No program is named here.
-/
import Derived.Test.YtpjhkfebdgiejaaTAftM
namespace Go.Proofs.Ytpjhkfebdgiejaa.Num
open Op (bytesLess)

theorem aftR_snoc : ∀ (x : List UInt8) (b : UInt8), aftR (x ++ [b]) = match aftR x with
    | some y => some (y ++ [b])
    | none => if b = 255 then none else some [b + 1]
  | [], b => by
    simp only [List.nil_append, aftR]
  | c :: x, b => by
    simp only [List.cons_append, aftR]
    by_cases h : c = 255
    · rw [if_pos h, if_pos h]
      exact aftR_snoc x b
    · rw [if_neg h, if_neg h]
      rfl
theorem aft_cons (b : UInt8) (r : List UInt8) : aft (b :: r) = match aft r with
    | some y => some (b :: y)
    | none => if b = 255 then none else some [b + 1] := by
  unfold aft
  rw [List.reverse_cons, aftR_snoc]
  cases aftR r.reverse with
  | some y => simp
  | none =>
    by_cases h : b = 255
    · simp [h]
    · simp [h]
/-- What has no text behind it is bytes 255 alone. -/
theorem aft_none_all : ∀ (s : List UInt8), aft s = none → ∀ b ∈ s, b = 255
  | [], _, b, hb => by simp at hb
  | c :: r, h, b, hb => by
    rw [aft_cons] at h
    cases hr : aft r with
    | some y => simp [hr] at h
    | none =>
      simp only [hr] at h
      by_cases hc : c = 255
      · rcases List.mem_cons.1 hb with rfl | hb
        · exact hc
        · exact aft_none_all r hr b hb
      · simp [hc] at h
theorem less_self (b : UInt8) : ¬ b < b := by simp
theorem less_next {b c : UInt8} (hb : ¬ b = 255) : (c < b + 1) = (c < b ∨ c = b) := by
  have h1 : (b + 1).toNat = b.toNat + 1 := by
    have : ¬ b.toNat = 255 := fun h => hb (UInt8.toNat_inj.1 (by simpa using h))
    have := b.toNat_lt
    rw [UInt8.toNat_add]
    simp
    omega
  rw [UInt8.lt_iff_toNat_lt, UInt8.lt_iff_toNat_lt, h1]
  have h2 : (c = b) = (c.toNat = b.toNat) := by
    apply propext
    exact UInt8.toNat_inj.symm
  rw [h2]
  apply propext
  omega
theorem isPrefix_cons (b c : UInt8) (r u : List UInt8) : (b :: r).isPrefixOf (c :: u) = (b == c && r.isPrefixOf u) := rfl
theorem less_nil (x : List UInt8) : bytesLess x [] = false := by
  cases x <;> rfl
theorem less_cons (a b : UInt8) (x y : List UInt8) : bytesLess (a :: x) (b :: y) = (decide (a < b) || (a == b && bytesLess x y)) := rfl

/-- (3.4, second half.) -/
theorem within_eq : ∀ s t : List UInt8, s.isPrefixOf t = (!bytesLess t s && (match aft s with
    | some h => bytesLess t h
    | none => true))
  | [], t => by
    rw [less_nil]
    simp [aft, aftR]
  | b :: r, [] => by
    simp [bytesLess]
  | b :: r, c :: u => by
    have ih := within_eq r u
    rw [aft_cons, isPrefix_cons, less_cons]
    by_cases hcb : c = b
    · subst hcb
      rw [ih]
      cases hr : aft r with
      | some y => simp [less_cons]
      | none =>
        by_cases h255 : c = 255
        · simp [h255]
        · have hl := less_next (b := c) (c := c) h255
          simp [h255, less_cons, hl]
    · have hbc : (b == c) = false := by
        rw [beq_eq_false_iff_ne]
        exact fun h => hcb h.symm
      rw [hbc, Bool.false_and]
      by_cases hlt : c < b
      · simp [hlt]
      · cases hr : aft r with
        | some y => simp [less_cons, hlt, hcb]
        | none =>
          by_cases h255 : b = 255
          · exfalso
            subst h255
            have h1 := c.toNat_lt
            have h2 : ¬ c.toNat = 255 := fun h => hcb (UInt8.toNat_inj.1 (by simpa using h))
            rw [UInt8.lt_iff_toNat_lt] at hlt
            have : (255 : UInt8).toNat = 255 := rfl
            omega
          · have hl := less_next (b := b) (c := c) h255
            simp [h255, less_cons, less_nil, hl, hlt, hcb]
end Go.Proofs.Ytpjhkfebdgiejaa.Num
