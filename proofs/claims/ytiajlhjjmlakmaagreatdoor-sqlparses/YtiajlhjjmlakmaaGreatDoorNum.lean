/-
  The plain facts on the words of a float64 that package flo's functions rest on: which words are NaNs and noughts, and the document's 'one form' and 'place' as functions of natural numbers. No program is named here.
-/
import Derived.Laws.FloatArith
import Derived.Laws.BitsAllLaws
namespace Go.Proofs.YtiajlhjjmlakmaaGreatDoor.Num

theorem read_double (n : Nat) : Ieee.double.read n =
    if n % 9223372036854775808 < 4503599627370496 then .number (n / 9223372036854775808 % 2 == 1) (n % 9223372036854775808) (-1074)
    else if n % 9223372036854775808 < 9218868437227405312 then
      .number (n / 9223372036854775808 % 2 == 1) (4503599627370496 + n % 9223372036854775808 % 4503599627370496) (-1074 + (n % 9223372036854775808 / 4503599627370496 - 1 : Nat))
    else if n % 9223372036854775808 = 9218868437227405312 then .infinity (n / 9223372036854775808 % 2 == 1)
    else .nan (n / 9223372036854775808 % 2 == 1) (n % 9223372036854775808 - 9218868437227405312) := by
  have e1 : Ieee.double.signWeight = 9223372036854775808 := by decide
  have e2 : Ieee.double.binade = 4503599627370496 := by decide
  have e3 : Ieee.double.infRung = 9218868437227405312 := by decide
  have e4 : Ieee.double.leastPlace = -1074 := by decide
  simp only [Ieee.Format.read, e1, e2, e3, e4]

theorem order_self (n : Nat) : Ieee.double.order n n = if 9218868437227405312 < n % 9223372036854775808 then none else some .eq := by
  unfold Ieee.Format.order
  rw [read_double]
  by_cases h1 : n % 9223372036854775808 < 4503599627370496
  · rw [if_pos h1, if_neg (by omega)]
    simp [Ieee.Datum.order]
  · rw [if_neg h1]
    by_cases h2 : n % 9223372036854775808 < 9218868437227405312
    · rw [if_pos h2, if_neg (by omega)]
      simp [Ieee.Datum.order]
    · rw [if_neg h2]
      by_cases h3 : n % 9223372036854775808 = 9218868437227405312
      · rw [if_pos h3, if_neg (by omega)]
        simp [Ieee.Datum.order]
      · rw [if_neg h3, if_pos (by omega)]
        simp [Ieee.Datum.order]

theorem signed_eq_zero (s : Bool) (m u : Nat) : Ieee.signed s m u = 0 ↔ m = 0 := by
  unfold Ieee.signed
  have e : m <<< u = 0 ↔ m = 0 := by
    rw [Nat.shiftLeft_eq]
    have : 0 < 2 ^ u := Nat.two_pow_pos u
    constructor
    · intro h
      rcases Nat.mul_eq_zero.1 h with h | h <;> omega
    · intro h; subst h; simp
  split <;> omega

/-- A word that is no NaN's is equal to nought just if its lower bits are nought. -/
theorem order_zero (n : Nat) (h : ¬ 9218868437227405312 < n % 9223372036854775808) : (Ieee.double.order n 0 == some .eq) = decide (n % 9223372036854775808 = 0) := by
  unfold Ieee.Format.order
  have z : Ieee.double.read 0 = .number false 0 (-1074) := by decide
  rw [z, read_double]
  have cz : ∀ x : Int, (compare x 0 = .eq) ↔ x = 0 := fun x => Std.LawfulEqCmp.compare_eq_iff_eq
  by_cases h1 : n % 9223372036854775808 < 4503599627370496
  · rw [if_pos h1]
    simp only [Ieee.Datum.order]
    rw [Bool.eq_iff_iff]
    simp only [beq_iff_eq, Option.some.injEq, decide_eq_true_eq]
    have e0 : ∀ u, Ieee.signed false 0 u = 0 := fun u => (signed_eq_zero _ _ _).2 rfl
    rw [e0, cz, signed_eq_zero]
  · rw [if_neg h1]
    by_cases h2 : n % 9223372036854775808 < 9218868437227405312
    · rw [if_pos h2]
      simp only [Ieee.Datum.order]
      rw [Bool.eq_iff_iff]
      simp only [beq_iff_eq, Option.some.injEq, decide_eq_true_eq]
      have e0 : ∀ u, Ieee.signed false 0 u = 0 := fun u => (signed_eq_zero _ _ _).2 rfl
      rw [e0, cz, signed_eq_zero]
      omega
    · rw [if_neg h2, if_pos (by omega)]
      simp only [Ieee.Datum.order]
      have : n % 9223372036854775808 ≠ 0 := by omega
      rw [decide_eq_false this]
      cases (n / 9223372036854775808 % 2 == 1) <;> rfl

/-- The document's one form (1.1). -/
def canon (n : Nat) : Nat := if 9218868437227405312 < n % 9223372036854775808 then 9221120237041090560 else if n % 9223372036854775808 = 0 then 0 else n
/-- The document's place (1.2). -/
def place (n : Nat) : Nat := if 9223372036854775808 ≤ canon n then 18446744073709551615 - canon n else canon n + 9223372036854775808
/-- What a place is turned back to. -/
def unplace (o : Nat) : Nat := if 9223372036854775808 ≤ o then o - 9223372036854775808 else 18446744073709551615 - o

theorem canon_lt (n : Nat) (h : n < 18446744073709551616) : canon n < 18446744073709551616 := by
  unfold canon; split
  · omega
  · split <;> omega
theorem canon_canon (n : Nat) : canon (canon n) = canon n := by
  unfold canon
  split
  · rfl
  · split
    · rfl
    · rfl
theorem place_lt (n : Nat) (h : n < 18446744073709551616) : place n < 18446744073709551616 := by
  have := canon_lt n h
  unfold place; split <;> omega
theorem unplace_lt (n : Nat) (h : n < 18446744073709551616) : unplace n < 18446744073709551616 := by
  unfold unplace; split <;> omega

/-! The bits. -/
theorem and_top (n : Nat) (h : n < 18446744073709551616) : bits .and .u64 (n : Int) 9223372036854775808 = if 9223372036854775808 ≤ n then 9223372036854775808 else 0 := by
  have e := u64_and_nat n 9223372036854775808 h (by decide)
  rw [show ((9223372036854775808 : Nat) : Int) = 9223372036854775808 from rfl] at e
  rw [e]
  have := nat_bit 63 n
  rw [show (2 : Nat) ^ 63 = 9223372036854775808 from rfl] at this
  rw [this]
  split <;> omega
theorem or_top (n : Nat) (h : n < 9223372036854775808) : bits .or .u64 (n : Int) 9223372036854775808 = (n : Int) + 9223372036854775808 := by
  have e := u64_or_nat n 9223372036854775808 (by omega) (by decide)
  rw [show ((9223372036854775808 : Nat) : Int) = 9223372036854775808 from rfl] at e
  rw [e, Nat.or_comm, nat_join 63 9223372036854775808 n (by decide) h]
  omega
theorem andNot_top (n : Nat) (h : n < 18446744073709551616) : bits .andNot .u64 (n : Int) 9223372036854775808 = ((n % 9223372036854775808 : Nat) : Int) := by
  have e := u64_andNot_nat n 9223372036854775808 h (by decide)
  rw [show ((9223372036854775808 : Nat) : Int) = 9223372036854775808 from rfl] at e
  rw [e]
  have := Nat.and_two_pow_sub_one_eq_mod n 63
  rw [show (2 : Nat) ^ 63 - 1 = 18446744073709551615 - 9223372036854775808 from rfl, show (2 : Nat) ^ 63 = 9223372036854775808 from rfl] at this
  rw [this]
theorem not_u64 (n : Nat) (h : n < 18446744073709551616) : bits .xor .u64 IntKind.u64.max (n : Int) = ((18446744073709551615 - n : Nat) : Int) := by
  rw [show IntKind.u64.max = 18446744073709551615 by decide]
  show IntKind.u64.wrap ((BitVec.ofInt 64 18446744073709551615 ^^^ BitVec.ofInt 64 (n : Int)).toNat : Int) = _
  have h1 : BitVec.ofInt 64 18446744073709551615 = BitVec.allOnes 64 := by decide
  rw [h1, BitVec.allOnes_xor, BitVec.toNat_not, ofInt_u64 n h, IntKind.wrap_u64]
  omega

/-! Places, and which of two is below. -/
theorem place_unplace (o : Nat) (h : o < 18446744073709551616) (hc : canon (unplace o) = unplace o) : place (unplace o) = o := by
  unfold place
  rw [hc]
  unfold unplace
  split <;> split <;> omega
theorem unplace_place (n : Nat) (h : n < 18446744073709551616) : unplace (place n) = canon n := by
  have := canon_lt n h
  unfold unplace place
  split <;> split <;> omega
/-- What the float of a place is, and whether there is one. -/
def backV (o : Nat) : Nat := if canon (unplace o) = unplace o then unplace o else 0
def backOk (o : Nat) : Bool := decide (canon (unplace o) = unplace o)
def cmp (a b : Nat) : Int := if place a < place b then -1 else if place b < place a then 1 else 0
theorem cmp_cases (p q : Nat) : (cmp p q = -1 ∧ place p < place q) ∨ (cmp p q = 0 ∧ place p = place q) ∨ (cmp p q = 1 ∧ place q < place p) := by
  unfold cmp
  split
  · exact .inl ⟨rfl, by assumption⟩
  · split
    · exact .inr (.inr ⟨rfl, by assumption⟩)
    · exact .inr (.inl ⟨rfl, by omega⟩)
theorem canon_of_place (p q : Nat) (hp : p < 18446744073709551616) (hq : q < 18446744073709551616) : place p = place q ↔ canon p = canon q := by
  constructor
  · intro h
    have h1 := unplace_place p hp
    have h2 := unplace_place q hq
    rw [h] at h1
    omega
  · intro h
    unfold place
    rw [h]
/-- Of a NaN that the machine chooses the one form is the document's. -/
theorem canon_nan (t : Nat) : canon ((Question.nanBits .f64 0 0).cut t) = 9221120237041090560 := by
  unfold canon
  rw [if_pos]
  simp only [Question.cut]
  have h : t / 2 % (2 ^ 52 - 1) < 2 ^ 52 - 1 := Nat.mod_lt _ (by decide)
  generalize t / 2 % (2 ^ 52 - 1) = r at *
  have h2 : t % 2 = 0 ∨ t % 2 = 1 := by omega
  rcases h2 with h2 | h2 <;> rw [h2] <;> omega
/-- The float64 sum, any NaN written as the one form. -/
def fadd (a b : Nat) : Nat := match Ieee.double.add a b with
  | some r => r
  | none => 9221120237041090560
end Go.Proofs.YtiajlhjjmlakmaaGreatDoor.Num
