/-
  Joined:
  The plain facts on the words of a float64 that package flo's functions rest on: which words are NaNs and noughts, and the document's 'one form' and 'place' as functions of natural numbers. No program is named here.
  The document's values as bytes, as functions of numbers and lists of bytes: which values may be, the bytes of a value. No program is named here.
  The bytes of a value as a list, and the number of bytes, as functions of numbers and lists. No program is named here.
  The sum over a text (5.1) on natural numbers: it is one to one in what differs close together. No program is named here.
  What the walks of package seal share: memory that is new alone; 'string(b)' of bytes in memory; the sum's turns as the walk spells them.
  A statement whose order Go leaves open, and whose callees make memory of their own: one walk in the order of the text serves every order, where each callee returns the same value in every world that is, below a mark, as it was.
-/
import Derived.Laws.FloatArith
import Derived.Laws.BitsAllLaws
import Derived.Test.YtajbdffepfjegaaGreatRows
import Derived.WalkKit
import Derived.ProofKit
import Derived.WalkSpells
import Derived.WalkLawsBesides
import Derived.BigQuiet
import Derived.WalkSmall
import Derived.Laws.IdiomStrings
namespace Go.Proofs.YtajbdffepfjegaaGreat.Num

theorem read_double (n : Nat) : Ieee.double.read n =
    if n % 9223372036854775808 < 4503599627370496 then .number (n / 9223372036854775808 % 2 == 1) (n % 9223372036854775808) (-1074)
    else if n % 9223372036854775808 < 9218868437227405312 then
      .number (n / 9223372036854775808 % 2 == 1) (4503599627370496 + n % 9223372036854775808 % 4503599627370496) (-1074 + (n % 9223372036854775808 / 4503599627370496 - 1 : Nat))
    else if n % 9223372036854775808 = 9218868437227405312 then .infinity (n / 9223372036854775808 % 2 == 1)
    else .nan (n / 9223372036854775808 % 2 == 1) (n % 9223372036854775808 - 9218868437227405312) := by
  have e1 : Ieee.double.signWeight = 9223372036854775808 := by decide
  have e2 : Ieee.double.binade = 4503599627370496 := by decide
  have e3 : Ieee.double.infRung = 9218868437227405312 := by decide
  have e4 : Ieee.double.leastPlace = -1074 := by decide
  simp only [Ieee.Format.read, e1, e2, e3, e4]

theorem order_self (n : Nat) : Ieee.double.order n n = if 9218868437227405312 < n % 9223372036854775808 then none else some .eq := by
  unfold Ieee.Format.order
  rw [read_double]
  by_cases h1 : n % 9223372036854775808 < 4503599627370496
  · rw [if_pos h1, if_neg (by omega)]
    simp [Ieee.Datum.order]
  · rw [if_neg h1]
    by_cases h2 : n % 9223372036854775808 < 9218868437227405312
    · rw [if_pos h2, if_neg (by omega)]
      simp [Ieee.Datum.order]
    · rw [if_neg h2]
      by_cases h3 : n % 9223372036854775808 = 9218868437227405312
      · rw [if_pos h3, if_neg (by omega)]
        simp [Ieee.Datum.order]
      · rw [if_neg h3, if_pos (by omega)]
        simp [Ieee.Datum.order]

theorem signed_eq_zero (s : Bool) (m u : Nat) : Ieee.signed s m u = 0 ↔ m = 0 := by
  unfold Ieee.signed
  have e : m <<< u = 0 ↔ m = 0 := by
    rw [Nat.shiftLeft_eq]
    have : 0 < 2 ^ u := Nat.two_pow_pos u
    constructor
    · intro h
      rcases Nat.mul_eq_zero.1 h with h | h <;> omega
    · intro h; subst h; simp
  split <;> omega

/-- A word that is no NaN's is equal to nought just if its lower bits are nought. -/
theorem order_zero (n : Nat) (h : ¬ 9218868437227405312 < n % 9223372036854775808) : (Ieee.double.order n 0 == some .eq) = decide (n % 9223372036854775808 = 0) := by
  unfold Ieee.Format.order
  have z : Ieee.double.read 0 = .number false 0 (-1074) := by decide
  rw [z, read_double]
  have cz : ∀ x : Int, (compare x 0 = .eq) ↔ x = 0 := fun x => Std.LawfulEqCmp.compare_eq_iff_eq
  by_cases h1 : n % 9223372036854775808 < 4503599627370496
  · rw [if_pos h1]
    simp only [Ieee.Datum.order]
    rw [Bool.eq_iff_iff]
    simp only [beq_iff_eq, Option.some.injEq, decide_eq_true_eq]
    have e0 : ∀ u, Ieee.signed false 0 u = 0 := fun u => (signed_eq_zero _ _ _).2 rfl
    rw [e0, cz, signed_eq_zero]
  · rw [if_neg h1]
    by_cases h2 : n % 9223372036854775808 < 9218868437227405312
    · rw [if_pos h2]
      simp only [Ieee.Datum.order]
      rw [Bool.eq_iff_iff]
      simp only [beq_iff_eq, Option.some.injEq, decide_eq_true_eq]
      have e0 : ∀ u, Ieee.signed false 0 u = 0 := fun u => (signed_eq_zero _ _ _).2 rfl
      rw [e0, cz, signed_eq_zero]
      omega
    · rw [if_neg h2, if_pos (by omega)]
      simp only [Ieee.Datum.order]
      have : n % 9223372036854775808 ≠ 0 := by omega
      rw [decide_eq_false this]
      cases (n / 9223372036854775808 % 2 == 1) <;> rfl

/-- The document's one form (1.1). -/
def canon (n : Nat) : Nat := if 9218868437227405312 < n % 9223372036854775808 then 9221120237041090560 else if n % 9223372036854775808 = 0 then 0 else n
/-- The document's place (1.2). -/
def place (n : Nat) : Nat := if 9223372036854775808 ≤ canon n then 18446744073709551615 - canon n else canon n + 9223372036854775808
/-- What a place is turned back to. -/
def unplace (o : Nat) : Nat := if 9223372036854775808 ≤ o then o - 9223372036854775808 else 18446744073709551615 - o

theorem canon_lt (n : Nat) (h : n < 18446744073709551616) : canon n < 18446744073709551616 := by
  unfold canon; split
  · omega
  · split <;> omega
theorem canon_canon (n : Nat) : canon (canon n) = canon n := by
  unfold canon
  split
  · rfl
  · split
    · rfl
    · rfl
theorem place_lt (n : Nat) (h : n < 18446744073709551616) : place n < 18446744073709551616 := by
  have := canon_lt n h
  unfold place; split <;> omega
theorem unplace_lt (n : Nat) (h : n < 18446744073709551616) : unplace n < 18446744073709551616 := by
  unfold unplace; split <;> omega

/-! The bits. -/
theorem and_top (n : Nat) (h : n < 18446744073709551616) : bits .and .u64 (n : Int) 9223372036854775808 = if 9223372036854775808 ≤ n then 9223372036854775808 else 0 := by
  have e := u64_and_nat n 9223372036854775808 h (by decide)
  rw [show ((9223372036854775808 : Nat) : Int) = 9223372036854775808 from rfl] at e
  rw [e]
  have := nat_bit 63 n
  rw [show (2 : Nat) ^ 63 = 9223372036854775808 from rfl] at this
  rw [this]
  split <;> omega
theorem or_top (n : Nat) (h : n < 9223372036854775808) : bits .or .u64 (n : Int) 9223372036854775808 = (n : Int) + 9223372036854775808 := by
  have e := u64_or_nat n 9223372036854775808 (by omega) (by decide)
  rw [show ((9223372036854775808 : Nat) : Int) = 9223372036854775808 from rfl] at e
  rw [e, Nat.or_comm, nat_join 63 9223372036854775808 n (by decide) h]
  omega
theorem andNot_top (n : Nat) (h : n < 18446744073709551616) : bits .andNot .u64 (n : Int) 9223372036854775808 = ((n % 9223372036854775808 : Nat) : Int) := by
  have e := u64_andNot_nat n 9223372036854775808 h (by decide)
  rw [show ((9223372036854775808 : Nat) : Int) = 9223372036854775808 from rfl] at e
  rw [e]
  have := Nat.and_two_pow_sub_one_eq_mod n 63
  rw [show (2 : Nat) ^ 63 - 1 = 18446744073709551615 - 9223372036854775808 from rfl, show (2 : Nat) ^ 63 = 9223372036854775808 from rfl] at this
  rw [this]
theorem not_u64 (n : Nat) (h : n < 18446744073709551616) : bits .xor .u64 IntKind.u64.max (n : Int) = ((18446744073709551615 - n : Nat) : Int) := by
  rw [show IntKind.u64.max = 18446744073709551615 by decide]
  show IntKind.u64.wrap ((BitVec.ofInt 64 18446744073709551615 ^^^ BitVec.ofInt 64 (n : Int)).toNat : Int) = _
  have h1 : BitVec.ofInt 64 18446744073709551615 = BitVec.allOnes 64 := by decide
  rw [h1, BitVec.allOnes_xor, BitVec.toNat_not, ofInt_u64 n h, IntKind.wrap_u64]
  omega

/-! Places, and which of two is below. -/
theorem place_unplace (o : Nat) (h : o < 18446744073709551616) (hc : canon (unplace o) = unplace o) : place (unplace o) = o := by
  unfold place
  rw [hc]
  unfold unplace
  split <;> split <;> omega
theorem unplace_place (n : Nat) (h : n < 18446744073709551616) : unplace (place n) = canon n := by
  have := canon_lt n h
  unfold unplace place
  split <;> split <;> omega
/-- What the float of a place is, and whether there is one. -/
def backV (o : Nat) : Nat := if canon (unplace o) = unplace o then unplace o else 0
def backOk (o : Nat) : Bool := decide (canon (unplace o) = unplace o)
def cmp (a b : Nat) : Int := if place a < place b then -1 else if place b < place a then 1 else 0
theorem cmp_cases (p q : Nat) : (cmp p q = -1 ∧ place p < place q) ∨ (cmp p q = 0 ∧ place p = place q) ∨ (cmp p q = 1 ∧ place q < place p) := by
  unfold cmp
  split
  · exact .inl ⟨rfl, by assumption⟩
  · split
    · exact .inr (.inr ⟨rfl, by assumption⟩)
    · exact .inr (.inl ⟨rfl, by omega⟩)
theorem canon_of_place (p q : Nat) (hp : p < 18446744073709551616) (hq : q < 18446744073709551616) : place p = place q ↔ canon p = canon q := by
  constructor
  · intro h
    have h1 := unplace_place p hp
    have h2 := unplace_place q hq
    rw [h] at h1
    omega
  · intro h
    unfold place
    rw [h]
/-- Of a NaN that the machine chooses the one form is the document's. -/
theorem canon_nan (t : Nat) : canon ((Question.nanBits .f64 0 0).cut t) = 9221120237041090560 := by
  unfold canon
  rw [if_pos]
  simp only [Question.cut]
  have h : t / 2 % (2 ^ 52 - 1) < 2 ^ 52 - 1 := Nat.mod_lt _ (by decide)
  generalize t / 2 % (2 ^ 52 - 1) = r at *
  have h2 : t % 2 = 0 ∨ t % 2 = 1 := by omega
  rcases h2 with h2 | h2 <;> rw [h2] <;> omega
/-- The float64 sum, any NaN written as the one form. -/
def fadd (a b : Nat) : Nat := match Ieee.double.add a b with
  | some r => r
  | none => 9221120237041090560
end Go.Proofs.YtajbdffepfjegaaGreat.Num
namespace Go.Proofs.YtajbdffepfjegaaGreat.Num

/-- Which values may be (2.1). -/
def may (k n : Int) (f : Nat) (s : ByteArray) : Bool :=
  if k = 0 then decide (n = 0) && decide (f = 0) && s.toList.isEmpty
  else if k = 1 then (decide (n = 0) || decide (n = 1)) && decide (f = 0) && s.toList.isEmpty
  else if k = 2 then decide (f = 0) && s.toList.isEmpty
  else if k = 3 then decide (n = 0) && decide (canon f = f) && s.toList.isEmpty
  else if k = 4 ∨ k = 5 then decide (n = 0) && decide (f = 0) && decide ((s.size : Int) ≤ 40)
  else false
end Go.Proofs.YtajbdffepfjegaaGreat.Num
namespace Go.Proofs.YtajbdffepfjegaaGreat.Num

/-- A list of bytes as a text. -/
def str (l : List UInt8) : ByteArray := ⟨l.toArray⟩
/-- The bytes of a text, as cells. -/
def cellsOf (l : List UInt8) : List Value := l.map (fun b => Value.int .u8 (b.toNat : Int))
/-- Byte i of a number, counted from the lowest. -/
def byteAt (n i : Nat) : UInt8 := UInt8.ofNat (n / 2 ^ (8 * i) % 256)
/-- A number's k highest bytes, of eight. -/
def beTake (n : Nat) : Nat → List UInt8
  | 0 => []
  | k + 1 => beTake n k ++ [byteAt n (7 - k)]
/-- A number in eight bytes, the highest first. -/
def be8 (n : Nat) : List UInt8 := beTake n 8
/-- The number of bytes, the highest first. -/
def numOf : List UInt8 → Nat := fun l => l.foldl (fun a b => a * 256 + b.toNat) 0
/-- A text with each byte 00 as 00 ff. -/
def esc : List UInt8 → List UInt8
  | [] => []
  | b :: r => if b = 0 then 0 :: 255 :: esc r else b :: esc r
/-- The bytes of a value that may be (2.2). -/
def putL (k n : Int) (f : Nat) (s : ByteArray) : List UInt8 :=
  if k = 1 then [UInt8.ofNat (2 + n.toNat)]
  else if k = 2 then 4 :: be8 (n + 9223372036854775808).toNat
  else if k = 3 then 5 :: be8 (place f)
  else if k = 4 then 6 :: (esc s.data.toList ++ [0, 1])
  else if k = 5 then 7 :: (esc s.data.toList ++ [0, 1])
  else [1]
end Go.Proofs.YtajbdffepfjegaaGreat.Num
namespace Go.Proofs.YtajbdffepfjegaaGreat.Num

/-- One turn. -/
def sh (x : Nat) : Nat := if x % 2 = 1 then x / 2 ^^^ 2197175160 else x / 2
/-- So many turns. -/
def shN : Nat → Nat → Nat
  | 0, x => x
  | n + 1, x => shN n (sh x)
/-- The state behind a text. -/
def stS : Nat → List UInt8 → Nat
  | h, [] => h
  | h, b :: r => stS (shN 8 (h ^^^ b.toNat)) r
/-- The sum of a text (5.1). -/
def sumL (l : List UInt8) : Nat := stS 4294967295 l ^^^ 4294967295

theorem sh_lt {x : Nat} (h : x < 4294967296) : sh x < 4294967296 := by
  unfold sh
  split
  · exact Nat.xor_lt_two_pow (n := 32) (by omega) (by omega)
  · omega
theorem shN_lt : ∀ (n : Nat) {x : Nat}, x < 4294967296 → shN n x < 4294967296
  | 0, _, h => h
  | n + 1, _, h => shN_lt n (sh_lt h)
theorem xor_byte_lt {h : Nat} (hh : h < 4294967296) (b : UInt8) : h ^^^ b.toNat < 4294967296 :=
  Nat.xor_lt_two_pow (n := 32) hh (by have := b.toNat_lt; omega)
theorem stS_lt : ∀ (l : List UInt8) {h : Nat}, h < 4294967296 → stS h l < 4294967296
  | [], _, hh => hh
  | b :: r, _, hh => stS_lt r (shN_lt 8 (xor_byte_lt hh b))
theorem sumL_lt (l : List UInt8) : sumL l < 4294967296 := Nat.xor_lt_two_pow (n := 32) (stS_lt l (by omega)) (by omega)

theorem xor_half (a b : Nat) : (a ^^^ b) / 2 = a / 2 ^^^ b / 2 := by
  apply Nat.eq_of_testBit_eq
  intro i
  simp [Nat.testBit_div_two]
theorem xor_mod (a b : Nat) : (a ^^^ b) % 2 = (a % 2 + b % 2) % 2 := by
  have h := Nat.xor_mod_two_pow (a := a) (b := b) (n := 1)
  rw [Nat.pow_one] at h
  rw [h]
  rcases Nat.mod_two_eq_zero_or_one a with ha | ha <;> rcases Nat.mod_two_eq_zero_or_one b with hb | hb <;> rw [ha, hb] <;> rfl
theorem xor_same {a b : Nat} (h : a ^^^ b = 0) : a = b := by
  have e : a ^^^ b ^^^ b = b := by rw [h, Nat.zero_xor]
  rw [Nat.xor_assoc, Nat.xor_self, Nat.xor_zero] at e
  exact e
theorem sh_xor (a b : Nat) : sh (a ^^^ b) = sh a ^^^ sh b := by
  unfold sh
  rw [xor_half, xor_mod]
  rcases Nat.mod_two_eq_zero_or_one a with ha | ha <;> rcases Nat.mod_two_eq_zero_or_one b with hb | hb
  · simp [ha, hb]
  · simp [ha, hb, Nat.xor_assoc]
  · simp [ha, hb, Nat.xor_assoc, Nat.xor_comm (b / 2)]
  · simp only [ha, hb]
    simp
    rw [Nat.xor_assoc, Nat.xor_comm 2197175160 (b / 2 ^^^ 2197175160), Nat.xor_assoc, Nat.xor_self, Nat.xor_zero]
theorem shN_xor : ∀ (n a b : Nat), shN n (a ^^^ b) = shN n a ^^^ shN n b
  | 0, _, _ => rfl
  | n + 1, a, b => by
    show shN n (sh (a ^^^ b)) = shN n (sh a) ^^^ shN n (sh b)
    rw [sh_xor, shN_xor n]
theorem sh_zero : sh 0 = 0 := rfl
theorem shN_zero : ∀ n, shN n 0 = 0
  | 0 => rfl
  | n + 1 => shN_zero n
theorem sh_ne {x : Nat} (h : x < 4294967296) (hx : x ≠ 0) : sh x ≠ 0 := by
  unfold sh
  split
  · intro e
    have e2 : x / 2 = 2197175160 := xor_same e
    omega
  · omega
theorem shN_ne : ∀ (n : Nat) {x : Nat}, x < 4294967296 → x ≠ 0 → shN n x ≠ 0
  | 0, _, _, hx => hx
  | n + 1, _, h, hx => shN_ne n (sh_lt h) (sh_ne h hx)

/-- What differs, carried on. -/
def dif : Nat → List UInt8 → List UInt8 → Nat
  | d, a :: s, b :: t => dif (shN 8 (d ^^^ (a.toNat ^^^ b.toNat))) s t
  | d, _, _ => d
theorem dif_st : ∀ (s t : List UInt8) (h h' : Nat), s.length = t.length → stS h s ^^^ stS h' t = dif (h ^^^ h') s t
  | [], [], _, _, _ => rfl
  | a :: s, b :: t, h, h', e => by
    have ih := dif_st s t (shN 8 (h ^^^ a.toNat)) (shN 8 (h' ^^^ b.toNat)) (by simpa using e)
    show stS (shN 8 (h ^^^ a.toNat)) s ^^^ stS (shN 8 (h' ^^^ b.toNat)) t = dif (shN 8 ((h ^^^ h') ^^^ (a.toNat ^^^ b.toNat))) s t
    rw [ih, ← shN_xor]
    congr 2
    rw [Nat.xor_assoc, Nat.xor_assoc, ← Nat.xor_assoc a.toNat, Nat.xor_comm a.toNat h', Nat.xor_assoc h']
  | [], _ :: _, _, _, e => by simp at e
  | _ :: _, [], _, _, e => by simp at e
/-- Behind what differs nothing is made good. -/
theorem dif_same : ∀ (s : List UInt8) (d : Nat), d < 4294967296 → d ≠ 0 → dif d s s ≠ 0
  | [], _, _, hd => hd
  | a :: s, d, h, hd => by
    show dif (shN 8 (d ^^^ (a.toNat ^^^ a.toNat))) s s ≠ 0
    rw [Nat.xor_self, Nat.xor_zero]
    exact dif_same s _ (shN_lt 8 h) (shN_ne 8 h hd)
theorem dif_front : ∀ (p s t : List UInt8), dif 0 (p ++ s) (p ++ t) = dif 0 s t
  | [], _, _ => rfl
  | a :: p, s, t => by
    show dif (shN 8 (0 ^^^ (a.toNat ^^^ a.toNat))) (p ++ s) (p ++ t) = _
    rw [Nat.xor_self, Nat.xor_zero, shN_zero]
    exact dif_front p s t
theorem sum_ne {s t : List UInt8} (e : s.length = t.length) (h : dif 0 s t ≠ 0) : sumL s ≠ sumL t := by
  intro he
  have h1 : stS 4294967295 s ^^^ stS 4294967295 t = 0 := by
    have h2 : sumL s ^^^ sumL t = 0 := by rw [he, Nat.xor_self]
    unfold sumL at h2
    rw [Nat.xor_assoc, Nat.xor_comm 4294967295 (stS 4294967295 t ^^^ 4294967295), Nat.xor_assoc, Nat.xor_self, Nat.xor_zero] at h2
    exact h2
  rw [dif_st s t _ _ e, Nat.xor_self] at h1
  exact h h1
/-- One byte that differs. -/
theorem sum_one (p r : List UInt8) (a b : UInt8) (h : a ≠ b) : sumL (p ++ a :: r) ≠ sumL (p ++ b :: r) := by
  refine sum_ne (by simp) ?_
  rw [dif_front]
  have hx : a.toNat ^^^ b.toNat ≠ 0 := fun e => h (UInt8.toNat_inj.1 (xor_same e))
  have hlt : a.toNat ^^^ b.toNat < 4294967296 := Nat.xor_lt_two_pow (n := 32) (by have := a.toNat_lt; omega) (by have := b.toNat_lt; omega)
  show dif (shN 8 (0 ^^^ (a.toNat ^^^ b.toNat))) r r ≠ 0
  rw [Nat.zero_xor]
  exact dif_same r _ (shN_lt 8 hlt) (shN_ne 8 hlt hx)

/-! Four bytes that differ: the bits of one number, eight by eight. -/
theorem shN_even : ∀ (n x : Nat), shN n (2 ^ n * x) = x
  | 0, x => by simp [shN]
  | n + 1, x => by
    show shN n (sh (2 ^ (n + 1) * x)) = x
    have e : sh (2 ^ (n + 1) * x) = 2 ^ n * x := by
      unfold sh
      rw [Nat.pow_succ, Nat.mul_comm (2 ^ n) 2, Nat.mul_assoc, if_neg (by omega), Nat.mul_div_cancel_left _ (by omega)]
    rw [e, shN_even n x]
/-- Eight turns take the lowest byte off. -/
theorem shN_low (x : Nat) : shN 8 x = shN 8 (x % 256) ^^^ x / 256 := by
  have e : x = x % 256 ^^^ 2 ^ 8 * (x / 256) := by
    have h := Nat.two_pow_add_eq_or_of_lt (i := 8) (b := x % 256) (by omega) (x / 256)
    have h2 : 2 ^ 8 * (x / 256) ^^^ x % 256 = 2 ^ 8 * (x / 256) ||| x % 256 := by
      apply Nat.eq_of_testBit_eq
      intro i
      rw [Nat.testBit_xor, Nat.testBit_or]
      by_cases hi : i < 8
      · have : (2 ^ 8 * (x / 256)).testBit i = false := by rw [Nat.testBit_two_pow_mul]; simp; omega
        simp [this]
      · have : (x % 256).testBit i = false := by
          rw [show (256 : Nat) = 2 ^ 8 from rfl, Nat.testBit_mod_two_pow]
          simp [hi]
        simp [this]
    rw [Nat.xor_comm, h2, ← h]
    omega
  conv => lhs; rw [e]
  rw [shN_xor, shN_even]
theorem shN_step (S X : Nat) : shN 8 (S ^^^ X) = shN 8 (S ^^^ X % 256) ^^^ X / 256 := by
  rw [shN_xor, shN_low X, shN_xor, Nat.xor_assoc]
theorem dif_four (D : Nat) (a0 a1 a2 a3 b0 b1 b2 b3 : UInt8) (s t : List UInt8)
    (h0 : a0.toNat ^^^ b0.toNat = D % 256) (h1 : a1.toNat ^^^ b1.toNat = D / 256 % 256) (h2 : a2.toNat ^^^ b2.toNat = D / 65536 % 256) (h3 : a3.toNat ^^^ b3.toNat = D / 16777216 % 256) (hD : D < 4294967296) :
    dif 0 (a0 :: a1 :: a2 :: a3 :: s) (b0 :: b1 :: b2 :: b3 :: t) = dif (shN 8 (shN 8 (shN 8 (shN 8 D)))) s t := by
  show dif (shN 8 (shN 8 (shN 8 (shN 8 (0 ^^^ (a0.toNat ^^^ b0.toNat)) ^^^ (a1.toNat ^^^ b1.toNat)) ^^^ (a2.toNat ^^^ b2.toNat)) ^^^ (a3.toNat ^^^ b3.toNat))) s t = _
  rw [h0, h1, h2, h3, Nat.zero_xor]
  have g1 := shN_low D
  have g2 := shN_step (shN 8 (D % 256)) (D / 256)
  rw [show D / 256 / 256 = D / 65536 by omega] at g2
  have g3 := shN_step (shN 8 (shN 8 (D % 256) ^^^ D / 256 % 256)) (D / 65536)
  rw [show D / 65536 / 256 = D / 16777216 by omega] at g3
  have g4 := shN_step (shN 8 (shN 8 (shN 8 (D % 256) ^^^ D / 256 % 256) ^^^ D / 65536 % 256)) (D / 16777216)
  rw [show D / 16777216 / 256 = 0 by omega, Nat.xor_zero] at g4
  rw [g1, g2, g3, g4]
/-- Four bytes that differ in some bits. -/
theorem sum_four (p r : List UInt8) (D : Nat) (hD : D < 4294967296) (hD0 : D ≠ 0) (a0 a1 a2 a3 b0 b1 b2 b3 : UInt8)
    (h0 : a0.toNat ^^^ b0.toNat = D % 256) (h1 : a1.toNat ^^^ b1.toNat = D / 256 % 256) (h2 : a2.toNat ^^^ b2.toNat = D / 65536 % 256) (h3 : a3.toNat ^^^ b3.toNat = D / 16777216 % 256) :
    sumL (p ++ a0 :: a1 :: a2 :: a3 :: r) ≠ sumL (p ++ b0 :: b1 :: b2 :: b3 :: r) := by
  refine sum_ne (by simp) ?_
  rw [dif_front, dif_four D a0 a1 a2 a3 b0 b1 b2 b3 r r h0 h1 h2 h3 hD]
  have e1 := shN_lt 8 hD
  have e2 := shN_lt 8 e1
  have e3 := shN_lt 8 e2
  exact dif_same r _ (shN_lt 8 e3) (shN_ne 8 e3 (shN_ne 8 e2 (shN_ne 8 e1 (shN_ne 8 hD hD0))))
/-- The sum in four bytes, the highest first. -/
def be4 (n : Nat) : List UInt8 := [byteAt n 3, byteAt n 2, byteAt n 1, byteAt n 0]
theorem be4_inj {m n : Nat} (hm : m < 4294967296) (hn : n < 4294967296) (h : be4 m = be4 n) : m = n := by
  unfold be4 at h
  simp only [List.cons.injEq, and_true] at h
  obtain ⟨h3, h2, h1, h0⟩ := h
  have g : ∀ i, (byteAt m i).toNat = (byteAt n i).toNat → m / 2 ^ (8 * i) % 256 = n / 2 ^ (8 * i) % 256 := by
    intro i hi
    simp only [byteAt, UInt8.toNat_ofNat'] at hi
    omega
  have g3 := g 3 (by rw [h3])
  have g2 := g 2 (by rw [h2])
  have g1 := g 1 (by rw [h1])
  have g0 := g 0 (by rw [h0])
  simp at g3 g2 g1 g0
  omega
/-- A text with its sum (5.2). -/
def sealL (s : List UInt8) : List UInt8 := s ++ be4 (sumL s)
/-- What is ahead of a sum (5.2). -/
def openL (s : List UInt8) : Option (List UInt8) := if s.length < 4 then none else if s = sealL (s.take (s.length - 4)) then some (s.take (s.length - 4)) else none
theorem sealL_len (s : List UInt8) : (sealL s).length = s.length + 4 := by simp [sealL, be4]
theorem open_seal (s : List UInt8) : openL (sealL s) = some s := by
  have e : (sealL s).take ((sealL s).length - 4) = s := by
    rw [sealL_len, Nat.add_sub_cancel]
    unfold sealL
    exact List.take_left
  unfold openL
  rw [if_neg (by rw [sealL_len]; omega), e, if_pos rfl]
/-- One byte turned: refused (5.3). -/
theorem open_turned (s : List UInt8) (k : Nat) (hk : k < (sealL s).length) (c : UInt8) (hc : c ≠ (sealL s)[k]) : openL ((sealL s).set k c) = none := by
  have hl : ((sealL s).set k c).length = s.length + 4 := by rw [List.length_set, sealL_len]
  unfold openL
  rw [if_neg (by rw [hl]; omega), hl, Nat.add_sub_cancel, if_neg]
  intro h
  have hkl : k < s.length + 4 := by rw [← sealL_len s]; exact hk
  by_cases hks : k < s.length
  · have et : ((sealL s).set k c).take s.length = s.set k c := by
      rw [List.take_set]
      congr 1
      exact List.take_left
    rw [et] at h
    have e1 : (sealL s).set k c = s.set k c ++ be4 (sumL s) := by
      unfold sealL
      rw [List.set_append_left _ _ hks]
    rw [e1] at h
    have h2 : be4 (sumL s) = be4 (sumL (s.set k c)) := List.append_cancel_left h
    have hsk : (sealL s)[k] = s[k] := List.getElem_append_left hks
    have e3 : sumL s = sumL (s.set k c) := be4_inj (sumL_lt _) (sumL_lt _) h2
    have e4 : s = s.take k ++ s[k] :: s.drop (k + 1) := by
      rw [← List.drop_eq_getElem_cons hks, List.take_append_drop]
    have e5 : s.set k c = s.take k ++ c :: s.drop (k + 1) := List.set_eq_take_append_cons_drop.trans (if_pos hks)
    have e6 := sum_one (s.take k) (s.drop (k + 1)) s[k] c (by rw [← hsk]; exact fun e => hc e.symm)
    rw [← e4, ← e5] at e6
    exact e6 e3
  · have et : ((sealL s).set k c).take s.length = s := by
      rw [List.take_set, List.set_eq_of_length_le (by simp [sealL]; omega)]
      exact List.take_left
    rw [et] at h
    have e6 : ((sealL s).set k c)[k]? = some c := by rw [List.getElem?_set_self hk]
    rw [h, List.getElem?_eq_getElem hk] at e6
    cases e6
    exact hc rfl
end Go.Proofs.YtajbdffepfjegaaGreat.Num
namespace Go.Proofs.YtajbdffepfjegaaGreat
open Go.RowKit Num

theorem below_next {B : Nat} {a w w' : World} (h : Below B a w) (hB : B ≤ a.heap.size) (h2 : Below w.heap.size w w') : Below B a w' := h.trans (h2.mono (Nat.le_trans hB h.size))

theorem shN_succ : ∀ (n x : Nat), shN (n + 1) x = sh (shN n x)
  | 0, _ => rfl
  | n + 1, x => by
    show shN (n + 1) (sh x) = sh (shN n (sh x))
    exact shN_succ n (sh x)
theorem stS_snoc : ∀ (l : List UInt8) (h : Nat) (b : UInt8), stS h (l ++ [b]) = shN 8 (stS h l ^^^ b.toNat)
  | [], _, _ => rfl
  | _ :: r, _, b => stS_snoc r _ b
theorem take_next (s : ByteArray) (k : Nat) (hk : k < s.size) : s.data.toList.take (k + 1) = s.data.toList.take k ++ [s[k]] := by
  have hd : s.data.toList.length = s.size := rfl
  rw [List.take_succ_eq_append_getElem (by omega)]
  rfl
theorem st_next (s : ByteArray) (k : Nat) (hk : k < s.size) (h : Nat) : stS h (s.data.toList.take (k + 1)) = shN 8 (stS h (s.data.toList.take k) ^^^ s[k].toNat) := by
  rw [take_next s k hk, stS_snoc]
/-- A turn, as the walk spells it. -/
theorem and_low (Y : Nat) (hY : Y < 4294967296) : bits .and .u32 (Y : Int) 1 = ((Y % 2 : Nat) : Int) := by
  have h := u32_and_nat Y 1 hY (by omega)
  rw [Nat.and_one_is_mod] at h
  exact h
theorem turn_odd (Y : Nat) (hY : Y < 4294967296) (h : Y % 2 = 1) : bits .xor .u32 ((Y : Int) / 2) 2197175160 = ((sh Y : Nat) : Int) := by
  have h2 := u32_xor_nat (Y / 2) 2197175160 (by omega) (by omega)
  have e : sh Y = Y / 2 ^^^ 2197175160 := by unfold sh; rw [if_pos h]
  rw [e, ← h2]
  rfl
theorem turn_even (Y : Nat) (h : Y % 2 = 0) : ((Y : Int) / 2) = ((sh Y : Nat) : Int) := by
  have e : sh Y = Y / 2 := by unfold sh; rw [if_neg (by omega)]
  rw [e]
  rfl
theorem not_sum (l : List UInt8) : bits .xor .u32 IntKind.u32.max ((stS 4294967295 l : Nat) : Int) = ((sumL l : Nat) : Int) := by
  have h := u32_xor_nat 4294967295 (stS 4294967295 l) (by omega) (stS_lt l (by omega))
  unfold sumL
  rw [Nat.xor_comm, ← h]
  rfl
end Go.Proofs.YtajbdffepfjegaaGreat
namespace Go.Proofs.YtajbdffepfjegaaGreat
open Go.RowKit Num

/-- A world that is as w was, but for new memory. -/
structure Low (w : World) where
  wd : World
  low : Below w.heap.size w wd

theorem Low.some (w : World) : Nonempty (Low w) := ⟨⟨w, Below.refl _ _⟩⟩

theorem wp_region_low {P : Program} {id : Nat} {Q : Exit → Act → World → Prop} {a : Act} {w : World} {l : List Oper} (hm : P.follows .mixedOrders = true) (hB : Region.lexB .any l.toArray = true)
    (h : Nonempty (Low w) → wpQuiet P l.toArray (fun w' => ∃ x : Low w, w' = x.wd) (fun a' => ∀ w', (∃ x : Low w, w' = x.wd) → Q .normal a' w') l a) : (Code.region id l.toArray true).wp P Q a w :=
  wp_region_quiet (C := fun w' => ∃ x : Low w, w' = x.wd) hm hB ⟨⟨_, (Below.refl _ w).drew⟩, rfl⟩ (by simpa using h (Low.some w))

theorem Calls.low_of {P : Program} {f : FuncId} {args : Array Value} {w : World} {x : Low w} {v : Value}
    (h : Calls P f args x.wd fun e w' => e = .returned v ∧ Below x.wd.heap.size x.wd w') : Calls P f args x.wd fun e w'' => e = .returned v ∧ ∃ y : Low w, w'' = y.wd :=
  h.mono fun _ w'' ⟨he, hb⟩ => ⟨he, ⟨w'', below_next x.low (Nat.le_refl _) hb⟩, rfl⟩
theorem Calls.low_of_same {P : Program} {f : FuncId} {args : Array Value} {w : World} {x : Low w} {v : Value}
    (h : Calls P f args x.wd fun e w' => e = .returned v ∧ w' = x.wd) : Calls P f args x.wd fun e w'' => e = .returned v ∧ ∃ y : Low w, w'' = y.wd :=
  h.mono fun _ _ ⟨he, hb⟩ => ⟨he, x, hb⟩
theorem Low.cell {w : World} (x : Low w) {p : Addr} (hp : p.block < w.heap.size) : x.wd.cell? p = w.cell? p := x.low.cell hp
end Go.Proofs.YtajbdffepfjegaaGreat
