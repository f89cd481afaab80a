/-
  Joined:
  The plain facts on the words of a float64 that package flo's functions rest on: which words are NaNs and noughts, and the document's 'one form' and 'place' as functions of natural numbers. No program is named here.
  The document's values as bytes, as functions of numbers and lists of bytes: which values may be, the bytes of a value. No program is named here.
  The bytes of a value as a list, and the number of bytes, as functions of numbers and lists. No program is named here.
  The sum over a text (5.1) on natural numbers: it is one to one in what differs close together. No program is named here.
  What the walks of package seal share: memory that is new alone; 'string(b)' of bytes in memory; the sum's turns as the walk spells them.
  A statement whose order Go leaves open, and whose callees make memory of their own: one walk in the order of the text serves every order, where each callee returns the same value in every world that is, below a mark, as it was.
  Memory, of whatever types: things that lie from an address on; boxes; rows of the call's own, and what keeps them; a slice that came in, opened.
  Pages of pairs as plain lists: the order of keys, which pages are right (7.1), a pair more (7.2), a key less (7.3), and that they hold what a sorted list would (7.5). No program is named here.
  Pages of pairs in memory: as they came in, and as rows of the call's own; opened and kept.
-/
import Derived.Laws.FloatArith
import Derived.Laws.BitsAllLaws
import Derived.Test.YtdmkmhjalcfchaaRows
import Derived.WalkKit
import Derived.ProofKit
import Derived.WalkSpells
import Derived.WalkLawsBesides
import Derived.BigQuiet
import Derived.WalkSmall
import Derived.Laws.IdiomStrings
import Derived.Deep.AppendLies
import Derived.Deep.RegionLaw
import Derived.Lib.AppendStr
import Derived.Lib.SmallJoins
import Derived.Lib.Strings
import Derived.Deep.Slices
import Derived.Carry
import Derived.OneCell
import Derived.Laws.Rows
import Derived.Maps.AppendAt
namespace Go.Proofs.Ytdmkmhjalcfchaa.Num

theorem read_double (n : Nat) : Ieee.double.read n =
    if n % 9223372036854775808 < 4503599627370496 then .number (n / 9223372036854775808 % 2 == 1) (n % 9223372036854775808) (-1074)
    else if n % 9223372036854775808 < 9218868437227405312 then
      .number (n / 9223372036854775808 % 2 == 1) (4503599627370496 + n % 9223372036854775808 % 4503599627370496) (-1074 + (n % 9223372036854775808 / 4503599627370496 - 1 : Nat))
    else if n % 9223372036854775808 = 9218868437227405312 then .infinity (n / 9223372036854775808 % 2 == 1)
    else .nan (n / 9223372036854775808 % 2 == 1) (n % 9223372036854775808 - 9218868437227405312) := by
  have e1 : Ieee.double.signWeight = 9223372036854775808 := by decide
  have e2 : Ieee.double.binade = 4503599627370496 := by decide
  have e3 : Ieee.double.infRung = 9218868437227405312 := by decide
  have e4 : Ieee.double.leastPlace = -1074 := by decide
  simp only [Ieee.Format.read, e1, e2, e3, e4]

theorem order_self (n : Nat) : Ieee.double.order n n = if 9218868437227405312 < n % 9223372036854775808 then none else some .eq := by
  unfold Ieee.Format.order
  rw [read_double]
  by_cases h1 : n % 9223372036854775808 < 4503599627370496
  · rw [if_pos h1, if_neg (by omega)]
    simp [Ieee.Datum.order]
  · rw [if_neg h1]
    by_cases h2 : n % 9223372036854775808 < 9218868437227405312
    · rw [if_pos h2, if_neg (by omega)]
      simp [Ieee.Datum.order]
    · rw [if_neg h2]
      by_cases h3 : n % 9223372036854775808 = 9218868437227405312
      · rw [if_pos h3, if_neg (by omega)]
        simp [Ieee.Datum.order]
      · rw [if_neg h3, if_pos (by omega)]
        simp [Ieee.Datum.order]

theorem signed_eq_zero (s : Bool) (m u : Nat) : Ieee.signed s m u = 0 ↔ m = 0 := by
  unfold Ieee.signed
  have e : m <<< u = 0 ↔ m = 0 := by
    rw [Nat.shiftLeft_eq]
    have : 0 < 2 ^ u := Nat.two_pow_pos u
    constructor
    · intro h
      rcases Nat.mul_eq_zero.1 h with h | h <;> omega
    · intro h; subst h; simp
  split <;> omega

/-- A word that is no NaN's is equal to nought just if its lower bits are nought. -/
theorem order_zero (n : Nat) (h : ¬ 9218868437227405312 < n % 9223372036854775808) : (Ieee.double.order n 0 == some .eq) = decide (n % 9223372036854775808 = 0) := by
  unfold Ieee.Format.order
  have z : Ieee.double.read 0 = .number false 0 (-1074) := by decide
  rw [z, read_double]
  have cz : ∀ x : Int, (compare x 0 = .eq) ↔ x = 0 := fun x => Std.LawfulEqCmp.compare_eq_iff_eq
  by_cases h1 : n % 9223372036854775808 < 4503599627370496
  · rw [if_pos h1]
    simp only [Ieee.Datum.order]
    rw [Bool.eq_iff_iff]
    simp only [beq_iff_eq, Option.some.injEq, decide_eq_true_eq]
    have e0 : ∀ u, Ieee.signed false 0 u = 0 := fun u => (signed_eq_zero _ _ _).2 rfl
    rw [e0, cz, signed_eq_zero]
  · rw [if_neg h1]
    by_cases h2 : n % 9223372036854775808 < 9218868437227405312
    · rw [if_pos h2]
      simp only [Ieee.Datum.order]
      rw [Bool.eq_iff_iff]
      simp only [beq_iff_eq, Option.some.injEq, decide_eq_true_eq]
      have e0 : ∀ u, Ieee.signed false 0 u = 0 := fun u => (signed_eq_zero _ _ _).2 rfl
      rw [e0, cz, signed_eq_zero]
      omega
    · rw [if_neg h2, if_pos (by omega)]
      simp only [Ieee.Datum.order]
      have : n % 9223372036854775808 ≠ 0 := by omega
      rw [decide_eq_false this]
      cases (n / 9223372036854775808 % 2 == 1) <;> rfl

/-- The document's one form (1.1). -/
def canon (n : Nat) : Nat := if 9218868437227405312 < n % 9223372036854775808 then 9221120237041090560 else if n % 9223372036854775808 = 0 then 0 else n
/-- The document's place (1.2). -/
def place (n : Nat) : Nat := if 9223372036854775808 ≤ canon n then 18446744073709551615 - canon n else canon n + 9223372036854775808
/-- What a place is turned back to. -/
def unplace (o : Nat) : Nat := if 9223372036854775808 ≤ o then o - 9223372036854775808 else 18446744073709551615 - o

theorem canon_lt (n : Nat) (h : n < 18446744073709551616) : canon n < 18446744073709551616 := by
  unfold canon; split
  · omega
  · split <;> omega
theorem canon_canon (n : Nat) : canon (canon n) = canon n := by
  unfold canon
  split
  · rfl
  · split
    · rfl
    · rfl
theorem place_lt (n : Nat) (h : n < 18446744073709551616) : place n < 18446744073709551616 := by
  have := canon_lt n h
  unfold place; split <;> omega
theorem unplace_lt (n : Nat) (h : n < 18446744073709551616) : unplace n < 18446744073709551616 := by
  unfold unplace; split <;> omega

/-! The bits. -/
theorem and_top (n : Nat) (h : n < 18446744073709551616) : bits .and .u64 (n : Int) 9223372036854775808 = if 9223372036854775808 ≤ n then 9223372036854775808 else 0 := by
  have e := u64_and_nat n 9223372036854775808 h (by decide)
  rw [show ((9223372036854775808 : Nat) : Int) = 9223372036854775808 from rfl] at e
  rw [e]
  have := nat_bit 63 n
  rw [show (2 : Nat) ^ 63 = 9223372036854775808 from rfl] at this
  rw [this]
  split <;> omega
theorem or_top (n : Nat) (h : n < 9223372036854775808) : bits .or .u64 (n : Int) 9223372036854775808 = (n : Int) + 9223372036854775808 := by
  have e := u64_or_nat n 9223372036854775808 (by omega) (by decide)
  rw [show ((9223372036854775808 : Nat) : Int) = 9223372036854775808 from rfl] at e
  rw [e, Nat.or_comm, nat_join 63 9223372036854775808 n (by decide) h]
  omega
theorem andNot_top (n : Nat) (h : n < 18446744073709551616) : bits .andNot .u64 (n : Int) 9223372036854775808 = ((n % 9223372036854775808 : Nat) : Int) := by
  have e := u64_andNot_nat n 9223372036854775808 h (by decide)
  rw [show ((9223372036854775808 : Nat) : Int) = 9223372036854775808 from rfl] at e
  rw [e]
  have := Nat.and_two_pow_sub_one_eq_mod n 63
  rw [show (2 : Nat) ^ 63 - 1 = 18446744073709551615 - 9223372036854775808 from rfl, show (2 : Nat) ^ 63 = 9223372036854775808 from rfl] at this
  rw [this]
theorem not_u64 (n : Nat) (h : n < 18446744073709551616) : bits .xor .u64 IntKind.u64.max (n : Int) = ((18446744073709551615 - n : Nat) : Int) := by
  rw [show IntKind.u64.max = 18446744073709551615 by decide]
  show IntKind.u64.wrap ((BitVec.ofInt 64 18446744073709551615 ^^^ BitVec.ofInt 64 (n : Int)).toNat : Int) = _
  have h1 : BitVec.ofInt 64 18446744073709551615 = BitVec.allOnes 64 := by decide
  rw [h1, BitVec.allOnes_xor, BitVec.toNat_not, ofInt_u64 n h, IntKind.wrap_u64]
  omega

/-! Places, and which of two is below. -/
theorem place_unplace (o : Nat) (h : o < 18446744073709551616) (hc : canon (unplace o) = unplace o) : place (unplace o) = o := by
  unfold place
  rw [hc]
  unfold unplace
  split <;> split <;> omega
theorem unplace_place (n : Nat) (h : n < 18446744073709551616) : unplace (place n) = canon n := by
  have := canon_lt n h
  unfold unplace place
  split <;> split <;> omega
/-- What the float of a place is, and whether there is one. -/
def backV (o : Nat) : Nat := if canon (unplace o) = unplace o then unplace o else 0
def backOk (o : Nat) : Bool := decide (canon (unplace o) = unplace o)
def cmp (a b : Nat) : Int := if place a < place b then -1 else if place b < place a then 1 else 0
theorem cmp_cases (p q : Nat) : (cmp p q = -1 ∧ place p < place q) ∨ (cmp p q = 0 ∧ place p = place q) ∨ (cmp p q = 1 ∧ place q < place p) := by
  unfold cmp
  split
  · exact .inl ⟨rfl, by assumption⟩
  · split
    · exact .inr (.inr ⟨rfl, by assumption⟩)
    · exact .inr (.inl ⟨rfl, by omega⟩)
theorem canon_of_place (p q : Nat) (hp : p < 18446744073709551616) (hq : q < 18446744073709551616) : place p = place q ↔ canon p = canon q := by
  constructor
  · intro h
    have h1 := unplace_place p hp
    have h2 := unplace_place q hq
    rw [h] at h1
    omega
  · intro h
    unfold place
    rw [h]
/-- Of a NaN that the machine chooses the one form is the document's. -/
theorem canon_nan (t : Nat) : canon ((Question.nanBits .f64 0 0).cut t) = 9221120237041090560 := by
  unfold canon
  rw [if_pos]
  simp only [Question.cut]
  have h : t / 2 % (2 ^ 52 - 1) < 2 ^ 52 - 1 := Nat.mod_lt _ (by decide)
  generalize t / 2 % (2 ^ 52 - 1) = r at *
  have h2 : t % 2 = 0 ∨ t % 2 = 1 := by omega
  rcases h2 with h2 | h2 <;> rw [h2] <;> omega
/-- The float64 sum, any NaN written as the one form. -/
def fadd (a b : Nat) : Nat := match Ieee.double.add a b with
  | some r => r
  | none => 9221120237041090560
end Go.Proofs.Ytdmkmhjalcfchaa.Num
namespace Go.Proofs.Ytdmkmhjalcfchaa.Num

/-- Which values may be (2.1). -/
def may (k n : Int) (f : Nat) (s : ByteArray) : Bool :=
  if k = 0 then decide (n = 0) && decide (f = 0) && s.toList.isEmpty
  else if k = 1 then (decide (n = 0) || decide (n = 1)) && decide (f = 0) && s.toList.isEmpty
  else if k = 2 then decide (f = 0) && s.toList.isEmpty
  else if k = 3 then decide (n = 0) && decide (canon f = f) && s.toList.isEmpty
  else if k = 4 ∨ k = 5 then decide (n = 0) && decide (f = 0) && decide ((s.size : Int) ≤ 40)
  else false
end Go.Proofs.Ytdmkmhjalcfchaa.Num
namespace Go.Proofs.Ytdmkmhjalcfchaa.Num

/-- A list of bytes as a text. -/
def str (l : List UInt8) : ByteArray := ⟨l.toArray⟩
/-- The bytes of a text, as cells. -/
def cellsOf (l : List UInt8) : List Value := l.map (fun b => Value.int .u8 (b.toNat : Int))
/-- Byte i of a number, counted from the lowest. -/
def byteAt (n i : Nat) : UInt8 := UInt8.ofNat (n / 2 ^ (8 * i) % 256)
/-- A number's k highest bytes, of eight. -/
def beTake (n : Nat) : Nat → List UInt8
  | 0 => []
  | k + 1 => beTake n k ++ [byteAt n (7 - k)]
/-- A number in eight bytes, the highest first. -/
def be8 (n : Nat) : List UInt8 := beTake n 8
/-- The number of bytes, the highest first. -/
def numOf : List UInt8 → Nat := fun l => l.foldl (fun a b => a * 256 + b.toNat) 0
/-- A text with each byte 00 as 00 ff. -/
def esc : List UInt8 → List UInt8
  | [] => []
  | b :: r => if b = 0 then 0 :: 255 :: esc r else b :: esc r
/-- The bytes of a value that may be (2.2). -/
def putL (k n : Int) (f : Nat) (s : ByteArray) : List UInt8 :=
  if k = 1 then [UInt8.ofNat (2 + n.toNat)]
  else if k = 2 then 4 :: be8 (n + 9223372036854775808).toNat
  else if k = 3 then 5 :: be8 (place f)
  else if k = 4 then 6 :: (esc s.data.toList ++ [0, 1])
  else if k = 5 then 7 :: (esc s.data.toList ++ [0, 1])
  else [1]
end Go.Proofs.Ytdmkmhjalcfchaa.Num
namespace Go.Proofs.Ytdmkmhjalcfchaa.Num

/-- One turn. -/
def sh (x : Nat) : Nat := if x % 2 = 1 then x / 2 ^^^ 2197175160 else x / 2
/-- So many turns. -/
def shN : Nat → Nat → Nat
  | 0, x => x
  | n + 1, x => shN n (sh x)
/-- The state behind a text. -/
def stS : Nat → List UInt8 → Nat
  | h, [] => h
  | h, b :: r => stS (shN 8 (h ^^^ b.toNat)) r
/-- The sum of a text (5.1). -/
def sumL (l : List UInt8) : Nat := stS 4294967295 l ^^^ 4294967295

theorem sh_lt {x : Nat} (h : x < 4294967296) : sh x < 4294967296 := by
  unfold sh
  split
  · exact Nat.xor_lt_two_pow (n := 32) (by omega) (by omega)
  · omega
theorem shN_lt : ∀ (n : Nat) {x : Nat}, x < 4294967296 → shN n x < 4294967296
  | 0, _, h => h
  | n + 1, _, h => shN_lt n (sh_lt h)
theorem xor_byte_lt {h : Nat} (hh : h < 4294967296) (b : UInt8) : h ^^^ b.toNat < 4294967296 :=
  Nat.xor_lt_two_pow (n := 32) hh (by have := b.toNat_lt; omega)
theorem stS_lt : ∀ (l : List UInt8) {h : Nat}, h < 4294967296 → stS h l < 4294967296
  | [], _, hh => hh
  | b :: r, _, hh => stS_lt r (shN_lt 8 (xor_byte_lt hh b))
theorem sumL_lt (l : List UInt8) : sumL l < 4294967296 := Nat.xor_lt_two_pow (n := 32) (stS_lt l (by omega)) (by omega)

theorem xor_half (a b : Nat) : (a ^^^ b) / 2 = a / 2 ^^^ b / 2 := by
  apply Nat.eq_of_testBit_eq
  intro i
  simp [Nat.testBit_div_two]
theorem xor_mod (a b : Nat) : (a ^^^ b) % 2 = (a % 2 + b % 2) % 2 := by
  have h := Nat.xor_mod_two_pow (a := a) (b := b) (n := 1)
  rw [Nat.pow_one] at h
  rw [h]
  rcases Nat.mod_two_eq_zero_or_one a with ha | ha <;> rcases Nat.mod_two_eq_zero_or_one b with hb | hb <;> rw [ha, hb] <;> rfl
theorem xor_same {a b : Nat} (h : a ^^^ b = 0) : a = b := by
  have e : a ^^^ b ^^^ b = b := by rw [h, Nat.zero_xor]
  rw [Nat.xor_assoc, Nat.xor_self, Nat.xor_zero] at e
  exact e
theorem sh_xor (a b : Nat) : sh (a ^^^ b) = sh a ^^^ sh b := by
  unfold sh
  rw [xor_half, xor_mod]
  rcases Nat.mod_two_eq_zero_or_one a with ha | ha <;> rcases Nat.mod_two_eq_zero_or_one b with hb | hb
  · simp [ha, hb]
  · simp [ha, hb, Nat.xor_assoc]
  · simp [ha, hb, Nat.xor_assoc, Nat.xor_comm (b / 2)]
  · simp only [ha, hb]
    simp
    rw [Nat.xor_assoc, Nat.xor_comm 2197175160 (b / 2 ^^^ 2197175160), Nat.xor_assoc, Nat.xor_self, Nat.xor_zero]
theorem shN_xor : ∀ (n a b : Nat), shN n (a ^^^ b) = shN n a ^^^ shN n b
  | 0, _, _ => rfl
  | n + 1, a, b => by
    show shN n (sh (a ^^^ b)) = shN n (sh a) ^^^ shN n (sh b)
    rw [sh_xor, shN_xor n]
theorem sh_zero : sh 0 = 0 := rfl
theorem shN_zero : ∀ n, shN n 0 = 0
  | 0 => rfl
  | n + 1 => shN_zero n
theorem sh_ne {x : Nat} (h : x < 4294967296) (hx : x ≠ 0) : sh x ≠ 0 := by
  unfold sh
  split
  · intro e
    have e2 : x / 2 = 2197175160 := xor_same e
    omega
  · omega
theorem shN_ne : ∀ (n : Nat) {x : Nat}, x < 4294967296 → x ≠ 0 → shN n x ≠ 0
  | 0, _, _, hx => hx
  | n + 1, _, h, hx => shN_ne n (sh_lt h) (sh_ne h hx)

/-- What differs, carried on. -/
def dif : Nat → List UInt8 → List UInt8 → Nat
  | d, a :: s, b :: t => dif (shN 8 (d ^^^ (a.toNat ^^^ b.toNat))) s t
  | d, _, _ => d
theorem dif_st : ∀ (s t : List UInt8) (h h' : Nat), s.length = t.length → stS h s ^^^ stS h' t = dif (h ^^^ h') s t
  | [], [], _, _, _ => rfl
  | a :: s, b :: t, h, h', e => by
    have ih := dif_st s t (shN 8 (h ^^^ a.toNat)) (shN 8 (h' ^^^ b.toNat)) (by simpa using e)
    show stS (shN 8 (h ^^^ a.toNat)) s ^^^ stS (shN 8 (h' ^^^ b.toNat)) t = dif (shN 8 ((h ^^^ h') ^^^ (a.toNat ^^^ b.toNat))) s t
    rw [ih, ← shN_xor]
    congr 2
    rw [Nat.xor_assoc, Nat.xor_assoc, ← Nat.xor_assoc a.toNat, Nat.xor_comm a.toNat h', Nat.xor_assoc h']
  | [], _ :: _, _, _, e => by simp at e
  | _ :: _, [], _, _, e => by simp at e
/-- Behind what differs nothing is made good. -/
theorem dif_same : ∀ (s : List UInt8) (d : Nat), d < 4294967296 → d ≠ 0 → dif d s s ≠ 0
  | [], _, _, hd => hd
  | a :: s, d, h, hd => by
    show dif (shN 8 (d ^^^ (a.toNat ^^^ a.toNat))) s s ≠ 0
    rw [Nat.xor_self, Nat.xor_zero]
    exact dif_same s _ (shN_lt 8 h) (shN_ne 8 h hd)
theorem dif_front : ∀ (p s t : List UInt8), dif 0 (p ++ s) (p ++ t) = dif 0 s t
  | [], _, _ => rfl
  | a :: p, s, t => by
    show dif (shN 8 (0 ^^^ (a.toNat ^^^ a.toNat))) (p ++ s) (p ++ t) = _
    rw [Nat.xor_self, Nat.xor_zero, shN_zero]
    exact dif_front p s t
theorem sum_ne {s t : List UInt8} (e : s.length = t.length) (h : dif 0 s t ≠ 0) : sumL s ≠ sumL t := by
  intro he
  have h1 : stS 4294967295 s ^^^ stS 4294967295 t = 0 := by
    have h2 : sumL s ^^^ sumL t = 0 := by rw [he, Nat.xor_self]
    unfold sumL at h2
    rw [Nat.xor_assoc, Nat.xor_comm 4294967295 (stS 4294967295 t ^^^ 4294967295), Nat.xor_assoc, Nat.xor_self, Nat.xor_zero] at h2
    exact h2
  rw [dif_st s t _ _ e, Nat.xor_self] at h1
  exact h h1
/-- One byte that differs. -/
theorem sum_one (p r : List UInt8) (a b : UInt8) (h : a ≠ b) : sumL (p ++ a :: r) ≠ sumL (p ++ b :: r) := by
  refine sum_ne (by simp) ?_
  rw [dif_front]
  have hx : a.toNat ^^^ b.toNat ≠ 0 := fun e => h (UInt8.toNat_inj.1 (xor_same e))
  have hlt : a.toNat ^^^ b.toNat < 4294967296 := Nat.xor_lt_two_pow (n := 32) (by have := a.toNat_lt; omega) (by have := b.toNat_lt; omega)
  show dif (shN 8 (0 ^^^ (a.toNat ^^^ b.toNat))) r r ≠ 0
  rw [Nat.zero_xor]
  exact dif_same r _ (shN_lt 8 hlt) (shN_ne 8 hlt hx)

/-! Four bytes that differ: the bits of one number, eight by eight. -/
theorem shN_even : ∀ (n x : Nat), shN n (2 ^ n * x) = x
  | 0, x => by simp [shN]
  | n + 1, x => by
    show shN n (sh (2 ^ (n + 1) * x)) = x
    have e : sh (2 ^ (n + 1) * x) = 2 ^ n * x := by
      unfold sh
      rw [Nat.pow_succ, Nat.mul_comm (2 ^ n) 2, Nat.mul_assoc, if_neg (by omega), Nat.mul_div_cancel_left _ (by omega)]
    rw [e, shN_even n x]
/-- Eight turns take the lowest byte off. -/
theorem shN_low (x : Nat) : shN 8 x = shN 8 (x % 256) ^^^ x / 256 := by
  have e : x = x % 256 ^^^ 2 ^ 8 * (x / 256) := by
    have h := Nat.two_pow_add_eq_or_of_lt (i := 8) (b := x % 256) (by omega) (x / 256)
    have h2 : 2 ^ 8 * (x / 256) ^^^ x % 256 = 2 ^ 8 * (x / 256) ||| x % 256 := by
      apply Nat.eq_of_testBit_eq
      intro i
      rw [Nat.testBit_xor, Nat.testBit_or]
      by_cases hi : i < 8
      · have : (2 ^ 8 * (x / 256)).testBit i = false := by rw [Nat.testBit_two_pow_mul]; simp; omega
        simp [this]
      · have : (x % 256).testBit i = false := by
          rw [show (256 : Nat) = 2 ^ 8 from rfl, Nat.testBit_mod_two_pow]
          simp [hi]
        simp [this]
    rw [Nat.xor_comm, h2, ← h]
    omega
  conv => lhs; rw [e]
  rw [shN_xor, shN_even]
theorem shN_step (S X : Nat) : shN 8 (S ^^^ X) = shN 8 (S ^^^ X % 256) ^^^ X / 256 := by
  rw [shN_xor, shN_low X, shN_xor, Nat.xor_assoc]
theorem dif_four (D : Nat) (a0 a1 a2 a3 b0 b1 b2 b3 : UInt8) (s t : List UInt8)
    (h0 : a0.toNat ^^^ b0.toNat = D % 256) (h1 : a1.toNat ^^^ b1.toNat = D / 256 % 256) (h2 : a2.toNat ^^^ b2.toNat = D / 65536 % 256) (h3 : a3.toNat ^^^ b3.toNat = D / 16777216 % 256) (hD : D < 4294967296) :
    dif 0 (a0 :: a1 :: a2 :: a3 :: s) (b0 :: b1 :: b2 :: b3 :: t) = dif (shN 8 (shN 8 (shN 8 (shN 8 D)))) s t := by
  show dif (shN 8 (shN 8 (shN 8 (shN 8 (0 ^^^ (a0.toNat ^^^ b0.toNat)) ^^^ (a1.toNat ^^^ b1.toNat)) ^^^ (a2.toNat ^^^ b2.toNat)) ^^^ (a3.toNat ^^^ b3.toNat))) s t = _
  rw [h0, h1, h2, h3, Nat.zero_xor]
  have g1 := shN_low D
  have g2 := shN_step (shN 8 (D % 256)) (D / 256)
  rw [show D / 256 / 256 = D / 65536 by omega] at g2
  have g3 := shN_step (shN 8 (shN 8 (D % 256) ^^^ D / 256 % 256)) (D / 65536)
  rw [show D / 65536 / 256 = D / 16777216 by omega] at g3
  have g4 := shN_step (shN 8 (shN 8 (shN 8 (D % 256) ^^^ D / 256 % 256) ^^^ D / 65536 % 256)) (D / 16777216)
  rw [show D / 16777216 / 256 = 0 by omega, Nat.xor_zero] at g4
  rw [g1, g2, g3, g4]
/-- Four bytes that differ in some bits. -/
theorem sum_four (p r : List UInt8) (D : Nat) (hD : D < 4294967296) (hD0 : D ≠ 0) (a0 a1 a2 a3 b0 b1 b2 b3 : UInt8)
    (h0 : a0.toNat ^^^ b0.toNat = D % 256) (h1 : a1.toNat ^^^ b1.toNat = D / 256 % 256) (h2 : a2.toNat ^^^ b2.toNat = D / 65536 % 256) (h3 : a3.toNat ^^^ b3.toNat = D / 16777216 % 256) :
    sumL (p ++ a0 :: a1 :: a2 :: a3 :: r) ≠ sumL (p ++ b0 :: b1 :: b2 :: b3 :: r) := by
  refine sum_ne (by simp) ?_
  rw [dif_front, dif_four D a0 a1 a2 a3 b0 b1 b2 b3 r r h0 h1 h2 h3 hD]
  have e1 := shN_lt 8 hD
  have e2 := shN_lt 8 e1
  have e3 := shN_lt 8 e2
  exact dif_same r _ (shN_lt 8 e3) (shN_ne 8 e3 (shN_ne 8 e2 (shN_ne 8 e1 (shN_ne 8 hD hD0))))
/-- The sum in four bytes, the highest first. -/
def be4 (n : Nat) : List UInt8 := [byteAt n 3, byteAt n 2, byteAt n 1, byteAt n 0]
theorem be4_inj {m n : Nat} (hm : m < 4294967296) (hn : n < 4294967296) (h : be4 m = be4 n) : m = n := by
  unfold be4 at h
  simp only [List.cons.injEq, and_true] at h
  obtain ⟨h3, h2, h1, h0⟩ := h
  have g : ∀ i, (byteAt m i).toNat = (byteAt n i).toNat → m / 2 ^ (8 * i) % 256 = n / 2 ^ (8 * i) % 256 := by
    intro i hi
    simp only [byteAt, UInt8.toNat_ofNat'] at hi
    omega
  have g3 := g 3 (by rw [h3])
  have g2 := g 2 (by rw [h2])
  have g1 := g 1 (by rw [h1])
  have g0 := g 0 (by rw [h0])
  simp at g3 g2 g1 g0
  omega
/-- A text with its sum (5.2). -/
def sealL (s : List UInt8) : List UInt8 := s ++ be4 (sumL s)
/-- What is ahead of a sum (5.2). -/
def openL (s : List UInt8) : Option (List UInt8) := if s.length < 4 then none else if s = sealL (s.take (s.length - 4)) then some (s.take (s.length - 4)) else none
theorem sealL_len (s : List UInt8) : (sealL s).length = s.length + 4 := by simp [sealL, be4]
theorem open_seal (s : List UInt8) : openL (sealL s) = some s := by
  have e : (sealL s).take ((sealL s).length - 4) = s := by
    rw [sealL_len, Nat.add_sub_cancel]
    unfold sealL
    exact List.take_left
  unfold openL
  rw [if_neg (by rw [sealL_len]; omega), e, if_pos rfl]
/-- One byte turned: refused (5.3). -/
theorem open_turned (s : List UInt8) (k : Nat) (hk : k < (sealL s).length) (c : UInt8) (hc : c ≠ (sealL s)[k]) : openL ((sealL s).set k c) = none := by
  have hl : ((sealL s).set k c).length = s.length + 4 := by rw [List.length_set, sealL_len]
  unfold openL
  rw [if_neg (by rw [hl]; omega), hl, Nat.add_sub_cancel, if_neg]
  intro h
  have hkl : k < s.length + 4 := by rw [← sealL_len s]; exact hk
  by_cases hks : k < s.length
  · have et : ((sealL s).set k c).take s.length = s.set k c := by
      rw [List.take_set]
      congr 1
      exact List.take_left
    rw [et] at h
    have e1 : (sealL s).set k c = s.set k c ++ be4 (sumL s) := by
      unfold sealL
      rw [List.set_append_left _ _ hks]
    rw [e1] at h
    have h2 : be4 (sumL s) = be4 (sumL (s.set k c)) := List.append_cancel_left h
    have hsk : (sealL s)[k] = s[k] := List.getElem_append_left hks
    have e3 : sumL s = sumL (s.set k c) := be4_inj (sumL_lt _) (sumL_lt _) h2
    have e4 : s = s.take k ++ s[k] :: s.drop (k + 1) := by
      rw [← List.drop_eq_getElem_cons hks, List.take_append_drop]
    have e5 : s.set k c = s.take k ++ c :: s.drop (k + 1) := List.set_eq_take_append_cons_drop.trans (if_pos hks)
    have e6 := sum_one (s.take k) (s.drop (k + 1)) s[k] c (by rw [← hsk]; exact fun e => hc e.symm)
    rw [← e4, ← e5] at e6
    exact e6 e3
  · have et : ((sealL s).set k c).take s.length = s := by
      rw [List.take_set, List.set_eq_of_length_le (by simp [sealL]; omega)]
      exact List.take_left
    rw [et] at h
    have e6 : ((sealL s).set k c)[k]? = some c := by rw [List.getElem?_set_self hk]
    rw [h, List.getElem?_eq_getElem hk] at e6
    cases e6
    exact hc rfl
end Go.Proofs.Ytdmkmhjalcfchaa.Num
namespace Go.Proofs.Ytdmkmhjalcfchaa
open Go.RowKit Num

theorem below_next {B : Nat} {a w w' : World} (h : Below B a w) (hB : B ≤ a.heap.size) (h2 : Below w.heap.size w w') : Below B a w' := h.trans (h2.mono (Nat.le_trans hB h.size))

theorem shN_succ : ∀ (n x : Nat), shN (n + 1) x = sh (shN n x)
  | 0, _ => rfl
  | n + 1, x => by
    show shN (n + 1) (sh x) = sh (shN n (sh x))
    exact shN_succ n (sh x)
theorem stS_snoc : ∀ (l : List UInt8) (h : Nat) (b : UInt8), stS h (l ++ [b]) = shN 8 (stS h l ^^^ b.toNat)
  | [], _, _ => rfl
  | _ :: r, _, b => stS_snoc r _ b
theorem take_next (s : ByteArray) (k : Nat) (hk : k < s.size) : s.data.toList.take (k + 1) = s.data.toList.take k ++ [s[k]] := by
  have hd : s.data.toList.length = s.size := rfl
  rw [List.take_succ_eq_append_getElem (by omega)]
  rfl
theorem st_next (s : ByteArray) (k : Nat) (hk : k < s.size) (h : Nat) : stS h (s.data.toList.take (k + 1)) = shN 8 (stS h (s.data.toList.take k) ^^^ s[k].toNat) := by
  rw [take_next s k hk, stS_snoc]
/-- A turn, as the walk spells it. -/
theorem and_low (Y : Nat) (hY : Y < 4294967296) : bits .and .u32 (Y : Int) 1 = ((Y % 2 : Nat) : Int) := by
  have h := u32_and_nat Y 1 hY (by omega)
  rw [Nat.and_one_is_mod] at h
  exact h
theorem turn_odd (Y : Nat) (hY : Y < 4294967296) (h : Y % 2 = 1) : bits .xor .u32 ((Y : Int) / 2) 2197175160 = ((sh Y : Nat) : Int) := by
  have h2 := u32_xor_nat (Y / 2) 2197175160 (by omega) (by omega)
  have e : sh Y = Y / 2 ^^^ 2197175160 := by unfold sh; rw [if_pos h]
  rw [e, ← h2]
  rfl
theorem turn_even (Y : Nat) (h : Y % 2 = 0) : ((Y : Int) / 2) = ((sh Y : Nat) : Int) := by
  have e : sh Y = Y / 2 := by unfold sh; rw [if_neg (by omega)]
  rw [e]
  rfl
theorem not_sum (l : List UInt8) : bits .xor .u32 IntKind.u32.max ((stS 4294967295 l : Nat) : Int) = ((sumL l : Nat) : Int) := by
  have h := u32_xor_nat 4294967295 (stS 4294967295 l) (by omega) (stS_lt l (by omega))
  unfold sumL
  rw [Nat.xor_comm, ← h]
  rfl
end Go.Proofs.Ytdmkmhjalcfchaa
namespace Go.Proofs.Ytdmkmhjalcfchaa
open Go.RowKit Num

/-- A world that is as w was, but for new memory. -/
structure Low (w : World) where
  wd : World
  low : Below w.heap.size w wd

theorem Low.some (w : World) : Nonempty (Low w) := ⟨⟨w, Below.refl _ _⟩⟩

theorem wp_region_low {P : Program} {id : Nat} {Q : Exit → Act → World → Prop} {a : Act} {w : World} {l : List Oper} (hm : P.follows .mixedOrders = true) (hB : Region.lexB .any l.toArray = true)
    (h : Nonempty (Low w) → wpQuiet P l.toArray (fun w' => ∃ x : Low w, w' = x.wd) (fun a' => ∀ w', (∃ x : Low w, w' = x.wd) → Q .normal a' w') l a) : (Code.region id l.toArray true).wp P Q a w :=
  wp_region_quiet (C := fun w' => ∃ x : Low w, w' = x.wd) hm hB ⟨⟨_, (Below.refl _ w).drew⟩, rfl⟩ (by simpa using h (Low.some w))

theorem Calls.low_of {P : Program} {f : FuncId} {args : Array Value} {w : World} {x : Low w} {v : Value}
    (h : Calls P f args x.wd fun e w' => e = .returned v ∧ Below x.wd.heap.size x.wd w') : Calls P f args x.wd fun e w'' => e = .returned v ∧ ∃ y : Low w, w'' = y.wd :=
  h.mono fun _ w'' ⟨he, hb⟩ => ⟨he, ⟨w'', below_next x.low (Nat.le_refl _) hb⟩, rfl⟩
theorem Calls.low_of_same {P : Program} {f : FuncId} {args : Array Value} {w : World} {x : Low w} {v : Value}
    (h : Calls P f args x.wd fun e w' => e = .returned v ∧ w' = x.wd) : Calls P f args x.wd fun e w'' => e = .returned v ∧ ∃ y : Low w, w'' = y.wd :=
  h.mono fun _ _ ⟨he, hb⟩ => ⟨he, x, hb⟩
theorem Low.cell {w : World} (x : Low w) {p : Addr} (hp : p.block < w.heap.size) : x.wd.cell? p = w.cell? p := x.low.cell hp
end Go.Proofs.Ytdmkmhjalcfchaa
namespace Go.Proofs.Ytdmkmhjalcfchaa
open Go.RowKit Go.ChangeShapes Go.WideShapes Go.Joins Num
set_option linter.unusedVariables false
set_option maxRecDepth 100000

theorem Addr.block_add (a : Addr) (i : Nat) : (a.add i).block = a.block := by
  unfold Addr.add
  split <;> rfl
theorem cell_lt {w : World} {a : Addr} {v : Value} (h : w.cell? a = some v) : a.block < w.heap.size := by
  rcases Nat.lt_or_ge a.block w.heap.size with h' | h'
  · exact h'
  · simp [World.cell?, Array.getElem?_eq_none h'] at h
theorem own_below {w w' : World} {B e size n : Nat} {v : Value} {xs : List Value} (h : w.ownsRow B e size v n xs) (hb : Below w.heap.size w w') : w'.ownsRow B e size v n xs :=
  h.kept (row := none) ⟨hb.os, hb.tape, hb.output, hb.size, fun k hk _ => hb.block k hk⟩ (by cases v.ownBlock <;> simp)
theorem below_box0 {w w' : World} {o : Obj} (h : Below (w.alloc o).heap.size (w.alloc o) w') : Below w.heap.size w w' :=
  ((Below.refl _ _).alloc (Nat.le_refl _) o).trans (h.mono (by simp))
theorem below_two {w w1 w2 : World} {o : Obj} (h : Below (w.alloc o).heap.size (w.alloc o) w1) (h2 : Below w1.heap.size w1 w2) : Below w.heap.size w w2 :=
  (below_box0 h).trans (h2.mono (Nat.le_trans (by simp) h.size))

/-- Things lie in memory, from an address on, so many places each, in blocks below B. -/
def Num.LiesG {α : Type} (At : World → Addr → α → Prop) (sz : Nat) (w : World) (B : Nat) (ao : Option Addr) (l : List α) : Prop := ∀ i x, l[i]? = some x → ∃ a, ao = some a ∧ a.block < B ∧ At w (a.add (i * sz)) x
/-- What is said of a place stays where its block stays. -/
def Num.Fast {α : Type} (B : Nat) (At : World → Addr → α → Prop) : Prop := ∀ w w' p x, p.block < B → At w p x → Below B w w' → At w' p x
theorem Num.LiesG.below {α : Type} {At : World → Addr → α → Prop} {sz : Nat} {w w' : World} {B : Nat} {ao : Option Addr} {l : List α} (h : LiesG At sz w B ao l) (hf : Fast B At) (hb : Below B w w') : LiesG At sz w' B ao l := by
  intro i x hx
  obtain ⟨a, e, ha, h0⟩ := h i x hx
  exact ⟨a, e, ha, hf _ _ _ _ (by rw [Addr.block_add]; exact ha) h0 hb⟩
theorem Num.LiesG.mono {α : Type} {At At' : World → Addr → α → Prop} {sz : Nat} {w : World} {B B' : Nat} {ao : Option Addr} {l : List α} (h : LiesG At sz w B ao l) (hB : B ≤ B') (hA : ∀ p x, At w p x → At' w p x) : LiesG At' sz w B' ao l := by
  intro i x hx
  obtain ⟨a, e, ha, h4⟩ := h i x hx
  exact ⟨a, e, Nat.lt_of_lt_of_le ha hB, hA _ _ h4⟩
def Num.NumAt (w : World) (p : Addr) (n : Int) : Prop := w.cell? p = some (.int .i64 n)
def Num.TxtAt (w : World) (p : Addr) (s : ByteArray) : Prop := w.cell? p = some (.string s)
abbrev Num.LiesN (w : World) (B : Nat) (ao : Option Addr) (l : List Int) : Prop := LiesG NumAt 1 w B ao l
abbrev Num.LiesS (w : World) (B : Nat) (ao : Option Addr) (l : List ByteArray) : Prop := LiesG TxtAt 1 w B ao l
theorem Num.NumAt.fast {B : Nat} : Fast B NumAt := fun w w' p x hp h hb => (hb.cell hp).trans h
theorem Num.TxtAt.fast {B : Nat} : Fast B TxtAt := fun w w' p x hp h hb => (hb.cell hp).trans h
theorem liesN_next {w w' : World} {ao : Option Addr} {l : List Int} (h : LiesN w w.heap.size ao l) (hb : Below w.heap.size w w') : LiesN w' w'.heap.size ao l := (h.below NumAt.fast hb).mono hb.size fun _ _ h => h
theorem liesS_next {w w' : World} {ao : Option Addr} {l : List ByteArray} (h : LiesS w w.heap.size ao l) (hb : Below w.heap.size w w') : LiesS w' w'.heap.size ao l := (h.below TxtAt.fast hb).mono hb.size fun _ _ h => h
theorem Try.laidOut : laidOutB Try.prog = true := by kernel_rfl
/-- A slice of things, each opened by itself. -/
theorem open_list {α : Type} [Inhabited α] {H : Type} {enc : TypeId × Value → H} {w : World} {base fuel : Nat} {spare : Nat → Bool} {held : Bool} {v : Value} {x : DataW H × List MemPlace} {t e : TypeId} (At : World → Addr → α → Prop) (Ok : α → Prop) (sz : Nat) (hsz : Try.prog.cellsOf e = sz) (ht : Try.prog.underlying t = some (.slice e))
    (hlt : ∀ p x, At w p x → p.block < w.heap.size)
    (one : ∀ a n cs y, w.cells? base a sz = some cs → DataW.trod enc Try.prog w base spare held n e cs = some y → ∃ x, Ok x ∧ At w a x)
    (h : DataW.trod enc Try.prog w base spare held fuel t [v] = some x) :
    ∃ (ao : Option Addr) (cap : Nat) (l : List α), v = .slice ao l.length cap ∧ (∀ x ∈ l, Ok x) ∧ LiesG At sz w w.heap.size ao l ∧ l.length ≤ cap := by
  rcases Go.Deep.open_slice ht h with ⟨h0, _⟩ | ⟨a, len', cap', m, n, D, Pl, h0, _, hlc, hcm, hm, _, hx⟩
  · simp only [List.cons.injEq, and_true] at h0
    subst h0
    exact ⟨none, 0, [], rfl, by simp, fun i x hx => by simp at hx, Nat.le_refl _⟩
  · simp only [List.cons.injEq, and_true] at h0
    subst h0
    have hlm : len' ≤ m := by rw [hm]; split <;> omega
    have each : ∀ i, i < len' → ∃ y : α, Ok y ∧ At w (a.add (i * sz)) y := by
      intro i hi
      obtain ⟨cs, h1, h2⟩ := hx i (by omega)
      rw [hsz] at h1
      exact one _ _ _ _ h1 h2
    obtain ⟨f, hfn⟩ := Go.Deep.choose_lt each
    refine ⟨some a, cap', (List.range len').map f, by simp, ?_, ?_, by simp; omega⟩
    · intro x hx
      obtain ⟨i, hi, rfl⟩ := List.mem_map.1 hx
      exact (hfn i (List.mem_range.1 hi)).1
    · intro i x hx
      have hi : i < len' := by
        have := (List.getElem?_eq_some_iff.1 hx).1
        simpa using this
      have hxx : x = f i := by
        simp [hi] at hx
        exact hx.symm
      subst hxx
      have h4 := hfn i hi
      exact ⟨a, rfl, by have := hlt _ _ h4.2; rwa [Addr.block_add] at this, h4.2⟩
/-- Is it so? -/
def Num.tru (P : Prop) [d : Decidable P] : Bool := @decide P d
theorem tru_yes {P : Prop} [d : Decidable P] (h : P) : tru P = true := decide_eq_true h
theorem tru_no {P : Prop} [d : Decidable P] (h : ¬ P) : tru P = false := decide_eq_false h
theorem tru_iff {P Q : Prop} [d : Decidable P] [d2 : Decidable Q] (h : P ↔ Q) : tru P = tru Q := by
  by_cases hp : P
  · rw [tru_yes hp, tru_yes (h.1 hp)]
  · rw [tru_no hp, tru_no (fun hq => hp (h.2 hq))]
theorem Num.LiesG.take {α : Type} {At : World → Addr → α → Prop} {sz : Nat} {w : World} {B : Nat} {ao : Option Addr} {l : List α} (h : LiesG At sz w B ao l) (k : Nat) : LiesG At sz w B ao (l.take k) := by
  intro i x hx
  refine h i x ?_
  rw [List.getElem?_take] at hx
  split at hx
  · exact hx
  · cases hx

theorem list_ne' {a b : ByteArray} (h : ¬ a = b) : (a.toList == b.toList) = false := by
  rw [Lib.toList_data, Lib.toList_data, beq_eq_false_iff_ne]
  intro e
  exact h (ByteArray.ext (Array.ext' e))
/-- What is not a row of e, and not let go by X, stays. -/
structure Num.Stay (X : Nat → Prop) (e : TypeId) (w w' : World) : Prop where
  size : w.heap.size ≤ w'.heap.size
  keep : ∀ k, k < w.heap.size → ¬ X k → (∀ cs fr, w.heap[k]? ≠ some (.cells cs e fr)) → w'.heap[k]? = w.heap[k]?
theorem Num.Stay.refl (X : Nat → Prop) (e : TypeId) (w : World) : Stay X e w w := ⟨Nat.le_refl _, fun _ _ _ _ => rfl⟩
theorem Num.Stay.trans {X : Nat → Prop} {e : TypeId} {a b c : World} (h : Stay X e a b) (k : Stay X e b c) : Stay X e a c :=
  ⟨Nat.le_trans h.size k.size, fun i hi hX hn => by
    have h1 := h.keep i hi hX hn
    exact (k.keep i (Nat.lt_of_lt_of_le hi h.size) hX (by rw [h1]; exact hn)).trans h1⟩
theorem Num.Stay.alloc (X : Nat → Prop) (e : TypeId) (w : World) (o : Obj) : Stay X e w (w.alloc o) := ⟨by simp, fun k hk _ _ => Below.heap_alloc w o k hk⟩
theorem Num.Stay.grown {X : Nat → Prop} {e : TypeId} {w w' : World} {base size n : Nat} {v : Value} {xs : List Value} (hown : w.ownsRow base e size v n xs) (hg : w.grownBy w' v.ownBlock) : Stay X e w w' :=
  ⟨hg.size, fun k hk _ hn => hg.block k hk (by
    intro he
    rcases hown.2 with ⟨rfl, _⟩ | ⟨g, cap, cur, rfl, _, hgb, _⟩
    · simp [Value.ownBlock] at he
    · obtain rfl : k = g := by simpa [Value.ownBlock] using he
      exact hn _ _ hgb)⟩
theorem Num.Stay.below {X : Nat → Prop} {e : TypeId} {w w' : World} (h : Below w.heap.size w w') : Stay X e w w' := ⟨h.size, fun k hk _ _ => h.block k hk⟩
theorem heap_new (w : World) (o : Obj) : (w.alloc o).heap[w.heap.size]? = some o := by
  show (w.heap.push o)[w.heap.size]? = some o
  simp
theorem box_cell {w : World} {b : Nat} {cs : Array Value} {t : TypeId} (hb : w.heap[b]? = some (.cells cs t (0, 0))) (i : Nat) (u : Value) (hi : cs[i]? = some u) : w.cell? ⟨b, i, none⟩ = some u := by
  simp [World.cell?, hb, hi]
theorem one_cell (w : World) (t : TypeId) (y : Value) : ∀ j u, [y][j]? = some u → (w.alloc (.cells #[y] t)).cell? ((⟨w.heap.size, 0, none⟩ : Addr).add j) = some u := by
  intro j u hj
  match j, hj with
  | 0, hj => simp at hj; subst hj; simp [Addr.add]
theorem one_cellB (w : World) (t : TypeId) (y : Value) (b : Nat) (hb : w.heap.size = b) : ∀ j u, [y][j]? = some u → (w.alloc (.cells #[y] t)).cell? ((⟨b, 0, none⟩ : Addr).add j) = some u := by
  subst hb
  exact one_cell w t y
/-- A box stays. -/
theorem stay_box {X : Nat → Prop} {e : TypeId} {w w' : World} (h : Stay X e w w') {b : Nat} {cs : Array Value} {t : TypeId} {fr : Nat × Nat} (hb : w.heap[b]? = some (.cells cs t fr)) (ht : t ≠ e) (hX : ¬ X b) : w'.heap[b]? = some (.cells cs t fr) := by
  rw [h.keep b (Array.getElem?_eq_some_iff.1 hb).1 hX (fun cs' fr' he => by rw [hb] at he; simp at he; exact ht he.2.1)]
  exact hb
theorem below_box {w w' : World} (h : Below w.heap.size w w') {b : Nat} {o : Obj} (hb : w.heap[b]? = some o) : w'.heap[b]? = some o := by
  rw [h.block b (Array.getElem?_eq_some_iff.1 hb).1]
  exact hb
theorem alloc_box {w : World} (o' : Obj) {b : Nat} {o : Obj} (hb : w.heap[b]? = some o) : (w.alloc o').heap[b]? = some o := by
  rw [Below.heap_alloc w o' b (Array.getElem?_eq_some_iff.1 hb).1]
  exact hb
/-- Another row of the call's own stays. -/
theorem own_stay {X : Nat → Prop} {e e' : TypeId} {w w' : World} {B size n : Nat} {v : Value} {xs : List Value} (h : w.ownsRow B e size v n xs) (hs : Stay X e' w w') (hne : e ≠ e') (hX : ∀ k, ¬ X k) : w'.ownsRow B e size v n xs := by
  refine ⟨h.1, ?_⟩
  rcases h.2 with h0 | ⟨g, cap, cur, hv, hb, hg, r⟩
  · exact .inl h0
  · exact .inr ⟨g, cap, cur, hv, hb, stay_box hs hg hne (hX g), r⟩
theorem addr_zero (a : Addr) : a.add 0 = a := if_pos rfl
theorem heap_drew {w : World} {b : Nat} {x : Option Obj} (h : w.heap[b]? = x) : w.drew.heap[b]? = x := h
theorem heap_newB (w : World) (o : Obj) (b : Nat) (hb : w.heap.size = b) : (w.alloc o).heap[b]? = some o := by
  subst hb
  exact heap_new w o
theorem alloc_cell {w : World} {p : Addr} {v : Value} (o : Obj) (h : w.cell? p = some v) : (w.alloc o).cell? p = some v := by
  exact (((Below.refl _ w).alloc (Nat.le_refl _) o).cell (cell_lt h)).trans h
theorem box_open {w : World} {b : Nat} {cs : Array Value} {t : TypeId} (h : w.heap[b]? = some (.cells cs t (0, 0))) (i : Nat) : w.frozen? ⟨b, i, none⟩ = false := by
  simp [World.frozen?, h]
theorem own_shape {w : World} {B e size n : Nat} {v : Value} {xs : List Value} (h : w.ownsRow B e size v n xs) : ∃ ao m cap, v = .slice ao m cap := by
  rcases h.2 with ⟨rfl, _⟩ | ⟨g, cap, cur, rfl, _⟩
  · exact ⟨_, _, _, rfl⟩
  · exact ⟨_, _, _, rfl⟩
theorem Num.Stay.drew {X : Nat → Prop} {e : TypeId} {a w : World} (h : Stay X e a w) : Stay X e a w.drew := ⟨h.size, h.keep⟩
theorem Num.Stay.wide {X : Nat → Prop} {e : TypeId} {w w' : World} (h : Stay (fun _ => False) e w w') : Stay X e w w' := ⟨h.size, fun k hk _ hn => h.keep k hk id hn⟩
theorem grown_set (w : World) (p i : Nat) (u : Value) : w.grownBy (w.setCell ⟨p, i, none⟩ u) (some p) :=
  ⟨rfl, rfl, rfl, by show w.heap.size ≤ (w.heap.modify _ _).size; simp, fun k _ hn => Below.heap_setCell _ _ _ _ (fun e => hn (by rw [e]))⟩
theorem grown_box {w w' : World} {p b : Nat} {o : Obj} (hg : w.grownBy w' (some p)) (hb : w.heap[b]? = some o) (hne : b ≠ p) : w'.heap[b]? = some o := by
  rw [hg.block b (Array.getElem?_eq_some_iff.1 hb).1 (by intro e; cases e; exact hne rfl)]
  exact hb
theorem grown_new {w W W' : World} {p b : Nat} (h : w.grownBy W (some p)) (k : W.grownBy W' (some b)) (hb : w.heap.size ≤ b) : w.grownBy W' (some p) :=
  ⟨k.os.trans h.os, k.tape.trans h.tape, k.output.trans h.output, Nat.le_trans h.size k.size, fun i hi hne => (k.block i (Nat.lt_of_lt_of_le hi h.size) (by intro e; cases e; omega)).trans (h.block i hi hne)⟩
/-- What is from B on, but for rows of e, is held. -/
structure Num.HoldX (B : Nat) (e : TypeId) (w w' : World) : Prop where
  size : w.heap.size ≤ w'.heap.size
  keep : ∀ k, B ≤ k → k < w.heap.size → (∀ cs fr, w.heap[k]? ≠ some (.cells cs e fr)) → w'.heap[k]? = w.heap[k]?
theorem Num.HoldX.of_grown {B : Nat} {e : TypeId} {w w' : World} {p : Nat} (h : w.grownBy w' (some p)) (hp : p < B) : HoldX B e w w' :=
  ⟨h.size, fun k hB hk _ => h.block k hk (by intro e; cases e; omega)⟩
theorem Num.HoldX.of_stay {B : Nat} {e : TypeId} {w w' : World} (h : Stay (fun _ => False) e w w') : HoldX B e w w' := ⟨h.size, fun k _ hk hn => h.keep k hk id hn⟩
theorem Num.HoldX.of_below {B : Nat} {e : TypeId} {w w' : World} (h : Below w.heap.size w w') : HoldX B e w w' := ⟨h.size, fun k _ hk _ => h.block k hk⟩
theorem Num.HoldX.trans {B : Nat} {e : TypeId} {a b c : World} (h : HoldX B e a b) (k : HoldX B e b c) : HoldX B e a c :=
  ⟨Nat.le_trans h.size k.size, fun i hB hi hn => by
    have h1 := h.keep i hB hi hn
    exact (k.keep i hB (Nat.lt_of_lt_of_le hi h.size) (by rw [h1]; exact hn)).trans h1⟩
theorem own_hold {B : Nat} {e e' : TypeId} {w w' : World} {size n : Nat} {v : Value} {xs : List Value} (h : w.ownsRow B e' size v n xs) (hh : HoldX B e w w') (hne : e' ≠ e) : w'.ownsRow B e' size v n xs := by
  refine ⟨h.1, ?_⟩
  rcases h.2 with h0 | ⟨g, cap, cur, hv, hb, hg, r⟩
  · exact .inl h0
  · refine .inr ⟨g, cap, cur, hv, hb, ?_, r⟩
    rw [hh.keep g hb (Array.getElem?_eq_some_iff.1 hg).1 (fun cs fr he => by rw [hg] at he; simp at he; exact hne he.2.1)]
    exact hg
theorem own_mono {B B' : Nat} {e : TypeId} {w : World} {size n : Nat} {v : Value} {xs : List Value} (h : w.ownsRow B e size v n xs) (hB : B' ≤ B) : w.ownsRow B' e size v n xs := by
  refine ⟨h.1, ?_⟩
  rcases h.2 with h0 | ⟨g, cap, cur, hv, hb, r⟩
  · exact .inl h0
  · exact .inr ⟨g, cap, cur, hv, Nat.le_trans hB hb, r⟩
/-- A list of structs of the call's own. -/
def Num.OwnS {α : Type} (V : Nat → World → List Value → α → Prop) (e : TypeId) (sz B : Nat) (w : World) (v : Value) (l : List α) : Prop :=
  ∃ css : List (List Value), css.length = l.length ∧ (∀ cs ∈ css, cs.length = sz ∧ ∀ u ∈ cs, u.oneCell' = true) ∧ w.ownsRow B e sz v l.length css.flatten ∧ ∀ (i : Nat) cs x, css[i]? = some cs → l[i]? = some x → V B w cs x
theorem Num.OwnS.nil {α : Type} (V : Nat → World → List Value → α → Prop) (e : TypeId) (sz B : Nat) (w : World) : OwnS V e sz B w (.slice none 0 0) [] := ⟨[], rfl, by simp, World.ownsRow_nil _ _ _ _, by simp⟩
theorem Num.OwnS.hold {α : Type} {V : Nat → World → List Value → α → Prop} {e e' : TypeId} {sz B : Nat} {w w' : World} {v : Value} {l : List α} (h : OwnS V e' sz B w v l) (hh : HoldX B e w w') (hne : e' ≠ e) (hV : ∀ cs x, V B w cs x → V B w' cs x) : OwnS V e' sz B w' v l := by
  obtain ⟨css, h1, h2, h3, h4⟩ := h
  exact ⟨css, h1, h2, own_hold h3 hh hne, fun i cs x a b => hV _ _ (h4 i cs x a b)⟩
theorem Num.OwnS.mono {α : Type} {V : Nat → World → List Value → α → Prop} {e : TypeId} {sz B B' : Nat} {w : World} {v : Value} {l : List α} (h : OwnS V e sz B w v l) (hB : B' ≤ B) (hV : ∀ cs x, V B w cs x → V B' w cs x) : OwnS V e sz B' w v l := by
  obtain ⟨css, h1, h2, h3, h4⟩ := h
  exact ⟨css, h1, h2, own_mono h3 hB, fun i cs x a b => hV _ _ (h4 i cs x a b)⟩
theorem Num.OwnS.shape {α : Type} {V : Nat → World → List Value → α → Prop} {e : TypeId} {sz B : Nat} {w : World} {v : Value} {l : List α} (h : OwnS V e sz B w v l) : ∃ ao cap, v = .slice ao l.length cap := by
  obtain ⟨css, h1, h2, h3, h4⟩ := h
  rcases h3.2 with ⟨hv, h0⟩ | ⟨g, cap, cur, hv, _⟩
  · exact ⟨none, 0, by rw [hv, h0]⟩
  · exact ⟨_, cap, hv⟩
theorem flat_get {css : List (List Value)} {sz : Nat} (h : ∀ cs ∈ css, cs.length = sz) : ∀ (i : Nat) cs, css[i]? = some cs → ∀ j, j < sz → css.flatten[i * sz + j]? = cs[j]? := by
  induction css with
  | nil => intro i cs hi; simp at hi
  | cons c css ih =>
    intro i cs hi j hj
    have hc : c.length = sz := h c (by simp)
    cases i with
    | zero =>
      simp at hi
      subst hi
      rw [List.flatten_cons, Nat.zero_mul, Nat.zero_add, List.getElem?_append_left (by omega)]
    | succ i =>
      have hi' : css[i]? = some cs := by simpa using hi
      rw [List.flatten_cons, List.getElem?_append_right (by rw [hc, Nat.succ_mul]; omega)]
      rw [show (i + 1) * sz + j - c.length = i * sz + j by rw [hc, Nat.succ_mul]; omega]
      exact ih (fun cs hcs => h cs (by simp [hcs])) i cs hi' j hj
theorem Num.OwnS.lies {α : Type} {V : Nat → World → List Value → α → Prop} {e : TypeId} {sz B : Nat} {w : World} {v : Value} {l : List α} (h : OwnS V e sz B w v l) (At : World → Addr → α → Prop)
    (hA : ∀ (p : Addr) cs x, V B w cs x → cs.length = sz → (∀ j u, cs[j]? = some u → w.cell? ⟨p.block, p.off + j, none⟩ = some u) → p.spot = none → At w p x) :
    ∃ ao cap, v = .slice ao l.length cap ∧ LiesG At sz w w.heap.size ao l := by
  obtain ⟨css, h1, h2, h3, h4⟩ := h
  rcases h3.2 with ⟨hv, h0⟩ | ⟨g, cap, cur, hv, _, hg, hcap, _⟩
  · subst hv
    have : l = [] := List.eq_nil_of_length_eq_zero h0
    subst this
    exact ⟨none, 0, rfl, fun i x hx => by simp at hx⟩
  · subst hv
    refine ⟨some ⟨g, 0, none⟩, cap, rfl, fun i x hx => ⟨_, rfl, (Array.getElem?_eq_some_iff.1 hg).1, ?_⟩⟩
    have hi := (List.getElem?_eq_some_iff.1 hx).1
    have hcs : css[i]? = some (css[i]'(by omega)) := List.getElem?_eq_getElem (by omega)
    have hlen := (h2 _ (List.mem_of_getElem? hcs)).1
    refine hA _ _ x (h4 i _ x hcs hx) hlen (fun j u hj => ?_) (by simp only [Addr.add_lit])
    have hjl : j < sz := by rw [← hlen]; exact (List.getElem?_eq_some_iff.1 hj).1
    have h5 := flat_get (fun cs hc => (h2 cs hc).1) i _ hcs j hjl
    rw [hj] at h5
    have h6 := h3.cells (g := g) rfl _ _ h5
    simp only [Addr.add_lit] at h6 ⊢
    rw [Nat.zero_add] at h6 ⊢
    exact h6
theorem at_zero {w : World} {p : Addr} {u : Value} (hs : p.spot = none) (h : w.cell? ⟨p.block, p.off + 0, none⟩ = some u) : w.cell? p = some u := by
  cases p
  simp_all
theorem size_of {y : ByteArray} {r : List UInt8} (h : y.data.toList = r) : y.size = r.length := by
  rw [← h]
  rfl
theorem new_cells (w : World) (t : TypeId) (cs : List Value) (b : Nat) (hb : w.heap.size = b) : ∀ j u, cs[j]? = some u → (w.alloc (.cells cs.toArray t)).cell? ((⟨b, 0, none⟩ : Addr).add j) = some u := by
  intro j u hj
  subst hb
  rw [Addr.add_lit, Nat.zero_add]
  exact box_cell (heap_new w _) j u (by simpa using hj)
/-- 'append' of one struct to a row of the call's own. -/
theorem wpList_appX {ops : Array Oper} {rest : List Oper} {o : Oper} {a : Act} {Q : Exit → Act → World → Prop} (w : World) (hgd : o.guard = none) (s x : Operand) (S : TypeId)
    (ho : o.op = .call { callee := .builtin .append, args := #[s, x], argTypes := #[S, S] })
    (E : TypeId) (sz bytes : Nat) (hS : Try.prog.underlying S = some (.slice E)) {z : Value} (hinfo : (Try.prog.info? E).map (fun i => (i.zero, i.size, i.bytes)) = some (some z, sz, bytes))
    (base : Nat) (v : Value) (n : Nat) (xs : List Value) (hs : a.eval s = v) (hown : w.ownsRow base E sz v n xs)
    (ad : Addr) (c : Nat) (cs : List Value) (hx : a.eval x = .slice (some ad) 1 c) (hl : cs.length = sz) (h1 : ∀ u ∈ cs, u.oneCell' = true) (hnews : ∀ j u, cs[j]? = some u → w.cell? (ad.add j) = some u)
    (hb : n ≤ 5000 ∧ 0 < sz ∧ bytes ≤ 100000 ∧ z.cells.size = sz) (hbase : base ≤ w.heap.size)
    (h : ∀ v' w', w'.ownsRow base E sz v' (n + 1) (xs ++ cs) → Below base w w' → Stay (fun _ => False) E w w' → wpList Try.prog ops Q rest (a.put o.dst v') w') : wpList Try.prog ops Q (o :: rest) a w := by
  obtain ⟨i0, hi, hz0, hz1, hz2⟩ := info_parts hinfo
  have hm : (n + 1) * bytes ≤ 5001 * 100000 := Nat.mul_le_mul (by omega) hb.2.2.1
  refine wpList_append_own w hgd s x S ho base E i0 z sz bytes hS hi hz0 hz1 hz2 hb.2.2.2 hb.2.1 v n xs hs hown ad 1 c cs hx (by omega) hnews h1 (by unfold maxLen; omega) (by omega) hbase ?_
  intro v' w' hown' hgrow _
  exact h v' w' hown' (Below.grown (Below.refl base w) hgrow hbase (fun k hk => (hown.lt k hk).1)) (Stay.grown hown hgrow)
theorem grown_low {w W W' : World} {p : Nat} (h : w.grownBy W (some p)) (k : Below w.heap.size W W') : w.grownBy W' (some p) :=
  ⟨k.os.trans h.os, k.tape.trans h.tape, k.output.trans h.output, Nat.le_trans h.size k.size, fun i hi hne => (k.block i hi).trans (h.block i hi hne)⟩
theorem own_snoc {α : Type} {V : Nat → World → List Value → α → Prop} {e : TypeId} {sz B : Nat} {w3 : World} {v3 : Value} {acc : List α} {a : α} {cs : List Value} {css : List (List Value)} (hcl : css.length = acc.length) (hcc : ∀ cs ∈ css, cs.length = sz ∧ ∀ u ∈ cs, u.oneCell' = true) (h1 : cs.length = sz) (h2 : ∀ u ∈ cs, u.oneCell' = true)
    (hrow : w3.ownsRow B e sz v3 (acc.length + 1) (css.flatten ++ cs)) (hVs : ∀ (i : Nat) cs x, css[i]? = some cs → acc[i]? = some x → V B w3 cs x) (hVa : V B w3 cs a) : OwnS V e sz B w3 v3 (acc ++ [a]) := by
  refine ⟨css ++ [cs], by simp [hcl], fun c hc => ?_, ?_, fun i c x hi hx => ?_⟩
  · rcases List.mem_append.1 hc with hc | hc
    · exact hcc c hc
    · rw [List.mem_singleton.1 hc]
      exact ⟨h1, h2⟩
  · rw [List.flatten_append, List.length_append]
    simpa using hrow
  · by_cases hlt : i < css.length
    · rw [List.getElem?_append_left hlt] at hi
      rw [List.getElem?_append_left (by omega)] at hx
      exact hVs i c x hi hx
    · rw [List.getElem?_append_right (by omega)] at hi
      rw [List.getElem?_append_right (by omega)] at hx
      have e0 : i - css.length = 0 := by
        have := (List.getElem?_eq_some_iff.1 hi).1
        simp at this
        omega
      rw [e0] at hi
      rw [show i - acc.length = 0 by omega] at hx
      simp at hi hx
      subst hi hx
      exact hVa
/-- Where a row of the call's own lies behind an append. -/
def Num.Near (w : World) (v v' : Value) : Prop := v'.ownBlock = v.ownBlock ∨ ∃ g, v'.ownBlock = some g ∧ w.heap.size ≤ g
end Go.Proofs.Ytdmkmhjalcfchaa
namespace Go.Proofs.Ytdmkmhjalcfchaa.Num
open Op (bytesLess)

/-! The order of keys. -/
theorem bl_irr : ∀ x : List UInt8, bytesLess x x = false
  | [] => rfl
  | a :: x => by
    have h : ¬ a < a := by simp
    simp [bytesLess, bl_irr x]
theorem bl_trans : ∀ x y z : List UInt8, bytesLess x y = true → bytesLess y z = true → bytesLess x z = true
  | _, [], _, h, _ => by simp [bytesLess] at h
  | _, _ :: _, [], _, h => by simp [bytesLess] at h
  | [], _ :: _, _ :: _, _, _ => rfl
  | a :: x, b :: y, c :: z, h1, h2 => by
    simp only [bytesLess, Bool.or_eq_true, Bool.and_eq_true, decide_eq_true_eq, beq_iff_eq] at h1 h2 ⊢
    rcases h1 with h1 | ⟨rfl, h1⟩
    · rcases h2 with h2 | ⟨rfl, h2⟩
      · exact .inl (by simp only [UInt8.lt_iff_toNat_lt] at *; omega)
      · exact .inl h1
    · rcases h2 with h2 | ⟨rfl, h2⟩
      · exact .inl h2
      · exact .inr ⟨rfl, bl_trans x y z h1 h2⟩
theorem bl_tri : ∀ x y : List UInt8, bytesLess x y = true ∨ x = y ∨ bytesLess y x = true
  | [], [] => .inr (.inl rfl)
  | [], _ :: _ => .inl rfl
  | _ :: _, [] => .inr (.inr rfl)
  | a :: x, b :: y => by
    simp only [bytesLess, Bool.or_eq_true, Bool.and_eq_true, decide_eq_true_eq, beq_iff_eq]
    by_cases h1 : a < b
    · exact .inl (.inl h1)
    · by_cases h2 : b < a
      · exact .inr (.inr (.inl h2))
      · have e : a = b := UInt8.toNat_inj.1 (by simp only [UInt8.lt_iff_toNat_lt] at *; omega)
        subst e
        rcases bl_tri x y with h | rfl | h
        · exact .inl (.inr ⟨rfl, h⟩)
        · exact .inr (.inl rfl)
        · exact .inr (.inr (.inr ⟨rfl, h⟩))
/-- A key is below another one. -/
def kl (a b : ByteArray) : Prop := bytesLess a.toList b.toList = true
theorem kl_irr (a : ByteArray) : ¬ kl a a := by
  unfold kl
  rw [bl_irr]
  simp
theorem kl_trans {a b c : ByteArray} (h1 : kl a b) (h2 : kl b c) : kl a c := bl_trans _ _ _ h1 h2
theorem kl_asym {a b : ByteArray} (h1 : kl a b) (h2 : kl b a) : False := kl_irr a (kl_trans h1 h2)
theorem kl_ne {a b : ByteArray} (h : kl a b) : a ≠ b := fun e => kl_irr a (by rw [← e] at h; exact h)
theorem kl_tri (a b : ByteArray) : kl a b ∨ a = b ∨ kl b a := by
  rcases bl_tri a.toList b.toList with h | h | h
  · exact .inl h
  · refine .inr (.inl ?_)
    rw [Lib.toList_data, Lib.toList_data] at h
    exact ByteArray.ext (Array.ext' h)
  · exact .inr (.inr h)
/-- A pair. -/
structure Pr where
  key : ByteArray
  val : ByteArray
abbrev Pages := List (List Pr)
def Rises (l : List Pr) : Prop := l.Pairwise (fun a b => kl a.key b.key)
/-- Which pages are right (7.1). -/
def RightP (ps : Pages) : Prop := (∀ p ∈ ps, 1 ≤ p.length ∧ p.length ≤ 8) ∧ Rises ps.flatten

/-! Sorted lists. -/
/-- With a pair more. -/
def insL : List Pr → ByteArray → ByteArray → List Pr
  | [], k, v => [⟨k, v⟩]
  | x :: l, k, v => if bytesLess k.toList x.key.toList then ⟨k, v⟩ :: x :: l else if bytesLess x.key.toList k.toList then x :: insL l k v else ⟨k, v⟩ :: l
/-- Without a key. -/
def delL (l : List Pr) (k : ByteArray) : List Pr := l.filter (fun x => bytesLess x.key.toList k.toList || bytesLess k.toList x.key.toList)
theorem insL_left {k v : ByteArray} : ∀ (a l : List Pr), (∀ x ∈ a, kl x.key k) → insL (a ++ l) k v = a ++ insL l k v
  | [], l, _ => rfl
  | x :: a, l, h => by
    have hx : bytesLess x.key.toList k.toList = true := h x (by simp)
    have h1 : ¬ bytesLess k.toList x.key.toList = true := fun e => kl_asym hx e
    rw [List.cons_append, insL, if_neg h1, if_pos hx, insL_left a l (fun y hy => h y (by simp [hy]))]
    rfl
theorem insL_right {k v : ByteArray} : ∀ (a b : List Pr), (∀ x ∈ b, kl k x.key) → insL (a ++ b) k v = insL a k v ++ b
  | [], [], _ => rfl
  | [], x :: b, h => by
    have hx : bytesLess k.toList x.key.toList = true := h x (by simp)
    rw [List.nil_append]
    unfold insL
    rw [if_pos hx]
    rfl
  | x :: a, b, h => by
    have ih := insL_right (v := v) a b h
    have e1 : insL (x :: a ++ b) k v = if bytesLess k.toList x.key.toList then ⟨k, v⟩ :: x :: (a ++ b) else if bytesLess x.key.toList k.toList then x :: insL (a ++ b) k v else ⟨k, v⟩ :: (a ++ b) := rfl
    have e2 : insL (x :: a) k v = if bytesLess k.toList x.key.toList then ⟨k, v⟩ :: x :: a else if bytesLess x.key.toList k.toList then x :: insL a k v else ⟨k, v⟩ :: a := rfl
    rw [e1, e2]
    split
    · rfl
    · split
      · rw [ih]
        rfl
      · rfl
theorem insL_len (k v : ByteArray) : ∀ l : List Pr, l.length ≤ (insL l k v).length ∧ (insL l k v).length ≤ l.length + 1 ∧ 1 ≤ (insL l k v).length
  | [] => by simp [insL]
  | x :: l => by
    have ih := insL_len k v l
    rw [insL]
    split
    · simp
    · split
      · simp only [List.length_cons]
        omega
      · simp
theorem insL_mem {k v : ByteArray} : ∀ {l : List Pr} {x : Pr}, x ∈ insL l k v → x.key = k ∨ x ∈ l
  | [], x, h => by
    rw [insL, List.mem_singleton] at h
    exact .inl (by rw [h])
  | y :: l, x, h => by
    rw [insL] at h
    split at h
    · rcases List.mem_cons.1 h with h | h
      · exact .inl (by rw [h])
      · exact .inr h
    · split at h
      · rcases List.mem_cons.1 h with h | h
        · exact .inr (by rw [h]; simp)
        · rcases insL_mem h with h | h
          · exact .inl h
          · exact .inr (by simp [h])
      · rcases List.mem_cons.1 h with h | h
        · exact .inl (by rw [h])
        · exact .inr (by simp [h])
theorem insL_rises {k v : ByteArray} : ∀ {l : List Pr}, Rises l → Rises (insL l k v)
  | [], _ => by
    unfold Rises insL
    simp
  | y :: l, h => by
    have h' := h
    unfold Rises at h'
    rw [List.pairwise_cons] at h'
    rw [insL]
    split
    · rename_i hk
      unfold Rises
      rw [List.pairwise_cons]
      refine ⟨fun x hx => ?_, h⟩
      rcases List.mem_cons.1 hx with rfl | hx
      · exact hk
      · exact kl_trans hk (h'.1 x hx)
    · split
      · rename_i hk1 hk2
        unfold Rises
        rw [List.pairwise_cons]
        refine ⟨fun x hx => ?_, insL_rises h'.2⟩
        rcases insL_mem hx with e | hx
        · rw [e]
          exact hk2
        · exact h'.1 x hx
      · rename_i hk1 hk2
        have e : y.key = k := by
          rcases kl_tri y.key k with a | a | a
          · exact absurd a hk2
          · exact a
          · exact absurd a hk1
        unfold Rises
        rw [List.pairwise_cons]
        refine ⟨fun x hx => ?_, h'.2⟩
        rw [← e]
        exact h'.1 x hx
theorem delL_app (a b : List Pr) (k : ByteArray) : delL (a ++ b) k = delL a k ++ delL b k := by simp [delL]
theorem delL_mem {l : List Pr} {k : ByteArray} {x : Pr} : x ∈ delL l k ↔ x ∈ l ∧ x.key ≠ k := by
  unfold delL
  rw [List.mem_filter]
  refine and_congr_right fun _ => ?_
  rw [Bool.or_eq_true]
  constructor
  · rintro (h | h)
    · exact kl_ne h
    · exact fun e => kl_ne h e.symm
  · intro h
    rcases kl_tri x.key k with a | a | a
    · exact .inl a
    · exact absurd a h
    · exact .inr a
theorem delL_same {l : List Pr} {k : ByteArray} (h : ∀ x ∈ l, x.key ≠ k) : delL l k = l := by
  unfold delL
  rw [List.filter_eq_self]
  intro x hx
  have := (delL_mem (l := l) (k := k)).2 ⟨hx, h x hx⟩
  exact (List.mem_filter.1 this).2
theorem delL_rises {l : List Pr} (h : Rises l) (k : ByteArray) : Rises (delL l k) := List.Pairwise.filter _ h

/-! Pages. -/
/-- Is the page's first key not above k? -/
def firstLe (p : List Pr) (k : ByteArray) : Bool := match p with
  | [] => false
  | x :: _ => !bytesLess k.toList x.key.toList
/-- How many pages, from the first on, begin not above k. -/
def cntP (ps : Pages) (k : ByteArray) : Nat := (ps.takeWhile (fun p => firstLe p k)).length
/-- The page of a key. -/
def ofP (ps : Pages) (k : ByteArray) : Nat := cntP ps k - 1
/-- A page that has too many is two. -/
def splitP (p : List Pr) : Pages := if 8 < p.length then [p.take 4, p.drop 4] else [p]
/-- 7.2, of right pages. -/
def putP (ps : Pages) (k v : ByteArray) : Pages := match ps[ofP ps k]? with
  | none => [[⟨k, v⟩]]
  | some p => ps.take (ofP ps k) ++ (splitP (insL p k v) ++ ps.drop (ofP ps k + 1))
/-- 7.3, of right pages. -/
def delP (ps : Pages) (k : ByteArray) : Pages := match ps[ofP ps k]? with
  | none => ps
  | some p =>
    if delL p k = [] then ps.take (ofP ps k) ++ ps.drop (ofP ps k + 1)
    else if (delL p k).length = p.length then ps
    else match ps[ofP ps k + 1]? with
      | some q => if (delL p k).length + q.length ≤ 4 then ps.take (ofP ps k) ++ ((delL p k ++ q) :: ps.drop (ofP ps k + 2)) else ps.take (ofP ps k) ++ (delL p k :: ps.drop (ofP ps k + 1))
      | none => match ps[ofP ps k - 1]? with
        | some q => if 0 < ofP ps k ∧ (delL p k).length + q.length ≤ 4 then ps.take (ofP ps k - 1) ++ [q ++ delL p k] else ps.take (ofP ps k) ++ [delL p k]
        | none => ps.take (ofP ps k) ++ [delL p k]
theorem split_flat (p : List Pr) : (splitP p).flatten = p := by
  unfold splitP
  split
  · simp
  · simp
theorem split_len {p : List Pr} (h1 : 1 ≤ p.length) (h9 : p.length ≤ 9) : ∀ q ∈ splitP p, 1 ≤ q.length ∧ q.length ≤ 8 := by
  intro q hq
  unfold splitP at hq
  split at hq
  · rcases List.mem_cons.1 hq with rfl | hq
    · rw [List.length_take]
      omega
    · rw [List.mem_singleton.1 hq, List.length_drop]
      omega
  · rw [List.mem_singleton.1 hq]
    omega
theorem flat_at3 {α : Type} (l : List (List α)) (i : Nat) (p : List α) (h : l[i]? = some p) : l.flatten = (l.take i).flatten ++ (p ++ (l.drop (i + 1)).flatten) := by
  have hi := (List.getElem?_eq_some_iff.1 h).1
  have e := (List.getElem?_eq_some_iff.1 h).2
  have h1 : l = l.take i ++ (p :: l.drop (i + 1)) := by
    rw [← e, ← List.drop_eq_getElem_cons hi, List.take_append_drop]
  conv => lhs; rw [h1]
  rw [List.flatten_append, List.flatten_cons]
theorem tw_all {α : Type} (f : α → Bool) : ∀ (l : List α) (x : α), x ∈ l.takeWhile f → f x = true
  | [], x, h => by simp at h
  | y :: l, x, h => by
    rw [List.takeWhile_cons] at h
    split at h
    · rename_i hy
      rcases List.mem_cons.1 h with rfl | h
      · exact hy
      · exact tw_all f l x h
    · simp at h
/-- Ahead of the page of a key all keys are below it, behind it above. -/
theorem of_sides {ps : Pages} (h : RightP ps) (k : ByteArray) : (∀ x ∈ (ps.take (ofP ps k)).flatten, kl x.key k) ∧ (∀ x ∈ (ps.drop (ofP ps k + 1)).flatten, kl k x.key) := by
  obtain ⟨hl, hr⟩ := h
  have hrow : ∀ (i j : Nat) p q, ps[i]? = some p → ps[j]? = some q → i < j → ∀ x ∈ p, ∀ y ∈ q, kl x.key y.key := by
    intro i j p q hp hq hij x hx y hy
    have e := flat_at3 ps i p hp
    unfold Rises at hr
    rw [e, List.pairwise_append] at hr
    have h2 := (List.pairwise_append.1 hr.2.1).2.2 x hx
    refine h2 y (List.mem_flatten.2 ⟨q, ?_, hy⟩)
    rw [List.mem_iff_getElem?]
    refine ⟨j - (i + 1), ?_⟩
    rw [List.getElem?_drop, show i + 1 + (j - (i + 1)) = j by omega]
    exact hq
  have htw : ∀ i, i < cntP ps k → ∀ p, ps[i]? = some p → firstLe p k = true := by
    intro i hi p hp
    unfold cntP at hi
    have h1 : (ps.takeWhile (fun p => firstLe p k))[i]? = some p := by
      have := List.takeWhile_prefix (l := ps) (fun p => firstLe p k)
      obtain ⟨r, hr'⟩ := this
      rw [← hr', List.getElem?_append_left hi] at hp
      exact hp
    exact tw_all _ ps p (List.mem_of_getElem? h1)
  have hdw : ∀ p, ps[cntP ps k]? = some p → firstLe p k = false := by
    intro p hp
    unfold cntP at hp
    have e : ps = ps.takeWhile (fun p => firstLe p k) ++ ps.dropWhile (fun p => firstLe p k) := (List.takeWhile_append_dropWhile).symm
    have h2 : (ps.dropWhile (fun p => firstLe p k))[0]? = some p := by
      rw [e, List.getElem?_append_right (by rw [← e]; exact Nat.le_refl _)] at hp
      rw [← e] at hp
      simpa using hp
    have hne : ps.dropWhile (fun p => firstLe p k) ≠ [] := by
      intro e0
      rw [e0] at h2
      simp at h2
    have h3 := List.head_dropWhile_not (fun p => firstLe p k) hne
    have h4 : (ps.dropWhile (fun p => firstLe p k)).head hne = p := by
      have := List.head?_eq_some_head hne
      rw [List.head?_eq_getElem?, h2] at this
      exact (Option.some.inj this).symm
    rw [h4] at h3
    simpa using h3
  have hfl : ∀ (p : List Pr), 1 ≤ p.length → ∃ x, p.head? = some x ∧ x ∈ p ∧ (firstLe p k = true ↔ ¬ kl k x.key) := by
    intro p hp
    cases p with
    | nil => simp at hp
    | cons x p =>
      refine ⟨x, rfl, by simp, ?_⟩
      simp [firstLe, kl]
  constructor
  · intro x hx
    obtain ⟨p, hp, hxp⟩ := List.mem_flatten.1 hx
    obtain ⟨i, hi⟩ := List.mem_iff_getElem?.1 hp
    rw [List.getElem?_take] at hi
    split at hi
    · rename_i hlt
      have hc : 0 < cntP ps k := by unfold ofP at hlt; omega
      have hlen : cntP ps k ≤ ps.length := by
        unfold cntP
        exact (List.takeWhile_prefix (l := ps) (fun p => firstLe p k)).length_le
      have hq : ps[ofP ps k]? = some (ps[ofP ps k]'(by unfold ofP; omega)) := List.getElem?_eq_getElem _
      obtain ⟨y, _, hy, hyk⟩ := hfl _ (hl _ (List.mem_of_getElem? hq)).1
      have h1 := hyk.1 (htw (ofP ps k) (by unfold ofP; omega) _ hq)
      have h2 := hrow i (ofP ps k) _ _ hi hq hlt x hxp y hy
      rcases kl_tri y.key k with a | a | a
      · exact kl_trans h2 a
      · rw [← a]
        exact h2
      · exact absurd a h1
    · cases hi
  · intro x hx
    obtain ⟨p, hp, hxp⟩ := List.mem_flatten.1 hx
    obtain ⟨i, hi⟩ := List.mem_iff_getElem?.1 hp
    rw [List.getElem?_drop] at hi
    have hj : cntP ps k ≤ ofP ps k + 1 + i := by unfold ofP; omega
    have hjl := (List.getElem?_eq_some_iff.1 hi).1
    have hq : ps[cntP ps k]? = some (ps[cntP ps k]'(by omega)) := List.getElem?_eq_getElem _
    obtain ⟨y, hy0, hy, hyk⟩ := hfl _ (hl _ (List.mem_of_getElem? hq)).1
    have h1 : kl k y.key := by
      have := hdw _ hq
      by_cases hky : kl k y.key
      · exact hky
      · rw [hyk.2 hky] at this
        cases this
    by_cases e : cntP ps k = ofP ps k + 1 + i
    · have : p = ps[cntP ps k]'(by omega) := by
        rw [← e, hq] at hi
        exact (Option.some.inj hi).symm
      subst this
      -- x is y, or behind it in the page
      have hpp : Rises (ps[cntP ps k]'(by omega)) := by
        have h5 := flat_at3 ps _ _ hq
        unfold Rises at hr ⊢
        rw [h5, List.pairwise_append] at hr
        exact (List.pairwise_append.1 hr.2.1).1
      generalize (ps[cntP ps k]'(by omega)) = pg at *
      cases pg with
      | nil => simp at hy
      | cons z pg =>
        simp at hy0
        subst hy0
        rcases List.mem_cons.1 hxp with rfl | hx2
        · exact h1
        · unfold Rises at hpp
          exact kl_trans h1 ((List.pairwise_cons.1 hpp).1 x hx2)
    · exact kl_trans h1 (hrow _ _ _ _ hq hi (by omega) y hy x hxp)
theorem of_lt {ps : Pages} (k : ByteArray) (h : ps ≠ []) : ofP ps k < ps.length := by
  have h1 : cntP ps k ≤ ps.length := by
    unfold cntP
    exact (List.takeWhile_prefix (l := ps) (fun p => firstLe p k)).length_le
  have h2 : 0 < ps.length := List.length_pos_iff.2 h
  unfold ofP
  omega
theorem right_mid {ps : Pages} {i : Nat} (h : RightP ps) : (∀ p ∈ ps.take i, 1 ≤ p.length ∧ p.length ≤ 8) ∧ (∀ p ∈ ps.drop i, 1 ≤ p.length ∧ p.length ≤ 8) := ⟨fun p hp => h.1 p (List.mem_of_mem_take hp), fun p hp => h.1 p (List.mem_of_mem_drop hp)⟩
/-- With a pair more pages hold what a sorted list would, and stay right (7.5). -/
theorem put_flat {ps : Pages} (h : RightP ps) (k v : ByteArray) : (putP ps k v).flatten = insL ps.flatten k v := by
  unfold putP
  by_cases he : ps = []
  · subst he
    rfl
  · have hq : ps[ofP ps k]? = some (ps[ofP ps k]'(of_lt k he)) := List.getElem?_eq_getElem _
    obtain ⟨h1, h2⟩ := of_sides h k
    rw [hq]
    simp only
    rw [flat_at3 ps _ _ hq, insL_left _ _ h1, insL_right _ _ h2, List.flatten_append, List.flatten_append, split_flat]
theorem put_right {ps : Pages} (h : RightP ps) (k v : ByteArray) : RightP (putP ps k v) := by
  refine ⟨?_, by rw [put_flat h]; exact insL_rises h.2⟩
  unfold putP
  by_cases he : ps = []
  · subst he
    intro p hp
    have : p = [⟨k, v⟩] := by simpa using hp
    rw [this]
    simp
  · have hq : ps[ofP ps k]? = some (ps[ofP ps k]'(of_lt k he)) := List.getElem?_eq_getElem _
    have hz := h.1 _ (List.mem_of_getElem? hq)
    have hn := insL_len k v (ps[ofP ps k]'(of_lt k he))
    rw [hq]
    simp only
    intro p hp
    rcases List.mem_append.1 hp with hp | hp
    · exact (right_mid h).1 p hp
    · rcases List.mem_append.1 hp with hp | hp
      · exact split_len hn.2.2 (by omega) p hp
      · exact (right_mid h).2 p hp
theorem del_page {ps : Pages} (h : RightP ps) (k : ByteArray) (p : List Pr) (hq : ps[ofP ps k]? = some p) : delL ps.flatten k = (ps.take (ofP ps k)).flatten ++ (delL p k ++ (ps.drop (ofP ps k + 1)).flatten) := by
  obtain ⟨h1, h2⟩ := of_sides h k
  rw [flat_at3 ps _ _ hq, delL_app, delL_app, delL_same (fun x hx => kl_ne (h1 x hx)), delL_same (fun x hx e => kl_ne (h2 x hx) e.symm)]
theorem del_len (p : List Pr) (k : ByteArray) : (delL p k).length ≤ p.length := List.length_filter_le _ _
theorem del_all {p : List Pr} {k : ByteArray} (h : (delL p k).length = p.length) : delL p k = p := (List.filter_sublist).eq_of_length h
/-- Without a key pages hold what a sorted list would (7.5). -/
theorem del_flat {ps : Pages} (h : RightP ps) (k : ByteArray) : (delP ps k).flatten = delL ps.flatten k := by
  by_cases he : ps = []
  · subst he
    rfl
  · have hq : ps[ofP ps k]? = some (ps[ofP ps k]'(of_lt k he)) := List.getElem?_eq_getElem _
    have hd := del_page h k _ hq
    unfold delP
    rw [hq]
    simp only
    generalize (ps[ofP ps k]'(of_lt k he)) = p at *
    split
    · rename_i h0
      rw [hd, h0, List.flatten_append, List.nil_append]
    · split
      · rename_i _ h1
        rw [hd, del_all h1, ← flat_at3 ps _ _ hq]
      · split
        · rename_i _ _ q hq2
          have e2 : (ps.drop (ofP ps k + 1)).flatten = q ++ (ps.drop (ofP ps k + 2)).flatten := by
            rw [List.drop_eq_getElem_cons (List.getElem?_eq_some_iff.1 hq2).1, List.flatten_cons, (List.getElem?_eq_some_iff.1 hq2).2]
          split
          · rw [hd, e2, List.flatten_append, List.flatten_cons, List.append_assoc]
          · rw [hd, List.flatten_append, List.flatten_cons]
        · rename_i _ _ hn2
          have e3 : ps.drop (ofP ps k + 1) = [] := List.drop_eq_nil_of_le (by rw [List.getElem?_eq_none_iff] at hn2; exact hn2)
          split
          · rename_i q hq3
            split
            · rename_i h4
              have e4 : (ps.take (ofP ps k)).flatten = (ps.take (ofP ps k - 1)).flatten ++ q := by
                have e5 : ps.take (ofP ps k) = ps.take (ofP ps k - 1) ++ [q] := by
                  have hlt := (List.getElem?_eq_some_iff.1 hq3).1
                  have := List.take_succ_eq_append_getElem hlt
                  rw [(List.getElem?_eq_some_iff.1 hq3).2] at this
                  rw [show ofP ps k = ofP ps k - 1 + 1 by omega]
                  exact this
                rw [e5, List.flatten_append]
                simp
              rw [hd, e3, e4, List.flatten_append]
              simp
            · rw [hd, e3, List.flatten_append]
              simp
          · rw [hd, e3, List.flatten_append]
            simp
theorem del_right {ps : Pages} (h : RightP ps) (k : ByteArray) : RightP (delP ps k) := by
  refine ⟨?_, by rw [del_flat h]; exact delL_rises h.2 k⟩
  by_cases he : ps = []
  · subst he
    intro p hp
    have : delP [] k = [] := rfl
    rw [this] at hp
    cases hp
  · have hq : ps[ofP ps k]? = some (ps[ofP ps k]'(of_lt k he)) := List.getElem?_eq_getElem _
    have hz := h.1 _ (List.mem_of_getElem? hq)
    unfold delP
    rw [hq]
    simp only
    generalize (ps[ofP ps k]'(of_lt k he)) = p at *
    have hdl := del_len p k
    have a1 := fun i => (right_mid (i := i) h).1
    have a2 := fun i => (right_mid (i := i) h).2
    split
    · intro x hx
      rcases List.mem_append.1 hx with hx | hx
      · exact a1 _ x hx
      · exact a2 _ x hx
    · rename_i h0
      have h01 : 1 ≤ (delL p k).length := List.length_pos_iff.2 h0
      split
      · exact h.1
      · split
        · rename_i _ q hq2
          split
          · rename_i h4
            intro x hx
            rcases List.mem_append.1 hx with hx | hx
            · exact a1 _ x hx
            · rcases List.mem_cons.1 hx with rfl | hx
              · rw [List.length_append]
                omega
              · exact a2 _ x hx
          · intro x hx
            rcases List.mem_append.1 hx with hx | hx
            · exact a1 _ x hx
            · rcases List.mem_cons.1 hx with rfl | hx
              · omega
              · exact a2 _ x hx
        · split
          · rename_i q hq3
            split
            · rename_i h4
              intro x hx
              rcases List.mem_append.1 hx with hx | hx
              · exact a1 _ x hx
              · rw [List.mem_singleton.1 hx, List.length_append]
                omega
            · intro x hx
              rcases List.mem_append.1 hx with hx | hx
              · exact a1 _ x hx
              · rw [List.mem_singleton.1 hx]
                omega
          · intro x hx
            rcases List.mem_append.1 hx with hx | hx
            · exact a1 _ x hx
            · rw [List.mem_singleton.1 hx]
              omega

/-! What stands at a key, and between two keys (7.4). -/
def withinB (k lo hi : ByteArray) : Bool := !bytesLess k.toList lo.toList && (hi.toList.isEmpty || bytesLess k.toList hi.toList)
def scanL (l : List Pr) (lo hi : ByteArray) (n : Int) : List Pr := (l.filter (fun x => withinB x.key lo hi)).take n.toNat
def lookP (l : List Pr) (k : ByteArray) : Option ByteArray := (l.find? (fun x => x.key.toList == k.toList)).map Pr.val
theorem bl_nil : ∀ x : List UInt8, bytesLess x [] = false
  | [] => rfl
  | _ :: _ => rfl
/-- All of it. -/
theorem scan_all (l : List Pr) (n : Int) (hn : (l.length : Int) ≤ n) : scanL l ⟨#[]⟩ ⟨#[]⟩ n = l := by
  have h0 : (⟨#[]⟩ : ByteArray).toList = [] := by
    rw [Lib.toList_data]
  unfold scanL
  rw [List.filter_eq_self.2 (fun x _ => by unfold withinB; rw [h0, bl_nil]; rfl), List.take_of_length_le (by omega)]
end Go.Proofs.Ytdmkmhjalcfchaa.Num
namespace Go.Proofs.Ytdmkmhjalcfchaa
open Go.RowKit Go.ChangeShapes Go.WideShapes Go.Joins Num
set_option linter.unusedVariables false
set_option maxRecDepth 100000

/-! '<=', '>', '>=' on texts, for the walk. -/
@[go_sem] theorem str_geq (t : TypeId) (a b : ByteArray) : binOp .geq t (.string a) (.string b) = pure (.bool !(Op.bytesLess a.toList b.toList)) := by simp [binOp, Op.stringOp]
@[go_sem] theorem str_leq (t : TypeId) (a b : ByteArray) : binOp .leq t (.string a) (.string b) = pure (.bool (Op.bytesLess a.toList b.toList || a.toList == b.toList)) := by simp [binOp, Op.stringOp]
@[go_sem] theorem str_gtr (t : TypeId) (a b : ByteArray) : binOp .gtr t (.string a) (.string b) = pure (.bool !(Op.bytesLess a.toList b.toList || a.toList == b.toList)) := by simp [binOp, Op.stringOp]
/-- Not below, and not the same: above. -/
theorem leq_kl (a b : ByteArray) : (Op.bytesLess a.toList b.toList || a.toList == b.toList) = !Op.bytesLess b.toList a.toList := by
  rcases kl_tri a b with h | h | h
  · have h1 : Op.bytesLess a.toList b.toList = true := h
    have h2 : Op.bytesLess b.toList a.toList = false := by
      rw [Bool.eq_false_iff]
      exact fun e => kl_asym h e
    rw [h1, h2]
    rfl
  · subst h
    rw [bl_irr]
    simp
  · have h1 : Op.bytesLess b.toList a.toList = true := h
    have h2 : Op.bytesLess a.toList b.toList = false := by
      rw [Bool.eq_false_iff]
      exact fun e => kl_asym h e
    have h3 : (a.toList == b.toList) = false := list_ne' (fun e => kl_ne h e.symm)
    rw [h1, h2, h3]
    rfl

def Num.PrAt (w : World) (p : Addr) (x : Pr) : Prop := w.cell? p = some (.string x.key) ∧ w.cell? ⟨p.block, p.off + 1, none⟩ = some (.string x.val)
abbrev Num.LiesPr (w : World) (B : Nat) (ao : Option Addr) (l : List Pr) : Prop := LiesG PrAt 2 w B ao l
def Num.PgAt (B : Nat) (w : World) (p : Addr) (l : List Pr) : Prop := ∃ bo c, w.cell? p = some (.slice bo l.length c) ∧ LiesPr w B bo l ∧ l.length ≤ c
abbrev Num.LiesPg (w : World) (B : Nat) (ao : Option Addr) (ps : Pages) : Prop := LiesG (PgAt B) 1 w B ao ps
theorem Num.PrAt.fast {B : Nat} : Fast B PrAt := fun w w' p x hp h hb => ⟨(hb.cell hp).trans h.1, (hb.cell (p := ⟨p.block, p.off + 1, none⟩) hp).trans h.2⟩
theorem Num.PgAt.fast {B : Nat} : Fast B (PgAt B) := fun w w' p l hp h hb => by
  obtain ⟨bo, c, h1, h2, h3⟩ := h
  exact ⟨bo, c, (hb.cell hp).trans h1, h2.below PrAt.fast hb, h3⟩
theorem pgAt_mono {B B' : Nat} (hB : B ≤ B') {w : World} {p : Addr} {l : List Pr} (h : PgAt B w p l) : PgAt B' w p l := by
  obtain ⟨bo, c, h1, h2, h3⟩ := h
  exact ⟨bo, c, h1, h2.mono hB (fun _ _ h => h), h3⟩
theorem liesPr_next {w w' : World} {B : Nat} {ao : Option Addr} {l : List Pr} (h : LiesPr w B ao l) (hb : Below B w w') {B' : Nat} (hB : B ≤ B') : LiesPr w' B' ao l := (h.below PrAt.fast hb).mono hB fun _ _ h => h
theorem liesPg_next {w w' : World} {B : Nat} {ao : Option Addr} {ps : Pages} (h : LiesPg w B ao ps) (hb : Below B w w') {B' : Nat} (hB : B ≤ B') : LiesPg w' B' ao ps := (h.below PgAt.fast hb).mono hB fun _ _ h => pgAt_mono hB h

/-! What came in. -/
theorem Try.cellsStr : Try.prog.cellsOf 9 = 1 := by kernel_rfl
theorem Try.cellsPr : Try.prog.cellsOf 52 = 2 := by kernel_rfl
theorem Try.cellsPg : Try.prog.cellsOf 22 = 1 := by kernel_rfl
set_option maxRecDepth 100000 in
theorem open_pr {H : Type} {enc : TypeId × Value → H} {w : World} {base : Nat} {spare : Nat → Bool} {held : Bool} (a : Addr) (n : Nat) (cs : List Value) (x : DataW H × List MemPlace)
    (h1 : w.cells? base a 2 = some cs) (h2 : DataW.trod enc Try.prog w base spare held n 52 cs = some x) :
    ∃ c : Pr, True ∧ PrAt w a c := by
  obtain ⟨_, hlen, hcell⟩ := World.cells?_some h1
  obtain ⟨xs, m, _, _, _, hxl, hf⟩ := DataW.trod_struct Try.underlying52 h2
  match cs, hlen, xs, hxl with
  | [v0, v1], _, [x0, x1], _ =>
    have g0 := hf 0 _ rfl
    have g1 := hf 1 _ rfl
    simp [Try.cellsStr] at g0 g1
    have e0 := hcell 0 (by omega)
    have e1 := hcell 1 (by omega)
    simp [Addr.add] at e0 e1
    obtain ⟨s0, q0, _, _⟩ := DataW.trod_string Try.underlying9 g0
    obtain ⟨s1, q1, _, _⟩ := DataW.trod_string Try.underlying9 g1
    simp at q0 q1
    subst q0 q1
    exact ⟨⟨s0, s1⟩, trivial, e0, e1⟩
theorem open_pg {H : Type} {enc : TypeId × Value → H} {w : World} {base : Nat} {spare : Nat → Bool} {held : Bool} (a : Addr) (n : Nat) (cs : List Value) (x : DataW H × List MemPlace)
    (h1 : w.cells? base a 1 = some cs) (h2 : DataW.trod enc Try.prog w base spare held n 22 cs = some x) :
    ∃ l : List Pr, True ∧ PgAt w.heap.size w a l := by
  obtain ⟨_, hlen, hcell⟩ := World.cells?_some h1
  have inh : Inhabited Pr := ⟨⟨ByteArray.empty, ByteArray.empty⟩⟩
  match cs, hlen with
  | [v0], _ =>
    have e0 := hcell 0 (by omega)
    simp [Addr.add] at e0
    obtain ⟨ao, cap, l, q0, _, hl, hc⟩ := open_list PrAt (fun _ => True) 2 Try.cellsPr Try.underlying22 (fun p x h => cell_lt h.1) open_pr h2
    subst q0
    exact ⟨l, trivial, ao, cap, e0, hl, hc⟩
/-- Pages that came in. -/
theorem open_pages {H : Type} {enc : TypeId × Value → H} {w : World} {base b0 : Nat} {r : Reach} {spare : Nat → Bool} {held : Bool} {v : Value} {d : DataW H} {p : List MemPlace}
    (hv : Value.okWide Try.prog w r b0 104 v) (h : DataW.Trod enc Try.prog w base spare held 104 v d p) :
    ∃ (ao : Option Addr) (cap : Nat) (ps : Pages), v = .slice ao ps.length cap ∧ LiesPg w w.heap.size ao ps := by
  obtain ⟨ao, len, cap, rfl⟩ := okWide_slice Try.underlying104 hv
  obtain ⟨fuel, hf⟩ := h
  obtain ⟨ao', cap', ps, q, _, hl, _⟩ := open_list (PgAt w.heap.size) (fun _ => True) 1 Try.cellsPg Try.underlying104 (fun p x h => by obtain ⟨_, _, h, _⟩ := h; exact cell_lt h) open_pg (by simpa [Value.cells] using hf)
  exact ⟨ao', cap', ps, q, hl⟩

/-! Rows of the call's own. -/
def Num.prCells (l : List Pr) : List Value := l.flatMap (fun x => [.string x.key, .string x.val])
theorem prCells_cons (x : Pr) (l : List Pr) : prCells (x :: l) = [.string x.key, .string x.val] ++ prCells l := rfl
theorem prCells_append (l r : List Pr) : prCells (l ++ r) = prCells l ++ prCells r := by simp [prCells]
theorem prCells_len (l : List Pr) : (prCells l).length = l.length * 2 := by
  induction l with
  | nil => rfl
  | cons x l ih =>
    rw [prCells_cons, List.length_append, ih, List.length_cons]
    simp
    omega
theorem one2 (x : Pr) : ∀ v ∈ [Value.string x.key, .string x.val], v.oneCell' = true := by
  intro v hv
  simp at hv
  rcases hv with rfl | rfl <;> rfl
theorem prCells_one (l : List Pr) : ∀ v ∈ prCells l, v.oneCell' = true := by
  intro v hv
  simp only [prCells, List.mem_flatMap] at hv
  obtain ⟨y, _, hy⟩ := hv
  exact one2 y v hy
theorem prCells_take (l : List Pr) (i : Nat) : prCells (l.take i) = (prCells l).take (i * 2) := by
  have h : prCells l = prCells (l.take i) ++ prCells (l.drop i) := by rw [← prCells_append, List.take_append_drop]
  by_cases hi : i ≤ l.length
  · rw [h, List.take_left' (by rw [prCells_len, List.length_take, Nat.min_eq_left hi])]
  · rw [List.take_of_length_le (by omega), List.take_of_length_le (by rw [prCells_len]; omega)]
theorem prCells_drop (l : List Pr) (i : Nat) : prCells (l.drop i) = (prCells l).drop (i * 2) := by
  have h : prCells l = prCells (l.take i) ++ prCells (l.drop i) := by rw [← prCells_append, List.take_append_drop]
  by_cases hi : i ≤ l.length
  · rw [h, List.drop_left' (by rw [prCells_len, List.length_take, Nat.min_eq_left hi])]
  · rw [List.drop_of_length_le (by omega), List.drop_of_length_le (by rw [prCells_len]; omega)]
    rfl
theorem prCells_get (l : List Pr) : ∀ (i : Nat) x, l[i]? = some x → (prCells l)[i * 2]? = some (.string x.key) ∧ (prCells l)[i * 2 + 1]? = some (.string x.val) := by
  induction l with
  | nil => intro i x h; simp at h
  | cons y l ih =>
    intro i x h
    rw [prCells_cons]
    cases i with
    | zero =>
      simp at h
      subst h
      exact ⟨rfl, rfl⟩
    | succ i =>
      have h' : l[i]? = some x := by simpa using h
      obtain ⟨h1, h2⟩ := ih i x h'
      rw [show (i + 1) * 2 = i * 2 + 2 by omega]
      exact ⟨by simpa using h1, by rw [show i * 2 + 2 + 1 = (i * 2 + 1) + 2 by omega]; simpa using h2⟩
/-- A row of pairs of the call's own lies there. -/
theorem own_lies {w : World} {B : Nat} {v : Value} {l : List Pr} (h : w.ownsRow B 52 2 v l.length (prCells l)) : ∃ ao cap, v = .slice ao l.length cap ∧ LiesPr w w.heap.size ao l ∧ l.length ≤ cap := by
  rcases h.2 with ⟨hv, h0⟩ | ⟨g, cap, cur, hv, _, hg, hcap, _⟩
  · subst hv
    have : l = [] := List.eq_nil_of_length_eq_zero h0
    subst this
    exact ⟨none, 0, rfl, fun i x hx => by simp at hx, Nat.le_refl _⟩
  · subst hv
    refine ⟨_, cap, rfl, fun i x hx => ⟨_, rfl, (Array.getElem?_eq_some_iff.1 hg).1, ?_⟩, hcap⟩
    obtain ⟨h1, h2⟩ := prCells_get l i x hx
    have h3 := h.cells (g := g) rfl _ _ h1
    have h4 := h.cells (g := g) rfl _ _ h2
    rw [Addr.add_lit] at h3 h4
    rw [Addr.add_lit]
    exact ⟨h3, h4⟩
/-- The cells of a page that lies there. -/
theorem lies_cells {w : World} {B : Nat} {a : Addr} {l : List Pr} (h : LiesPr w B (some a) l) : ∀ j u, (prCells l)[j]? = some u → w.cell? (a.add j) = some u := by
  intro j u hj
  have hlt := (List.getElem?_eq_some_iff.1 hj).1
  rw [prCells_len] at hlt
  have hi : j / 2 < l.length := by omega
  have hx := List.getElem?_eq_getElem hi
  obtain ⟨h1, h2⟩ := prCells_get l _ _ hx
  obtain ⟨a', e, _, h3, h4⟩ := h _ _ hx
  cases e
  rcases Nat.mod_two_eq_zero_or_one j with hm | hm
  · have e2 : j / 2 * 2 = j := by omega
    rw [e2] at h1 h3
    rw [h1] at hj
    cases hj
    exact h3
  · have e2 : j / 2 * 2 + 1 = j := by omega
    rw [e2] at h2
    rw [h2] at hj
    cases hj
    have e3 : a.add j = ⟨(a.add (j / 2 * 2)).block, (a.add (j / 2 * 2)).off + 1, none⟩ := by
      have e4 : (a.add (j / 2 * 2)).off = a.off + j / 2 * 2 := by
        unfold Addr.add
        split
        · rename_i h0
          rw [h0]
          rfl
        · rfl
      rw [e4, Addr.block_add]
      unfold Addr.add
      rw [if_neg (by omega)]
      congr 1
      omega
    rw [e3]
    exact h4
/-- A page of the call's own, as a cell. -/
def Num.PgV (B : Nat) (w : World) (cs : List Value) (p : List Pr) : Prop := ∃ c, cs = [c] ∧ w.ownsRow B 52 2 c p.length (prCells p)
abbrev Num.OwnPs (B : Nat) (w : World) (v : Value) (ps : Pages) : Prop := OwnS PgV 22 1 B w v ps
theorem pgV_hold {B : Nat} {w w' : World} (hh : HoldX B 22 w w') {cs : List Value} {p : List Pr} (h : PgV B w cs p) : PgV B w' cs p := by
  obtain ⟨c, e, h1⟩ := h
  exact ⟨c, e, own_hold h1 hh (by decide)⟩
theorem pgV_mono {B B' : Nat} {w : World} (hB : B' ≤ B) {cs : List Value} {p : List Pr} (h : PgV B w cs p) : PgV B' w cs p := by
  obtain ⟨c, e, h1⟩ := h
  exact ⟨c, e, own_mono h1 hB⟩
theorem pgV_below {B : Nat} {w w' : World} (hb : Below w.heap.size w w') {cs : List Value} {p : List Pr} (h : PgV B w cs p) : PgV B w' cs p := by
  obtain ⟨c, e, h1⟩ := h
  exact ⟨c, e, own_below h1 hb⟩
theorem ownPs_below {B : Nat} {w w' : World} {v : Value} {ps : Pages} (h : OwnPs B w v ps) (hb : Below w.heap.size w w') : OwnPs B w' v ps := by
  obtain ⟨css, h1, h2, h3, h4⟩ := h
  exact ⟨css, h1, h2, own_below h3 hb, fun i cs x a b => pgV_below hb (h4 i cs x a b)⟩
/-- Pages of the call's own lie there. -/
theorem ownPs_lies {B : Nat} {w : World} {v : Value} {ps : Pages} (h : OwnPs B w v ps) : ∃ ao cap, v = .slice ao ps.length cap ∧ LiesPg w w.heap.size ao ps := by
  refine h.lies (PgAt w.heap.size) ?_
  rintro p cs l ⟨c, rfl, hc⟩ _ hcell hs
  obtain ⟨bo, cap, rfl, hl, hcap⟩ := own_lies hc
  exact ⟨bo, cap, at_zero hs (hcell 0 _ rfl), hl, hcap⟩
end Go.Proofs.Ytdmkmhjalcfchaa
