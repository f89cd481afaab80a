import Derived.Laws.FloatArith
import Derived.Laws.BitsAllLaws
import Derived.Laws.Strings
import Derived.Lib.ItoaNum
import Derived.Lib.ParseIntB
import Derived.Lib.ParseIntBTie
import Derived.Test.YtiajlhjjmlakmaaGreatDoorRows
import Derived.WalkKit
import Derived.ProofKit
import Derived.WalkSpells
import Derived.WalkLawsBesides
import Derived.BigQuiet
import Derived.WalkSmall
import Derived.Laws.IdiomStrings
namespace Go.Proofs.YtiajlhjjmlakmaaGreatDoor.Num

theorem read_double (n : Nat) : Ieee.double.read n =
  if n % 9223372036854775808 < 4503599627370496 then .number (n / 9223372036854775808 % 2 == 1) (n % 9223372036854775808) (-1074)
  else if n % 9223372036854775808 < 9218868437227405312 then
   .number (n / 9223372036854775808 % 2 == 1) (4503599627370496 + n % 9223372036854775808 % 4503599627370496) (-1074 + (n % 9223372036854775808 / 4503599627370496 - 1 : Nat))
  else if n % 9223372036854775808 = 9218868437227405312 then .infinity (n / 9223372036854775808 % 2 == 1)
  else .nan (n / 9223372036854775808 % 2 == 1) (n % 9223372036854775808 - 9218868437227405312) := by
 have e1 : Ieee.double.signWeight = 9223372036854775808 := by decide
 have e2 : Ieee.double.binade = 4503599627370496 := by decide
 have e3 : Ieee.double.infRung = 9218868437227405312 := by decide
 have e4 : Ieee.double.leastPlace = -1074 := by decide
 simp only [Ieee.Format.read, e1, e2, e3, e4]

theorem order_self (n : Nat) : Ieee.double.order n n = if 9218868437227405312 < n % 9223372036854775808 then none else some .eq := by
 unfold Ieee.Format.order
 rw [read_double]
 by_cases h1 : n % 9223372036854775808 < 4503599627370496
 ·rw [if_pos h1, if_neg (by omega)]
  simp [Ieee.Datum.order]
 ·rw [if_neg h1]
  by_cases h2 : n % 9223372036854775808 < 9218868437227405312
  ·rw [if_pos h2, if_neg (by omega)]
   simp [Ieee.Datum.order]
  ·rw [if_neg h2]
   by_cases h3 : n % 9223372036854775808 = 9218868437227405312
   ·rw [if_pos h3, if_neg (by omega)]
    simp [Ieee.Datum.order]
   ·rw [if_neg h3, if_pos (by omega)]
    simp [Ieee.Datum.order]

theorem signed_eq_zero (s : Bool) (m u : Nat) : Ieee.signed s m u = 0 ↔ m = 0 := by
 unfold Ieee.signed
 have e : m <<< u = 0 ↔ m = 0 := by
  rw [Nat.shiftLeft_eq]
  have : 0 < 2 ^ u := Nat.two_pow_pos u
  constructor
  ·intro h
   rcases Nat.mul_eq_zero.1 h with h | h <;> omega
  ·intro h; subst h; simp
 split <;> omega

theorem order_zero (n : Nat) (h : ¬ 9218868437227405312 < n % 9223372036854775808) : (Ieee.double.order n 0 == some .eq) = decide (n % 9223372036854775808 = 0) := by
 unfold Ieee.Format.order
 have z : Ieee.double.read 0 = .number false 0 (-1074) := by decide
 rw [z, read_double]
 have cz : ∀ x : Int, (compare x 0 = .eq) ↔ x = 0 := fun x => Std.LawfulEqCmp.compare_eq_iff_eq
 by_cases h1 : n % 9223372036854775808 < 4503599627370496
 ·rw [if_pos h1]
  simp only [Ieee.Datum.order]
  rw [Bool.eq_iff_iff]
  simp only [beq_iff_eq, Option.some.injEq, decide_eq_true_eq]
  have e0 : ∀ u, Ieee.signed false 0 u = 0 := fun u => (signed_eq_zero _ _ _).2 rfl
  rw [e0, cz, signed_eq_zero]
 ·rw [if_neg h1]
  by_cases h2 : n % 9223372036854775808 < 9218868437227405312
  ·rw [if_pos h2]
   simp only [Ieee.Datum.order]
   rw [Bool.eq_iff_iff]
   simp only [beq_iff_eq, Option.some.injEq, decide_eq_true_eq]
   have e0 : ∀ u, Ieee.signed false 0 u = 0 := fun u => (signed_eq_zero _ _ _).2 rfl
   rw [e0, cz, signed_eq_zero]
   omega
  ·rw [if_neg h2, if_pos (by omega)]
   simp only [Ieee.Datum.order]
   have : n % 9223372036854775808 ≠ 0 := by omega
   rw [decide_eq_false this]
   cases (n / 9223372036854775808 % 2 == 1) <;> rfl

def canon (n : Nat) : Nat := if 9218868437227405312 < n % 9223372036854775808 then 9221120237041090560 else if n % 9223372036854775808 = 0 then 0 else n
def place (n : Nat) : Nat := if 9223372036854775808 ≤ canon n then 18446744073709551615 - canon n else canon n + 9223372036854775808
theorem canon_canon (n : Nat) : canon (canon n) = canon n := by
 unfold canon
 split
 ·rfl
 ·split
  ·rfl
  ·rfl
theorem andNot_top (n : Nat) (h : n < 18446744073709551616) : bits .andNot .u64 (n : Int) 9223372036854775808 = ((n % 9223372036854775808 : Nat) : Int) := by
 have e := u64_andNot_nat n 9223372036854775808 h (by decide)
 rw [show ((9223372036854775808 : Nat) : Int) = 9223372036854775808 from rfl] at e
 rw [e]
 have := Nat.and_two_pow_sub_one_eq_mod n 63
 rw [show (2 : Nat) ^ 63 - 1 = 18446744073709551615 - 9223372036854775808 from rfl, show (2 : Nat) ^ 63 = 9223372036854775808 from rfl] at this
 rw [this]

def may (k n : Int) (f : Nat) (s : ByteArray) : Bool :=
 if k = 0 then decide (n = 0) && decide (f = 0) && s.toList.isEmpty
 else if k = 1 then (decide (n = 0) || decide (n = 1)) && decide (f = 0) && s.toList.isEmpty
 else if k = 2 then decide (f = 0) && s.toList.isEmpty
 else if k = 3 then decide (n = 0) && decide (canon f = f) && s.toList.isEmpty
 else if k = 4 ∨ k = 5 then decide (n = 0) && decide (f = 0) && decide ((s.size : Int) ≤ 40)
 else false

def str (l : List UInt8) : ByteArray := ⟨l.toArray⟩
def cellsOf (l : List UInt8) : List Value := l.map (fun b => Value.int .u8 (b.toNat : Int))
def byteAt (n i : Nat) : UInt8 := UInt8.ofNat (n / 2 ^ (8 * i) % 256)
def beTake (n : Nat) : Nat → List UInt8
 | 0 => []
 | k + 1 => beTake n k ++ [byteAt n (7 - k)]
def be8 (n : Nat) : List UInt8 := beTake n 8
def numOf : List UInt8 → Nat := fun l => l.foldl (fun a b => a * 256 + b.toNat) 0
def esc : List UInt8 → List UInt8
 | [] => []
 | b :: r => if b = 0 then 0 :: 255 :: esc r else b :: esc r
def putL (k n : Int) (f : Nat) (s : ByteArray) : List UInt8 :=
 if k = 1 then [UInt8.ofNat (2 + n.toNat)]
 else if k = 2 then 4 :: be8 (n + 9223372036854775808).toNat
 else if k = 3 then 5 :: be8 (place f)
 else if k = 4 then 6 :: (esc s.data.toList ++ [0, 1])
 else if k = 5 then 7 :: (esc s.data.toList ++ [0, 1])
 else [1]

theorem numOf_snoc (l : List UInt8) (b : UInt8) : numOf (l ++ [b]) = numOf l * 256 + b.toNat := by simp [numOf]
theorem numOf_lt (l : List UInt8) : numOf l < 256 ^ l.length := by
 have key : ∀ (l : List UInt8) (a m : Nat), a < m → l.foldl (fun a b => a * 256 + b.toNat) a < m * 256 ^ l.length := by
  intro l
  induction l with
  | nil => intro a m h; simpa using h
  | cons b r ih =>
   intro a m h
   have hb : b.toNat < 256 := b.toNat_lt
   have := ih (a * 256 + b.toNat) (m * 256) (by omega)
   simp only [List.foldl_cons, List.length_cons]
   rw [Nat.pow_succ, Nat.mul_comm (256 ^ r.length) 256, ← Nat.mul_assoc]
   exact this
 have h := key l 0 1 (by omega)
 rw [Nat.one_mul] at h
 exact h
theorem take_snoc (s : ByteArray) (k : Nat) (hk : k < s.size) : s.data.toList.take (k + 1) = s.data.toList.take k ++ [s[k]] := by
 have hk' : k < s.data.toList.length := by simpa using hk
 rw [List.take_add_one, List.getElem?_eq_getElem hk']
 rfl
theorem numOf_take (s : ByteArray) (k : Nat) (hk : k < s.size) : numOf (s.data.toList.take (k + 1)) = numOf (s.data.toList.take k) * 256 + s[k].toNat := by
 rw [take_snoc s k hk, numOf_snoc]
theorem numOf_take_lt (l : List UInt8) (k : Nat) (_ : k ≤ 8) : numOf (l.take k) < 256 ^ k := by
 refine Nat.lt_of_lt_of_le (numOf_lt _) (Nat.pow_le_pow_right (by omega) ?_)
 simp only [List.length_take]
 omega

structure Res where
 k : Int
 n : Int
 f : Nat
 s : List UInt8
 c : Int
 e : Int
def bad : Res := ⟨0, 0, 0, [], 0, 3⟩

theorem be8_bytes (n : Nat) : be8 n = [byteAt n 7, byteAt n 6, byteAt n 5, byteAt n 4, byteAt n 3, byteAt n 2, byteAt n 1, byteAt n 0] := rfl
theorem byteAt_nat (n i : Nat) : (byteAt n i).toNat = n / 2 ^ (8 * i) % 256 := by
 simp only [byteAt, UInt8.toNat_ofNat']
 omega
theorem numOf_be8 (n : Nat) (hn : n < 18446744073709551616) : numOf (be8 n) = n := by
 rw [be8_bytes]
 simp only [numOf, List.foldl_cons, List.foldl_nil, byteAt_nat, Nat.reduceMul, Nat.reducePow]
 omega

def num8 (n : Int) : List UInt8 := be8 (n % 18446744073709551616).toNat
def sgn (u : Nat) : Int := if u < 9223372036854775808 then (u : Int) else (u : Int) - 18446744073709551616
def isInt (n : Int) : Prop := -9223372036854775808 ≤ n ∧ n ≤ 9223372036854775807

theorem be8_len (n : Nat) : (be8 n).length = 8 := rfl
theorem num8_len (n : Int) : (num8 n).length = 8 := rfl
theorem byteAt_toNat (n i : Nat) : (byteAt n i).toNat = n / 2 ^ (8 * i) % 256 := by
 simp only [byteAt, UInt8.toNat_ofNat']
 omega
theorem be8_numOf (l : List UInt8) (h : l.length = 8) : be8 (numOf l) = l := by
 match l, h with
 | [b7, b6, b5, b4, b3, b2, b1, b0], _ =>
  have h7 := b7.toNat_lt
  have h6 := b6.toNat_lt
  have h5 := b5.toNat_lt
  have h4 := b4.toNat_lt
  have h3 := b3.toNat_lt
  have h2 := b2.toNat_lt
  have h1 := b1.toNat_lt
  have h0 := b0.toNat_lt
  have e : ∀ n, be8 n = [byteAt n 7, byteAt n 6, byteAt n 5, byteAt n 4, byteAt n 3, byteAt n 2, byteAt n 1, byteAt n 0] := fun _ => rfl
  rw [e]
  simp only [numOf, List.foldl_cons, List.foldl_nil]
  have g : ∀ (n i : Nat) (b : UInt8), n / 2 ^ (8 * i) % 256 = b.toNat → byteAt n i = b := fun n i b hb => UInt8.toNat_inj.1 (by rw [byteAt_toNat, hb])
  rw [g _ 7 b7 (by simp only [Nat.reduceMul, Nat.reducePow]; omega), g _ 6 b6 (by simp only [Nat.reduceMul, Nat.reducePow]; omega), g _ 5 b5 (by simp only [Nat.reduceMul, Nat.reducePow]; omega), g _ 4 b4 (by simp only [Nat.reduceMul, Nat.reducePow]; omega),
   g _ 3 b3 (by simp only [Nat.reduceMul, Nat.reducePow]; omega), g _ 2 b2 (by simp only [Nat.reduceMul, Nat.reducePow]; omega), g _ 1 b1 (by simp only [Nat.reduceMul, Nat.reducePow]; omega), g _ 0 b0 (by simp only [Nat.reduceMul, Nat.reducePow]; omega)]
theorem numOf_eight (l : List UInt8) (h : l.length = 8) : numOf l < 18446744073709551616 := by
 have := numOf_lt l
 rw [h] at this
 exact this
theorem sgn_num8 (n : Int) (h : isInt n) : sgn (numOf (num8 n)) = n := by
 unfold isInt at h
 unfold num8
 rw [numOf_be8 _ (by omega)]
 unfold sgn
 split <;> omega
theorem num8_sgn (l : List UInt8) (h : l.length = 8) : num8 (sgn (numOf l)) = l ∧ isInt (sgn (numOf l)) := by
 have hl := numOf_eight l h
 have e : (sgn (numOf l) % 18446744073709551616).toNat = numOf l := by
  unfold sgn
  split <;> omega
 constructor
 ·unfold num8
  rw [e, be8_numOf l h]
 ·unfold isInt sgn
  split <;> omega

structure Cod (α : Type) where
 enc : α → List UInt8
 rd : List UInt8 → Option (α × List UInt8)
 ok : α → Prop
 fwd : ∀ x, ok x → ∀ r, rd (enc x ++ r) = some (x, r)
 bwd : ∀ l x r, rd l = some (x, r) → l = enc x ++ r ∧ ok x

def Cod.num : Cod Int where
 enc := num8
 rd := fun l => if l.length < 8 then none else some (sgn (numOf (l.take 8)), l.drop 8)
 ok := isInt
 fwd := fun x hx r => by
  have e1 : (num8 x ++ r).take 8 = num8 x := List.take_left' (num8_len x)
  have e2 : (num8 x ++ r).drop 8 = r := List.drop_left' (num8_len x)
  show (if (num8 x ++ r).length < 8 then none else some (sgn (numOf ((num8 x ++ r).take 8)), (num8 x ++ r).drop 8)) = _
  rw [if_neg (by rw [List.length_append, num8_len]; omega), e1, e2, sgn_num8 x hx]
 bwd := fun l x r h => by
  have h' : (if l.length < 8 then none else some (sgn (numOf (l.take 8)), l.drop 8)) = some (x, r) := h
  split at h'
  ·cases h'
  ·cases h'
   have hl : (l.take 8).length = 8 := by rw [List.length_take]; omega
   obtain ⟨e, hi⟩ := num8_sgn _ hl
   exact ⟨by rw [e, List.take_append_drop], hi⟩
def Cod.nat : Cod Nat where
 enc := be8
 rd := fun l => if l.length < 8 then none else some (numOf (l.take 8), l.drop 8)
 ok := fun n => n < 18446744073709551616
 fwd := fun x hx r => by
  have e1 : (be8 x ++ r).take 8 = be8 x := List.take_left' (be8_len x)
  have e2 : (be8 x ++ r).drop 8 = r := List.drop_left' (be8_len x)
  show (if (be8 x ++ r).length < 8 then none else some (numOf ((be8 x ++ r).take 8), (be8 x ++ r).drop 8)) = _
  rw [if_neg (by rw [List.length_append, be8_len]; omega), e1, e2, numOf_be8 x hx]
 bwd := fun l x r h => by
  have h' : (if l.length < 8 then none else some (numOf (l.take 8), l.drop 8)) = some (x, r) := h
  split at h'
  ·cases h'
  ·cases h'
   have hl : (l.take 8).length = 8 := by rw [List.length_take]; omega
   exact ⟨by rw [be8_numOf _ hl, List.take_append_drop], numOf_eight _ hl⟩
def Cod.both {α β : Type} (a : Cod α) (b : Cod β) : Cod (α × β) where
 enc := fun x => a.enc x.1 ++ b.enc x.2
 rd := fun l => (a.rd l).bind fun p => (b.rd p.2).map fun q => ((p.1, q.1), q.2)
 ok := fun x => a.ok x.1 ∧ b.ok x.2
 fwd := fun x hx r => by
  simp [List.append_assoc, a.fwd x.1 hx.1, b.fwd x.2 hx.2]
 bwd := fun l x r h => by
  obtain ⟨p, hp, h2⟩ := Option.bind_eq_some_iff.1 h
  obtain ⟨q, hq, h3⟩ := Option.map_eq_some_iff.1 h2
  cases h3
  obtain ⟨e1, o1⟩ := a.bwd l p.1 p.2 hp
  obtain ⟨e2, o2⟩ := b.bwd p.2 q.1 q.2 hq
  exact ⟨by rw [List.append_assoc, ← e2, ← e1], o1, o2⟩
def Cod.as {α β : Type} (a : Cod α) (f : α → β) (g : β → α) (h1 : ∀ x, f (g x) = x) (h2 : ∀ x, g (f x) = x) : Cod β where
 enc := fun y => a.enc (g y)
 rd := fun l => (a.rd l).map fun p => (f p.1, p.2)
 ok := fun y => a.ok (g y)
 fwd := fun y hy r => by
  simp [a.fwd (g y) hy, h1]
 bwd := fun l y r h => by
  obtain ⟨q, hq, h3⟩ := Option.map_eq_some_iff.1 h
  cases h3
  obtain ⟨e1, o1⟩ := a.bwd l q.1 q.2 hq
  exact ⟨by rw [h2]; exact e1, by rw [h2]; exact o1⟩
def Cod.bool : Cod Bool where
 enc := fun b => num8 (if b then 1 else 0)
 rd := fun l => (Cod.num.rd l).bind fun p => if p.1 = 0 then some (false, p.2) else if p.1 = 1 then some (true, p.2) else none
 ok := fun _ => True
 fwd := fun b _ r => by
  have h := Cod.num.fwd (if b then 1 else 0) (by cases b <;> (show isInt _; unfold isInt; simp)) r
  show (Cod.num.rd (num8 (if b then 1 else 0) ++ r)).bind _ = _
  rw [show Cod.num.rd (num8 (if b then 1 else 0) ++ r) = some ((if b then 1 else 0), r) from h]
  cases b <;> rfl
 bwd := fun l x r h => by
  obtain ⟨p, hp, h2⟩ := Option.bind_eq_some_iff.1 h
  obtain ⟨e1, _⟩ := Cod.num.bwd l p.1 p.2 hp
  refine ⟨?_, trivial⟩
  split at h2
  ·rename_i h0
   cases h2
   rw [e1, h0]
   rfl
  ·split at h2
   ·rename_i h0
    cases h2
    rw [e1, h0]
    rfl
   ·cases h2
def Cod.text : Cod (List UInt8) where
 enc := fun s => num8 (s.length : Int) ++ s
 rd := fun l => (Cod.num.rd l).bind fun p => if p.1 < 0 ∨ (p.2.length : Int) < p.1 then none else some (p.2.take p.1.toNat, p.2.drop p.1.toNat)
 ok := fun s => isInt (s.length : Int)
 fwd := fun s hs r => by
  have h := Cod.num.fwd (s.length : Int) hs (s ++ r)
  show (Cod.num.rd (num8 (s.length : Int) ++ s ++ r)).bind _ = _
  rw [List.append_assoc, show Cod.num.rd (num8 (s.length : Int) ++ (s ++ r)) = some ((s.length : Int), s ++ r) from h]
  simp
  omega
 bwd := fun l x r h => by
  obtain ⟨p, hp, h2⟩ := Option.bind_eq_some_iff.1 h
  obtain ⟨e1, o1⟩ := Cod.num.bwd l p.1 p.2 hp
  split at h2
  ·cases h2
  ·rename_i h0
   cases h2
   have e : ((p.2.take p.1.toNat).length : Int) = p.1 := by rw [List.length_take]; omega
   refine ⟨?_, by rw [e]; exact o1⟩
   rw [e, List.append_assoc, List.take_append_drop]
   exact e1
def Cod.rdMany {α : Type} (a : Cod α) : Nat → List UInt8 → Option (List α × List UInt8)
 | 0, l => some ([], l)
 | n + 1, l => (a.rd l).bind fun p => (a.rdMany n p.2).map fun q => (p.1 :: q.1, q.2)
theorem Cod.many_fwd {α : Type} (a : Cod α) : ∀ (xs : List α), (∀ x ∈ xs, a.ok x) → ∀ r, a.rdMany xs.length (xs.flatMap a.enc ++ r) = some (xs, r)
 | [], _, r => rfl
 | x :: xs, h, r => by
  have h1 := a.fwd x (h x (by simp)) (xs.flatMap a.enc ++ r)
  have h2 := Cod.many_fwd a xs (fun y hy => h y (by simp [hy])) r
  rw [List.flatMap_cons, List.append_assoc]
  show (a.rd (a.enc x ++ (xs.flatMap a.enc ++ r))).bind _ = _
  rw [h1]
  simp [h2]
theorem Cod.many_bwd {α : Type} (a : Cod α) : ∀ (n : Nat) (l : List UInt8) (xs : List α) (r : List UInt8), a.rdMany n l = some (xs, r) → l = xs.flatMap a.enc ++ r ∧ xs.length = n ∧ ∀ x ∈ xs, a.ok x
 | 0, l, xs, r, h => by
  cases h
  exact ⟨rfl, rfl, by simp⟩
 | n + 1, l, xs, r, h => by
  obtain ⟨p, hp, h2⟩ := Option.bind_eq_some_iff.1 h
  obtain ⟨q, hq, h3⟩ := Option.map_eq_some_iff.1 h2
  cases h3
  obtain ⟨e1, o1⟩ := a.bwd l p.1 p.2 hp
  obtain ⟨e2, n2, o2⟩ := Cod.many_bwd a n p.2 q.1 q.2 hq
  refine ⟨by rw [List.flatMap_cons, List.append_assoc, ← e2, ← e1], by rw [List.length_cons, n2], ?_⟩
  intro x hx
  rcases List.mem_cons.1 hx with rfl | hx
  ·exact o1
  ·exact o2 x hx
def Cod.list {α : Type} (a : Cod α) : Cod (List α) where
 enc := fun xs => num8 (xs.length : Int) ++ xs.flatMap a.enc
 rd := fun l => (Cod.num.rd l).bind fun p => if p.1 < 0 then none else a.rdMany p.1.toNat p.2
 ok := fun xs => isInt (xs.length : Int) ∧ ∀ x ∈ xs, a.ok x
 fwd := fun xs hx r => by
  have h := Cod.num.fwd (xs.length : Int) hx.1 (xs.flatMap a.enc ++ r)
  show (Cod.num.rd (num8 (xs.length : Int) ++ xs.flatMap a.enc ++ r)).bind _ = _
  rw [List.append_assoc, show Cod.num.rd (num8 (xs.length : Int) ++ (xs.flatMap a.enc ++ r)) = some ((xs.length : Int), xs.flatMap a.enc ++ r) from h]
  show (if (xs.length : Int) < 0 then none else a.rdMany (xs.length : Int).toNat (xs.flatMap a.enc ++ r)) = _
  rw [if_neg (by omega), Int.toNat_natCast]
  exact a.many_fwd xs hx.2 r
 bwd := fun l x r h => by
  obtain ⟨p, hp, h2⟩ := Option.bind_eq_some_iff.1 h
  obtain ⟨e1, o1⟩ := Cod.num.bwd l p.1 p.2 hp
  split at h2
  ·cases h2
  ·rename_i h0
   obtain ⟨e2, n2, o2⟩ := a.many_bwd _ _ _ _ h2
   have e : (x.length : Int) = p.1 := by omega
   refine ⟨?_, by rw [e]; exact o1, o2⟩
   rw [e, List.append_assoc, ← e2]
   exact e1
theorem Cod.inj {α : Type} (a : Cod α) {x y : α} (hx : a.ok x) (hy : a.ok y) {r s : List UInt8} (h : a.enc x ++ r = a.enc y ++ s) : x = y ∧ r = s := by
 have h1 := a.fwd x hx r
 rw [h, a.fwd y hy s] at h1
 cases h1
 exact ⟨rfl, rfl⟩

structure Val where
 k : Int
 n : Int
 f : Nat
 s : ByteArray
def Val.ok (x : Val) : Prop := (-9223372036854775808 ≤ x.n ∧ x.n ≤ 9223372036854775807) ∧ x.f < 18446744073709551616
def Val.v (x : Val) : Value := .agg #[.int .i64 x.k, .int .i64 x.n, .int .u64 (x.f : Int), .string x.s]
def Val.may (x : Val) : Bool := Num.may x.k x.n x.f x.s
def Val.put (x : Val) : List UInt8 := putL x.k x.n x.f x.s

structure Colm where
 id : Int
 name : ByteArray
 kind : Int
 state : Int
 null : Int
 d : Val
def Colm.ok (c : Colm) : Prop := -9223372036854775808 ≤ c.id ∧ c.id ≤ 9223372036854775807

structure Idx where
 id : Int
 name : ByteArray
 cols : List Int
 uniq : Bool
 state : Int
structure Tab where
 id : Int
 name : ByteArray
 cols : List Colm
 idxs : List Idx
 next : Int
def Cod.str : Cod ByteArray := Cod.text.as Num.str (fun s => s.data.toList) (fun _ => rfl) (fun _ => rfl)
def Cod.val : Cod Val := (Cod.num.both (Cod.num.both (Cod.nat.both Cod.str))).as (fun p => ⟨p.1, p.2.1, p.2.2.1, p.2.2.2⟩) (fun v => (v.k, v.n, v.f, v.s)) (fun _ => rfl) (fun _ => rfl)
def Cod.col : Cod Colm := (Cod.num.both (Cod.str.both (Cod.num.both (Cod.num.both (Cod.num.both Cod.val))))).as (fun p => ⟨p.1, p.2.1, p.2.2.1, p.2.2.2.1, p.2.2.2.2.1, p.2.2.2.2.2⟩) (fun c => (c.id, c.name, c.kind, c.state, c.null, c.d)) (fun _ => rfl) (fun _ => rfl)
def Cod.idx : Cod Idx := (Cod.num.both (Cod.str.both ((Cod.list Cod.num).both (Cod.bool.both Cod.num)))).as (fun p => ⟨p.1, p.2.1, p.2.2.1, p.2.2.2.1, p.2.2.2.2⟩) (fun x => (x.id, x.name, x.cols, x.uniq, x.state)) (fun _ => rfl) (fun _ => rfl)
def Cod.tab : Cod Tab := (Cod.num.both (Cod.str.both ((Cod.list Cod.col).both ((Cod.list Cod.idx).both Cod.num)))).as (fun p => ⟨p.1, p.2.1, p.2.2.1, p.2.2.2.1, p.2.2.2.2⟩) (fun t => (t.id, t.name, t.cols, t.idxs, t.next)) (fun _ => rfl) (fun _ => rfl)
def lowB (b : UInt8) : Bool := decide (97 ≤ b.toNat) && decide (b.toNat ≤ 122)
def digB (b : UInt8) : Bool := decide (48 ≤ b.toNat) && decide (b.toNat ≤ 57)
def letB (b : UInt8) : Bool := lowB b || digB b || decide (b.toNat = 95)
def words : List (List UInt8) := [[105, 110, 115, 101, 114, 116], [105, 110, 116, 111], [118, 97, 108, 117, 101, 115], [117, 112, 100, 97, 116, 101], [115, 101, 116], [119, 104, 101, 114, 101], [97, 110, 100], [100, 101, 108, 101, 116, 101], [102, 114, 111, 109], [115, 101, 108, 101, 99, 116], [99, 114, 101, 97, 116, 101], [117, 110, 105, 113, 117, 101], [116, 97, 98, 108, 101], [105, 110, 100, 101, 120], [111, 110], [100, 114, 111, 112], [97, 108, 116, 101, 114], [97, 100, 100], [99, 111, 108, 117, 109, 110], [100, 101, 102, 97, 117, 108, 116], [110, 111, 116], [110, 117, 108, 108], [105, 115], [112, 114, 105, 109, 97, 114, 121], [107, 101, 121], [98, 111, 111, 108], [105, 110, 116], [102, 108, 111, 97, 116], [98, 121, 116, 101, 115], [116, 101, 120, 116], [116, 114, 117, 101], [102, 97, 108, 115, 101]]

structure Tok where
 k : Int
 t : ByteArray
 v : Val
 p : Nat
def noV : Val := ⟨0, 0, 0, ⟨#[]⟩⟩
def runL (p : UInt8 → Bool) : List UInt8 → Nat
 | [] => 0
 | c :: r => if p c = true then runL p r + 1 else 0
def hexB (b : UInt8) : Bool := digB b || (decide (97 ≤ b.toNat) && decide (b.toNat ≤ 102))
def blankB (b : UInt8) : Bool := decide (b.toNat = 32) || decide (b.toNat = 9) || decide (b.toNat = 10)
def plainB (b : UInt8) : Bool := decide (32 ≤ b.toNat) && decide (b.toNat ≤ 126)
def signs : List UInt8 := [40, 41, 44, 59, 61, 60, 62, 43, 42]
def signB (b : UInt8) : Bool := signs.contains b
def nib (b : UInt8) : Nat := if digB b = true then b.toNat - 48 else b.toNat - 87
def hexNum (l : List UInt8) : Nat := l.foldl (fun n c => n * 16 + nib c) 0
def pairsL : List UInt8 → List UInt8
 | a :: b :: r => UInt8.ofNat (nib a * 16 + nib b) :: pairsL r
 | _ => []
abbrev Tk := Int × Nat × Val
def nameT (l : List UInt8) : Option Tk :=
 if runL letB l ≤ 16 then some (if words.contains (l.take (runL letB l)) = true then 1 else 2, runL letB l, noV) else none
def intT (l : List UInt8) : Option Tk :=
 match Go.Lib.parseIntB 64 l with
 | .ok n => if Go.Lib.itoa n = l then some (3, l.length, ⟨2, n, 0, ⟨#[]⟩⟩) else none
 | _ => none
def textG : List UInt8 → Option (List UInt8 × Nat)
 | [] => none
 | c :: r =>
  if c.toNat = 39 then
   match r with
   | [] => some ([], 1)
   | d :: q => if d.toNat = 39 then (textG q).map (fun x => (c :: x.1, x.2 + 2)) else some ([], 1)
  else if plainB c = true then (textG r).map (fun x => (c :: x.1, x.2 + 1)) else none
def textT (r : List UInt8) : Option Tk :=
 match textG r with
 | some x => if x.1.length ≤ 40 then some (3, x.2 + 1, ⟨5, 0, 0, str x.1⟩) else none
 | none => none
def digsG (r : List UInt8) : Option (List UInt8) :=
 if (r.drop (runL hexB r)).head? = some 39 then some (r.take (runL hexB r)) else none
def bytesT (r : List UInt8) : Option Tk :=
 match digsG r with
 | some d => if d.length % 2 = 0 ∧ d.length ≤ 80 then some (3, d.length + 3, ⟨4, 0, 0, str (pairsL d)⟩) else none
 | none => none
def floatT (r : List UInt8) : Option Tk :=
 match digsG r with
 | some d => if d.length = 16 then some (3, 19, ⟨3, 0, canon (hexNum d), ⟨#[]⟩⟩) else none
 | none => none
def tokL : List UInt8 → Option Tk
 | [] => none
 | c :: r =>
  if c.toNat = 120 ∧ r.head? = some 39 then bytesT (r.drop 1)
  else if c.toNat = 102 ∧ r.head? = some 39 then floatT (r.drop 1)
  else if lowB c = true then nameT (c :: r)
  else if digB c = true ∨ c.toNat = 45 then intT (c :: r.take (runL letB r))
  else if c.toNat = 39 then textT r
  else if signB c = true then some (4, 1, noV)
  else none
abbrev Said := Option (List Tok) × Nat
def pre (a : List Tok) (x : Said) : Said := (x.1.map (a ++ ·), x.2)
def lexG : Nat → Nat → List UInt8 → Said
 | 0, p, _ => (some [⟨0, ⟨#[]⟩, noV, p⟩], 0)
 | _ + 1, p, [] => (some [⟨0, ⟨#[]⟩, noV, p⟩], 0)
 | N + 1, p, c :: r =>
  if blankB c = true then lexG N (p + 1) r
  else match tokL (c :: r) with
   | none => (none, p)
   | some x => pre [⟨x.1, str ((c :: r).take x.2.1), x.2.2, p⟩] (lexG N (p + x.2.1) ((c :: r).drop x.2.1))
def lexAt (s : ByteArray) (p : Nat) : Said := lexG (s.size - p) p (s.data.toList.drop p)

theorem pre_pre (a b : List Tok) (x : Said) : pre a (pre b x) = pre (a ++ b) x := by
 unfold pre
 cases x.1 with
 | none => rfl
 | some l => simp
theorem pre_nil (x : Said) : pre [] x = x := by
 obtain ⟨o, n⟩ := x
 cases o with
 | none => rfl
 | some l => simp [pre]
theorem runL_le (p : UInt8 → Bool) : ∀ l : List UInt8, runL p l ≤ l.length
 | [] => by simp [runL]
 | c :: r => by
  have := runL_le p r
  unfold runL
  split
  ·simp; omega
  ·simp
theorem runL_at (p : UInt8 → Bool) : ∀ (l : List UInt8) (k : Nat) (hk : k < l.length), (∀ j (hj : j < l.length), j < k → p l[j] = true) → p l[k] = false → runL p l = k
 | [], k, hk, _, _ => by simp at hk
 | c :: r, 0, _, _, h => by
  have h : p c = false := h
  simp [runL, h]
 | c :: r, k + 1, hk, ha, h => by
  have hc : p c = true := ha 0 (by simp) (by omega)
  have := runL_at p r k (by simpa using hk) (fun j hj hjk => ha (j + 1) (by simpa using hj) (by omega)) h
  simp [runL, hc, this]
theorem runL_all (p : UInt8 → Bool) : ∀ (l : List UInt8), (∀ j (hj : j < l.length), p l[j] = true) → runL p l = l.length
 | [], _ => rfl
 | c :: r, ha => by
  have hc : p c = true := ha 0 (by simp)
  have := runL_all p r (fun j hj => ha (j + 1) (by simpa using hj))
  simp [runL, hc, this]
theorem runL_in (p : UInt8 → Bool) : ∀ (l : List UInt8) (j : Nat) (hj : j < l.length), j < runL p l → p l[j] = true
 | [], j, hj, _ => by simp at hj
 | c :: r, j, hj, h => by
  unfold runL at h
  split at h
  ·rename_i hc
   cases j with
   | zero => exact hc
   | succ j => exact runL_in p r j (by simpa using hj) (by omega)
  ·omega
theorem runL_end (p : UInt8 → Bool) : ∀ (l : List UInt8) (h : runL p l < l.length), p l[runL p l] = false
 | [], h => by simp at h
 | c :: r, h => by
  by_cases hc : p c = true
  ·have e : runL p (c :: r) = runL p r + 1 := by simp [runL, hc]
   have h2 : runL p r < r.length := by
    rw [e] at h
    simpa using h
   have := runL_end p r h2
   simp only [e, List.getElem_cons_succ]
   exact this
  ·have e : runL p (c :: r) = 0 := by simp [runL, hc]
   simp only [e, List.getElem_cons_zero]
   simpa using hc
theorem textG_len : ∀ (n : Nat) (l : List UInt8) (x : List UInt8 × Nat), l.length ≤ n → textG l = some x → 1 ≤ x.2 ∧ x.2 ≤ l.length
 | 0, l, x, hn, h => by
  obtain rfl : l = [] := List.length_eq_zero_iff.1 (by omega)
  simp [textG] at h
 | n + 1, [], x, _, h => by simp [textG] at h
 | n + 1, c :: r, x, hn, h => by
  simp only [List.length_cons] at hn
  unfold textG at h
  split at h
  ·cases r with
   | nil =>
    simp only [Option.some.injEq] at h
    subst h
    simp
   | cons d q =>
    simp only at h
    split at h
    ·cases hq : textG q with
     | none => rw [hq] at h; simp at h
     | some y =>
      rw [hq] at h
      simp only [Option.map_some, Option.some.injEq] at h
      subst h
      have := textG_len n q y (by simp only [List.length_cons] at hn; omega) hq
      simp only [List.length_cons]
      omega
    ·simp only [Option.some.injEq] at h
     subst h
     simp
  ·split at h
   ·cases hq : textG r with
    | none => rw [hq] at h; simp at h
    | some y =>
     rw [hq] at h
     simp only [Option.map_some, Option.some.injEq] at h
     subst h
     have := textG_len n r y (by omega) hq
     simp only [List.length_cons]
     omega
   ·cases h
theorem digsG_len {r d : List UInt8} (h : digsG r = some d) : d.length + 1 ≤ r.length := by
 unfold digsG at h
 split at h
 ·rename_i h1
  have hr := runL_le hexB r
  obtain rfl : r.take (runL hexB r) = d := Option.some.inj h
  rw [List.length_take]
  cases hd : r.drop (runL hexB r) with
  | nil => rw [hd] at h1; simp at h1
  | cons a b =>
   have := congrArg List.length hd
   simp only [List.length_drop, List.length_cons] at this
   omega
 ·cases h
theorem tokL_len (l : List UInt8) (x : Tk) (h : tokL l = some x) : 1 ≤ x.2.1 ∧ x.2.1 ≤ l.length := by
 cases l with
 | nil => simp [tokL] at h
 | cons c r =>
  rw [tokL] at h
  split at h
  ·rename_i h1
   obtain ⟨_, h1⟩ := h1
   cases r with
   | nil => simp at h1
   | cons a q =>
    simp only [List.drop_succ_cons, List.drop_zero] at h
    unfold bytesT at h
    split at h
    ·rename_i d hd
     have := digsG_len hd
     split at h
     ·obtain rfl := Option.some.inj h
      simp only [List.length_cons]
      omega
     ·cases h
    ·cases h
  ·split at h
   ·rename_i h1
    obtain ⟨_, h1⟩ := h1
    cases r with
    | nil => simp at h1
    | cons a q =>
     simp only [List.drop_succ_cons, List.drop_zero] at h
     unfold floatT at h
     split at h
     ·rename_i d hd
      have := digsG_len hd
      split at h
      ·obtain rfl := Option.some.inj h
       simp only [List.length_cons]
       omega
      ·cases h
     ·cases h
   ·split at h
    ·rename_i hl
     unfold nameT at h
     split at h
     ·obtain rfl := Option.some.inj h
      refine ⟨?_, runL_le _ _⟩
      simp [runL, letB, hl]
     ·cases h
    ·split at h
     ·unfold intT at h
      split at h
      ·split at h
       ·obtain rfl := Option.some.inj h
        have := runL_le letB r
        simp only [List.length_cons, List.length_take]
        omega
       ·cases h
      ·cases h
     ·split at h
      ·unfold textT at h
       split at h
       ·rename_i y hy
        have := textG_len _ _ _ (Nat.le_refl _) hy
        split at h
        ·obtain rfl := Option.some.inj h
         simp only [List.length_cons]
         omega
        ·cases h
       ·cases h
      ·split at h
       ·obtain rfl := Option.some.inj h
        simp
       ·cases h
theorem lexG_more : ∀ (N M p : Nat) (l : List UInt8), l.length ≤ N → l.length ≤ M → lexG N p l = lexG M p l
 | 0, 0, _, _, _, _ => rfl
 | 0, M + 1, p, l, h, _ => by
  obtain rfl : l = [] := List.length_eq_zero_iff.1 (by omega)
  rfl
 | N + 1, 0, p, l, _, h => by
  obtain rfl : l = [] := List.length_eq_zero_iff.1 (by omega)
  rfl
 | N + 1, M + 1, p, [], _, _ => rfl
 | N + 1, M + 1, p, c :: r, hN, hM => by
  simp only [List.length_cons] at hN hM
  unfold lexG
  split
  ·exact lexG_more N M _ _ (by omega) (by omega)
  ·split
   ·rfl
   ·rename_i x hx
    have := tokL_len _ _ hx
    simp only [List.length_cons] at this
    rw [lexG_more N M _ _ (by simp only [List.length_drop, List.length_cons]; omega) (by simp only [List.length_drop, List.length_cons]; omega)]
theorem sdrop_at (s : ByteArray) (p : Nat) (h : p < s.size) : s.data.toList.drop p = s[p] :: s.data.toList.drop (p + 1) := by
 rw [List.drop_eq_getElem_cons (by simpa using h)]
 rfl
theorem lexAt_end (s : ByteArray) (p : Nat) (h : s.size ≤ p) : lexAt s p = (some [⟨0, ⟨#[]⟩, noV, p⟩], 0) := by
 unfold lexAt
 rw [show s.size - p = 0 by omega]
 rfl
theorem lexAt_blank (s : ByteArray) (p : Nat) (h : p < s.size) (hb : blankB s[p] = true) : lexAt s p = lexAt s (p + 1) := by
 have hd : s.data.toList.length = s.size := rfl
 unfold lexAt
 rw [sdrop_at s p h, show s.size - p = (s.size - (p + 1)) + 1 by omega]
 show (if blankB s[p] = true then _ else _) = _
 rw [if_pos hb]
theorem lexAt_bad (s : ByteArray) (p : Nat) (h : p < s.size) (hb : blankB s[p] = false) (ht : tokL (s.data.toList.drop p) = none) : lexAt s p = (none, p) := by
 unfold lexAt
 rw [sdrop_at s p h] at ht ⊢
 rw [show s.size - p = (s.size - (p + 1)) + 1 by omega]
 show (if blankB s[p] = true then _ else _) = _
 rw [if_neg (by simp [hb]), ht]
theorem lexAt_tok (s : ByteArray) (p : Nat) (h : p < s.size) (hb : blankB s[p] = false) (k : Int) (n : Nat) (v : Val) (ht : tokL (s.data.toList.drop p) = some (k, n, v)) : lexAt s p = pre [⟨k, str ((s.data.toList.drop p).take n), v, p⟩] (lexAt s (p + n)) := by
 have hn := tokL_len _ _ ht
 have hd : s.data.toList.length = s.size := rfl
 simp only [List.length_drop] at hn
 unfold lexAt
 rw [show s.data.toList.drop (p + n) = (s.data.toList.drop p).drop n by rw [List.drop_drop]]
 rw [lexG_more (s.size - (p + n)) (s.size - (p + 1)) (p + n) _ (by simp only [List.length_drop]; omega) (by simp only [List.length_drop]; omega)]
 rw [sdrop_at s p h] at ht ⊢
 rw [show s.size - p = (s.size - (p + 1)) + 1 by omega]
 show (if blankB s[p] = true then _ else _) = _
 rw [if_neg (by simp [hb]), ht]

def decVal (l : List UInt8) : Nat := l.foldl (fun a c => a * 10 + (c.toNat - 48)) 0
def canonD (d : List UInt8) : Prop := 1 ≤ d.length ∧ d.all digB = true ∧ (d.length ≤ 1 ∨ d.headD 0 ≠ 48)

theorem digB_iff (c : UInt8) : digB c = true ↔ 48 ≤ c.toNat ∧ c.toNat ≤ 57 := by simp [digB]
theorem decVal_snoc (l : List UInt8) (c : UInt8) : decVal (l ++ [c]) = decVal l * 10 + (c.toNat - 48) := by simp [decVal]
theorem fold_le : ∀ (l : List UInt8) (a : Nat), a ≤ l.foldl (fun a c => a * 10 + (c.toNat - 48)) a
 | [], _ => Nat.le_refl _
 | c :: r, a => by
  have := fold_le r (a * 10 + (c.toNat - 48))
  simp only [List.foldl_cons]
  omega
theorem decVal_take (l : List UInt8) (j : Nat) : decVal (l.take j) ≤ decVal l := by
 have h := fold_le (l.drop j) (decVal (l.take j))
 have e : decVal l = (l.drop j).foldl (fun a c => a * 10 + (c.toNat - 48)) (decVal (l.take j)) := by
  unfold decVal
  rw [← List.foldl_append, List.take_append_drop]
 omega
theorem decVal_take_succ (l : List UInt8) (j : Nat) (h : j < l.length) : decVal (l.take (j + 1)) = decVal (l.take j) * 10 + (l[j].toNat - 48) := by
 rw [List.take_add_one, List.getElem?_eq_getElem h]
 exact decVal_snoc _ _
theorem decVal_pos {c : UInt8} {l : List UInt8} (h : 49 ≤ c.toNat) : 1 ≤ decVal (c :: l) := by
 have := decVal_take (c :: l) 1
 have e : decVal ((c :: l).take 1) = c.toNat - 48 := by simp [decVal]
 omega
theorem digit_of (c : UInt8) (h : digB c = true) : UInt8.ofNat (48 + (c.toNat - 48)) = c := by
 have := (digB_iff c).1 h
 rw [show 48 + (c.toNat - 48) = c.toNat by omega]
 exact UInt8.ofNat_toNat
theorem dec_of : ∀ (n : Nat) (d : List UInt8), d.length = n → canonD d → Go.Lib.decDigits (decVal d) = d
 | 0, d, hn, h => by have := h.1; omega
 | n + 1, d, hn, h => by
  obtain ⟨l, c, rfl⟩ : ∃ l c, d = l ++ [c] := by
   have hne : d ≠ [] := by intro e; subst e; simp at hn
   exact ⟨d.dropLast, d.getLast hne, (List.dropLast_concat_getLast hne).symm⟩
  obtain ⟨_, ha, hz⟩ := h
  rw [List.all_append, Bool.and_eq_true, List.all_cons, List.all_nil, Bool.and_true] at ha
  have hc := (digB_iff c).1 ha.2
  rw [decVal_snoc]
  cases l with
  | nil =>
   rw [show decVal [] = 0 from rfl, Go.Lib.decDigits, dif_pos (by omega), show 48 + (0 * 10 + (c.toNat - 48)) = 48 + (c.toNat - 48) by omega, digit_of c ha.2]
   rfl
  | cons a r =>
   have h1 : a ≠ 48 := by
    rcases hz with hz | hz
    ·simp at hz
    ·simpa using hz
   have haa : digB a = true := by
    have := ha.1
    simp only [List.all_cons, Bool.and_eq_true] at this
    exact this.1
   have h48 : a.toNat ≠ 48 := fun e => h1 (UInt8.toNat_inj.1 e)
   have h49 := (digB_iff a).1 haa
   have hp := decVal_pos (c := a) (l := r) (by omega)
   have ih := dec_of n (a :: r) (by simpa using hn) ⟨by simp, ha.1, .inr (by simpa using h1)⟩
   rw [Go.Lib.decDigits, dif_neg (by omega), show (decVal (a :: r) * 10 + (c.toNat - 48)) / 10 = decVal (a :: r) by omega, ih, show (decVal (a :: r) * 10 + (c.toNat - 48)) % 10 = c.toNat - 48 by omega, digit_of c ha.2]
theorem ofNat_toNat {k : Nat} (h : k < 256) : (UInt8.ofNat k).toNat = k := by
 show k % 256 = k
 exact Nat.mod_eq_of_lt h
theorem dec_canon (u : Nat) : canonD (Go.Lib.decDigits u) ∧ decVal (Go.Lib.decDigits u) = u ∧ (1 ≤ u → (Go.Lib.decDigits u).headD 0 ≠ 48) := by
 induction u using Nat.strongRecOn with
 | ind u ih =>
  rw [Go.Lib.decDigits]
  by_cases h : u < 10
  ·rw [dif_pos h]
   have e := ofNat_toNat (k := 48 + u) (by omega)
   refine ⟨⟨by simp, ?_, .inl (by simp)⟩, ?_, ?_⟩
   ·simp only [List.all_cons, List.all_nil, Bool.and_true]
    rw [digB_iff]
    omega
   ·show (0 * 10 + ((UInt8.ofNat (48 + u)).toNat - 48)) = u
    omega
   ·intro h1 h2
    have h2 : UInt8.ofNat (48 + u) = 48 := h2
    have := congrArg UInt8.toNat h2
    rw [e] at this
    simp at this
    omega
  ·rw [dif_neg h]
   obtain ⟨⟨a, b, c⟩, d, e⟩ := ih (u / 10) (by omega)
   have hx := ofNat_toNat (k := 48 + u % 10) (by omega)
   generalize Go.Lib.decDigits (u / 10) = l at *
   have hh : (l ++ [UInt8.ofNat (48 + u % 10)]).headD 0 ≠ 48 := by
    cases l with
    | nil => simp at a
    | cons x y => simpa using e (by omega)
   refine ⟨⟨by simp, ?_, .inr hh⟩, ?_, fun _ => hh⟩
   ·rw [List.all_append, b, Bool.true_and, List.all_cons, List.all_nil, Bool.and_true, digB_iff]
    omega
   ·rw [decVal_snoc, d]
    omega
theorem parse_digits : ∀ (l : List UInt8) (a : Nat), l.all digB = true → l.foldl (fun a c => a * 10 + (c.toNat - 48)) a < 18446744073709551616 → Go.Lib.parseUint10 a l = .ok (l.foldl (fun a c => a * 10 + (c.toNat - 48)) a)
 | [], _, _, _ => rfl
 | c :: r, a, ha, hb => by
  simp only [List.all_cons, Bool.and_eq_true] at ha
  have h1 := fold_le r (a * 10 + (c.toNat - 48))
  simp only [List.foldl_cons] at hb ⊢
  rw [Go.Lib.parseUint10, if_pos ((digB_iff c).1 ha.1), if_neg (by omega), if_neg (by omega)]
  exact parse_digits r _ ha.2 hb
theorem parse_dec (u : Nat) (h : u < 18446744073709551616) : Go.Lib.parseUintB 64 (Go.Lib.decDigits u) = .ok u := by
 obtain ⟨⟨h1, h2, _⟩, h3, _⟩ := dec_canon u
 rw [Go.Lib.parseUintB_64, Go.Lib.parseMag, if_neg (by intro e; rw [e] at h1; simp at h1)]
 have := parse_digits _ 0 h2 (by show decVal _ < _; omega)
 rw [this]
 show Go.Lib.NumEnd.ok (decVal (Go.Lib.decDigits u)) = _
 rw [h3]
theorem dec_head (u : Nat) : ∃ c r, Go.Lib.decDigits u = c :: r ∧ digB c = true := by
 obtain ⟨⟨h1, h2, _⟩, _, _⟩ := dec_canon u
 cases h : Go.Lib.decDigits u with
 | nil => rw [h] at h1; simp at h1
 | cons c r =>
  rw [h] at h2
  simp only [List.all_cons, Bool.and_eq_true] at h2
  exact ⟨c, r, rfl, h2.1⟩
theorem parse_itoa (n : Int) (h0 : -9223372036854775808 ≤ n) (h1 : n ≤ 9223372036854775807) : Go.Lib.parseIntB 64 (Go.Lib.itoa n) = .ok n := by
 unfold Go.Lib.itoa
 by_cases h : n < 0
 ·rw [if_pos h, Go.Lib.parseIntB_minus, parse_dec _ (by omega)]
  show Go.Lib.signedC (2 ^ 63) (.ok n.natAbs) = _
  unfold Go.Lib.signedC
  simp only
  rw [if_neg (by omega)]
  congr 1
  omega
 ·obtain ⟨c, r, e, hc⟩ := dec_head n.toNat
  have hc := (digB_iff c).1 hc
  rw [if_neg h, e, Go.Lib.parseIntB_plain _ _ _ (by omega) (by omega), ← e, parse_dec _ (by omega)]
  show Go.Lib.signlessC (2 ^ 63) (.ok n.toNat) = _
  unfold Go.Lib.signlessC
  simp only
  rw [if_neg (by omega)]
  congr 1
  omega
theorem intT_itoa (n : Int) (h0 : -9223372036854775808 ≤ n) (h1 : n ≤ 9223372036854775807) : intT (Go.Lib.itoa n) = some (3, (Go.Lib.itoa n).length, ⟨2, n, 0, ⟨#[]⟩⟩) := by
 unfold intT
 rw [parse_itoa n h0 h1]
 simp
theorem intT_some {t : List UInt8} {x : Tk} (h : intT t = some x) : ∃ n : Int, -9223372036854775808 ≤ n ∧ n ≤ 9223372036854775807 ∧ Go.Lib.itoa n = t := by
 unfold intT at h
 cases hp : Go.Lib.parseIntB 64 t with
 | ok n =>
  rw [hp] at h
  simp only at h
  split at h
  ·rename_i e
   have := Go.Lib.parseIntB_bounds hp
   simp only [Nat.add_one_sub_one, Nat.reducePow] at this
   exact ⟨n, by omega, by omega, e⟩
  ·cases h
 | _ => rw [hp] at h; cases h
theorem intT_minus (d : List UInt8) (h : canonD d) (h1 : 1 ≤ decVal d) (h2 : decVal d ≤ 9223372036854775808) : intT (45 :: d) = some (3, d.length + 1, ⟨2, -(decVal d : Int), 0, ⟨#[]⟩⟩) := by
 have e : Go.Lib.itoa (-(decVal d : Int)) = 45 :: d := by
  unfold Go.Lib.itoa
  rw [if_pos (by omega), show (-(decVal d : Int)).natAbs = decVal d by omega, dec_of _ d rfl h]
 have := intT_itoa (-(decVal d : Int)) (by omega) (by omega)
 rw [e] at this
 exact this
theorem intT_plus (d : List UInt8) (h : canonD d) (h2 : decVal d < 9223372036854775808) : intT d = some (3, d.length, ⟨2, (decVal d : Int), 0, ⟨#[]⟩⟩) := by
 have e : Go.Lib.itoa (decVal d : Int) = d := by
  unfold Go.Lib.itoa
  rw [if_neg (by omega), show (decVal d : Int).toNat = decVal d by omega, dec_of _ d rfl h]
 have := intT_itoa (decVal d : Int) (by omega) (by omega)
 rw [e] at this
 exact this
theorem intT_minus_no (d : List UInt8) (h : ¬ (canonD d ∧ 1 ≤ decVal d ∧ decVal d ≤ 9223372036854775808)) : intT (45 :: d) = none := by
 cases hx : intT (45 :: d) with
 | none => rfl
 | some x =>
  obtain ⟨n, h0, h1, e⟩ := intT_some hx
  unfold Go.Lib.itoa at e
  split at e
  ·injection e with _ e
   obtain ⟨a, b, _⟩ := dec_canon n.natAbs
   rw [e] at a b
   exact absurd ⟨a, by omega, by omega⟩ h
  ·obtain ⟨c, r, e2, hc⟩ := dec_head n.toNat
   have hc := (digB_iff c).1 hc
   rw [e2] at e
   injection e with e _
   subst e
   simp at hc
theorem intT_plus_no (c : UInt8) (d : List UInt8) (h45 : c.toNat ≠ 45) (h : ¬ (canonD (c :: d) ∧ decVal (c :: d) < 9223372036854775808)) : intT (c :: d) = none := by
 cases hx : intT (c :: d) with
 | none => rfl
 | some x =>
  obtain ⟨n, h0, h1, e⟩ := intT_some hx
  unfold Go.Lib.itoa at e
  split at e
  ·injection e with e _
   subst e
   simp at h45
  ·obtain ⟨a, b, _⟩ := dec_canon n.toNat
   rw [e] at a b
   exact absurd ⟨a, by omega⟩ h

def DigsTo (l : List UInt8) (j : Nat) : Prop := j ≤ l.length ∧ ∀ i (hi : i < l.length), i < j → digB l[i] = true
theorem digB_let {c : UInt8} (h : digB c = true) : letB c = true := by simp [letB, h]
theorem digsTo_run {l : List UInt8} {j : Nat} (h : DigsTo l j) (he : ∀ hj : j < l.length, letB l[j] = false) : runL letB l = j := by
 by_cases hj : j < l.length
 ·exact runL_at letB l j hj (fun i hi hij => digB_let (h.2 i hi hij)) (he hj)
 ·have := h.1
  obtain rfl : j = l.length := by omega
  exact runL_all letB l fun i hi => digB_let (h.2 i hi hi)
theorem digsTo_more {l : List UInt8} {j : Nat} (h : DigsTo l j) : j ≤ runL letB l := by
 by_cases hr : runL letB l < j
 ·have h1 := h.1
  have := runL_end letB l (by omega)
  rw [digB_let (h.2 _ (by omega) hr)] at this
  cases this
 ·omega
theorem digsTo_all {l : List UInt8} {j : Nat} (h : DigsTo l j) : (l.take j).all digB = true := by
 rw [List.all_eq_true]
 intro x hx
 obtain ⟨i, hi, rfl⟩ := List.getElem_of_mem hx
 rw [List.length_take] at hi
 rw [List.getElem_take]
 exact h.2 i (by omega) (by omega)
theorem letter_no {l : List UInt8} {j : Nat} (h : DigsTo l j) (hj : j < l.length) (hl : letB l[j] = true) (hd : digB l[j] = false) : ¬ canonD (l.take (runL letB l)) := by
 intro hc
 have hr : j < runL letB l := by
  have := digsTo_more h
  by_cases e : j = runL letB l
  ·subst e
   rw [runL_end letB l hj] at hl
   cases hl
  ·omega
 have := List.all_eq_true.1 hc.2.1 l[j] (by
  refine List.mem_iff_getElem.2 ⟨j, by rw [List.length_take]; omega, ?_⟩
  rw [List.getElem_take])
 rw [hd] at this
 cases this
theorem great_no {l : List UInt8} {j : Nat} (h : DigsTo l j) (hg : 9223372036854775808 < decVal (l.take j)) : ¬ (decVal (l.take (runL letB l)) ≤ 9223372036854775808) := by
 have hj := digsTo_more h
 have := decVal_take (l.take (runL letB l)) j
 rw [List.take_take, Nat.min_eq_left hj] at this
 omega
theorem canon_of {l : List UInt8} {j : Nat} (h : DigsTo l j) (h1 : 1 ≤ j) (hz : j ≤ 1 ∨ l.headD 0 ≠ 48) : canonD (l.take j) := by
 have hj := h.1
 refine ⟨by rw [List.length_take]; omega, digsTo_all h, ?_⟩
 rcases hz with hz | hz
 ·left
  rw [List.length_take]
  omega
 ·right
  cases l with
  | nil => simp at hj; omega
  | cons c r =>
   obtain ⟨j, rfl⟩ : ∃ i, j = i + 1 := ⟨j - 1, by omega⟩
   simpa using hz
theorem nought_no {l : List UInt8} {j : Nat} (hj : j ≤ l.length) (h1 : 1 < j) (hz : l.headD 0 = 48) : ¬ canonD (l.take j) := by
 rintro ⟨_, _, h⟩
 rw [List.length_take] at h
 rcases h with h | h
 ·omega
 ·cases l with
  | nil => simp at hj; omega
  | cons c r =>
   obtain ⟨j, rfl⟩ : ∃ i, j = i + 1 := ⟨j - 1, by omega⟩
   exact h (by simpa using hz)
end Go.Proofs.YtiajlhjjmlakmaaGreatDoor.Num
namespace Go.Proofs.YtiajlhjjmlakmaaGreatDoor
open Go.RowKit Num

theorem below_next {B : Nat} {a w w' : World} (h : Below B a w) (hB : B ≤ a.heap.size) (h2 : Below w.heap.size w w') : Below B a w' := h.trans (h2.mono (Nat.le_trans hB h.size))

end Go.Proofs.YtiajlhjjmlakmaaGreatDoor
namespace Go.Proofs.YtiajlhjjmlakmaaGreatDoor.Num
set_option linter.unusedSimpArgs false
set_option linter.unusedVariables false

abbrev TkC := Int × ByteArray × Val
def cont (x : Tok) : TkC := (x.k, x.t, x.v)
abbrev Rd (α : Type) := List TkC → Option α × List TkC
def ret {α : Type} (x : α) : Rd α := fun r => (some x, r)
def bnd {α β : Type} (a : Rd α) (f : α → Rd β) : Rd β := fun r => match a r with
 | (some x, q) => f x q
 | (none, q) => (none, q)
def isT (s : ByteArray) : List TkC → Bool
 | [] => false
 | x :: _ => x.2.1.data.toList == s.data.toList
def takeR (s : ByteArray) : Rd Unit := fun r => if isT s r = true then (some (), r.tail) else (none, r)
def opt {α : Type} (s : ByteArray) (yes no : Rd α) : Rd α := fun r => if isT s r = true then yes r.tail else no r
def kindR (k : Int) : Rd TkC
 | [] => (none, [])
 | x :: q => if x.1 = k then (some x, q) else (none, x :: q)
def nameR : Rd ByteArray := bnd (kindR 2) fun x => ret x.2.1
def valueR : Rd Val := opt ⟨#[110, 117, 108, 108]⟩ (ret ⟨0, 0, 0, ⟨#[]⟩⟩) (opt ⟨#[116, 114, 117, 101]⟩ (ret ⟨1, 1, 0, ⟨#[]⟩⟩) (opt ⟨#[102, 97, 108, 115, 101]⟩ (ret ⟨1, 0, 0, ⟨#[]⟩⟩) (bnd (kindR 3) fun x => ret x.2.2)))
def listN {α : Type} (sep : ByteArray) (rd : Rd α) : Nat → List α → Rd (List α)
 | 0, acc => ret acc
 | n + 1, acc => opt sep (bnd rd fun a => listN sep rd n (acc ++ [a])) (ret acc)
def listR {α : Type} (sep : ByteArray) (rd : Rd α) : Rd (List α) := fun r => bnd rd (fun a => listN sep rd r.length [a]) r
def rowR {α : Type} (rd : Rd α) : Rd (List α) := bnd (takeR ⟨#[40]⟩) fun _ => bnd (listR ⟨#[44]⟩ rd) fun x => bnd (takeR ⟨#[41]⟩) fun _ => ret x
def takesR : List ByteArray → Rd Unit
 | [] => ret ()
 | s :: q => bnd (takeR s) fun _ => takesR q

structure Cnd where
 col : ByteArray
 sign : Int
 v : Val
structure Sett where
 col : ByteArray
 add : Bool
 v : Val
structure Stm where
 kind : Int
 table : ByteArray
 name : ByteArray
 cols : List ByteArray
 vals : List Val
 sets : List Sett
 conds : List Cnd
 uniq : Bool
 type : Int
 types : List Int
def Stm.zero : Stm := ⟨0, ⟨#[]⟩, ⟨#[]⟩, [], [], [], [], false, 0, []⟩
def signR : Rd Int := opt ⟨#[61]⟩ (ret 1) (opt ⟨#[60]⟩ (ret 2) (bnd (takeR ⟨#[62]⟩) fun _ => ret 3))
def condR : Rd Cnd := bnd nameR fun c => opt ⟨#[105, 115]⟩
 (opt ⟨#[110, 111, 116]⟩ (bnd (takeR ⟨#[110, 117, 108, 108]⟩) fun _ => ret ⟨c, 5, ⟨0, 0, 0, ⟨#[]⟩⟩⟩) (bnd (takeR ⟨#[110, 117, 108, 108]⟩) fun _ => ret ⟨c, 4, ⟨0, 0, 0, ⟨#[]⟩⟩⟩))
 (bnd signR fun g => bnd valueR fun v => ret ⟨c, g, v⟩)
def whereR : Rd (List Cnd) := opt ⟨#[119, 104, 101, 114, 101]⟩ (listR ⟨#[97, 110, 100]⟩ condR) (ret [])
def setR : Rd Sett := bnd nameR fun c => bnd (takeR ⟨#[61]⟩) fun _ => opt c
 (bnd (takeR ⟨#[43]⟩) fun _ => bnd valueR fun v => ret ⟨c, true, v⟩) (bnd valueR fun v => ret ⟨c, false, v⟩)
def typeR : Rd Int := opt ⟨#[98, 111, 111, 108]⟩ (ret 1) (opt ⟨#[105, 110, 116]⟩ (ret 2) (opt ⟨#[102, 108, 111, 97, 116]⟩ (ret 3) (opt ⟨#[98, 121, 116, 101, 115]⟩ (ret 4) (bnd (takeR ⟨#[116, 101, 120, 116]⟩) fun _ => ret 5))))
def columnR : Rd (ByteArray × Int) := bnd nameR fun c => bnd typeR fun k => ret (c, k)
def insertR : Rd Stm := bnd (takeR ⟨#[105, 110, 116, 111]⟩) fun _ => bnd nameR fun t => bnd (rowR nameR) fun cs => bnd (takeR ⟨#[118, 97, 108, 117, 101, 115]⟩) fun _ => bnd (rowR valueR) fun vs =>
 ret { Stm.zero with kind := 1, table := t, cols := cs, vals := vs }
def updateR : Rd Stm := bnd nameR fun t => bnd (takeR ⟨#[115, 101, 116]⟩) fun _ => bnd (listR ⟨#[44]⟩ setR) fun ss => bnd whereR fun cs => ret { Stm.zero with kind := 2, table := t, sets := ss, conds := cs }
def deleteR : Rd Stm := bnd (takeR ⟨#[102, 114, 111, 109]⟩) fun _ => bnd nameR fun t => bnd whereR fun cs => ret { Stm.zero with kind := 3, table := t, conds := cs }
def selectR : Rd Stm := bnd (opt ⟨#[42]⟩ (ret []) (listR ⟨#[44]⟩ nameR)) fun ns => bnd (takeR ⟨#[102, 114, 111, 109]⟩) fun _ => bnd nameR fun t => bnd whereR fun cs => ret { Stm.zero with kind := 4, table := t, cols := ns, conds := cs }
def tableR : Rd Stm := bnd nameR fun t => bnd (takeR ⟨#[40]⟩) fun _ => bnd columnR fun c => bnd (takesR [⟨#[112, 114, 105, 109, 97, 114, 121]⟩, ⟨#[107, 101, 121]⟩]) fun _ => bnd (opt ⟨#[44]⟩ (listR ⟨#[44]⟩ columnR) (ret [])) fun cs => bnd (takeR ⟨#[41]⟩) fun _ =>
 ret { Stm.zero with kind := 5, table := t, cols := (c :: cs).map (·.1), types := (c :: cs).map (·.2) }
def indexR : Rd (ByteArray × ByteArray) := bnd (takeR ⟨#[105, 110, 100, 101, 120]⟩) fun _ => bnd nameR fun n => bnd (takeR ⟨#[111, 110]⟩) fun _ => bnd nameR fun t => ret (n, t)
def addIndexR (u : Bool) : Rd Stm := bnd indexR fun x => bnd (rowR nameR) fun cs => ret { Stm.zero with kind := 6, name := x.1, table := x.2, uniq := u, cols := cs }
def createR : Rd Stm := opt ⟨#[116, 97, 98, 108, 101]⟩ tableR (opt ⟨#[117, 110, 105, 113, 117, 101]⟩ (addIndexR true) (addIndexR false))
def dropIndexR : Rd Stm := bnd indexR fun x => ret { Stm.zero with kind := 7, name := x.1, table := x.2 }
def addColumnR (t : ByteArray) : Rd Stm := bnd (takeR ⟨#[99, 111, 108, 117, 109, 110]⟩) fun _ => bnd nameR fun n => bnd typeR fun k => bnd (opt ⟨#[100, 101, 102, 97, 117, 108, 116]⟩ (bnd valueR fun v => ret [v]) (ret [])) fun vs => ret { Stm.zero with kind := 8, table := t, name := n, type := k, vals := vs }
def dropColumnR (t : ByteArray) : Rd Stm := bnd (takeR ⟨#[99, 111, 108, 117, 109, 110]⟩) fun _ => bnd nameR fun n => ret { Stm.zero with kind := 9, table := t, name := n }
def nullR : Rd Int := bnd (opt ⟨#[115, 101, 116]⟩ (ret 10) (bnd (takeR ⟨#[100, 114, 111, 112]⟩) fun _ => ret 11)) fun k => bnd (takesR [⟨#[110, 111, 116]⟩, ⟨#[110, 117, 108, 108]⟩]) fun _ => ret k
def alterR : Rd Stm := bnd (takeR ⟨#[116, 97, 98, 108, 101]⟩) fun _ => bnd nameR fun t => opt ⟨#[97, 100, 100]⟩ (addColumnR t) (opt ⟨#[100, 114, 111, 112]⟩ (dropColumnR t)
 (bnd (takesR [⟨#[97, 108, 116, 101, 114]⟩, ⟨#[99, 111, 108, 117, 109, 110]⟩]) fun _ => bnd nameR fun n => bnd nullR fun k => ret { Stm.zero with kind := k, table := t, name := n }))
def stmtR : Rd Stm := opt ⟨#[105, 110, 115, 101, 114, 116]⟩ insertR (opt ⟨#[117, 112, 100, 97, 116, 101]⟩ updateR (opt ⟨#[100, 101, 108, 101, 116, 101]⟩ deleteR (opt ⟨#[115, 101, 108, 101, 99, 116]⟩ selectR (opt ⟨#[99, 114, 101, 97, 116, 101]⟩ createR (opt ⟨#[100, 114, 111, 112]⟩ dropIndexR (bnd (takeR ⟨#[97, 108, 116, 101, 114]⟩) fun _ => alterR))))))
def endR : Rd Unit := fun r => match (if isT ⟨#[59]⟩ r = true then r.tail else r) with
 | [] => (none, [])
 | x :: q => if x.1 = 0 then (some (), x :: q) else (none, x :: q)
def parseR : Rd Stm := bnd stmtR fun x => bnd endR fun _ => ret x
def tooMany (x : Stm) : Bool := decide (8 < max (max (max x.cols.length x.types.length) x.vals.length) x.sets.length) || decide (4 < x.conds.length)
def placeAt (l : List Tok) (q : List TkC) : Nat := ((l[l.length - q.length]?).map (·.p)).getD 0
def parseL (l : List Tok) : Option Stm × Nat × Int := match parseR (l.map cont) with
 | (none, q) => (none, placeAt l q, 3)
 | (some x, _) => if tooMany x = true then (none, 0, 2) else (some x, 0, 0)
def parseG (s : ByteArray) : Option Stm × Nat × Int :=
 if 400 < s.size then (none, 0, 2) else match lexAt s 0 with
  | (none, p) => (none, p, 3)
  | (some l, _) => parseL l
theorem toL_inj {a b : ByteArray} (h : a.data.toList = b.data.toList) : a = b := by
 obtain ⟨⟨a⟩⟩ := a
 obtain ⟨⟨b⟩⟩ := b
 have h : a = b := h
 rw [h]
theorem isT_iff (s : ByteArray) (x : TkC) (q : List TkC) : isT s (x :: q) = decide (x.2.1 = s) := by
 show (x.2.1.data.toList == s.data.toList) = _
 rw [Bool.eq_iff_iff, beq_iff_eq, decide_eq_true_iff]
 exact ⟨toL_inj, fun h => by rw [h]⟩

def Yields {α : Type} (P : α → Prop) (a : Rd α) : Prop := ∀ r x q, a r = (some x, q) → P x
theorem Yields.ret {α : Type} {P : α → Prop} {x : α} (h : P x) : Yields P (ret x) := by
 intro r y q e
 have e2 := congrArg Prod.fst e
 obtain rfl := Option.some.inj e2
 exact h
theorem Yields.bnd {α β : Type} {P : β → Prop} {Q : α → Prop} {a : Rd α} {f : α → Rd β} (ha : Yields Q a) (h : ∀ x, Q x → Yields P (f x)) : Yields P (bnd a f) := by
 intro r y q e
 unfold Num.bnd at e
 split at e
 ·rename_i x q2 hx
  exact h x (ha _ _ _ hx) _ _ _ e
 ·simp at e
theorem Yields.of {α : Type} {a : Rd α} : Yields (fun _ => True) a := fun _ _ _ _ => trivial
theorem Yields.opt {α : Type} {P : α → Prop} {s : ByteArray} {a b : Rd α} (ha : Yields P a) (hb : Yields P b) : Yields P (opt s a b) := by
 intro r y q e
 unfold Num.opt at e
 split at e
 ·exact ha _ _ _ e
 ·exact hb _ _ _ e
def KindOk (x : Stm) : Prop := 1 ≤ x.kind ∧ x.kind ≤ 11
theorem kd (k : Int) (h : 1 ≤ k ∧ k ≤ 11) {x : Stm} (hx : x.kind = k) : KindOk x := by
 unfold KindOk
 rw [hx]
 exact h
set_option maxRecDepth 100000

structure DS where
 i : Nat
 bad : Bool
 p : Nat
 long : Bool
def tokAt (l : List Tok) (i : Nat) : Tok := (l[i]?).getD ⟨0, ⟨#[]⟩, noV, 0⟩
def DS.fail (l : List Tok) (S : DS) : DS := if S.bad = true then S else { S with bad := true, p := (tokAt l S.i).p }
def DS.inc (S : DS) : DS := { S with i := S.i + 1 }
def isD (l : List Tok) (s : ByteArray) (S : DS) : Bool := !S.bad && ((decide ((tokAt l S.i).k = 1) || decide ((tokAt l S.i).k = 4)) && decide ((tokAt l S.i).t = s))
abbrev Dr (α : Type) := DS → α × DS
def retD {α : Type} (x : α) : Dr α := fun S => (x, S)
def bndD {α β : Type} (a : Dr α) (f : α → Dr β) : Dr β := fun S => f (a S).1 (a S).2
def optD {α : Type} (l : List Tok) (s : ByteArray) (yes no : Dr α) : Dr α := fun S => if isD l s S = true then yes S else no S
def incD : Dr Unit := fun S => ((), S.inc)
def failD (l : List Tok) : Dr Unit := fun S => ((), S.fail l)
def eatD (l : List Tok) (s : ByteArray) : Dr Unit := fun S => if isD l s S = true then ((), S.inc) else ((), S.fail l)
def nameD (l : List Tok) : Dr ByteArray := fun S => if S.bad = true ∨ (tokAt l S.i).k ≠ 2 then (⟨#[]⟩, S.fail l) else ((tokAt l S.i).t, S.inc)
def valueD (l : List Tok) : Dr Val := fun S => if isD l ⟨#[110, 117, 108, 108]⟩ S = true then (⟨0, 0, 0, ⟨#[]⟩⟩, S.inc) else if isD l ⟨#[116, 114, 117, 101]⟩ S = true then (⟨1, 1, 0, ⟨#[]⟩⟩, S.inc) else if isD l ⟨#[102, 97, 108, 115, 101]⟩ S = true then (⟨1, 0, 0, ⟨#[]⟩⟩, S.inc)
 else if S.bad = true ∨ (tokAt l S.i).k ≠ 3 then (⟨0, 0, 0, ⟨#[]⟩⟩, S.fail l) else ((tokAt l S.i).v, S.inc)
def DS.many (S : DS) (b : Bool) : DS := if b = true then { S with long := true } else S
def mostD (n : Nat) : Dr Unit := fun S => ((), S.many (decide (8 < n)))
def moreD {α : Type} (l : List Tok) (sep : ByteArray) (rd : Dr α) : Nat → List α → Dr (List α)
 | 0, acc => retD acc
 | n + 1, acc => optD l sep (bndD (eatD l sep) fun _ => bndD rd fun a => moreD l sep rd n (acc ++ [a])) (retD acc)
def namesD (l : List Tok) : Dr (List ByteArray) := bndD (eatD l ⟨#[40]⟩) fun _ => bndD (nameD l) fun a => bndD (moreD l ⟨#[44]⟩ (nameD l) l.length [a]) fun ns => bndD (eatD l ⟨#[41]⟩) fun _ => bndD (mostD ns.length) fun _ => retD ns
def condD (l : List Tok) : Dr Cnd := bndD (nameD l) fun c =>
 optD l ⟨#[61]⟩ (bndD incD fun _ => bndD (valueD l) fun v => retD ⟨c, 1, v⟩) (optD l ⟨#[60]⟩ (bndD incD fun _ => bndD (valueD l) fun v => retD ⟨c, 2, v⟩) (optD l ⟨#[62]⟩ (bndD incD fun _ => bndD (valueD l) fun v => retD ⟨c, 3, v⟩)
 (bndD (eatD l ⟨#[105, 115]⟩) fun _ => optD l ⟨#[110, 111, 116]⟩ (bndD (eatD l ⟨#[110, 111, 116]⟩) fun _ => bndD (eatD l ⟨#[110, 117, 108, 108]⟩) fun _ => retD ⟨c, 5, ⟨0, 0, 0, ⟨#[]⟩⟩⟩) (bndD (eatD l ⟨#[110, 117, 108, 108]⟩) fun _ => retD ⟨c, 4, ⟨0, 0, 0, ⟨#[]⟩⟩⟩))))
def whereD (l : List Tok) : Dr (List Cnd) := optD l ⟨#[119, 104, 101, 114, 101]⟩ (bndD (eatD l ⟨#[119, 104, 101, 114, 101]⟩) fun _ => bndD (condD l) fun a => bndD (moreD l ⟨#[97, 110, 100]⟩ (condD l) l.length [a]) fun cs => bndD (fun S => ((), S.many (decide (4 < cs.length)))) fun _ => retD cs) (retD [])
def setD1 (l : List Tok) : Dr Sett := bndD (nameD l) fun c => bndD (eatD l ⟨#[61]⟩) fun _ => fun S =>
 if S.bad = false ∧ (tokAt l S.i).k = 2 then (bndD (if (tokAt l S.i).t ≠ c then failD l else incD) fun _ => bndD (eatD l ⟨#[43]⟩) fun _ => bndD (valueD l) fun v => retD ⟨c, true, v⟩) S
 else (bndD (valueD l) fun v => retD ⟨c, false, v⟩) S
def setsD (l : List Tok) : Dr (List Sett) := bndD (setD1 l) fun a => bndD (moreD l ⟨#[44]⟩ (setD1 l) l.length [a]) fun ss => bndD (mostD ss.length) fun _ => retD ss
def kindD (l : List Tok) : Dr Int := optD l ⟨#[98, 111, 111, 108]⟩ (bndD incD fun _ => retD 1) (optD l ⟨#[105, 110, 116]⟩ (bndD incD fun _ => retD 2) (optD l ⟨#[102, 108, 111, 97, 116]⟩ (bndD incD fun _ => retD 3) (optD l ⟨#[98, 121, 116, 101, 115]⟩ (bndD incD fun _ => retD 4) (optD l ⟨#[116, 101, 120, 116]⟩ (bndD incD fun _ => retD 5) (bndD (failD l) fun _ => retD 0)))))
def columnD (l : List Tok) : Dr (ByteArray × Int) := bndD (nameD l) fun c => bndD (kindD l) fun k => retD (c, k)
def tableD (l : List Tok) : Dr Stm := bndD (eatD l ⟨#[116, 97, 98, 108, 101]⟩) fun _ => bndD (nameD l) fun t => bndD (eatD l ⟨#[40]⟩) fun _ => bndD (columnD l) fun c => bndD (eatD l ⟨#[112, 114, 105, 109, 97, 114, 121]⟩) fun _ => bndD (eatD l ⟨#[107, 101, 121]⟩) fun _ =>
 bndD (moreD l ⟨#[44]⟩ (columnD l) l.length [c]) fun cs => bndD (eatD l ⟨#[41]⟩) fun _ => bndD (mostD cs.length) fun _ => retD { Stm.zero with kind := 5, table := t, cols := cs.map (·.1), types := cs.map (·.2) }
def indexD (l : List Tok) (u : Bool) : Dr Stm := bndD (eatD l ⟨#[105, 110, 100, 101, 120]⟩) fun _ => bndD (nameD l) fun n => bndD (eatD l ⟨#[111, 110]⟩) fun _ => bndD (nameD l) fun t => bndD (namesD l) fun cs => retD { Stm.zero with kind := 6, name := n, table := t, uniq := u, cols := cs }
def createD (l : List Tok) : Dr Stm := bndD (eatD l ⟨#[99, 114, 101, 97, 116, 101]⟩) fun _ => optD l ⟨#[116, 97, 98, 108, 101]⟩ (tableD l) (optD l ⟨#[117, 110, 105, 113, 117, 101]⟩ (bndD (eatD l ⟨#[117, 110, 105, 113, 117, 101]⟩) fun _ => indexD l true) (indexD l false))
def alterD (l : List Tok) : Dr Stm := bndD (eatD l ⟨#[97, 108, 116, 101, 114]⟩) fun _ => bndD (eatD l ⟨#[116, 97, 98, 108, 101]⟩) fun _ => bndD (nameD l) fun t =>
 optD l ⟨#[97, 100, 100]⟩ (bndD (eatD l ⟨#[97, 100, 100]⟩) fun _ => bndD (eatD l ⟨#[99, 111, 108, 117, 109, 110]⟩) fun _ => bndD (nameD l) fun n => bndD (kindD l) fun k =>
  optD l ⟨#[100, 101, 102, 97, 117, 108, 116]⟩ (bndD (eatD l ⟨#[100, 101, 102, 97, 117, 108, 116]⟩) fun _ => bndD (valueD l) fun v => retD { Stm.zero with kind := 8, table := t, name := n, type := k, vals := [v] }) (retD { Stm.zero with kind := 8, table := t, name := n, type := k, vals := [] }))
 (optD l ⟨#[100, 114, 111, 112]⟩ (bndD (eatD l ⟨#[100, 114, 111, 112]⟩) fun _ => bndD (eatD l ⟨#[99, 111, 108, 117, 109, 110]⟩) fun _ => bndD (nameD l) fun n => retD { Stm.zero with kind := 9, table := t, name := n })
 (bndD (eatD l ⟨#[97, 108, 116, 101, 114]⟩) fun _ => bndD (eatD l ⟨#[99, 111, 108, 117, 109, 110]⟩) fun _ => bndD (nameD l) fun n => optD l ⟨#[100, 114, 111, 112]⟩
  (bndD (eatD l ⟨#[100, 114, 111, 112]⟩) fun _ => bndD (eatD l ⟨#[110, 111, 116]⟩) fun _ => bndD (eatD l ⟨#[110, 117, 108, 108]⟩) fun _ => retD { Stm.zero with kind := 11, table := t, name := n })
  (bndD (eatD l ⟨#[115, 101, 116]⟩) fun _ => bndD (eatD l ⟨#[110, 111, 116]⟩) fun _ => bndD (eatD l ⟨#[110, 117, 108, 108]⟩) fun _ => retD { Stm.zero with kind := 10, table := t, name := n })))
def insertD (l : List Tok) : Dr Stm := bndD (eatD l ⟨#[105, 110, 115, 101, 114, 116]⟩) fun _ => bndD (eatD l ⟨#[105, 110, 116, 111]⟩) fun _ => bndD (nameD l) fun t => bndD (namesD l) fun cs => bndD (eatD l ⟨#[118, 97, 108, 117, 101, 115]⟩) fun _ => bndD (eatD l ⟨#[40]⟩) fun _ => bndD (valueD l) fun v =>
 bndD (moreD l ⟨#[44]⟩ (valueD l) l.length [v]) fun vs => bndD (eatD l ⟨#[41]⟩) fun _ => bndD (mostD vs.length) fun _ => retD { Stm.zero with kind := 1, table := t, cols := cs, vals := vs }
def updateD (l : List Tok) : Dr Stm := bndD (eatD l ⟨#[117, 112, 100, 97, 116, 101]⟩) fun _ => bndD (nameD l) fun t => bndD (eatD l ⟨#[115, 101, 116]⟩) fun _ => bndD (setsD l) fun ss => bndD (whereD l) fun cs => retD { Stm.zero with kind := 2, table := t, sets := ss, conds := cs }
def deleteD (l : List Tok) : Dr Stm := bndD (eatD l ⟨#[100, 101, 108, 101, 116, 101]⟩) fun _ => bndD (eatD l ⟨#[102, 114, 111, 109]⟩) fun _ => bndD (nameD l) fun t => bndD (whereD l) fun cs => retD { Stm.zero with kind := 3, table := t, conds := cs }
def selectD (l : List Tok) : Dr Stm := bndD (eatD l ⟨#[115, 101, 108, 101, 99, 116]⟩) fun _ => optD l ⟨#[42]⟩
 (bndD (eatD l ⟨#[42]⟩) fun _ => bndD (eatD l ⟨#[102, 114, 111, 109]⟩) fun _ => bndD (nameD l) fun t => bndD (whereD l) fun cs => retD { Stm.zero with kind := 4, table := t, cols := [], conds := cs })
 (bndD (nameD l) fun a => bndD (moreD l ⟨#[44]⟩ (nameD l) l.length [a]) fun ns => bndD (mostD ns.length) fun _ => bndD (eatD l ⟨#[102, 114, 111, 109]⟩) fun _ => bndD (nameD l) fun t => bndD (whereD l) fun cs => retD { Stm.zero with kind := 4, table := t, cols := ns, conds := cs })
def rowsD (l : List Tok) : Dr Stm := optD l ⟨#[105, 110, 115, 101, 114, 116]⟩ (insertD l) (optD l ⟨#[117, 112, 100, 97, 116, 101]⟩ (updateD l) (optD l ⟨#[100, 101, 108, 101, 116, 101]⟩ (deleteD l) (selectD l)))
def dropD (l : List Tok) : Dr Stm := bndD (eatD l ⟨#[100, 114, 111, 112]⟩) fun _ => bndD (eatD l ⟨#[105, 110, 100, 101, 120]⟩) fun _ => bndD (nameD l) fun n => bndD (eatD l ⟨#[111, 110]⟩) fun _ => bndD (nameD l) fun t => retD { Stm.zero with kind := 7, name := n, table := t }
def stmtD (l : List Tok) : Dr Stm := optD l ⟨#[99, 114, 101, 97, 116, 101]⟩ (createD l) (optD l ⟨#[100, 114, 111, 112]⟩ (dropD l) (optD l ⟨#[97, 108, 116, 101, 114]⟩ (alterD l) (rowsD l)))
def semiD (l : List Tok) : Dr Unit := optD l ⟨#[59]⟩ (eatD l ⟨#[59]⟩) (retD ())
def closeD (l : List Tok) : Dr Unit := fun S => if S.bad = false ∧ (tokAt l S.i).k ≠ 0 then ((), S.fail l) else ((), S)
def parseD (l : List Tok) : Dr Stm := bndD (stmtD l) fun x => bndD (semiD l) fun _ => bndD (closeD l) fun _ => retD x
def tellD (o : Stm × DS) : Option Stm × Nat × Int := if o.2.bad = true then (none, o.2.p, 3) else if o.2.long = true then (none, 0, 2) else (some o.1, 0, 0)
theorem isD_lt {l : List Tok} (hE : ∀ (i : Nat) (x : Tok), l[i]? = some x → i + 1 < l.length ∨ (x.k = 0 ∧ x.t = ⟨#[]⟩)) {s : ByteArray} {S : DS} (hi : S.i < l.length) (h : isD l s S = true) : S.i + 1 < l.length := by
 unfold isD at h
 simp only [Bool.and_eq_true, Bool.or_eq_true, decide_eq_true_eq] at h
 have hx : l[S.i]? = some (tokAt l S.i) := by
  unfold tokAt
  rw [List.getElem?_eq_getElem hi]
  rfl
 rcases hE _ _ hx with h2 | ⟨h2, _⟩
 ·exact h2
 ·rcases h.2.1 with h3 | h3 <;> omega
end Go.Proofs.YtiajlhjjmlakmaaGreatDoor.Num
