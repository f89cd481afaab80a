/-
  Ways of writing things as bytes that can be read again, whatever stands behind them: numbers, texts, lists, one thing behind another one. No program is named here.
-/
import Derived.Test.YtiajlhjjmlakmaaGreatDoorVBackM
namespace Go.Proofs.YtiajlhjjmlakmaaGreatDoor.Num

/-- A number in 8 bytes, below 0 plus 2 ^ 64. -/
def num8 (n : Int) : List UInt8 := be8 (n % 18446744073709551616).toNat
/-- The number of 8 bytes. -/
def sgn (u : Nat) : Int := if u < 9223372036854775808 then (u : Int) else (u : Int) - 18446744073709551616
def isInt (n : Int) : Prop := -9223372036854775808 ≤ n ∧ n ≤ 9223372036854775807

theorem be8_len (n : Nat) : (be8 n).length = 8 := rfl
theorem num8_len (n : Int) : (num8 n).length = 8 := rfl
theorem byteAt_toNat (n i : Nat) : (byteAt n i).toNat = n / 2 ^ (8 * i) % 256 := by
  simp only [byteAt, UInt8.toNat_ofNat']
  omega
theorem be8_numOf (l : List UInt8) (h : l.length = 8) : be8 (numOf l) = l := by
  match l, h with
  | [b7, b6, b5, b4, b3, b2, b1, b0], _ =>
    have h7 := b7.toNat_lt
    have h6 := b6.toNat_lt
    have h5 := b5.toNat_lt
    have h4 := b4.toNat_lt
    have h3 := b3.toNat_lt
    have h2 := b2.toNat_lt
    have h1 := b1.toNat_lt
    have h0 := b0.toNat_lt
    have e : ∀ n, be8 n = [byteAt n 7, byteAt n 6, byteAt n 5, byteAt n 4, byteAt n 3, byteAt n 2, byteAt n 1, byteAt n 0] := fun _ => rfl
    rw [e]
    simp only [numOf, List.foldl_cons, List.foldl_nil]
    have g : ∀ (n i : Nat) (b : UInt8), n / 2 ^ (8 * i) % 256 = b.toNat → byteAt n i = b := fun n i b hb => UInt8.toNat_inj.1 (by rw [byteAt_toNat, hb])
    rw [g _ 7 b7 (by simp only [Nat.reduceMul, Nat.reducePow]; omega), g _ 6 b6 (by simp only [Nat.reduceMul, Nat.reducePow]; omega), g _ 5 b5 (by simp only [Nat.reduceMul, Nat.reducePow]; omega), g _ 4 b4 (by simp only [Nat.reduceMul, Nat.reducePow]; omega),
      g _ 3 b3 (by simp only [Nat.reduceMul, Nat.reducePow]; omega), g _ 2 b2 (by simp only [Nat.reduceMul, Nat.reducePow]; omega), g _ 1 b1 (by simp only [Nat.reduceMul, Nat.reducePow]; omega), g _ 0 b0 (by simp only [Nat.reduceMul, Nat.reducePow]; omega)]
theorem numOf_eight (l : List UInt8) (h : l.length = 8) : numOf l < 18446744073709551616 := by
  have := numOf_lt l
  rw [h] at this
  exact this
theorem sgn_num8 (n : Int) (h : isInt n) : sgn (numOf (num8 n)) = n := by
  unfold isInt at h
  unfold num8
  rw [numOf_be8 _ (by omega)]
  unfold sgn
  split <;> omega
theorem num8_sgn (l : List UInt8) (h : l.length = 8) : num8 (sgn (numOf l)) = l ∧ isInt (sgn (numOf l)) := by
  have hl := numOf_eight l h
  have e : (sgn (numOf l) % 18446744073709551616).toNat = numOf l := by
    unfold sgn
    split <;> omega
  constructor
  · unfold num8
    rw [e, be8_numOf l h]
  · unfold isInt sgn
    split <;> omega

/-- A way of writing: the bytes, the reader, what can be written. -/
structure Cod (α : Type) where
  enc : α → List UInt8
  rd : List UInt8 → Option (α × List UInt8)
  ok : α → Prop
  fwd : ∀ x, ok x → ∀ r, rd (enc x ++ r) = some (x, r)
  bwd : ∀ l x r, rd l = some (x, r) → l = enc x ++ r ∧ ok x

/-- A number. -/
def Cod.num : Cod Int where
  enc := num8
  rd := fun l => if l.length < 8 then none else some (sgn (numOf (l.take 8)), l.drop 8)
  ok := isInt
  fwd := fun x hx r => by
    have e1 : (num8 x ++ r).take 8 = num8 x := List.take_left' (num8_len x)
    have e2 : (num8 x ++ r).drop 8 = r := List.drop_left' (num8_len x)
    show (if (num8 x ++ r).length < 8 then none else some (sgn (numOf ((num8 x ++ r).take 8)), (num8 x ++ r).drop 8)) = _
    rw [if_neg (by rw [List.length_append, num8_len]; omega), e1, e2, sgn_num8 x hx]
  bwd := fun l x r h => by
    have h' : (if l.length < 8 then none else some (sgn (numOf (l.take 8)), l.drop 8)) = some (x, r) := h
    split at h'
    · cases h'
    · cases h'
      have hl : (l.take 8).length = 8 := by rw [List.length_take]; omega
      obtain ⟨e, hi⟩ := num8_sgn _ hl
      exact ⟨by rw [e, List.take_append_drop], hi⟩
/-- A number that is not below 0. -/
def Cod.nat : Cod Nat where
  enc := be8
  rd := fun l => if l.length < 8 then none else some (numOf (l.take 8), l.drop 8)
  ok := fun n => n < 18446744073709551616
  fwd := fun x hx r => by
    have e1 : (be8 x ++ r).take 8 = be8 x := List.take_left' (be8_len x)
    have e2 : (be8 x ++ r).drop 8 = r := List.drop_left' (be8_len x)
    show (if (be8 x ++ r).length < 8 then none else some (numOf ((be8 x ++ r).take 8), (be8 x ++ r).drop 8)) = _
    rw [if_neg (by rw [List.length_append, be8_len]; omega), e1, e2, numOf_be8 x hx]
  bwd := fun l x r h => by
    have h' : (if l.length < 8 then none else some (numOf (l.take 8), l.drop 8)) = some (x, r) := h
    split at h'
    · cases h'
    · cases h'
      have hl : (l.take 8).length = 8 := by rw [List.length_take]; omega
      exact ⟨by rw [be8_numOf _ hl, List.take_append_drop], numOf_eight _ hl⟩
/-- One thing behind another one. -/
def Cod.both {α β : Type} (a : Cod α) (b : Cod β) : Cod (α × β) where
  enc := fun x => a.enc x.1 ++ b.enc x.2
  rd := fun l => (a.rd l).bind fun p => (b.rd p.2).map fun q => ((p.1, q.1), q.2)
  ok := fun x => a.ok x.1 ∧ b.ok x.2
  fwd := fun x hx r => by
    simp [List.append_assoc, a.fwd x.1 hx.1, b.fwd x.2 hx.2]
  bwd := fun l x r h => by
    obtain ⟨p, hp, h2⟩ := Option.bind_eq_some_iff.1 h
    obtain ⟨q, hq, h3⟩ := Option.map_eq_some_iff.1 h2
    cases h3
    obtain ⟨e1, o1⟩ := a.bwd l p.1 p.2 hp
    obtain ⟨e2, o2⟩ := b.bwd p.2 q.1 q.2 hq
    exact ⟨by rw [List.append_assoc, ← e2, ← e1], o1, o2⟩
/-- The same under another name. -/
def Cod.as {α β : Type} (a : Cod α) (f : α → β) (g : β → α) (h1 : ∀ x, f (g x) = x) (h2 : ∀ x, g (f x) = x) : Cod β where
  enc := fun y => a.enc (g y)
  rd := fun l => (a.rd l).map fun p => (f p.1, p.2)
  ok := fun y => a.ok (g y)
  fwd := fun y hy r => by
    simp [a.fwd (g y) hy, h1]
  bwd := fun l y r h => by
    obtain ⟨q, hq, h3⟩ := Option.map_eq_some_iff.1 h
    cases h3
    obtain ⟨e1, o1⟩ := a.bwd l q.1 q.2 hq
    exact ⟨by rw [h2]; exact e1, by rw [h2]; exact o1⟩
/-- A bool. -/
def Cod.bool : Cod Bool where
  enc := fun b => num8 (if b then 1 else 0)
  rd := fun l => (Cod.num.rd l).bind fun p => if p.1 = 0 then some (false, p.2) else if p.1 = 1 then some (true, p.2) else none
  ok := fun _ => True
  fwd := fun b _ r => by
    have h := Cod.num.fwd (if b then 1 else 0) (by cases b <;> (show isInt _; unfold isInt; simp)) r
    show (Cod.num.rd (num8 (if b then 1 else 0) ++ r)).bind _ = _
    rw [show Cod.num.rd (num8 (if b then 1 else 0) ++ r) = some ((if b then 1 else 0), r) from h]
    cases b <;> rfl
  bwd := fun l x r h => by
    obtain ⟨p, hp, h2⟩ := Option.bind_eq_some_iff.1 h
    obtain ⟨e1, _⟩ := Cod.num.bwd l p.1 p.2 hp
    refine ⟨?_, trivial⟩
    split at h2
    · rename_i h0
      cases h2
      rw [e1, h0]
      rfl
    · split at h2
      · rename_i h0
        cases h2
        rw [e1, h0]
        rfl
      · cases h2
/-- A text: how many bytes, and they. -/
def Cod.text : Cod (List UInt8) where
  enc := fun s => num8 (s.length : Int) ++ s
  rd := fun l => (Cod.num.rd l).bind fun p => if p.1 < 0 ∨ (p.2.length : Int) < p.1 then none else some (p.2.take p.1.toNat, p.2.drop p.1.toNat)
  ok := fun s => isInt (s.length : Int)
  fwd := fun s hs r => by
    have h := Cod.num.fwd (s.length : Int) hs (s ++ r)
    show (Cod.num.rd (num8 (s.length : Int) ++ s ++ r)).bind _ = _
    rw [List.append_assoc, show Cod.num.rd (num8 (s.length : Int) ++ (s ++ r)) = some ((s.length : Int), s ++ r) from h]
    simp
    omega
  bwd := fun l x r h => by
    obtain ⟨p, hp, h2⟩ := Option.bind_eq_some_iff.1 h
    obtain ⟨e1, o1⟩ := Cod.num.bwd l p.1 p.2 hp
    split at h2
    · cases h2
    · rename_i h0
      cases h2
      have e : ((p.2.take p.1.toNat).length : Int) = p.1 := by rw [List.length_take]; omega
      refine ⟨?_, by rw [e]; exact o1⟩
      rw [e, List.append_assoc, List.take_append_drop]
      exact e1
/-- So many things. -/
def Cod.rdMany {α : Type} (a : Cod α) : Nat → List UInt8 → Option (List α × List UInt8)
  | 0, l => some ([], l)
  | n + 1, l => (a.rd l).bind fun p => (a.rdMany n p.2).map fun q => (p.1 :: q.1, q.2)
theorem Cod.many_fwd {α : Type} (a : Cod α) : ∀ (xs : List α), (∀ x ∈ xs, a.ok x) → ∀ r, a.rdMany xs.length (xs.flatMap a.enc ++ r) = some (xs, r)
  | [], _, r => rfl
  | x :: xs, h, r => by
    have h1 := a.fwd x (h x (by simp)) (xs.flatMap a.enc ++ r)
    have h2 := Cod.many_fwd a xs (fun y hy => h y (by simp [hy])) r
    rw [List.flatMap_cons, List.append_assoc]
    show (a.rd (a.enc x ++ (xs.flatMap a.enc ++ r))).bind _ = _
    rw [h1]
    simp [h2]
theorem Cod.many_bwd {α : Type} (a : Cod α) : ∀ (n : Nat) (l : List UInt8) (xs : List α) (r : List UInt8), a.rdMany n l = some (xs, r) → l = xs.flatMap a.enc ++ r ∧ xs.length = n ∧ ∀ x ∈ xs, a.ok x
  | 0, l, xs, r, h => by
    cases h
    exact ⟨rfl, rfl, by simp⟩
  | n + 1, l, xs, r, h => by
    obtain ⟨p, hp, h2⟩ := Option.bind_eq_some_iff.1 h
    obtain ⟨q, hq, h3⟩ := Option.map_eq_some_iff.1 h2
    cases h3
    obtain ⟨e1, o1⟩ := a.bwd l p.1 p.2 hp
    obtain ⟨e2, n2, o2⟩ := Cod.many_bwd a n p.2 q.1 q.2 hq
    refine ⟨by rw [List.flatMap_cons, List.append_assoc, ← e2, ← e1], by rw [List.length_cons, n2], ?_⟩
    intro x hx
    rcases List.mem_cons.1 hx with rfl | hx
    · exact o1
    · exact o2 x hx
/-- A list: how many, and they. -/
def Cod.list {α : Type} (a : Cod α) : Cod (List α) where
  enc := fun xs => num8 (xs.length : Int) ++ xs.flatMap a.enc
  rd := fun l => (Cod.num.rd l).bind fun p => if p.1 < 0 then none else a.rdMany p.1.toNat p.2
  ok := fun xs => isInt (xs.length : Int) ∧ ∀ x ∈ xs, a.ok x
  fwd := fun xs hx r => by
    have h := Cod.num.fwd (xs.length : Int) hx.1 (xs.flatMap a.enc ++ r)
    show (Cod.num.rd (num8 (xs.length : Int) ++ xs.flatMap a.enc ++ r)).bind _ = _
    rw [List.append_assoc, show Cod.num.rd (num8 (xs.length : Int) ++ (xs.flatMap a.enc ++ r)) = some ((xs.length : Int), xs.flatMap a.enc ++ r) from h]
    show (if (xs.length : Int) < 0 then none else a.rdMany (xs.length : Int).toNat (xs.flatMap a.enc ++ r)) = _
    rw [if_neg (by omega), Int.toNat_natCast]
    exact a.many_fwd xs hx.2 r
  bwd := fun l x r h => by
    obtain ⟨p, hp, h2⟩ := Option.bind_eq_some_iff.1 h
    obtain ⟨e1, o1⟩ := Cod.num.bwd l p.1 p.2 hp
    split at h2
    · cases h2
    · rename_i h0
      obtain ⟨e2, n2, o2⟩ := a.many_bwd _ _ _ _ h2
      have e : (x.length : Int) = p.1 := by omega
      refine ⟨?_, by rw [e]; exact o1, o2⟩
      rw [e, List.append_assoc, ← e2]
      exact e1
/-- Two things that are written alike are one. -/
theorem Cod.inj {α : Type} (a : Cod α) {x y : α} (hx : a.ok x) (hy : a.ok y) {r s : List UInt8} (h : a.enc x ++ r = a.enc y ++ s) : x = y ∧ r = s := by
  have h1 := a.fwd x hx r
  rw [h, a.fwd y hy s] at h1
  cases h1
  exact ⟨rfl, rfl⟩
end Go.Proofs.YtiajlhjjmlakmaaGreatDoor.Num
