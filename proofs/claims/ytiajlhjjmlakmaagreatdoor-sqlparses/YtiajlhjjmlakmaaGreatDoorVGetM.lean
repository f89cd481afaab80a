/-
  The value at the beginning of bytes, as a function of lists. No program is named here.
-/
import Derived.Test.YtiajlhjjmlakmaaGreatDoorVByt
namespace Go.Proofs.YtiajlhjjmlakmaaGreatDoor.Num

theorem numOf_snoc (l : List UInt8) (b : UInt8) : numOf (l ++ [b]) = numOf l * 256 + b.toNat := by simp [numOf]
theorem numOf_lt (l : List UInt8) : numOf l < 256 ^ l.length := by
  have key : ∀ (l : List UInt8) (a m : Nat), a < m → l.foldl (fun a b => a * 256 + b.toNat) a < m * 256 ^ l.length := by
    intro l
    induction l with
    | nil => intro a m h; simpa using h
    | cons b r ih =>
      intro a m h
      have hb : b.toNat < 256 := b.toNat_lt
      have := ih (a * 256 + b.toNat) (m * 256) (by omega)
      simp only [List.foldl_cons, List.length_cons]
      rw [Nat.pow_succ, Nat.mul_comm (256 ^ r.length) 256, ← Nat.mul_assoc]
      exact this
  have h := key l 0 1 (by omega)
  rw [Nat.one_mul] at h
  exact h
theorem take_snoc (s : ByteArray) (k : Nat) (hk : k < s.size) : s.data.toList.take (k + 1) = s.data.toList.take k ++ [s[k]] := by
  have hk' : k < s.data.toList.length := by simpa using hk
  rw [List.take_add_one, List.getElem?_eq_getElem hk']
  rfl
theorem numOf_take (s : ByteArray) (k : Nat) (hk : k < s.size) : numOf (s.data.toList.take (k + 1)) = numOf (s.data.toList.take k) * 256 + s[k].toNat := by
  rw [take_snoc s k hk, numOf_snoc]
theorem numOf_take_lt (l : List UInt8) (k : Nat) (_ : k ≤ 8) : numOf (l.take k) < 256 ^ k := by
  refine Nat.lt_of_lt_of_le (numOf_lt _) (Nat.pow_le_pow_right (by omega) ?_)
  simp only [List.length_take]
  omega

/-- The text that stands at the beginning of bytes, and how many bytes it has there. -/
def textL : List UInt8 → Option (List UInt8 × Nat)
  | [] => none
  | [_] => none
  | b :: c :: r =>
    if b = 0 then
      if c = 1 then some ([], 2)
      else if c = 255 then (textL r).map (fun p => (0 :: p.1, p.2 + 2))
      else none
    else (textL (c :: r)).map (fun p => (b :: p.1, p.2 + 1))

/-- What Get tells: a value's kind, number, float, text; how many bytes; the error. -/
structure Res where
  k : Int
  n : Int
  f : Nat
  s : List UInt8
  c : Int
  e : Int
def bad : Res := ⟨0, 0, 0, [], 0, 3⟩
/-- The int of a number in bytes. -/
def unshift (u : Nat) : Int := (u : Int) - 9223372036854775808
def getText (k : Int) (r : List UInt8) : Res :=
  match textL r with
  | some p => if p.1.length ≤ 40 then ⟨k, 0, 0, p.1, (p.2 : Int) + 1, 0⟩ else bad
  | none => bad
def getL (l : List UInt8) : Res :=
  match l with
  | [] => bad
  | h :: r =>
    if h = 1 then ⟨0, 0, 0, [], 1, 0⟩
    else if h = 2 then ⟨1, 0, 0, [], 1, 0⟩
    else if h = 3 then ⟨1, 1, 0, [], 1, 0⟩
    else if h = 4 then (if r.length < 8 then bad else ⟨2, unshift (numOf (r.take 8)), 0, [], 9, 0⟩)
    else if h = 5 then (if r.length < 8 then bad else if backOk (numOf (r.take 8)) then ⟨3, 0, backV (numOf (r.take 8)), [], 9, 0⟩ else bad)
    else if h = 6 then getText 4 r
    else if h = 7 then getText 5 r
    else bad

/-! The text, step by step. -/
theorem textL_other (b : UInt8) (h : ¬ b = 0) (r : List UInt8) : textL (b :: r) = (textL r).map (fun p => (b :: p.1, p.2 + 1)) := by
  cases r with
  | nil => rfl
  | cons c r => rw [textL, if_neg h]
/-- What is known of a text when its bytes up to k are read: B. -/
def ReadTo (r l B : List UInt8) (k : Nat) : Prop := textL r = (textL (l.drop k)).map (fun p => (B ++ p.1, p.2 + k))
theorem drop_at (l : List UInt8) (k : Nat) (h : k < l.length) : l.drop k = l[k] :: l.drop (k + 1) := List.drop_eq_getElem_cons h
theorem read_other {r l B : List UInt8} {k : Nat} (h : ReadTo r l B k) (hk : k < l.length) (hb : ¬ l[k] = 0) : ReadTo r l (B ++ [l[k]]) (k + 1) := by
  unfold ReadTo at h ⊢
  rw [h, drop_at l k hk, textL_other _ hb]
  cases textL (l.drop (k + 1)) with
  | none => rfl
  | some p => simp; omega
theorem read_zero {r l B : List UInt8} {k : Nat} (h : ReadTo r l B k) (hk : k + 1 < l.length) (hb : l[k] = 0) (hc : l[k + 1] = 255) : ReadTo r l (B ++ [0]) (k + 2) := by
  unfold ReadTo at h ⊢
  rw [h, drop_at l k (by omega), drop_at l (k + 1) hk, hb, hc, textL, if_pos rfl, if_neg (by decide), if_pos rfl]
  cases textL (l.drop (k + 2)) with
  | none => rfl
  | some p => simp; omega
theorem read_end {r l B : List UInt8} {k : Nat} (h : ReadTo r l B k) (hk : k + 1 < l.length) (hb : l[k] = 0) (hc : l[k + 1] = 1) : textL r = some (B, k + 2) := by
  unfold ReadTo at h
  rw [h, drop_at l k (by omega), drop_at l (k + 1) hk, hb, hc, textL, if_pos rfl, if_pos rfl]
  simp; omega
theorem read_wrong {r l B : List UInt8} {k : Nat} (h : ReadTo r l B k) (hk : k + 1 < l.length) (hb : l[k] = 0) (hc : ¬ l[k + 1] = 1) (hd : ¬ l[k + 1] = 255) : textL r = none := by
  unfold ReadTo at h
  rw [h, drop_at l k (by omega), drop_at l (k + 1) hk, hb, textL, if_pos rfl, if_neg hc, if_neg hd]
  rfl
theorem read_last {r l B : List UInt8} {k : Nat} (h : ReadTo r l B k) (hk : k < l.length) (he : l.length ≤ k + 1) (hb : l[k] = 0) : textL r = none := by
  unfold ReadTo at h
  rw [h, drop_at l k hk, hb, List.drop_of_length_le he]
  rfl
theorem read_over {r l B : List UInt8} {k : Nat} (h : ReadTo r l B k) (hk : l.length ≤ k) : textL r = none := by
  unfold ReadTo at h
  rw [h, List.drop_of_length_le hk]
  rfl
theorem read_long {r l B : List UInt8} {k : Nat} (h : ReadTo r l B k) (hb : 40 < B.length) (kd : Int) : getText kd r = bad := by
  unfold ReadTo at h
  unfold getText
  rw [h]
  cases textL (l.drop k) with
  | none => rfl
  | some p =>
    simp only [Option.map_some, List.length_append]
    rw [if_neg (by omega)]
theorem getText_none {r : List UInt8} (h : textL r = none) (kd : Int) : getText kd r = bad := by unfold getText; rw [h]
theorem getText_some {r B : List UInt8} {n : Nat} (h : textL r = some (B, n)) (hb : B.length ≤ 40) (kd : Int) : getText kd r = ⟨kd, 0, 0, B, (n : Int) + 1, 0⟩ := by
  unfold getText
  rw [h]
  simp only
  rw [if_pos hb]
theorem getText_much {r B : List UInt8} {n : Nat} (h : textL r = some (B, n)) (hb : 40 < B.length) (kd : Int) : getText kd r = bad := by
  unfold getText
  rw [h]
  simp only
  rw [if_neg (by omega)]
/-- The bytes behind the head; all bytes. -/
def tailL (s : ByteArray) : List UInt8 := s.data.toList.drop 1
def allL (s : ByteArray) : List UInt8 := s.data.toList

theorem len_tail (s : ByteArray) : (tailL s).length = s.size - 1 := by unfold tailL; rw [List.length_drop]; rfl
theorem at_tail (s : ByteArray) (k : Nat) (hk : k + 1 < s.size) : ∃ h : k < (tailL s).length, (tailL s)[k] = s[k + 1] := by
  refine ⟨by rw [len_tail]; omega, ?_⟩
  unfold tailL
  rw [List.getElem_drop]
  have : 1 + k = k + 1 := by omega
  simp only [this]
  rfl
theorem start_tail (s : ByteArray) : ReadTo (tailL s) (tailL s) [] 0 := by
  unfold ReadTo
  rw [List.drop_zero]
  cases textL (tailL s) with
  | none => rfl
  | some p => rfl
theorem other_tail {s : ByteArray} {B : List UInt8} {k : Nat} (h : ReadTo (tailL s) (tailL s) B k) (hk : k + 1 < s.size) (hb : ¬ s[k + 1] = 0) : ReadTo (tailL s) (tailL s) (B ++ [s[k + 1]]) (k + 1) := by
  obtain ⟨g, e⟩ := at_tail s k hk
  have := read_other h g (by rw [e]; exact hb)
  rw [e] at this
  exact this
theorem zero_tail {s : ByteArray} {B : List UInt8} {k : Nat} (h : ReadTo (tailL s) (tailL s) B k) (hk : k + 2 < s.size) (hb : s[k + 1] = 0) (hc : s[k + 2] = 255) : ReadTo (tailL s) (tailL s) (B ++ [0]) (k + 2) := by
  obtain ⟨g, e⟩ := at_tail s k (by omega)
  obtain ⟨g1, e1⟩ := at_tail s (k + 1) (by omega)
  exact read_zero h g1 (e.trans hb) (e1.trans hc)
theorem end_tail {s : ByteArray} {B : List UInt8} {k : Nat} (h : ReadTo (tailL s) (tailL s) B k) (hk : k + 2 < s.size) (hb : s[k + 1] = 0) (hc : s[k + 2] = 1) : textL (tailL s) = some (B, k + 2) := by
  obtain ⟨g, e⟩ := at_tail s k (by omega)
  obtain ⟨g1, e1⟩ := at_tail s (k + 1) (by omega)
  exact read_end h g1 (e.trans hb) (e1.trans hc)
theorem wrong_tail {s : ByteArray} {B : List UInt8} {k : Nat} (h : ReadTo (tailL s) (tailL s) B k) (hk : k + 2 < s.size) (hb : s[k + 1] = 0) (hc : ¬ s[k + 2] = 1) (hd : ¬ s[k + 2] = 255) : textL (tailL s) = none := by
  obtain ⟨g, e⟩ := at_tail s k (by omega)
  obtain ⟨g1, e1⟩ := at_tail s (k + 1) (by omega)
  exact read_wrong h g1 (e.trans hb) (by rw [e1]; exact hc) (by rw [e1]; exact hd)
theorem last_tail {s : ByteArray} {B : List UInt8} {k : Nat} (h : ReadTo (tailL s) (tailL s) B k) (hk : k + 1 < s.size) (he : ¬ k + 2 < s.size) (hb : s[k + 1] = 0) : textL (tailL s) = none := by
  obtain ⟨g, e⟩ := at_tail s k hk
  exact read_last h g (by rw [len_tail]; omega) (e.trans hb)
theorem over_tail {s : ByteArray} {B : List UInt8} {k : Nat} (h : ReadTo (tailL s) (tailL s) B k) (hk : ¬ k + 1 < s.size) : textL (tailL s) = none :=
  read_over h (by rw [len_tail]; omega)

theorem len_all (s : ByteArray) : (allL s).length = s.size := by rfl
theorem at_all (s : ByteArray) (k : Nat) (hk : k < s.size) : ∃ h : k < (allL s).length, (allL s)[k] = s[k] := by
  refine ⟨by rw [len_all]; omega, ?_⟩
  rfl
theorem start_all (s : ByteArray) : ReadTo (allL s) (allL s) [] 0 := by
  unfold ReadTo
  rw [List.drop_zero]
  cases textL (allL s) with
  | none => rfl
  | some p => rfl
theorem other_all {s : ByteArray} {B : List UInt8} {k : Nat} (h : ReadTo (allL s) (allL s) B k) (hk : k < s.size) (hb : ¬ s[k] = 0) : ReadTo (allL s) (allL s) (B ++ [s[k]]) (k + 1) := by
  obtain ⟨g, e⟩ := at_all s k hk
  have := read_other h g (by rw [e]; exact hb)
  rw [e] at this
  exact this
theorem zero_all {s : ByteArray} {B : List UInt8} {k : Nat} (h : ReadTo (allL s) (allL s) B k) (hk : k + 1 < s.size) (hb : s[k] = 0) (hc : s[k + 1] = 255) : ReadTo (allL s) (allL s) (B ++ [0]) (k + 2) := by
  obtain ⟨g, e⟩ := at_all s k (by omega)
  obtain ⟨g1, e1⟩ := at_all s (k + 1) (by omega)
  exact read_zero h g1 (e.trans hb) (e1.trans hc)
theorem end_all {s : ByteArray} {B : List UInt8} {k : Nat} (h : ReadTo (allL s) (allL s) B k) (hk : k + 1 < s.size) (hb : s[k] = 0) (hc : s[k + 1] = 1) : textL (allL s) = some (B, k + 2) := by
  obtain ⟨g, e⟩ := at_all s k (by omega)
  obtain ⟨g1, e1⟩ := at_all s (k + 1) (by omega)
  exact read_end h g1 (e.trans hb) (e1.trans hc)
theorem wrong_all {s : ByteArray} {B : List UInt8} {k : Nat} (h : ReadTo (allL s) (allL s) B k) (hk : k + 1 < s.size) (hb : s[k] = 0) (hc : ¬ s[k + 1] = 1) (hd : ¬ s[k + 1] = 255) : textL (allL s) = none := by
  obtain ⟨g, e⟩ := at_all s k (by omega)
  obtain ⟨g1, e1⟩ := at_all s (k + 1) (by omega)
  exact read_wrong h g1 (e.trans hb) (by rw [e1]; exact hc) (by rw [e1]; exact hd)
theorem last_all {s : ByteArray} {B : List UInt8} {k : Nat} (h : ReadTo (allL s) (allL s) B k) (hk : k < s.size) (he : ¬ k + 1 < s.size) (hb : s[k] = 0) : textL (allL s) = none := by
  obtain ⟨g, e⟩ := at_all s k hk
  exact read_last h g (by rw [len_all]; omega) (e.trans hb)
theorem over_all {s : ByteArray} {B : List UInt8} {k : Nat} (h : ReadTo (allL s) (allL s) B k) (hk : ¬ k < s.size) : textL (allL s) = none :=
  read_over h (by rw [len_all]; omega)
end Go.Proofs.YtiajlhjjmlakmaaGreatDoor.Num
