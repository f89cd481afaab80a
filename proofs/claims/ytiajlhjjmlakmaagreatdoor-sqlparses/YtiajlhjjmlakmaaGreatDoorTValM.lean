/-
  Values and lists of them, as records of numbers and texts; the bytes of a tuple. No program is named here.
-/
import Derived.Test.YtiajlhjjmlakmaaGreatDoorVBackM
namespace Go.Proofs.YtiajlhjjmlakmaaGreatDoor.Num

/-- A value. -/
structure Val where
  k : Int
  n : Int
  f : Nat
  s : ByteArray
/-- Its numbers are numbers. -/
def Val.ok (x : Val) : Prop := (-9223372036854775808 ≤ x.n ∧ x.n ≤ 9223372036854775807) ∧ x.f < 18446744073709551616
def Val.v (x : Val) : Value := .agg #[.int .i64 x.k, .int .i64 x.n, .int .u64 (x.f : Int), .string x.s]
def Val.may (x : Val) : Bool := Num.may x.k x.n x.f x.s
def Val.put (x : Val) : List UInt8 := putL x.k x.n x.f x.s
/-- The bytes of values, one behind the other. -/
def putAll (l : List Val) : List UInt8 := l.flatMap Val.put
def mayAll (l : List Val) : Bool := l.all Val.may
/-- What Put tells of a tuple (3.1). -/
def tupT (l : List Val) : List UInt8 := if 16 < l.length then [] else if mayAll l then putAll l else []
def tupE (l : List Val) : Int := if 16 < l.length then 2 else if mayAll l then 0 else 1

theorem putAll_snoc (l : List Val) (i : Nat) (hi : i < l.length) : putAll (l.take (i + 1)) = putAll (l.take i) ++ (l[i]).put := by
  rw [List.take_add_one, List.getElem?_eq_getElem hi]
  show List.flatMap Val.put (l.take i ++ [l[i]]) = _
  rw [List.flatMap_append, List.flatMap_singleton]
  rfl
theorem mayAll_snoc (l : List Val) (i : Nat) (hi : i < l.length) : mayAll (l.take (i + 1)) = (mayAll (l.take i) && (l[i]).may) := by
  rw [List.take_add_one, List.getElem?_eq_getElem hi]
  show List.all (l.take i ++ [l[i]]) Val.may = _
  rw [List.all_append, List.all_cons, List.all_nil, Bool.and_true]
  rfl
theorem mayAll_bad (l : List Val) (i : Nat) (hi : i < l.length) (h : (l[i]).may = false) : mayAll l = false := by
  rw [mayAll, List.all_eq_false]
  exact ⟨l[i], List.getElem_mem hi, by simp [h]⟩
theorem length_put (x : Val) (h : x.may = true) : x.put.length ≤ 83 := length_putL x.k x.n x.f x.s h
theorem length_putAll (l : List Val) (i : Nat) (h : mayAll (l.take i) = true) : (putAll (l.take i)).length ≤ 83 * i := by
  induction i with
  | zero => simp [putAll]
  | succ i ih =>
    by_cases hi : i < l.length
    · rw [mayAll_snoc l i hi] at h
      have h' : mayAll (l.take i) = true ∧ (l[i]).may = true := by simpa using h
      rw [putAll_snoc l i hi, List.length_append]
      have := ih h'.1
      have := length_put _ h'.2
      omega
    · rw [List.take_of_length_le (by omega)] at h ⊢
      have := ih (by rw [List.take_of_length_le (by omega)]; exact h)
      rw [List.take_of_length_le (by omega)] at this
      omega
end Go.Proofs.YtiajlhjjmlakmaaGreatDoor.Num
