/-
  What is read of a value's bytes is that value, whatever stands behind them. No program is named here.
-/
import Derived.Test.YtiajlhjjmlakmaaGreatDoorVGetM
import Derived.Laws.Strings
namespace Go.Proofs.YtiajlhjjmlakmaaGreatDoor.Num

theorem be8_bytes (n : Nat) : be8 n = [byteAt n 7, byteAt n 6, byteAt n 5, byteAt n 4, byteAt n 3, byteAt n 2, byteAt n 1, byteAt n 0] := rfl
theorem byteAt_nat (n i : Nat) : (byteAt n i).toNat = n / 2 ^ (8 * i) % 256 := by
  simp only [byteAt, UInt8.toNat_ofNat']
  omega
theorem numOf_be8 (n : Nat) (hn : n < 18446744073709551616) : numOf (be8 n) = n := by
  rw [be8_bytes]
  simp only [numOf, List.foldl_cons, List.foldl_nil, byteAt_nat, Nat.reduceMul, Nat.reducePow]
  omega
theorem take_be8 (n : Nat) (r : List UInt8) : (be8 n ++ r).take 8 = be8 n := by
  rw [be8_bytes]
  rfl
theorem length_be8 (n : Nat) : (be8 n).length = 8 := rfl

theorem textL_esc : ∀ (l r : List UInt8), textL (esc l ++ (0 :: 1 :: r)) = some (l, (esc l).length + 2)
  | [], r => by rfl
  | b :: l, r => by
    have ih := textL_esc l r
    by_cases hb : b = 0
    · subst hb
      rw [esc, if_pos rfl]
      rw [List.cons_append, List.cons_append, textL, if_pos rfl, if_neg (by decide), if_pos rfl, ih]
      simp
    · rw [esc, if_neg hb, List.cons_append, textL_other b hb, ih]
      simp
theorem esc_len (l : List UInt8) : (esc l).length ≤ 2 * l.length := by
  induction l with
  | nil => simp [esc]
  | cons x r ih =>
    simp only [esc]
    split <;> simp <;> omega

theorem empty_data {s : ByteArray} (h : s.toList.isEmpty = true) : s.data.toList = [] := by
  rw [ByteArray.toList_eq] at h
  exact List.isEmpty_iff.1 h

theorem getH4 (r : List UInt8) : getL (4 :: r) = if r.length < 8 then bad else ⟨2, unshift (numOf (r.take 8)), 0, [], 9, 0⟩ := rfl
theorem getH5 (r : List UInt8) : getL (5 :: r) = if r.length < 8 then bad else if backOk (numOf (r.take 8)) then ⟨3, 0, backV (numOf (r.take 8)), [], 9, 0⟩ else bad := rfl
theorem getH6 (r : List UInt8) : getL (6 :: r) = getText 4 r := rfl
theorem getH7 (r : List UInt8) : getL (7 :: r) = getText 5 r := rfl
/-- A value that may be is read back, whatever stands behind its bytes. -/
theorem getL_put (k n : Int) (hn : -9223372036854775808 ≤ n ∧ n ≤ 9223372036854775807) (f : Nat) (hf : f < 18446744073709551616) (s : ByteArray) (hm : may k n f s = true) (r : List UInt8) :
    getL (putL k n f s ++ r) = ⟨k, n, f, s.data.toList, ((putL k n f s).length : Int), 0⟩ := by
  unfold may at hm
  split at hm
  · subst k
    simp only [Bool.and_eq_true, decide_eq_true_eq] at hm
    obtain ⟨⟨rfl, rfl⟩, hs⟩ := hm
    rw [empty_data hs]
    rfl
  split at hm
  · subst k
    simp only [Bool.and_eq_true, Bool.or_eq_true, decide_eq_true_eq] at hm
    obtain ⟨⟨h1, rfl⟩, hs⟩ := hm
    rw [empty_data hs]
    rcases h1 with rfl | rfl <;> rfl
  split at hm
  · subst k
    simp only [Bool.and_eq_true, decide_eq_true_eq] at hm
    obtain ⟨rfl, hs⟩ := hm
    rw [empty_data hs]
    have e : putL 2 n 0 s = 4 :: be8 (n + 9223372036854775808).toNat := rfl
    rw [e, List.cons_append, getH4, if_neg (by rw [List.length_append, length_be8]; omega), take_be8, numOf_be8 _ (by omega), List.length_cons, length_be8]
    unfold unshift
    rw [show (((n + 9223372036854775808).toNat : Nat) : Int) - 9223372036854775808 = n by omega]
    rfl
  split at hm
  · subst k
    simp only [Bool.and_eq_true, decide_eq_true_eq] at hm
    obtain ⟨⟨rfl, hc⟩, hs⟩ := hm
    rw [empty_data hs]
    have e : putL 3 0 f s = 5 :: be8 (place f) := rfl
    have hp := place_lt f hf
    have hu := unplace_place f hf
    rw [hc] at hu
    have h1 : backOk (place f) = true := by unfold backOk; rw [hu]; exact decide_eq_true hc
    have h2 : backV (place f) = f := by unfold backV; rw [hu, if_pos hc]
    rw [e]
    generalize place f = p at hp h1 h2
    rw [List.cons_append, getH5, if_neg (by rw [List.length_append, length_be8]; omega), take_be8, numOf_be8 _ hp, List.length_cons, length_be8, h1, h2, if_pos rfl]
    rfl
  split at hm
  · simp only [Bool.and_eq_true, decide_eq_true_eq] at hm
    obtain ⟨⟨rfl, rfl⟩, hs⟩ := hm
    have hsl : s.data.toList.length ≤ 40 := by
      have : s.data.toList.length = s.size := rfl
      omega
    have ht := textL_esc s.data.toList r
    have hg : ∀ kd : Int, getText kd (esc s.data.toList ++ [0, 1] ++ r) = ⟨kd, 0, 0, s.data.toList, (((esc s.data.toList).length + 2 : Nat) : Int) + 1, 0⟩ := by
      intro kd
      refine getText_some ?_ hsl kd
      rw [List.append_assoc]
      exact ht
    rename_i hk
    rcases hk with rfl | rfl
    · have e : putL 4 0 0 s = 6 :: (esc s.data.toList ++ [0, 1]) := rfl
      rw [e, List.cons_append, getH6, hg]
      simp
    · have e : putL 5 0 0 s = 7 :: (esc s.data.toList ++ [0, 1]) := rfl
      rw [e, List.cons_append, getH7, hg]
      simp
  · simp at hm
theorem length_putL (k n : Int) (f : Nat) (s : ByteArray) (hm : may k n f s = true) : (putL k n f s).length ≤ 83 := by
  have hs : (k = 4 ∨ k = 5) → s.data.toList.length ≤ 40 := by
    intro hk
    have : s.data.toList.length = s.size := rfl
    rcases hk with rfl | rfl
    · simp [may] at hm
      omega
    · simp [may] at hm
      omega
  have he := esc_len s.data.toList
  unfold putL
  split
  · simp
  split
  · simp [length_be8]
  split
  · simp [length_be8]
  split
  · have := hs (.inl (by assumption))
    simp
    omega
  split
  · have := hs (.inr (by assumption))
    simp
    omega
  · simp
end Go.Proofs.YtiajlhjjmlakmaaGreatDoor.Num
