/-
  Contracts: the value at the beginning of any bytes, or that they are refused: of the program and of the document's own.
-/
import Derived.Test.YtgaidhalkianfaaVGet4
namespace Go.Proofs.Ytgaidhalkianfaa
open Go.RowKit Num
set_option linter.unusedVariables false

theorem unshift_wrap (u : Nat) (hu : u < 18446744073709551616) : IntKind.i64.wrap ((shiftN u : Nat) : Int) = unshift u := by
  rw [IntKind.wrap_i64]
  unfold shiftN unshift
  omega
theorem textL_le : ∀ (r B : List UInt8) (n : Nat), textL r = some (B, n) → n ≤ r.length
  | [], _, _, h => by simp [textL] at h
  | [_], _, _, h => by simp [textL] at h
  | b :: c :: r, B, n, h => by
    rw [textL] at h
    split at h
    · split at h
      · simp at h
        simp
        omega
      · split at h
        · cases hr : textL r with
          | none => rw [hr] at h; simp at h
          | some p =>
            have := textL_le r p.1 p.2 hr
            rw [hr] at h
            simp at h
            simp
            omega
        · simp at h
    · cases hr : textL (c :: r) with
      | none => rw [hr] at h; simp at h
      | some p =>
        have := textL_le (c :: r) p.1 p.2 hr
        rw [hr] at h
        simp at h this
        simp
        omega

theorem getL_1 (r : List UInt8) : getL (1 :: r) = ⟨0, 0, 0, [], 1, 0⟩ := rfl
theorem getL_2 (r : List UInt8) : getL (2 :: r) = ⟨1, 0, 0, [], 1, 0⟩ := rfl
theorem getL_3 (r : List UInt8) : getL (3 :: r) = ⟨1, 1, 0, [], 1, 0⟩ := rfl
theorem getL_4 (r : List UInt8) : getL (4 :: r) = if r.length < 8 then bad else ⟨2, unshift (numOf (r.take 8)), 0, [], 9, 0⟩ := rfl
theorem getL_5 (r : List UInt8) : getL (5 :: r) = if r.length < 8 then bad else if backOk (numOf (r.take 8)) then ⟨3, 0, backV (numOf (r.take 8)), [], 9, 0⟩ else bad := rfl
theorem getL_6 (r : List UInt8) : getL (6 :: r) = getText 4 r := rfl
theorem getL_7 (r : List UInt8) : getL (7 :: r) = getText 5 r := rfl
theorem getL_bad (b : UInt8) (r : List UInt8) (h1 : ¬ b = 1) (h2 : ¬ b = 2) (h3 : ¬ b = 3) (h4 : ¬ b = 4) (h5 : ¬ b = 5) (h6 : ¬ b = 6) (h7 : ¬ b = 7) : getL (b :: r) = bad := by
  simp only [getL]
  rw [if_neg h1, if_neg h2, if_neg h3, if_neg h4, if_neg h5, if_neg h6, if_neg h7]
theorem resV_eq (X : Res) : resV X = .tuple #[.agg #[.int .i64 X.k, .int .i64 X.n, .int .u64 (X.f : Int), .string (str X.s)], .int .i64 X.c, .int .i64 X.e] := rfl

theorem get_any (s : ByteArray) (hs : s.size ≤ 900000) (w : World) :
    Calls Try.prog 27 #[.string s] w fun e w' => e = .returned (resV (getL s.data.toList)) ∧ Below w.heap.size w w' := by
  by_cases h0 : s.size = 0
  · rw [getL_empty h0]
    exact get_empty s h0 w
  · have hp : 0 < s.size := by omega
    rw [getL_head hp]
    have hlen := len_tail s
    by_cases h1 : s[0] = 1
    · rw [h1, getL_1]
      exact get_1 s hp h1 w
    by_cases h2 : s[0] = 2
    · rw [h2, getL_2]
      exact get_2 s hp h2 w
    by_cases h3 : s[0] = 3
    · rw [h3, getL_3]
      exact get_3 s hp h3 w
    by_cases h4 : s[0] = 4
    · rw [h4, getL_4]
      by_cases h9 : s.size < 9
      · rw [if_pos (by omega)]
        exact get_4 s hp h4 bad (fun w => getInt_bad s (by omega) h9 w) w
      · rw [if_neg (by omega)]
        have hlt := numOf_take_lt (tailL s) 8 (by omega)
        exact get_4 s hp h4 _ (fun w => getInt_ok s h9 _ (unshift_wrap (numOf ((tailL s).take 8)) hlt) w) w
    by_cases h5 : s[0] = 5
    · rw [h5, getL_5]
      by_cases h9 : s.size < 9
      · rw [if_pos (by omega)]
        exact get_5 s hp h5 bad (fun w => getFloat_bad s (by omega) h9 w) w
      · rw [if_neg (by omega)]
        cases hb : backOk (numOf ((tailL s).take 8)) with
        | true =>
          rw [if_pos rfl]
          exact get_5 s hp h5 _ (fun w => getFloat_ok s h9 hb _ rfl w) w
        | false =>
          rw [if_neg (by decide)]
          exact get_5 s hp h5 bad (fun w => getFloat_no s h9 hb w) w
    by_cases h6 : s[0] = 6
    · rw [h6, getL_6, resV_eq]
      exact get_6 s hp h6 _ (fun w => getText_any 4 s (by omega) (by omega) w) w
    by_cases h7 : s[0] = 7
    · rw [h7, getL_7, resV_eq]
      exact get_7 s hp h7 _ (fun w => getText_any 5 s (by omega) (by omega) w) w
    rw [getL_bad _ _ h1 h2 h3 h4 h5 h6 h7]
    exact get_bad s hp h1 h2 h3 h4 h5 h6 h7 w

theorem refGet_any (s : ByteArray) (hs : s.size ≤ 900000) (w : World) :
    Calls Try.prog 28 #[.string s] w fun e w' => e = .returned (resV (getL s.data.toList)) ∧ Below w.heap.size w w' := by
  by_cases h0 : s.size = 0
  · rw [getL_empty h0]
    exact refGet_empty s h0 w
  · have hp : 0 < s.size := by omega
    rw [getL_head hp]
    have hlen := len_tail s
    by_cases h1 : s[0] = 1
    · rw [h1, getL_1]
      exact refGet_1 s hp h1 w
    by_cases h2 : s[0] = 2
    · rw [h2, getL_2]
      exact refGet_2 s hp h2 w
    by_cases h3 : s[0] = 3
    · rw [h3, getL_3]
      exact refGet_3 s hp h3 w
    by_cases h4 : s[0] = 4
    · rw [h4, getL_4]
      by_cases h9 : s.size < 9
      · rw [if_pos (by omega)]
        exact refGet_4bad s hp h4 h9 w
      · rw [if_neg (by omega)]
        have hlt := numOf_take_lt (tailL s) 8 (by omega)
        exact refGet_4ok s hp h4 h9 _ rfl _ (xor_shift _ hlt) _ (unshift_wrap _ hlt) w
    by_cases h5 : s[0] = 5
    · rw [h5, getL_5]
      by_cases h9 : s.size < 9
      · rw [if_pos (by omega)]
        exact refGet_5bad s hp h5 h9 w
      · rw [if_neg (by omega)]
        cases hb : backOk (numOf ((tailL s).take 8)) with
        | true =>
          rw [if_pos rfl]
          exact refGet_5ok s hp h5 h9 hb _ rfl w
        | false =>
          rw [if_neg (by decide)]
          exact refGet_5no s hp h5 h9 hb w
    by_cases h6 : s[0] = 6
    · rw [h6, getL_6]
      cases ht : textL (tailL s) with
      | none =>
        rw [getText_none ht]
        exact refGet_6none s hp hs h6 ht w
      | some p =>
        obtain ⟨B, n⟩ := p
        have hle := textL_le _ _ _ ht
        by_cases hB : B.length ≤ 40
        · rw [getText_some ht hB]
          exact refGet_6ok s hp hs h6 B n (by omega) ht hB w
        · rw [getText_much ht (by omega)]
          exact refGet_6much s hp hs h6 B n ht (by omega) w
    by_cases h7 : s[0] = 7
    · rw [h7, getL_7]
      cases ht : textL (tailL s) with
      | none =>
        rw [getText_none ht]
        exact refGet_7none s hp hs h7 ht w
      | some p =>
        obtain ⟨B, n⟩ := p
        have hle := textL_le _ _ _ ht
        by_cases hB : B.length ≤ 40
        · rw [getText_some ht hB]
          exact refGet_7ok s hp hs h7 B n (by omega) ht hB w
        · rw [getText_much ht (by omega)]
          exact refGet_7much s hp hs h7 B n ht (by omega) w
    rw [getL_bad _ _ h1 h2 h3 h4 h5 h6 h7]
    exact refGet_bad s hp h1 h2 h3 h4 h5 h6 h7 w
end Go.Proofs.Ytgaidhalkianfaa
