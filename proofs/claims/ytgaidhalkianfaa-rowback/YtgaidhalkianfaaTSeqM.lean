/-
  The values of which bytes are made, one behind the other, as a function of lists. No program is named here.
-/
import Derived.Test.YtgaidhalkianfaaTValM
namespace Go.Proofs.Ytgaidhalkianfaa.Num

/-- What is read at a time: a value, and the error. -/
def item (r : Res) : Val × Int := (⟨r.k, r.n, r.f, str r.s⟩, r.e)
/-- What is read of bytes, one behind the other, at most so many; what is left then, if it is no value, comes last. -/
def seqN : Nat → List UInt8 → List (Val × Int)
  | 0, _ => []
  | N + 1, l => if l = [] then [] else item (getL l) :: (if (getL l).e = 0 then seqN N (l.drop (getL l).c.toNat) else [])
/-- The values of bytes (3.2). -/
def good (q : List (Val × Int)) : Bool := q.all (fun x => decide (x.2 = 0)) && decide (q.length ≤ 16)
def valsL (l : List UInt8) : Option (List Val) := if good (seqN l.length l) then some ((seqN l.length l).map Prod.fst) else none

theorem textL_len : ∀ (r B : List UInt8) (n : Nat), textL r = some (B, n) → n ≤ r.length
  | [], _, _, h => by simp [textL] at h
  | [_], _, _, h => by simp [textL] at h
  | b :: c :: r, B, n, h => by
    rw [textL] at h
    split at h
    · split at h
      · simp at h
        simp
        omega
      · split at h
        · cases hr : textL r with
          | none => rw [hr] at h; simp at h
          | some p =>
            have := textL_len r p.1 p.2 hr
            rw [hr] at h
            simp at h
            simp
            omega
        · simp at h
    · cases hr : textL (c :: r) with
      | none => rw [hr] at h; simp at h
      | some p =>
        have := textL_len (c :: r) p.1 p.2 hr
        rw [hr] at h
        simp at h this
        simp
        omega
theorem getText_c (k : Int) (r : List UInt8) (h : (getText k r).e = 0) : 1 ≤ (getText k r).c ∧ (getText k r).c ≤ (r.length : Int) + 1 := by
  unfold getText at h ⊢
  cases ht : textL r with
  | none => rw [ht] at h; simp [bad] at h
  | some p =>
    have := textL_len r p.1 p.2 ht
    rw [ht] at h
    simp only at h ⊢
    split at h
    · rename_i h40
      rw [if_pos h40]
      simp
      omega
    · simp [bad] at h
theorem getL_c (l : List UInt8) (h : (getL l).e = 0) : 1 ≤ (getL l).c ∧ (getL l).c ≤ (l.length : Int) := by
  cases l with
  | nil => simp [getL, bad] at h
  | cons b r =>
    have e : getL (b :: r) = if b = 1 then ⟨0, 0, 0, [], 1, 0⟩ else if b = 2 then ⟨1, 0, 0, [], 1, 0⟩ else if b = 3 then ⟨1, 1, 0, [], 1, 0⟩
        else if b = 4 then (if r.length < 8 then bad else ⟨2, unshift (numOf (r.take 8)), 0, [], 9, 0⟩)
        else if b = 5 then (if r.length < 8 then bad else if backOk (numOf (r.take 8)) then ⟨3, 0, backV (numOf (r.take 8)), [], 9, 0⟩ else bad)
        else if b = 6 then getText 4 r else if b = 7 then getText 5 r else bad := rfl
    rw [List.length_cons]
    rw [e] at h ⊢
    split
    · simp
      omega
    · rename_i h1
      rw [if_neg h1] at h
      split
      · simp
        omega
      · rename_i h2
        rw [if_neg h2] at h
        split
        · simp
          omega
        · rename_i h3
          rw [if_neg h3] at h
          split
          · rename_i h4
            rw [if_pos h4] at h
            split at h
            · simp [bad] at h
            · rename_i h8
              rw [if_neg h8]
              simp
              omega
          · rename_i h4
            rw [if_neg h4] at h
            split
            · rename_i h5
              rw [if_pos h5] at h
              split at h
              · simp [bad] at h
              · rename_i h8
                split at h
                · rename_i hb
                  rw [if_neg h8, if_pos hb]
                  simp
                  omega
                · simp [bad] at h
            · rename_i h5
              rw [if_neg h5] at h
              split
              · rename_i h6
                rw [if_pos h6] at h
                have := getText_c 4 r h
                omega
              · rename_i h6
                rw [if_neg h6] at h
                split
                · rename_i h7
                  rw [if_pos h7] at h
                  have := getText_c 5 r h
                  omega
                · rename_i h7
                  rw [if_neg h7] at h
                  simp [bad] at h
end Go.Proofs.Ytgaidhalkianfaa.Num
