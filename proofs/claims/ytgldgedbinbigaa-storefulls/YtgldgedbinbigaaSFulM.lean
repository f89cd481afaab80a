/-
  A store that is filled with versions of one key, as plain lists (8.2). No program is named here.
-/
import Derived.Test.YtgldgedbinbigaaSNew
namespace Go.Proofs.Ytgldgedbinbigaa
open Num
set_option linter.unusedVariables false

/-- The first versions of one key. -/
def Num.fullV (k v : ByteArray) (i : Nat) : List Ver := (List.range i).map (fun j : Nat => ⟨k, (j : Int) + 1, v, false⟩)
theorem full_key (k v : ByteArray) (i : Nat) : ∀ x ∈ fullV k v i, x.key = k := by
  intro x hx
  unfold fullV at hx
  obtain ⟨j, _, rfl⟩ := List.mem_map.1 hx
  rfl
theorem full_len (k v : ByteArray) (i : Nat) : (fullV k v i).length = i := by simp [fullV]
theorem full_succ (k v : ByteArray) (i : Nat) : fullV k v (i + 1) = fullV k v i ++ [⟨k, (i : Int) + 1, v, false⟩] := by
  unfold fullV
  rw [List.range_succ, List.map_append]
  rfl
theorem full_last (k v : ByteArray) (i : Nat) : lastA (fullV k v (i + 1)) k = some ⟨k, (i : Int) + 1, v, false⟩ := by
  rw [lastA_key, one_key (full_key k v _), full_succ, List.getLast?_concat]
theorem full_lastAt (k v : ByteArray) (i : Nat) (t : Int) (ht : (i : Int) < t) : lastAt (lastA (fullV k v i) k) t = false := by
  cases i with
  | zero => rfl
  | succ i =>
    rw [full_last]
    exact decide_eq_false (by simp at ht ⊢; omega)
theorem full_none (k v : ByteArray) (i : Nat) (hi : i ≠ 0) : noneLeft (lastA (fullV k v i) k) = false := by
  cases i with
  | zero => exact absurd rfl hi
  | succ i =>
    rw [full_last]
    rfl
theorem full_put (k v : ByteArray) (n i : Nat) (hi : i < n) (hn : n ≤ 100) : putS ⟨(n : Int), (i : Int), fullV k v i⟩ ⟨k, (i : Int) + 1, v, false⟩ = (0, ⟨(n : Int), ((i + 1 : Nat) : Int), fullV k v (i + 1)⟩) := by
  unfold putS
  simp only
  rw [if_neg (by omega), if_neg (by simp), full_lastAt k v i _ (by omega), if_neg (by simp), full_len, if_neg (by omega), full_succ]
  rfl
theorem full_more (k v u : ByteArray) (n : Nat) (hn : n ≤ 100) : putS ⟨(n : Int), (n : Int), fullV k v n⟩ ⟨k, (n : Int) + 1, u, false⟩ = (4, ⟨(n : Int), (n : Int), fullV k v n⟩) := by
  unfold putS
  simp only
  rw [if_neg (by omega), if_neg (by simp), full_lastAt k v n _ (by omega), if_neg (by simp), full_len, if_pos (by omega)]
theorem full_del (k v : ByteArray) (n : Nat) (h0 : n ≠ 0) (hn : n ≤ 100) : putS ⟨(n : Int), (n : Int), fullV k v n⟩ ⟨k, (n : Int) + 1, ⟨#[]⟩, true⟩ = (4, ⟨(n : Int), (n : Int), fullV k v n⟩) := by
  unfold putS
  simp only
  rw [if_neg (by omega), full_none k v n h0, if_neg (by simp), full_lastAt k v n _ (by omega), if_neg (by simp), full_len, if_pos (by omega)]
theorem full_turn (k v u : ByteArray) (m : Nat) (hm : m ≤ 100) : putS ⟨((m + 1 : Nat) : Int), ((m + 1 : Nat) : Int), fullV k v (m + 1)⟩ ⟨k, ((m + 1 : Nat) : Int), u, false⟩ = (0, ⟨((m + 1 : Nat) : Int), ((m + 1 : Nat) : Int), fullV k v m ++ [⟨k, ((m + 1 : Nat) : Int), u, false⟩]⟩) := by
  have hl := full_last k v m
  have ht : turnV (fullV k v (m + 1)) k ⟨k, ((m + 1 : Nat) : Int), u, false⟩ = fullV k v m ++ [⟨k, ((m + 1 : Nat) : Int), u, false⟩] := by
    have h1 := keyV_turn (v := ⟨k, ((m + 1 : Nat) : Int), u, false⟩) hl k
    rw [if_pos rfl, one_key (full_key k v _), full_succ, List.dropLast_concat] at h1
    rw [← h1, ← full_succ, one_key]
    intro y hy
    rcases turn_mem hl hy with rfl | hy
    · rfl
    · exact full_key k v _ y hy
  unfold putS
  simp only
  rw [if_neg (by omega), if_neg (by simp), hl, if_pos (by simp [lastAt]), ht]
theorem turned_key (k v u : ByteArray) (m : Nat) (t : Int) : ∀ x ∈ fullV k v m ++ [(⟨k, t, u, false⟩ : Ver)], x.key = k := by
  intro x hx
  rcases List.mem_append.1 hx with hx | hx
  · exact full_key k v m x hx
  · rw [List.mem_singleton.1 hx]
theorem turned_get (k v u : ByteArray) (m : Nat) : getV (fullV k v m ++ [⟨k, ((m + 1 : Nat) : Int), u, false⟩]) k ((m + 1 : Nat) : Int) = some u := by
  unfold getV lastV
  rw [verT_key, one_key (turned_key k v u m _), List.filter_append, List.filter_cons, if_pos (by simp)]
  show (match (_ ++ [(⟨k, ((m + 1 : Nat) : Int), u, false⟩ : Ver)]).getLast? with | none => none | some v => if v.gone = true then none else some v.val) = _
  rw [List.getLast?_concat]
  rfl
theorem turned_last (k v u : ByteArray) (m : Nat) : lastT (fullV k v m ++ [⟨k, ((m + 1 : Nat) : Int), u, false⟩]) k = ((m + 1 : Nat) : Int) := by
  unfold lastT
  rw [lastA_key, one_key (turned_key k v u m _), List.getLast?_concat]
theorem turned_old (k v u x : ByteArray) (m : Nat) : putS ⟨((m + 1 : Nat) : Int), ((m + 1 : Nat) : Int), fullV k v m ++ [⟨k, ((m + 1 : Nat) : Int), u, false⟩]⟩ ⟨k, (m : Int), x, false⟩ = (1, ⟨((m + 1 : Nat) : Int), ((m + 1 : Nat) : Int), fullV k v m ++ [⟨k, ((m + 1 : Nat) : Int), u, false⟩]⟩) := by
  unfold putS
  simp only
  rw [if_pos (by omega)]
theorem turned_other (k v u y : ByteArray) (hy : y ≠ k) (m : Nat) (hm : m ≤ 100) : putS ⟨((m + 1 : Nat) : Int), ((m + 1 : Nat) : Int), fullV k v m ++ [⟨k, ((m + 1 : Nat) : Int), u, false⟩]⟩ ⟨y, ((m + 1 : Nat) : Int) + 5, ⟨#[]⟩, true⟩ = (0, ⟨((m + 1 : Nat) : Int), ((m + 1 : Nat) : Int), fullV k v m ++ [⟨k, ((m + 1 : Nat) : Int), u, false⟩]⟩) := by
  have hl : lastA (fullV k v m ++ [⟨k, ((m + 1 : Nat) : Int), u, false⟩]) y = none := by
    rw [lastA_key, keyV_none]
    · rfl
    · intro x hx
      exact isKey_no (by rw [turned_key k v u m _ x hx]; exact fun e => hy e.symm)
  unfold putS
  simp only
  rw [if_neg (by omega), hl, if_pos (by simp [noneLeft])]
theorem turned_len (k v u : ByteArray) (m : Nat) (t : Int) : (fullV k v m ++ [(⟨k, t, u, false⟩ : Ver)]).length = m + 1 := by
  rw [List.length_append, full_len]
  rfl
end Go.Proofs.Ytgldgedbinbigaa
