/-
  What TxnNotes asks, plainly: what a transaction read is all that can hinder it.
-/
import Derived.Test.YtdmkmhjalcfchaaTxN
namespace Go.Proofs.Ytdmkmhjalcfchaa
open Num
open scoped Classical
set_option linter.unusedVariables false
set_option maxRecDepth 100000

/-- Did it read k? -/
def Num.readB (t : Tx) (k : ByteArray) : Bool := t.asked.any (fun y => y.toList == k.toList) || t.rngs.any (fun g => withinB k g.lo g.hi)
theorem any_ins (k x : ByteArray) (l : List ByteArray) : (insA l x).any (fun y => y.toList == k.toList) = (l.any (fun y => y.toList == k.toList) || (x.toList == k.toList)) := by
  rw [Bool.eq_iff_iff, List.any_eq_true, Bool.or_eq_true, List.any_eq_true]
  constructor
  · rintro ⟨y, hy, he⟩
    rcases insA_mem.1 hy with rfl | hy
    · exact .inr he
    · exact .inl ⟨y, hy, he⟩
  · rintro (⟨y, hy, he⟩ | he)
    · exact ⟨y, insA_mem.2 (.inr hy), he⟩
    · exact ⟨x, insA_mem.2 (.inl rfl), he⟩
/-- What is known of it: it never wrote. -/
structure Num.NoteT (t : Tx) (st : Sto) (n : Nat) : Prop where
  st : t.st = st
  snap : t.snap = 1000
  ws : t.ws = []
  lim : t.lim ≤ n
theorem note_get {t : Tx} {st : Sto} {n : Nat} (h : NoteT t st n) (x k : ByteArray) : NoteT (getN t x) st (n + 1) ∧ readB (getN t x) k = (readB t k || (x.toList == k.toList)) := by
  have hf : findW t.ws x = none := by rw [h.ws]; rfl
  rw [getN_none hf]
  have := h.lim
  refine ⟨⟨h.st, h.snap, h.ws, by show t.lim + 1 ≤ n + 1; omega⟩, ?_⟩
  unfold readB
  simp only
  rw [any_ins, Bool.or_assoc, Bool.or_assoc, Bool.or_comm (x.toList == k.toList)]
theorem note_scan {t : Tx} {st : Sto} {n : Nat} (h : NoteT t st n) (lo hi k : ByteArray) (N : Int) (r : List Pr) : NoteT (scanN t lo hi N r) st (n + 1) ∧ readB (scanN t lo hi N r) k = (readB t k || withinB k (seenR lo hi (scanX t lo hi N r) N).lo (seenR lo hi (scanX t lo hi N r) N).hi) := by
  have := h.lim
  refine ⟨⟨h.st, h.snap, h.ws, by show t.lim + 1 ≤ n + 1; omega⟩, ?_⟩
  unfold readB scanN
  simp only
  rw [List.any_append, Bool.or_assoc]
  simp
theorem seenR_lo (lo hi : ByteArray) (told : List Pr) (n : Int) : (seenR lo hi told n).lo = lo := by
  unfold seenR
  split
  · split <;> rfl
  · rfl
/-! The document's store with a version more. -/
def Num.moreV (k : ByteArray) : Ver := ⟨k, 2000, ⟨#[109, 111, 114, 101]⟩, false⟩
theorem more_put (l : List Pr) (k : ByteArray) : (putS (bothS l) (moreV k)).2.vs = (bothS l).vs ++ [moreV k] := by
  have h := both_ok l (min l.length 60)
  have h1 := h.len
  have h2 := h.top
  have h3 := h.room
  have e : putS (bothS l) (moreV k) = (0, ⟨(bothS l).room, 2000, (bothS l).vs ++ [moreV k]⟩) := put_app h.inv (by show (1 : Int) ≤ 2000; decide) (by show (2000 : Int) < 1099511627776; decide) (by show (bothN l (min l.length 60)).top < 2000; omega) rfl (by show ((bothN l (min l.length 60)).vs.length : Int) < (bothN l (min l.length 60)).room; omega)
  rw [e]
theorem times_few (l : List Pr) : ∀ v ∈ (bothS l).vs, v.time ≤ 1000 := fun v hv => by
  have h := both_ok l (min l.length 60)
  have h1 := (h.inv.2.1 v hv).2
  have h2 := h.top
  have h3 : min l.length 60 ≤ 60 := Nat.min_le_right _ _
  have h4 : v.time ≤ ((min l.length 60 : Nat) : Int) := Int.le_trans h1 h2
  omega
theorem last_more {vs : List Ver} (hv : ∀ v ∈ vs, v.time ≤ 1000) (k x : ByteArray) : decide (1000 < lastT (vs ++ [moreV k]) x) = (x.toList == k.toList) := by
  unfold lastT
  by_cases e : x = k
  · subst e
    have hl : lastA (vs ++ [moreV x]) x = some (moreV x) := by
      rw [lastA_key, keyV_snoc, if_pos (show (moreV x).key = x from rfl), List.getLast?_append]
      rfl
    rw [hl]
    simp [moreV]
  · have hl : lastA (vs ++ [moreV k]) x = lastA vs x := by
      rw [lastA_key, lastA_key, keyV_snoc, if_neg (show ¬ (moreV k).key = x from fun h => e h.symm)]
    rw [hl, key_ne e]
    cases hx : lastA vs x with
    | none => rfl
    | some y =>
      have hm := List.mem_of_getLast? hx
      have := hv y (List.mem_filter.1 hm).1
      simp
      omega
theorem since_more {vs : List Ver} (hv : ∀ v ∈ vs, v.time ≤ 1000) (k lo hi : ByteArray) : sinceV (vs ++ [moreV k]) lo hi 1000 = withinB k lo hi := by
  unfold sinceV
  rw [List.any_append]
  have h0 : vs.any (fun v => decide ((1000 : Int) < v.time) && withinB v.key lo hi) = false := by
    rw [List.any_eq_false]
    intro v hm
    have := hv v hm
    simp
    omega
  rw [h0]
  simp [moreV]
end Go.Proofs.Ytdmkmhjalcfchaa
