/-
  One token alone in its text; ints and what is none. No program is named here.
-/
import Derived.Test.YtiajlhjjmlakmaaGreatDoorLxN
namespace Go.Proofs.YtiajlhjjmlakmaaGreatDoor.Num

theorem lex_none {l : List UInt8} (h1 : 1 ≤ l.length) (hb : blankB (l.headD 0) = false) (ht : tokL l = none) : lexAt (str l) 0 = (none, 0) := by
  cases l with
  | nil => simp at h1
  | cons c r =>
    have hb : blankB c = false := hb
    show lexG ((str (c :: r)).size - 0) 0 ((c :: r).drop 0) = _
    rw [show (str (c :: r)).size - 0 = r.length + 1 from rfl, List.drop_zero, lexG, if_neg (by simp [hb]), ht]
theorem lex_one {l : List UInt8} (h1 : 1 ≤ l.length) (hb : blankB (l.headD 0) = false) {k : Int} {v : Val} (ht : tokL l = some (k, l.length, v)) : lexAt (str l) 0 = (some [⟨k, str l, v, 0⟩, ⟨0, ⟨#[]⟩, noV, l.length⟩], 0) := by
  cases l with
  | nil => simp at h1
  | cons c r =>
    have hb : blankB c = false := hb
    show lexG ((str (c :: r)).size - 0) 0 ((c :: r).drop 0) = _
    rw [show (str (c :: r)).size - 0 = r.length + 1 from rfl, List.drop_zero, lexG, if_neg (by simp [hb]), ht]
    simp only
    rw [List.take_of_length_le (Nat.le_refl _), List.drop_of_length_le (Nat.le_refl _), Nat.zero_add]
    cases r.length with
    | zero => rfl
    | succ n => rfl
theorem tok_int {c : UInt8} {r : List UInt8} (hc : digB c = true ∨ c.toNat = 45) (hr : ∀ x ∈ r, letB x = true) : tokL (c :: r) = intT (c :: r) ∧ blankB c = false := by
  have hn : c.toNat ≤ 57 := by
    rcases hc with h | h
    · exact ((digB_iff c).1 h).2
    · omega
  have hm : 45 ≤ c.toNat := by
    rcases hc with h | h
    · have := ((digB_iff c).1 h).1
      omega
    · omega
  have hl : lowB c = false := by
    unfold lowB
    rw [decide_eq_false (show ¬ 97 ≤ c.toNat by omega)]
    rfl
  have hru : runL letB r = r.length := runL_all letB r fun j hj => hr _ (List.getElem_mem hj)
  refine ⟨?_, ?_⟩
  · rw [tokL, if_neg (by omega), if_neg (by omega), if_neg (by simp [hl]), if_pos hc, hru, List.take_of_length_le (Nat.le_refl _)]
  · unfold blankB
    rw [decide_eq_false (show ¬ c.toNat = 32 by omega), decide_eq_false (show ¬ c.toNat = 9 by omega), decide_eq_false (show ¬ c.toNat = 10 by omega)]
    rfl
theorem dec_all (u : Nat) : ∀ x ∈ Go.Lib.decDigits u, digB x = true := List.all_eq_true.1 (dec_canon u).1.2.1
/-- What is told of an int begins with a digit or a minus, and has digits behind. -/
theorem itoa_shape (n : Int) : ∃ c r, Go.Lib.itoa n = c :: r ∧ (digB c = true ∨ c.toNat = 45) ∧ ∀ x ∈ r, digB x = true := by
  unfold Go.Lib.itoa
  split
  · exact ⟨45, _, rfl, .inr rfl, dec_all _⟩
  · obtain ⟨c, r, e, hc⟩ := dec_head n.toNat
    have h := dec_all n.toNat
    rw [e] at h ⊢
    exact ⟨c, r, rfl, .inl hc, fun x hx => h x (by simp [hx])⟩
theorem lex_int (n : Int) (h0 : -9223372036854775808 ≤ n) (h1 : n ≤ 9223372036854775807) : lexAt (str (Go.Lib.itoa n)) 0 = (some [⟨3, str (Go.Lib.itoa n), ⟨2, n, 0, ⟨#[]⟩⟩, 0⟩, ⟨0, ⟨#[]⟩, noV, (Go.Lib.itoa n).length⟩], 0) := by
  obtain ⟨c, r, e, hc, hr⟩ := itoa_shape n
  have ht := tok_int hc fun x hx => digB_let (hr x hx)
  have hi := intT_itoa n h0 h1
  rw [e] at hi ⊢
  exact lex_one (l := c :: r) (by simp) ht.2 (by rw [ht.1, hi])
theorem itoa_digs (n : Int) : ∀ x ∈ (Go.Lib.itoa n).drop 1, digB x = true := by
  obtain ⟨c, r, e, hc, hr⟩ := itoa_shape n
  rw [e]
  exact hr
/-- A letter behind digits. -/
theorem lex_int_letter (n : Int) (b : UInt8) (hb : lowB b = true) : lexAt (str (Go.Lib.itoa n ++ [b])) 0 = (none, 0) := by
  obtain ⟨c, r, e, hc, hr⟩ := itoa_shape n
  rw [e, List.cons_append]
  have ht := tok_int (r := r ++ [b]) hc (by
    intro x hx
    rcases List.mem_append.1 hx with hx | hx
    · exact digB_let (hr x hx)
    · rw [List.mem_singleton] at hx
      subst hx
      simp [letB, hb])
  refine lex_none (by simp) ht.2 ?_
  rw [ht.1]
  cases hx : intT (c :: (r ++ [b])) with
  | none => rfl
  | some x =>
    obtain ⟨m, _, _, em⟩ := intT_some hx
    have hd := itoa_digs m b (by rw [em]; simp)
    have h1 := (digB_iff b).1 hd
    unfold lowB at hb
    simp at hb
    omega
/-- A nought ahead of digits. -/
theorem nought_dec (u : Nat) (l : List UInt8) (hl : 1 ≤ l.length) : Go.Lib.decDigits u ≠ 48 :: l := by
  intro e
  obtain ⟨⟨_, _, h⟩, _, _⟩ := dec_canon u
  rw [e] at h
  rcases h with h | h
  · simp only [List.length_cons] at h
    omega
  · exact h rfl
theorem lex_int_zero (n : Int) (h : ¬ n < 0) : lexAt (str (48 :: Go.Lib.itoa n)) 0 = (none, 0) := by
  obtain ⟨c, r, e, hc, hr⟩ := itoa_shape n
  have hall : ∀ x ∈ Go.Lib.itoa n, letB x = true := by
    unfold Go.Lib.itoa
    rw [if_neg h]
    exact fun x hx => digB_let (dec_all _ x hx)
  have ht := tok_int (c := 48) (.inl (by decide)) hall
  refine lex_none (by simp) ht.2 ?_
  rw [ht.1]
  cases hx : intT (48 :: Go.Lib.itoa n) with
  | none => rfl
  | some x =>
    obtain ⟨m, _, _, em⟩ := intT_some hx
    unfold Go.Lib.itoa at em
    split at em
    · injection em with em _
      cases em
    · exact absurd em (nought_dec _ _ (dec_canon _).1.1)
theorem lex_int_neg (n : Int) (h : n < 0) : lexAt (str (45 :: 48 :: (Go.Lib.itoa n).drop 1)) 0 = (none, 0) := by
  have hi : Go.Lib.itoa n = 45 :: Go.Lib.decDigits n.natAbs := by
    unfold Go.Lib.itoa
    rw [if_pos h]
  have hdr : (Go.Lib.itoa n).drop 1 = Go.Lib.decDigits n.natAbs := by
    rw [hi]
    rfl
  rw [hdr]
  have ht := tok_int (c := 45) (r := 48 :: Go.Lib.decDigits n.natAbs) (.inr rfl) (by
    intro x hx
    rcases List.mem_cons.1 hx with hx | hx
    · subst hx
      decide
    · exact digB_let (dec_all _ x hx))
  refine lex_none (by simp) ht.2 ?_
  rw [ht.1]
  cases hx : intT (45 :: 48 :: Go.Lib.decDigits n.natAbs) with
  | none => rfl
  | some x =>
    obtain ⟨m, _, _, em⟩ := intT_some hx
    unfold Go.Lib.itoa at em
    split at em
    · injection em with _ em
      exact absurd em (nought_dec _ _ (dec_canon _).1.1)
    · obtain ⟨c, r, e2, hc⟩ := dec_head m.toNat
      rw [e2] at em
      injection em with em _
      subst em
      cases hc
end Go.Proofs.YtiajlhjjmlakmaaGreatDoor.Num
