/-
  Ints among tokens: what is read from digits, and told again as the same ones. No program is named here.
-/
import Derived.Test.YtiajlhjjmlakmaaGreatDoorLxM
import Derived.Lib.ParseIntBTie
namespace Go.Proofs.YtiajlhjjmlakmaaGreatDoor.Num

/-- The number of decimal digits. -/
def decVal (l : List UInt8) : Nat := l.foldl (fun a c => a * 10 + (c.toNat - 48)) 0
/-- Digits as they are told: at least one, none but digits, no nought ahead. -/
def canonD (d : List UInt8) : Prop := 1 ≤ d.length ∧ d.all digB = true ∧ (d.length ≤ 1 ∨ d.headD 0 ≠ 48)

theorem digB_iff (c : UInt8) : digB c = true ↔ 48 ≤ c.toNat ∧ c.toNat ≤ 57 := by simp [digB]
theorem decVal_snoc (l : List UInt8) (c : UInt8) : decVal (l ++ [c]) = decVal l * 10 + (c.toNat - 48) := by simp [decVal]
theorem fold_le : ∀ (l : List UInt8) (a : Nat), a ≤ l.foldl (fun a c => a * 10 + (c.toNat - 48)) a
  | [], _ => Nat.le_refl _
  | c :: r, a => by
    have := fold_le r (a * 10 + (c.toNat - 48))
    simp only [List.foldl_cons]
    omega
theorem decVal_take (l : List UInt8) (j : Nat) : decVal (l.take j) ≤ decVal l := by
  have h := fold_le (l.drop j) (decVal (l.take j))
  have e : decVal l = (l.drop j).foldl (fun a c => a * 10 + (c.toNat - 48)) (decVal (l.take j)) := by
    unfold decVal
    rw [← List.foldl_append, List.take_append_drop]
  omega
theorem decVal_take_succ (l : List UInt8) (j : Nat) (h : j < l.length) : decVal (l.take (j + 1)) = decVal (l.take j) * 10 + (l[j].toNat - 48) := by
  rw [List.take_add_one, List.getElem?_eq_getElem h]
  exact decVal_snoc _ _
theorem decVal_pos {c : UInt8} {l : List UInt8} (h : 49 ≤ c.toNat) : 1 ≤ decVal (c :: l) := by
  have := decVal_take (c :: l) 1
  have e : decVal ((c :: l).take 1) = c.toNat - 48 := by simp [decVal]
  omega
theorem digit_of (c : UInt8) (h : digB c = true) : UInt8.ofNat (48 + (c.toNat - 48)) = c := by
  have := (digB_iff c).1 h
  rw [show 48 + (c.toNat - 48) = c.toNat by omega]
  exact UInt8.ofNat_toNat
/-- Digits as they are told are those of their number. -/
theorem dec_of : ∀ (n : Nat) (d : List UInt8), d.length = n → canonD d → Go.Lib.decDigits (decVal d) = d
  | 0, d, hn, h => by have := h.1; omega
  | n + 1, d, hn, h => by
    obtain ⟨l, c, rfl⟩ : ∃ l c, d = l ++ [c] := by
      have hne : d ≠ [] := by intro e; subst e; simp at hn
      exact ⟨d.dropLast, d.getLast hne, (List.dropLast_concat_getLast hne).symm⟩
    obtain ⟨_, ha, hz⟩ := h
    rw [List.all_append, Bool.and_eq_true, List.all_cons, List.all_nil, Bool.and_true] at ha
    have hc := (digB_iff c).1 ha.2
    rw [decVal_snoc]
    cases l with
    | nil =>
      rw [show decVal [] = 0 from rfl, Go.Lib.decDigits, dif_pos (by omega), show 48 + (0 * 10 + (c.toNat - 48)) = 48 + (c.toNat - 48) by omega, digit_of c ha.2]
      rfl
    | cons a r =>
      have h1 : a ≠ 48 := by
        rcases hz with hz | hz
        · simp at hz
        · simpa using hz
      have haa : digB a = true := by
        have := ha.1
        simp only [List.all_cons, Bool.and_eq_true] at this
        exact this.1
      have h48 : a.toNat ≠ 48 := fun e => h1 (UInt8.toNat_inj.1 e)
      have h49 := (digB_iff a).1 haa
      have hp := decVal_pos (c := a) (l := r) (by omega)
      have ih := dec_of n (a :: r) (by simpa using hn) ⟨by simp, ha.1, .inr (by simpa using h1)⟩
      rw [Go.Lib.decDigits, dif_neg (by omega), show (decVal (a :: r) * 10 + (c.toNat - 48)) / 10 = decVal (a :: r) by omega, ih, show (decVal (a :: r) * 10 + (c.toNat - 48)) % 10 = c.toNat - 48 by omega, digit_of c ha.2]
theorem ofNat_toNat {k : Nat} (h : k < 256) : (UInt8.ofNat k).toNat = k := by
  show k % 256 = k
  exact Nat.mod_eq_of_lt h
theorem dec_canon (u : Nat) : canonD (Go.Lib.decDigits u) ∧ decVal (Go.Lib.decDigits u) = u ∧ (1 ≤ u → (Go.Lib.decDigits u).headD 0 ≠ 48) := by
  induction u using Nat.strongRecOn with
  | ind u ih =>
    rw [Go.Lib.decDigits]
    by_cases h : u < 10
    · rw [dif_pos h]
      have e := ofNat_toNat (k := 48 + u) (by omega)
      refine ⟨⟨by simp, ?_, .inl (by simp)⟩, ?_, ?_⟩
      · simp only [List.all_cons, List.all_nil, Bool.and_true]
        rw [digB_iff]
        omega
      · show (0 * 10 + ((UInt8.ofNat (48 + u)).toNat - 48)) = u
        omega
      · intro h1 h2
        have h2 : UInt8.ofNat (48 + u) = 48 := h2
        have := congrArg UInt8.toNat h2
        rw [e] at this
        simp at this
        omega
    · rw [dif_neg h]
      obtain ⟨⟨a, b, c⟩, d, e⟩ := ih (u / 10) (by omega)
      have hx := ofNat_toNat (k := 48 + u % 10) (by omega)
      generalize Go.Lib.decDigits (u / 10) = l at *
      have hh : (l ++ [UInt8.ofNat (48 + u % 10)]).headD 0 ≠ 48 := by
        cases l with
        | nil => simp at a
        | cons x y => simpa using e (by omega)
      refine ⟨⟨by simp, ?_, .inr hh⟩, ?_, fun _ => hh⟩
      · rw [List.all_append, b, Bool.true_and, List.all_cons, List.all_nil, Bool.and_true, digB_iff]
        omega
      · rw [decVal_snoc, d]
        omega
theorem parse_digits : ∀ (l : List UInt8) (a : Nat), l.all digB = true → l.foldl (fun a c => a * 10 + (c.toNat - 48)) a < 18446744073709551616 → Go.Lib.parseUint10 a l = .ok (l.foldl (fun a c => a * 10 + (c.toNat - 48)) a)
  | [], _, _, _ => rfl
  | c :: r, a, ha, hb => by
    simp only [List.all_cons, Bool.and_eq_true] at ha
    have h1 := fold_le r (a * 10 + (c.toNat - 48))
    simp only [List.foldl_cons] at hb ⊢
    rw [Go.Lib.parseUint10, if_pos ((digB_iff c).1 ha.1), if_neg (by omega), if_neg (by omega)]
    exact parse_digits r _ ha.2 hb
theorem parse_dec (u : Nat) (h : u < 18446744073709551616) : Go.Lib.parseUintB 64 (Go.Lib.decDigits u) = .ok u := by
  obtain ⟨⟨h1, h2, _⟩, h3, _⟩ := dec_canon u
  rw [Go.Lib.parseUintB_64, Go.Lib.parseMag, if_neg (by intro e; rw [e] at h1; simp at h1)]
  have := parse_digits _ 0 h2 (by show decVal _ < _; omega)
  rw [this]
  show Go.Lib.NumEnd.ok (decVal (Go.Lib.decDigits u)) = _
  rw [h3]
theorem dec_head (u : Nat) : ∃ c r, Go.Lib.decDigits u = c :: r ∧ digB c = true := by
  obtain ⟨⟨h1, h2, _⟩, _, _⟩ := dec_canon u
  cases h : Go.Lib.decDigits u with
  | nil => rw [h] at h1; simp at h1
  | cons c r =>
    rw [h] at h2
    simp only [List.all_cons, Bool.and_eq_true] at h2
    exact ⟨c, r, rfl, h2.1⟩
/-- What is told of a number is read as that number. -/
theorem parse_itoa (n : Int) (h0 : -9223372036854775808 ≤ n) (h1 : n ≤ 9223372036854775807) : Go.Lib.parseIntB 64 (Go.Lib.itoa n) = .ok n := by
  unfold Go.Lib.itoa
  by_cases h : n < 0
  · rw [if_pos h, Go.Lib.parseIntB_minus, parse_dec _ (by omega)]
    show Go.Lib.signedC (2 ^ 63) (.ok n.natAbs) = _
    unfold Go.Lib.signedC
    simp only
    rw [if_neg (by omega)]
    congr 1
    omega
  · obtain ⟨c, r, e, hc⟩ := dec_head n.toNat
    have hc := (digB_iff c).1 hc
    rw [if_neg h, e, Go.Lib.parseIntB_plain _ _ _ (by omega) (by omega), ← e, parse_dec _ (by omega)]
    show Go.Lib.signlessC (2 ^ 63) (.ok n.toNat) = _
    unfold Go.Lib.signlessC
    simp only
    rw [if_neg (by omega)]
    congr 1
    omega
theorem intT_itoa (n : Int) (h0 : -9223372036854775808 ≤ n) (h1 : n ≤ 9223372036854775807) : intT (Go.Lib.itoa n) = some (3, (Go.Lib.itoa n).length, ⟨2, n, 0, ⟨#[]⟩⟩) := by
  unfold intT
  rw [parse_itoa n h0 h1]
  simp
theorem intT_some {t : List UInt8} {x : Tk} (h : intT t = some x) : ∃ n : Int, -9223372036854775808 ≤ n ∧ n ≤ 9223372036854775807 ∧ Go.Lib.itoa n = t := by
  unfold intT at h
  cases hp : Go.Lib.parseIntB 64 t with
  | ok n =>
    rw [hp] at h
    simp only at h
    split at h
    · rename_i e
      have := Go.Lib.parseIntB_bounds hp
      simp only [Nat.add_one_sub_one, Nat.reducePow] at this
      exact ⟨n, by omega, by omega, e⟩
    · cases h
  | _ => rw [hp] at h; cases h
theorem intT_minus (d : List UInt8) (h : canonD d) (h1 : 1 ≤ decVal d) (h2 : decVal d ≤ 9223372036854775808) : intT (45 :: d) = some (3, d.length + 1, ⟨2, -(decVal d : Int), 0, ⟨#[]⟩⟩) := by
  have e : Go.Lib.itoa (-(decVal d : Int)) = 45 :: d := by
    unfold Go.Lib.itoa
    rw [if_pos (by omega), show (-(decVal d : Int)).natAbs = decVal d by omega, dec_of _ d rfl h]
  have := intT_itoa (-(decVal d : Int)) (by omega) (by omega)
  rw [e] at this
  exact this
theorem intT_plus (d : List UInt8) (h : canonD d) (h2 : decVal d < 9223372036854775808) : intT d = some (3, d.length, ⟨2, (decVal d : Int), 0, ⟨#[]⟩⟩) := by
  have e : Go.Lib.itoa (decVal d : Int) = d := by
    unfold Go.Lib.itoa
    rw [if_neg (by omega), show (decVal d : Int).toNat = decVal d by omega, dec_of _ d rfl h]
  have := intT_itoa (decVal d : Int) (by omega) (by omega)
  rw [e] at this
  exact this
theorem intT_minus_no (d : List UInt8) (h : ¬ (canonD d ∧ 1 ≤ decVal d ∧ decVal d ≤ 9223372036854775808)) : intT (45 :: d) = none := by
  cases hx : intT (45 :: d) with
  | none => rfl
  | some x =>
    obtain ⟨n, h0, h1, e⟩ := intT_some hx
    unfold Go.Lib.itoa at e
    split at e
    · injection e with _ e
      obtain ⟨a, b, _⟩ := dec_canon n.natAbs
      rw [e] at a b
      exact absurd ⟨a, by omega, by omega⟩ h
    · obtain ⟨c, r, e2, hc⟩ := dec_head n.toNat
      have hc := (digB_iff c).1 hc
      rw [e2] at e
      injection e with e _
      subst e
      simp at hc
theorem intT_plus_no (c : UInt8) (d : List UInt8) (h45 : c.toNat ≠ 45) (h : ¬ (canonD (c :: d) ∧ decVal (c :: d) < 9223372036854775808)) : intT (c :: d) = none := by
  cases hx : intT (c :: d) with
  | none => rfl
  | some x =>
    obtain ⟨n, h0, h1, e⟩ := intT_some hx
    unfold Go.Lib.itoa at e
    split at e
    · injection e with e _
      subst e
      simp at h45
    · obtain ⟨a, b, _⟩ := dec_canon n.toNat
      rw [e] at a b
      exact absurd ⟨a, by omega⟩ h

/-- Behind so many digits stands none. -/
def DigsTo (l : List UInt8) (j : Nat) : Prop := j ≤ l.length ∧ ∀ i (hi : i < l.length), i < j → digB l[i] = true
theorem digB_let {c : UInt8} (h : digB c = true) : letB c = true := by simp [letB, h]
theorem digsTo_run {l : List UInt8} {j : Nat} (h : DigsTo l j) (he : ∀ hj : j < l.length, letB l[j] = false) : runL letB l = j := by
  by_cases hj : j < l.length
  · exact runL_at letB l j hj (fun i hi hij => digB_let (h.2 i hi hij)) (he hj)
  · have := h.1
    obtain rfl : j = l.length := by omega
    exact runL_all letB l fun i hi => digB_let (h.2 i hi hi)
theorem digsTo_more {l : List UInt8} {j : Nat} (h : DigsTo l j) : j ≤ runL letB l := by
  by_cases hr : runL letB l < j
  · have h1 := h.1
    have := runL_end letB l (by omega)
    rw [digB_let (h.2 _ (by omega) hr)] at this
    cases this
  · omega
theorem digsTo_all {l : List UInt8} {j : Nat} (h : DigsTo l j) : (l.take j).all digB = true := by
  rw [List.all_eq_true]
  intro x hx
  obtain ⟨i, hi, rfl⟩ := List.getElem_of_mem hx
  rw [List.length_take] at hi
  rw [List.getElem_take]
  exact h.2 i (by omega) (by omega)
/-- A letter behind digits. -/
theorem letter_no {l : List UInt8} {j : Nat} (h : DigsTo l j) (hj : j < l.length) (hl : letB l[j] = true) (hd : digB l[j] = false) : ¬ canonD (l.take (runL letB l)) := by
  intro hc
  have hr : j < runL letB l := by
    have := digsTo_more h
    by_cases e : j = runL letB l
    · subst e
      rw [runL_end letB l hj] at hl
      cases hl
    · omega
  have := List.all_eq_true.1 hc.2.1 l[j] (by
    refine List.mem_iff_getElem.2 ⟨j, by rw [List.length_take]; omega, ?_⟩
    rw [List.getElem_take])
  rw [hd] at this
  cases this
/-- Too great already. -/
theorem great_no {l : List UInt8} {j : Nat} (h : DigsTo l j) (hg : 9223372036854775808 < decVal (l.take j)) : ¬ (decVal (l.take (runL letB l)) ≤ 9223372036854775808) := by
  have hj := digsTo_more h
  have := decVal_take (l.take (runL letB l)) j
  rw [List.take_take, Nat.min_eq_left hj] at this
  omega
theorem canon_of {l : List UInt8} {j : Nat} (h : DigsTo l j) (h1 : 1 ≤ j) (hz : j ≤ 1 ∨ l.headD 0 ≠ 48) : canonD (l.take j) := by
  have hj := h.1
  refine ⟨by rw [List.length_take]; omega, digsTo_all h, ?_⟩
  rcases hz with hz | hz
  · left
    rw [List.length_take]
    omega
  · right
    cases l with
    | nil => simp at hj; omega
    | cons c r =>
      obtain ⟨j, rfl⟩ : ∃ i, j = i + 1 := ⟨j - 1, by omega⟩
      simpa using hz
theorem nought_no {l : List UInt8} {j : Nat} (hj : j ≤ l.length) (h1 : 1 < j) (hz : l.headD 0 = 48) : ¬ canonD (l.take j) := by
  rintro ⟨_, _, h⟩
  rw [List.length_take] at h
  rcases h with h | h
  · omega
  · cases l with
    | nil => simp at hj; omega
    | cons c r =>
      obtain ⟨j, rfl⟩ : ∃ i, j = i + 1 := ⟨j - 1, by omega⟩
      exact h (by simpa using hz)
end Go.Proofs.YtiajlhjjmlakmaaGreatDoor.Num
