/-
  A statement of so many sets, and what is read from it. No program is named here.
-/
import Derived.Test.YtiajlhjjmlakmaaGreatDoorSqB
namespace Go.Proofs.YtiajlhjjmlakmaaGreatDoor.Num
set_option linter.unusedSimpArgs false
set_option linter.unusedVariables false

/-- Digits of a number below 100. -/
def dg (i : Nat) : List UInt8 := if i < 10 then [UInt8.ofNat (48 + i)] else [UInt8.ofNat (48 + i / 10), UInt8.ofNat (48 + i % 10)]
theorem itoa_dg (i : Nat) (h : i < 100) : Go.Lib.itoa (i : Int) = dg i := by
  unfold Go.Lib.itoa dg
  rw [if_neg (by omega), Int.toNat_natCast, Go.Lib.decDigits]
  by_cases h1 : i < 10
  · rw [dif_pos h1, if_pos h1]
  · rw [dif_neg h1, if_neg h1, Go.Lib.decDigits, dif_pos (by omega)]
    rfl
/-- The column whose set is the i-th, and what is added to. -/
def setC (i : Nat) : List UInt8 := 99 :: dg i
def setD (o : Bool) (k i : Nat) : List UInt8 := if o = true ∧ i + 1 = k then [120] else setC i
/-- The text behind so many rounds. -/
def setsB (o : Bool) (k : Nat) : Nat → List UInt8
  | 0 => [117, 112, 100, 97, 116, 101, 32, 116, 32, 115, 101, 116, 32]
  | i + 1 => (if 0 < i then setsB o k i ++ [44, 32] else setsB o k i) ++ setC i ++ [32, 61, 32] ++ setD o k i ++ [32, 43, 32, 49]
theorem dg_len (i : Nat) : (dg i).length ≤ 2 := by
  unfold dg
  split <;> simp
theorem setsB_len (o : Bool) (k : Nat) : ∀ i, (setsB o k i).length ≤ 13 + 20 * i
  | 0 => by
    show (13 : Nat) ≤ 13 + 20 * 0
    omega
  | i + 1 => by
    have ih := setsB_len o k i
    have hd := dg_len i
    have h2 : (setD o k i).length ≤ 3 := by
      unfold setD setC
      split
      · decide
      · show (dg i).length + 1 ≤ 3
        omega
    unfold setsB
    simp only [List.length_append, setC, List.length_cons, List.length_nil]
    split
    · simp only [List.length_append, List.length_cons, List.length_nil]
      omega
    · omega
/-- The int 1 alone, told without the library's reading. -/
def tokK (l : List UInt8) : Option Tk := match l with
  | [] => none
  | c :: r => if c = 49 ∧ runL letB r = 0 then some (3, 1, ⟨2, 1, 0, ⟨#[]⟩⟩) else tokL (c :: r)
theorem tokK_eq (l : List UInt8) : tokL l = tokK l := by
  cases l with
  | nil => rfl
  | cons c r =>
    unfold tokK
    simp only
    split
    · rename_i h
      obtain ⟨rfl, h⟩ := h
      rw [tokL, if_neg (fun e => absurd e.1 (by decide)), if_neg (fun e => absurd e.1 (by decide)), if_neg (by decide), if_pos (.inl (by decide)), h, List.take_zero]
      exact intT_plus [49] ⟨by decide, by decide, .inl (by decide)⟩ (by decide)
    · rfl
def lexK : Nat → Nat → List UInt8 → Said
  | 0, p, _ => (some [⟨0, ⟨#[]⟩, noV, p⟩], 0)
  | _ + 1, p, [] => (some [⟨0, ⟨#[]⟩, noV, p⟩], 0)
  | N + 1, p, c :: r =>
    if blankB c = true then lexK N (p + 1) r
    else match tokK (c :: r) with
      | none => (none, p)
      | some x => pre [⟨x.1, str ((c :: r).take x.2.1), x.2.2, p⟩] (lexK N (p + x.2.1) ((c :: r).drop x.2.1))
theorem lexK_eq : ∀ (N p : Nat) (l : List UInt8), lexG N p l = lexK N p l
  | 0, _, _ => rfl
  | _ + 1, _, [] => rfl
  | N + 1, p, c :: r => by
    unfold lexG lexK
    rw [lexK_eq N (p + 1) r, tokK_eq]
    cases tokK (c :: r) with
    | none => rfl
    | some x =>
      simp only
      rw [lexK_eq N]
def parseK (l : List UInt8) : Option Stm × Nat × Int :=
  if 400 < l.length then (none, 0, 2) else match lexK l.length 0 l with
    | (none, p) => (none, p, 3)
    | (some t, _) => parseL t
theorem parseK_eq (l : List UInt8) : parseG (str l) = parseK l := by
  unfold parseG parseK
  rw [← lexK_eq]
  rfl
/-- What is read of so many sets. -/
def setsSay (o : Bool) (k : Nat) : Bool := match parseK (setsB o k k) with
  | (some x, p, e) => !o && decide (k ≤ 8) && decide (p = 0) && decide (e = 0) && decide (x.sets.length = k) && (match x.sets[k - 1]? with | some t => t.add && decide (t.v.n = 1) | none => false)
  | (none, p, e) => if o = true then decide (e = 3) && decide (p + 5 = (setsB o k k).length) else decide (8 < k) && decide (e = 2) && decide (p = 0)
theorem sets_all : (List.range 12).all (fun n => setsSay false (n + 1) && setsSay true (n + 1)) = true := by kernel_rfl
theorem sets_say (o : Bool) (k : Nat) (h1 : 1 ≤ k) (h2 : k ≤ 12) : setsSay o k = true := by
  have h := List.all_eq_true.1 sets_all (k - 1) (List.mem_range.2 (by omega))
  rw [show k - 1 + 1 = k by omega, Bool.and_eq_true] at h
  cases o with
  | false => exact h.1
  | true => exact h.2
theorem sets_yes (k : Nat) (h1 : 1 ≤ k) (h2 : k ≤ 8) : ∃ x t, parseG (str (setsB false k k)) = (some x, 0, 0) ∧ x.sets.length = k ∧ x.sets[k - 1]? = some t ∧ t.add = true ∧ t.v.n = 1 := by
  have h := sets_say false k h1 (by omega)
  rw [parseK_eq]
  unfold setsSay at h
  generalize parseK (setsB false k k) = R at h ⊢
  obtain ⟨o, p, e⟩ := R
  cases o with
  | none =>
    simp at h
    omega
  | some x =>
    simp only [Bool.not_false, Bool.true_and, Bool.and_eq_true, decide_eq_true_eq] at h
    obtain ⟨⟨⟨⟨_, rfl⟩, rfl⟩, hl⟩, ht⟩ := h
    cases hx : x.sets[k - 1]? with
    | none => rw [hx] at ht; cases ht
    | some t =>
      rw [hx] at ht
      simp only [Bool.and_eq_true, decide_eq_true_eq] at ht
      exact ⟨x, t, rfl, hl, hx, ht.1, ht.2⟩
theorem sets_long (k : Nat) (h1 : 8 < k) (h2 : k ≤ 12) : parseG (str (setsB false k k)) = (none, 0, 2) := by
  have h := sets_say false k (by omega) h2
  rw [parseK_eq]
  unfold setsSay at h
  generalize parseK (setsB false k k) = R at h ⊢
  obtain ⟨o, p, e⟩ := R
  cases o with
  | none =>
    simp at h
    obtain ⟨⟨_, rfl⟩, rfl⟩ := h
    rfl
  | some x =>
    simp only [Bool.not_false, Bool.true_and, Bool.and_eq_true, decide_eq_true_eq] at h
    omega
theorem sets_other (k : Nat) (h1 : 1 ≤ k) (h2 : k ≤ 12) : ∃ p, parseG (str (setsB true k k)) = (none, p, 3) ∧ p + 5 = (setsB true k k).length := by
  have h := sets_say true k h1 h2
  rw [parseK_eq]
  unfold setsSay at h
  generalize parseK (setsB true k k) = R at h ⊢
  obtain ⟨o, p, e⟩ := R
  cases o with
  | none =>
    simp only [if_true, Bool.and_eq_true, decide_eq_true_eq] at h
    obtain ⟨rfl, h⟩ := h
    exact ⟨p, rfl, h⟩
  | some x => simp at h
end Go.Proofs.YtiajlhjjmlakmaaGreatDoor.Num
