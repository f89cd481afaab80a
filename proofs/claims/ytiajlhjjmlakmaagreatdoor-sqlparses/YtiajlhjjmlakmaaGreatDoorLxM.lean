/-
  A statement's tokens as a function of its bytes (16.1). No program is named here.
-/
import Derived.Test.YtiajlhjjmlakmaaGreatDoorDSchM
import Derived.Lib.ItoaNum
import Derived.Lib.ParseIntB
namespace Go.Proofs.YtiajlhjjmlakmaaGreatDoor.Num

/-- A token: its kind, text, value and place. -/
structure Tok where
  k : Int
  t : ByteArray
  v : Val
  p : Nat
def noV : Val := ⟨0, 0, 0, ⟨#[]⟩⟩
/-- How many bytes at the beginning are in a set. -/
def runL (p : UInt8 → Bool) : List UInt8 → Nat
  | [] => 0
  | c :: r => if p c = true then runL p r + 1 else 0
def hexB (b : UInt8) : Bool := digB b || (decide (97 ≤ b.toNat) && decide (b.toNat ≤ 102))
def blankB (b : UInt8) : Bool := decide (b.toNat = 32) || decide (b.toNat = 9) || decide (b.toNat = 10)
def plainB (b : UInt8) : Bool := decide (32 ≤ b.toNat) && decide (b.toNat ≤ 126)
def signs : List UInt8 := [40, 41, 44, 59, 61, 60, 62, 43, 42]
def signB (b : UInt8) : Bool := signs.contains b
/-- What a hexadecimal digit is. -/
def nib (b : UInt8) : Nat := if digB b = true then b.toNat - 48 else b.toNat - 87
def hexNum (l : List UInt8) : Nat := l.foldl (fun n c => n * 16 + nib c) 0
def pairsL : List UInt8 → List UInt8
  | a :: b :: r => UInt8.ofNat (nib a * 16 + nib b) :: pairsL r
  | _ => []
/-- A token without its place: its kind, how many bytes it has, its value. -/
abbrev Tk := Int × Nat × Val
def nameT (l : List UInt8) : Option Tk :=
  if runL letB l ≤ 16 then some (if words.contains (l.take (runL letB l)) = true then 1 else 2, runL letB l, noV) else none
def intT (l : List UInt8) : Option Tk :=
  match Go.Lib.parseIntB 64 l with
  | .ok n => if Go.Lib.itoa n = l then some (3, l.length, ⟨2, n, 0, ⟨#[]⟩⟩) else none
  | _ => none
/-- The bytes that a text in quotes means, and how many it has behind its first quote. -/
def textG : List UInt8 → Option (List UInt8 × Nat)
  | [] => none
  | c :: r =>
    if c.toNat = 39 then
      match r with
      | [] => some ([], 1)
      | d :: q => if d.toNat = 39 then (textG q).map (fun x => (c :: x.1, x.2 + 2)) else some ([], 1)
    else if plainB c = true then (textG r).map (fun x => (c :: x.1, x.2 + 1)) else none
def textT (r : List UInt8) : Option Tk :=
  match textG r with
  | some x => if x.1.length ≤ 40 then some (3, x.2 + 1, ⟨5, 0, 0, str x.1⟩) else none
  | none => none
/-- Digits in quotes, behind the first one: the digits, if there is an end. -/
def digsG (r : List UInt8) : Option (List UInt8) :=
  if (r.drop (runL hexB r)).head? = some 39 then some (r.take (runL hexB r)) else none
def bytesT (r : List UInt8) : Option Tk :=
  match digsG r with
  | some d => if d.length % 2 = 0 ∧ d.length ≤ 80 then some (3, d.length + 3, ⟨4, 0, 0, str (pairsL d)⟩) else none
  | none => none
def floatT (r : List UInt8) : Option Tk :=
  match digsG r with
  | some d => if d.length = 16 then some (3, 19, ⟨3, 0, canon (hexNum d), ⟨#[]⟩⟩) else none
  | none => none
/-- The token at the beginning. -/
def tokL : List UInt8 → Option Tk
  | [] => none
  | c :: r =>
    if c.toNat = 120 ∧ r.head? = some 39 then bytesT (r.drop 1)
    else if c.toNat = 102 ∧ r.head? = some 39 then floatT (r.drop 1)
    else if lowB c = true then nameT (c :: r)
    else if digB c = true ∨ c.toNat = 45 then intT (c :: r.take (runL letB r))
    else if c.toNat = 39 then textT r
    else if signB c = true then some (4, 1, noV)
    else none
/-- What Lex tells: the tokens, if there is no fault; the fault's place. -/
abbrev Said := Option (List Tok) × Nat
def pre (a : List Tok) (x : Said) : Said := (x.1.map (a ++ ·), x.2)
def lexG : Nat → Nat → List UInt8 → Said
  | 0, p, _ => (some [⟨0, ⟨#[]⟩, noV, p⟩], 0)
  | _ + 1, p, [] => (some [⟨0, ⟨#[]⟩, noV, p⟩], 0)
  | N + 1, p, c :: r =>
    if blankB c = true then lexG N (p + 1) r
    else match tokL (c :: r) with
      | none => (none, p)
      | some x => pre [⟨x.1, str ((c :: r).take x.2.1), x.2.2, p⟩] (lexG N (p + x.2.1) ((c :: r).drop x.2.1))
def lexAt (s : ByteArray) (p : Nat) : Said := lexG (s.size - p) p (s.data.toList.drop p)

theorem pre_pre (a b : List Tok) (x : Said) : pre a (pre b x) = pre (a ++ b) x := by
  unfold pre
  cases x.1 with
  | none => rfl
  | some l => simp
theorem pre_nil (x : Said) : pre [] x = x := by
  obtain ⟨o, n⟩ := x
  cases o with
  | none => rfl
  | some l => simp [pre]
theorem runL_le (p : UInt8 → Bool) : ∀ l : List UInt8, runL p l ≤ l.length
  | [] => by simp [runL]
  | c :: r => by
    have := runL_le p r
    unfold runL
    split
    · simp; omega
    · simp
theorem runL_at (p : UInt8 → Bool) : ∀ (l : List UInt8) (k : Nat) (hk : k < l.length), (∀ j (hj : j < l.length), j < k → p l[j] = true) → p l[k] = false → runL p l = k
  | [], k, hk, _, _ => by simp at hk
  | c :: r, 0, _, _, h => by
    have h : p c = false := h
    simp [runL, h]
  | c :: r, k + 1, hk, ha, h => by
    have hc : p c = true := ha 0 (by simp) (by omega)
    have := runL_at p r k (by simpa using hk) (fun j hj hjk => ha (j + 1) (by simpa using hj) (by omega)) h
    simp [runL, hc, this]
theorem runL_all (p : UInt8 → Bool) : ∀ (l : List UInt8), (∀ j (hj : j < l.length), p l[j] = true) → runL p l = l.length
  | [], _ => rfl
  | c :: r, ha => by
    have hc : p c = true := ha 0 (by simp)
    have := runL_all p r (fun j hj => ha (j + 1) (by simpa using hj))
    simp [runL, hc, this]
theorem runL_in (p : UInt8 → Bool) : ∀ (l : List UInt8) (j : Nat) (hj : j < l.length), j < runL p l → p l[j] = true
  | [], j, hj, _ => by simp at hj
  | c :: r, j, hj, h => by
    unfold runL at h
    split at h
    · rename_i hc
      cases j with
      | zero => exact hc
      | succ j => exact runL_in p r j (by simpa using hj) (by omega)
    · omega
theorem runL_end (p : UInt8 → Bool) : ∀ (l : List UInt8) (h : runL p l < l.length), p l[runL p l] = false
  | [], h => by simp at h
  | c :: r, h => by
    by_cases hc : p c = true
    · have e : runL p (c :: r) = runL p r + 1 := by simp [runL, hc]
      have h2 : runL p r < r.length := by
        rw [e] at h
        simpa using h
      have := runL_end p r h2
      simp only [e, List.getElem_cons_succ]
      exact this
    · have e : runL p (c :: r) = 0 := by simp [runL, hc]
      simp only [e, List.getElem_cons_zero]
      simpa using hc
theorem textG_len : ∀ (n : Nat) (l : List UInt8) (x : List UInt8 × Nat), l.length ≤ n → textG l = some x → 1 ≤ x.2 ∧ x.2 ≤ l.length
  | 0, l, x, hn, h => by
    obtain rfl : l = [] := List.length_eq_zero_iff.1 (by omega)
    simp [textG] at h
  | n + 1, [], x, _, h => by simp [textG] at h
  | n + 1, c :: r, x, hn, h => by
    simp only [List.length_cons] at hn
    unfold textG at h
    split at h
    · cases r with
      | nil =>
        simp only [Option.some.injEq] at h
        subst h
        simp
      | cons d q =>
        simp only at h
        split at h
        · cases hq : textG q with
          | none => rw [hq] at h; simp at h
          | some y =>
            rw [hq] at h
            simp only [Option.map_some, Option.some.injEq] at h
            subst h
            have := textG_len n q y (by simp only [List.length_cons] at hn; omega) hq
            simp only [List.length_cons]
            omega
        · simp only [Option.some.injEq] at h
          subst h
          simp
    · split at h
      · cases hq : textG r with
        | none => rw [hq] at h; simp at h
        | some y =>
          rw [hq] at h
          simp only [Option.map_some, Option.some.injEq] at h
          subst h
          have := textG_len n r y (by omega) hq
          simp only [List.length_cons]
          omega
      · cases h
theorem digsG_len {r d : List UInt8} (h : digsG r = some d) : d.length + 1 ≤ r.length := by
  unfold digsG at h
  split at h
  · rename_i h1
    have hr := runL_le hexB r
    obtain rfl : r.take (runL hexB r) = d := Option.some.inj h
    rw [List.length_take]
    cases hd : r.drop (runL hexB r) with
    | nil => rw [hd] at h1; simp at h1
    | cons a b =>
      have := congrArg List.length hd
      simp only [List.length_drop, List.length_cons] at this
      omega
  · cases h
theorem tokL_len (l : List UInt8) (x : Tk) (h : tokL l = some x) : 1 ≤ x.2.1 ∧ x.2.1 ≤ l.length := by
  cases l with
  | nil => simp [tokL] at h
  | cons c r =>
    rw [tokL] at h
    split at h
    · rename_i h1
      obtain ⟨_, h1⟩ := h1
      cases r with
      | nil => simp at h1
      | cons a q =>
        simp only [List.drop_succ_cons, List.drop_zero] at h
        unfold bytesT at h
        split at h
        · rename_i d hd
          have := digsG_len hd
          split at h
          · obtain rfl := Option.some.inj h
            simp only [List.length_cons]
            omega
          · cases h
        · cases h
    · split at h
      · rename_i h1
        obtain ⟨_, h1⟩ := h1
        cases r with
        | nil => simp at h1
        | cons a q =>
          simp only [List.drop_succ_cons, List.drop_zero] at h
          unfold floatT at h
          split at h
          · rename_i d hd
            have := digsG_len hd
            split at h
            · obtain rfl := Option.some.inj h
              simp only [List.length_cons]
              omega
            · cases h
          · cases h
      · split at h
        · rename_i hl
          unfold nameT at h
          split at h
          · obtain rfl := Option.some.inj h
            refine ⟨?_, runL_le _ _⟩
            simp [runL, letB, hl]
          · cases h
        · split at h
          · unfold intT at h
            split at h
            · split at h
              · obtain rfl := Option.some.inj h
                have := runL_le letB r
                simp only [List.length_cons, List.length_take]
                omega
              · cases h
            · cases h
          · split at h
            · unfold textT at h
              split at h
              · rename_i y hy
                have := textG_len _ _ _ (Nat.le_refl _) hy
                split at h
                · obtain rfl := Option.some.inj h
                  simp only [List.length_cons]
                  omega
                · cases h
              · cases h
            · split at h
              · obtain rfl := Option.some.inj h
                simp
              · cases h
theorem lexG_more : ∀ (N M p : Nat) (l : List UInt8), l.length ≤ N → l.length ≤ M → lexG N p l = lexG M p l
  | 0, 0, _, _, _, _ => rfl
  | 0, M + 1, p, l, h, _ => by
    obtain rfl : l = [] := List.length_eq_zero_iff.1 (by omega)
    rfl
  | N + 1, 0, p, l, _, h => by
    obtain rfl : l = [] := List.length_eq_zero_iff.1 (by omega)
    rfl
  | N + 1, M + 1, p, [], _, _ => rfl
  | N + 1, M + 1, p, c :: r, hN, hM => by
    simp only [List.length_cons] at hN hM
    unfold lexG
    split
    · exact lexG_more N M _ _ (by omega) (by omega)
    · split
      · rfl
      · rename_i x hx
        have := tokL_len _ _ hx
        simp only [List.length_cons] at this
        rw [lexG_more N M _ _ (by simp only [List.length_drop, List.length_cons]; omega) (by simp only [List.length_drop, List.length_cons]; omega)]
theorem sdrop_at (s : ByteArray) (p : Nat) (h : p < s.size) : s.data.toList.drop p = s[p] :: s.data.toList.drop (p + 1) := by
  rw [List.drop_eq_getElem_cons (by simpa using h)]
  rfl
theorem lexAt_end (s : ByteArray) (p : Nat) (h : s.size ≤ p) : lexAt s p = (some [⟨0, ⟨#[]⟩, noV, p⟩], 0) := by
  unfold lexAt
  rw [show s.size - p = 0 by omega]
  rfl
theorem lexAt_blank (s : ByteArray) (p : Nat) (h : p < s.size) (hb : blankB s[p] = true) : lexAt s p = lexAt s (p + 1) := by
  have hd : s.data.toList.length = s.size := rfl
  unfold lexAt
  rw [sdrop_at s p h, show s.size - p = (s.size - (p + 1)) + 1 by omega]
  show (if blankB s[p] = true then _ else _) = _
  rw [if_pos hb]
theorem lexAt_bad (s : ByteArray) (p : Nat) (h : p < s.size) (hb : blankB s[p] = false) (ht : tokL (s.data.toList.drop p) = none) : lexAt s p = (none, p) := by
  unfold lexAt
  rw [sdrop_at s p h] at ht ⊢
  rw [show s.size - p = (s.size - (p + 1)) + 1 by omega]
  show (if blankB s[p] = true then _ else _) = _
  rw [if_neg (by simp [hb]), ht]
theorem lexAt_tok (s : ByteArray) (p : Nat) (h : p < s.size) (hb : blankB s[p] = false) (k : Int) (n : Nat) (v : Val) (ht : tokL (s.data.toList.drop p) = some (k, n, v)) : lexAt s p = pre [⟨k, str ((s.data.toList.drop p).take n), v, p⟩] (lexAt s (p + n)) := by
  have hn := tokL_len _ _ ht
  have hd : s.data.toList.length = s.size := rfl
  simp only [List.length_drop] at hn
  unfold lexAt
  rw [show s.data.toList.drop (p + n) = (s.data.toList.drop p).drop n by rw [List.drop_drop]]
  rw [lexG_more (s.size - (p + n)) (s.size - (p + 1)) (p + n) _ (by simp only [List.length_drop]; omega) (by simp only [List.length_drop]; omega)]
  rw [sdrop_at s p h] at ht ⊢
  rw [show s.size - p = (s.size - (p + 1)) + 1 by omega]
  show (if blankB s[p] = true then _ else _) = _
  rw [if_neg (by simp [hb]), ht]
end Go.Proofs.YtiajlhjjmlakmaaGreatDoor.Num
