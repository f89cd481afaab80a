/-
  Blanks about a statement say nothing; what is read does not hang on where tokens stand; places are places of the text. No program is named here.
-/
import Derived.Test.YtiajlhjjmlakmaaGreatDoorSqM
namespace Go.Proofs.YtiajlhjjmlakmaaGreatDoor.Num
set_option linter.unusedSimpArgs false
set_option linter.unusedVariables false

/-- What tokens say, wherever they stand. -/
def lexC : Nat → List UInt8 → Option (List TkC)
  | 0, _ => some [(0, ⟨#[]⟩, noV)]
  | _ + 1, [] => some [(0, ⟨#[]⟩, noV)]
  | N + 1, c :: r =>
    if blankB c = true then lexC N r
    else match tokL (c :: r) with
      | none => none
      | some x => (lexC N ((c :: r).drop x.2.1)).map ((x.1, str ((c :: r).take x.2.1), x.2.2) :: ·)
theorem lexG_cont : ∀ (N p : Nat) (l : List UInt8), ((lexG N p l).1).map (·.map cont) = lexC N l
  | 0, _, _ => rfl
  | N + 1, _, [] => rfl
  | N + 1, p, c :: r => by
    unfold lexG lexC
    split
    · exact lexG_cont N _ _
    · cases tokL (c :: r) with
      | none => rfl
      | some x =>
        simp only
        rw [← lexG_cont N (p + x.2.1)]
        unfold pre
        cases (lexG N (p + x.2.1) ((c :: r).drop x.2.1)).1 with
        | none => rfl
        | some l => rfl
theorem lexC_more : ∀ (N M : Nat) (l : List UInt8), l.length ≤ N → l.length ≤ M → lexC N l = lexC M l := by
  intro N M l h1 h2
  rw [← lexG_cont N 0, ← lexG_cont M 0, lexG_more N M 0 l h1 h2]
/-- What Parse tells, but for the place. -/
def parseC (l : List TkC) : Option Stm × Int := match parseR l with
  | (none, _) => (none, 3)
  | (some x, _) => if tooMany x = true then (none, 2) else (some x, 0)
def parseT (s : ByteArray) : Option Stm × Int := match lexC s.size s.data.toList with
  | none => (none, 3)
  | some l => parseC l
theorem parseL_C (l : List Tok) : ((parseL l).1, (parseL l).2.2) = parseC (l.map cont) := by
  unfold parseL parseC
  rcases parseR (l.map cont) with ⟨o, q⟩
  cases o with
  | none => rfl
  | some x =>
    simp only
    split <;> rfl
theorem parseG_T (s : ByteArray) (h : s.size ≤ 400) : ((parseG s).1, (parseG s).2.2) = parseT s := by
  unfold parseG parseT
  rw [if_neg (by omega), ← lexG_cont s.size 0]
  rw [show lexG s.size 0 s.data.toList = lexAt s 0 by unfold lexAt; rw [List.drop_zero, Nat.sub_zero]]
  rcases lexAt s 0 with ⟨o, p⟩
  cases o with
  | none => rfl
  | some l => exact parseL_C l

/-! Blanks behind. -/
theorem head_tail (r : List UInt8) : ((r ++ [10, 32]).head? = some 39) ↔ (r.head? = some 39) := by
  cases r with
  | nil => simp
  | cons a q => simp
theorem runL_tail {p : UInt8 → Bool} (hp : p 10 = false) : ∀ r : List UInt8, runL p (r ++ [10, 32]) = runL p r
  | [] => by simp [runL, hp]
  | c :: r => by
    have := runL_tail hp r
    show runL p (c :: (r ++ [10, 32])) = _
    unfold runL
    rw [this]
theorem take_tail (r t : List UInt8) (n : Nat) (h : n ≤ r.length) : (r ++ t).take n = r.take n := by
  rw [List.take_append, show n - r.length = 0 by omega, List.take_zero, List.append_nil]
theorem drop_tail (r t : List UInt8) (n : Nat) (h : n ≤ r.length) : (r ++ t).drop n = r.drop n ++ t := by
  rw [List.drop_append, show n - r.length = 0 by omega, List.drop_zero]
theorem textG_tail : ∀ (n : Nat) (r : List UInt8), r.length ≤ n → textG (r ++ [10, 32]) = textG r
  | _, [], _ => by
    show textG [10, 32] = none
    rw [textG, if_neg (by decide), if_neg (by decide)]
  | 0, c :: r, h => by simp at h
  | n + 1, c :: r, h => by
    simp only [List.length_cons] at h
    show textG (c :: (r ++ [10, 32])) = _
    unfold textG
    split
    · cases r with
      | nil =>
        show (if (10 : UInt8).toNat = 39 then (textG [32]).map (fun x => (c :: x.1, x.2 + 2)) else some ([], 1)) = some ([], 1)
        rw [if_neg (by decide)]
      | cons d q =>
        simp only [List.cons_append]
        rw [textG_tail n q (by simp only [List.length_cons] at h; omega)]
    · rw [textG_tail n r (by omega)]
theorem digsG_tail (r : List UInt8) : digsG (r ++ [10, 32]) = digsG r := by
  unfold digsG
  have h := runL_le hexB r
  rw [runL_tail (by decide), drop_tail _ _ _ h, take_tail _ _ _ h]
  by_cases hh : (r.drop (runL hexB r)).head? = some 39
  · rw [if_pos ((head_tail _).2 hh), if_pos hh]
  · rw [if_neg (fun e => hh ((head_tail _).1 e)), if_neg hh]
theorem tokL_tail (l : List UInt8) (hl : l ≠ []) : tokL (l ++ [10, 32]) = tokL l := by
  cases l with
  | nil => exact absurd rfl hl
  | cons c r =>
    show tokL (c :: (r ++ [10, 32])) = _
    rw [tokL, tokL]
    have hd : r.head? = some 39 → (r ++ [10, 32]).drop 1 = r.drop 1 ++ [10, 32] := by
      intro h
      cases r with
      | nil => simp at h
      | cons a q => rfl
    by_cases h1 : c.toNat = 120 ∧ r.head? = some 39
    · rw [if_pos ⟨h1.1, (head_tail r).2 h1.2⟩, if_pos h1, hd h1.2]
      unfold bytesT
      rw [digsG_tail]
    · rw [if_neg (fun e => h1 ⟨e.1, (head_tail r).1 e.2⟩), if_neg h1]
      by_cases h2 : c.toNat = 102 ∧ r.head? = some 39
      · rw [if_pos ⟨h2.1, (head_tail r).2 h2.2⟩, if_pos h2, hd h2.2]
        unfold floatT
        rw [digsG_tail]
      · rw [if_neg (fun e => h2 ⟨e.1, (head_tail r).1 e.2⟩), if_neg h2]
        have hn : nameT (c :: (r ++ [10, 32])) = nameT (c :: r) := by
          have h := runL_tail (p := letB) (by decide) (c :: r)
          have h3 := runL_le letB (c :: r)
          unfold nameT
          rw [show c :: (r ++ [10, 32]) = (c :: r) ++ [10, 32] from rfl, h, take_tail _ _ _ h3]
        have hi : (r ++ [10, 32]).take (runL letB (r ++ [10, 32])) = r.take (runL letB r) := by
          rw [runL_tail (by decide), take_tail _ _ _ (runL_le _ _)]
        have ht : textT (r ++ [10, 32]) = textT r := by
          unfold textT
          rw [textG_tail _ r (Nat.le_refl _)]
        rw [hn, hi, ht]
theorem lexC_blanks : ∀ (n : Nat), lexC n [10, 32] = lexC 0 []
  | 0 => rfl
  | 1 => rfl
  | 2 => rfl
  | n + 3 => rfl
theorem lexC_tail : ∀ (N : Nat) (l : List UInt8), l.length ≤ N → lexC N (l ++ [10, 32]) = lexC N l
  | N, [], _ => by
    show lexC N [10, 32] = _
    rw [lexC_blanks]
    cases N <;> rfl
  | 0, c :: r, h => by simp at h
  | N + 1, c :: r, h => by
    simp only [List.length_cons] at h
    have ht := tokL_tail (c :: r) (by simp)
    show lexC (N + 1) (c :: (r ++ [10, 32])) = _
    unfold lexC
    split
    · exact lexC_tail N r (by omega)
    · rw [show c :: (r ++ [10, 32]) = (c :: r) ++ [10, 32] from rfl, ht]
      cases hx : tokL (c :: r) with
      | none => rfl
      | some x =>
        have hlen := tokL_len _ _ hx
        simp only
        rw [take_tail _ _ _ hlen.2, drop_tail _ _ _ hlen.2, lexC_tail N _ (by simp only [List.length_drop, List.length_cons]; omega)]
theorem parseT_blanks (s t : ByteArray) (h : t.data.toList = 32 :: 10 :: 9 :: (s.data.toList ++ [10, 32])) : parseT t = parseT s := by
  have hz : t.size = s.size + 5 := by
    have h1 : t.size = t.data.toList.length := rfl
    have h2 : s.data.toList.length = s.size := rfl
    rw [h1, h]
    simp only [List.length_cons, List.length_append, List.length_nil, h2]
  have h2 : s.data.toList.length = s.size := rfl
  unfold parseT
  rw [h, hz]
  show (match lexC (s.size + 2) (s.data.toList ++ [10, 32]) with | none => _ | some l => _) = _
  rw [lexC_tail _ _ (by omega), lexC_more (s.size + 2) s.size _ (by omega) (by omega)]

/-! Places. -/
theorem lexG_place : ∀ (N p : Nat) (l : List UInt8), (lexG N p l).2 ≤ p + l.length ∧ ∀ t, (lexG N p l).1 = some t → ∀ x ∈ t, x.p ≤ p + l.length
  | 0, p, l => by
    refine ⟨Nat.zero_le _, fun t ht x hx => ?_⟩
    obtain rfl := Option.some.inj ht
    simp only [List.mem_singleton] at hx
    subst hx
    exact Nat.le_add_right _ _
  | N + 1, p, [] => by
    refine ⟨Nat.zero_le _, fun t ht x hx => ?_⟩
    obtain rfl := Option.some.inj ht
    simp only [List.mem_singleton] at hx
    subst hx
    exact Nat.le_add_right _ _
  | N + 1, p, c :: r => by
    unfold lexG
    split
    · have ih := lexG_place N (p + 1) r
      simp only [List.length_cons]
      refine ⟨by have := ih.1; omega, fun t ht x hx => by have := ih.2 t ht x hx; omega⟩
    · cases hx : tokL (c :: r) with
      | none => exact ⟨Nat.le_add_right _ _, fun t ht => by cases ht⟩
      | some y =>
        have hlen := tokL_len _ _ hx
        have ih := lexG_place N (p + y.2.1) ((c :: r).drop y.2.1)
        rw [List.length_drop] at ih
        simp only [List.length_cons] at ih hlen ⊢
        unfold pre
        refine ⟨by have := ih.1; simp only; omega, fun t ht x hx => ?_⟩
        cases hq : (lexG N (p + y.2.1) ((c :: r).drop y.2.1)).1 with
        | none => rw [hq] at ht; simp at ht
        | some q =>
          rw [hq] at ht
          obtain rfl := Option.some.inj ht
          simp only [List.cons_append, List.nil_append, List.mem_cons] at hx
          rcases hx with rfl | hx
          · exact Nat.le_add_right _ _
          · have := ih.2 q hq x hx
            omega
theorem parseG_place (s : ByteArray) : (parseG s).2.1 ≤ s.size := by
  unfold parseG
  split
  · exact Nat.zero_le _
  · have h := lexG_place s.size 0 s.data.toList
    rw [show lexG s.size 0 s.data.toList = lexAt s 0 by unfold lexAt; rw [List.drop_zero, Nat.sub_zero], show s.data.toList.length = s.size from rfl, Nat.zero_add] at h
    generalize lexAt s 0 = a at *
    obtain ⟨o, p⟩ := a
    cases o with
    | none => exact h.1
    | some l =>
      show (parseL l).2.1 ≤ _
      unfold parseL
      rcases parseR (l.map cont) with ⟨o, q⟩
      cases o with
      | none =>
        show placeAt l q ≤ _
        unfold placeAt
        cases hx : l[l.length - q.length]? with
        | none => exact Nat.zero_le _
        | some x => exact h.2 l rfl x (List.mem_of_getElem? hx)
      | some x =>
        simp only
        split <;> exact Nat.zero_le _
/-! What readers tell. -/
def Yields {α : Type} (P : α → Prop) (a : Rd α) : Prop := ∀ r x q, a r = (some x, q) → P x
theorem Yields.ret {α : Type} {P : α → Prop} {x : α} (h : P x) : Yields P (ret x) := by
  intro r y q e
  have e2 := congrArg Prod.fst e
  obtain rfl := Option.some.inj e2
  exact h
theorem Yields.bnd {α β : Type} {P : β → Prop} {Q : α → Prop} {a : Rd α} {f : α → Rd β} (ha : Yields Q a) (h : ∀ x, Q x → Yields P (f x)) : Yields P (bnd a f) := by
  intro r y q e
  unfold Num.bnd at e
  split at e
  · rename_i x q2 hx
    exact h x (ha _ _ _ hx) _ _ _ e
  · simp at e
theorem Yields.of {α : Type} {a : Rd α} : Yields (fun _ => True) a := fun _ _ _ _ => trivial
theorem Yields.opt {α : Type} {P : α → Prop} {s : ByteArray} {a b : Rd α} (ha : Yields P a) (hb : Yields P b) : Yields P (opt s a b) := by
  intro r y q e
  unfold Num.opt at e
  split at e
  · exact ha _ _ _ e
  · exact hb _ _ _ e
def KindOk (x : Stm) : Prop := 1 ≤ x.kind ∧ x.kind ≤ 11
theorem kd (k : Int) (h : 1 ≤ k ∧ k ≤ 11) {x : Stm} (hx : x.kind = k) : KindOk x := by
  unfold KindOk
  rw [hx]
  exact h
theorem stmtR_kind : Yields KindOk stmtR := by
  have t : ∀ {α : Type} {a : Rd α} {f : α → Rd Stm}, (∀ x, Yields KindOk (f x)) → Yields KindOk (Num.bnd a f) := fun h => Yields.bnd Yields.of (fun x _ => h x)
  have nu : Yields (fun k : Int => 10 ≤ k ∧ k ≤ 11) nullR := by
    refine Yields.bnd (Q := fun k : Int => 10 ≤ k ∧ k ≤ 11) (Yields.opt (Yields.ret ⟨by decide, by decide⟩) (Yields.bnd Yields.of fun _ _ => Yields.ret ⟨by decide, by decide⟩)) fun k hk => ?_
    exact Yields.bnd Yields.of fun _ _ => Yields.ret hk
  refine Yields.opt (t fun _ => t fun _ => t fun _ => t fun _ => t fun _ => Yields.ret (kd 1 (by decide) rfl)) ?_
  refine Yields.opt (t fun _ => t fun _ => t fun _ => t fun _ => Yields.ret (kd 2 (by decide) rfl)) ?_
  refine Yields.opt (t fun _ => t fun _ => t fun _ => Yields.ret (kd 3 (by decide) rfl)) ?_
  refine Yields.opt (t fun _ => t fun _ => t fun _ => t fun _ => Yields.ret (kd 4 (by decide) rfl)) ?_
  refine Yields.opt (Yields.opt (t fun _ => t fun _ => t fun _ => t fun _ => t fun _ => t fun _ => Yields.ret (kd 5 (by decide) rfl)) (Yields.opt (t fun _ => t fun _ => Yields.ret (kd 6 (by decide) rfl)) (t fun _ => t fun _ => Yields.ret (kd 6 (by decide) rfl)))) ?_
  refine Yields.opt (t fun _ => Yields.ret (kd 7 (by decide) rfl)) ?_
  refine t fun _ => t fun _ => t fun _ => Yields.opt (t fun _ => t fun _ => t fun _ => t fun _ => Yields.ret (kd 8 (by decide) rfl)) (Yields.opt (t fun _ => t fun _ => Yields.ret (kd 9 (by decide) rfl)) ?_)
  refine t fun _ => t fun _ => Yields.bnd nu fun k hk => Yields.ret ?_
  unfold KindOk
  show 1 ≤ k ∧ k ≤ 11
  omega
/-- What Parse tells. -/
theorem parseG_ways (s : ByteArray) : (∃ x p, parseG s = (some x, p, 0) ∧ p = 0 ∧ KindOk x ∧ tooMany x = false ∧ s.size ≤ 400) ∨ ∃ p e, parseG s = (none, p, e) ∧ p ≤ s.size ∧ (e = 2 ∨ e = 3) := by
  have hp := parseG_place s
  by_cases h4 : 400 < s.size
  · right
    refine ⟨0, 2, ?_, Nat.zero_le _, .inl rfl⟩
    unfold parseG
    rw [if_pos h4]
  · have hg : parseG s = (match lexAt s 0 with | (none, p) => (none, p, 3) | (some l, _) => parseL l) := by
      show (if _ then _ else _) = _
      rw [if_neg h4]
      rfl
    generalize lexAt s 0 = a at hg
    obtain ⟨o, p⟩ := a
    cases o with
    | none =>
      have hg : parseG s = (none, p, 3) := hg
      rw [hg] at hp
      exact .inr ⟨p, 3, hg, hp, .inr rfl⟩
    | some l =>
      have hg : parseG s = parseL l := hg
      unfold parseL at hg
      have hk : ∀ x q, parseR (l.map cont) = (some x, q) → KindOk x := by
        have : Yields KindOk parseR := Yields.bnd stmtR_kind fun x hx => Yields.bnd Yields.of fun _ _ => Yields.ret hx
        exact fun x q h => this _ _ _ h
      generalize parseR (l.map cont) = b at *
      obtain ⟨o, q⟩ := b
      cases o with
      | none =>
        have hg : parseG s = (none, placeAt l q, 3) := hg
        rw [hg] at hp
        exact .inr ⟨_, 3, hg, hp, .inr rfl⟩
      | some x =>
        have hg : parseG s = (if tooMany x = true then (none, 0, 2) else (some x, 0, 0)) := hg
        by_cases ht : tooMany x = true
        · rw [if_pos ht] at hg
          exact .inr ⟨0, 2, hg, Nat.zero_le _, .inl rfl⟩
        · rw [if_neg ht] at hg
          exact .inl ⟨x, 0, hg, rfl, hk _ _ rfl, by simpa using ht, by omega⟩
end Go.Proofs.YtiajlhjjmlakmaaGreatDoor.Num
