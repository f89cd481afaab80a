/-
  The document's Parse tells what the program's tells (17.1). No program is named here.
-/
import Derived.Test.YtiajlhjjmlakmaaGreatDoorSqVd
namespace Go.Proofs.YtiajlhjjmlakmaaGreatDoor.Num
set_option linter.unusedSimpArgs false
set_option linter.unusedVariables false
set_option linter.unusedVariables false
set_option maxRecDepth 100000

local macro "vc" : tactic => `(tactic| simp [vocab])
theorem ag_stmt {l : List Tok} (hl : LexL l) : Ag l stmtR (stmtD l) := by
  rw [stmtR_eq]
  have e : stmtD l = optD l ⟨#[99, 114, 101, 97, 116, 101]⟩ (createD l) (optD l ⟨#[100, 114, 111, 112]⟩ (dropD l) (optD l ⟨#[97, 108, 116, 101, 114]⟩ (alterD l) (optD l ⟨#[105, 110, 115, 101, 114, 116]⟩ (insertD l) (optD l ⟨#[117, 112, 100, 97, 116, 101]⟩ (updateD l) (optD l ⟨#[100, 101, 108, 101, 116, 101]⟩ (deleteD l) (selectD l)))))) := rfl
  rw [e, alterD_eq]
  exact .opt hl (by vc) de_eat (ag_create hl) (.opt hl (by vc) de_eat (ag_drop hl) (.opt hl (by vc) de_eat (ag_alter hl) (.opt hl (by vc) de_eat (ag_insert hl) (.opt hl (by vc) de_eat (ag_update hl) (.opt hl (by vc) de_eat (ag_delete hl) (ag_select hl))))))
def closeR : Rd Unit
  | [] => (none, [])
  | x :: q => if x.1 = 0 then (some (), x :: q) else (none, x :: q)
theorem endR_eq : endR = opt ⟨#[59]⟩ closeR closeR := by
  funext q
  unfold endR opt
  cases isT ⟨#[59]⟩ q with
  | false => cases q <;> rfl
  | true =>
    rw [if_pos rfl, if_pos rfl]
    cases q.tail <;> rfl
theorem ag_close {l : List Tok} : Ag l closeR (closeD l) := fun S hb hi => by
  have e : closeR (rem l S.i) = if (tokAt l S.i).k = 0 then (some (), rem l S.i) else (none, rem l S.i) := by
    rw [rem_tok hi]
    rfl
  rw [e]
  unfold closeD
  by_cases hk : (tokAt l S.i).k = 0
  · rw [if_pos hk, if_neg (fun h => h.2 hk)]
    exact ⟨rfl, hb, Nat.le_refl _, hi, rfl⟩
  · rw [if_neg hk, if_pos ⟨hb, hk⟩]
    exact fail_ag hb hi ()
theorem opt_bndD {α β : Type} (l : List Tok) (s : ByteArray) (y n : Dr α) (f : α → Dr β) : bndD (optD l s y n) f = optD l s (bndD y f) (bndD n f) := by
  funext S
  unfold bndD optD
  cases isD l s S <;> rfl
theorem ag_end {l : List Tok} (hl : LexL l) : Ag l endR (bndD (semiD l) fun _ => closeD l) := by
  rw [endR_eq]
  have e : (bndD (semiD l) fun _ => closeD l) = optD l ⟨#[59]⟩ (bndD (eatD l ⟨#[59]⟩) fun _ => closeD l) (bndD (retD ()) fun _ => closeD l) := opt_bndD l _ _ _ _
  rw [e]
  exact .opt hl (by vc) de_eat ag_close ag_close
theorem ag_parse {l : List Tok} (hl : LexL l) : Ag l parseR (parseD l) := by
  have e : parseD l = bndD (stmtD l) fun x => bndD (bndD (semiD l) fun _ => closeD l) fun _ => retD x := rfl
  rw [e]
  exact .bnd (ag_stmt hl) (fun _ => .bnd (.bnd .semi fun _ => .close) fun _ => .ret _) fun x => .bnd (ag_end hl) (fun _ => .ret _) fun _ => .ret _
/-- WHAT THE DOCUMENT's READER TELLS IS WHAT THE PROGRAM's TELLS. -/
theorem parse_same {l : List Tok} (hl : LexL l) (hne : 0 < l.length) : tellD (parseD l ⟨0, false, 0, false⟩) = parseL l := by
  have h := ag_parse hl ⟨0, false, 0, false⟩ rfl hne
  have e0 : rem l 0 = l.map cont := rfl
  rw [e0] at h
  unfold parseL
  rcases e : parseR (l.map cont) with ⟨o, q⟩
  rw [e] at h
  cases o with
  | none =>
    obtain ⟨h1, j, h2, h3, h4⟩ := h
    unfold tellD
    rw [if_pos h1, h4]
    have hq : q.length = l.length - j := by rw [← h3, rem_len]
    have hp : placeAt l q = (tokAt l j).p := by
      unfold placeAt
      rw [hq, show l.length - (l.length - j) = j by omega, tokAt_some h2]
      rfl
    show (none, (tokAt l j).p, (3 : Int)) = (none, placeAt l q, 3)
    rw [hp]
  | some x =>
    obtain ⟨h1, h2, h3, h4, h5⟩ := h
    obtain ⟨b, hb, hl2⟩ := Ly.parse (l := l) ⟨0, false, 0, false⟩ h2
    unfold tellD
    rw [if_neg (by rw [h2]; decide), hl2, hb, h1, Bool.false_or]
/-! The tokens of a text. -/
def TokP (x : Tok) : Prop := (x.k = 0 ∧ x.t = ⟨#[]⟩) ∨ ∃ (L : List UInt8) (n : Nat) (v : Val), tokL L = some (x.k, n, v) ∧ x.t = str (L.take n)
theorem lexG_tokP : ∀ (N p : Nat) (l : List UInt8) (t : List Tok), (lexG N p l).1 = some t → ∀ x ∈ t, TokP x
  | 0, p, l, t, h => by
    obtain rfl := Option.some.inj h
    intro x hx
    obtain rfl := List.mem_singleton.1 hx
    exact .inl ⟨rfl, rfl⟩
  | N + 1, p, [], t, h => by
    obtain rfl := Option.some.inj h
    intro x hx
    obtain rfl := List.mem_singleton.1 hx
    exact .inl ⟨rfl, rfl⟩
  | N + 1, p, c :: r, t, h => by
    rw [lexG] at h
    split at h
    · exact lexG_tokP N _ _ _ h
    · split at h
      · cases h
      · rename_i y hy
        unfold pre at h
        rcases e : (lexG N (p + y.2.1) ((c :: r).drop y.2.1)).1 with _ | t2
        · rw [e] at h; cases h
        · rw [e] at h
          obtain rfl := Option.some.inj h
          intro x hx
          rcases List.mem_append.1 hx with hx | hx
          · obtain rfl := List.mem_singleton.1 hx
            exact .inr ⟨c :: r, y.2.1, y.2.2, hy, rfl⟩
          · exact lexG_tokP N _ _ _ e x hx
/-- A token's kind is told by its text. -/
def kindOf : List UInt8 → Int
  | [] => 0
  | c :: r =>
    if (c.toNat = 120 ∨ c.toNat = 102) ∧ r.head? = some 39 then 3
    else if lowB c = true then if words.contains (c :: r) = true then 1 else 2
    else if (digB c = true ∨ c.toNat = 45) ∨ c.toNat = 39 then 3 else 4
theorem kindOf_cons (c : UInt8) (r : List UInt8) : kindOf (c :: r) = if (c.toNat = 120 ∨ c.toNat = 102) ∧ r.head? = some 39 then 3
    else if lowB c = true then if words.contains (c :: r) = true then 1 else 2
    else if (digB c = true ∨ c.toNat = 45) ∨ c.toNat = 39 then 3 else 4 := rfl
theorem low_hex {c : UInt8} (h : ¬ lowB c = true) : ¬ (c.toNat = 120 ∨ c.toNat = 102) := fun e => by
  apply h
  unfold lowB
  rcases e with e | e <;> rw [e] <;> rfl
theorem head_take {r : List UInt8} {m : Nat} {b : UInt8} (h : (r.take m).head? = some b) : r.head? = some b := by
  cases r with
  | nil => cases m <;> exact h
  | cons a q =>
    cases m with
    | zero => cases h
    | succ m => exact h
theorem tokL_kind {L : List UInt8} {k : Int} {n : Nat} {v : Val} (h : tokL L = some (k, n, v)) : k = kindOf (L.take n) := by
  have hlen := tokL_len _ _ h
  cases L with
  | nil => cases h
  | cons c r =>
    have h1 : 1 ≤ n := hlen.1
    obtain ⟨m, rfl⟩ : ∃ m, n = m + 1 := ⟨n - 1, by omega⟩
    rw [List.take_succ_cons]
    have hcut : r.head? = some 39 → 1 ≤ m → (r.take m).head? = some 39 := fun e hm => by
      cases r with
      | nil => cases e
      | cons a q =>
        obtain ⟨j, rfl⟩ : ∃ j, m = j + 1 := ⟨m - 1, by omega⟩
        exact e
    rw [kindOf_cons]
    rw [tokL] at h
    split at h
    · rename_i hc
      unfold bytesT at h
      split at h
      · rename_i d hd
        split at h
        · have e := Option.some.inj h
          have ek : (3 : Int) = k := congrArg (fun y => y.1) e
          have em : d.length + 3 = m + 1 := congrArg (fun y => y.2.1) e
          rw [if_pos ⟨.inl hc.1, hcut hc.2 (by omega)⟩]
          exact ek.symm
        · cases h
      · cases h
    · rename_i hx
      split at h
      · rename_i hc
        unfold floatT at h
        split at h
        · rename_i d hd
          split at h
          · have e := Option.some.inj h
            have ek : (3 : Int) = k := congrArg (fun y => y.1) e
            have em : (19 : Nat) = m + 1 := congrArg (fun y => y.2.1) e
            rw [if_pos ⟨.inr hc.1, hcut hc.2 (by omega)⟩]
            exact ek.symm
          · cases h
        · cases h
      · rename_i hf
        split at h
        · rename_i hl
          have hno : ¬ ((c.toNat = 120 ∨ c.toNat = 102) ∧ (r.take m).head? = some 39) := fun q => q.1.elim (fun a => hx ⟨a, head_take q.2⟩) (fun a => hf ⟨a, head_take q.2⟩)
          rw [if_neg hno, if_pos hl]
          unfold nameT at h
          split at h
          · have e := Option.some.inj h
            have em : runL letB (c :: r) = m + 1 := congrArg (fun y => y.2.1) e
            have ek : (if words.contains ((c :: r).take (runL letB (c :: r))) = true then 1 else 2 : Int) = k := congrArg (fun y => y.1) e
            rw [em, List.take_succ_cons] at ek
            exact ek.symm
          · cases h
        · rename_i hl
          rw [if_neg (fun q => low_hex hl q.1), if_neg hl]
          split at h
          · rename_i hd
            unfold intT at h
            split at h
            · split at h
              · have ek : (3 : Int) = k := congrArg (fun y => y.1) (Option.some.inj h)
                rw [if_pos (.inl hd)]
                exact ek.symm
              · cases h
            · cases h
          · rename_i hd
            split at h
            · rename_i hq
              unfold textT at h
              split at h
              · split at h
                · have ek : (3 : Int) = k := congrArg (fun y => y.1) (Option.some.inj h)
                  rw [if_pos (.inr hq)]
                  exact ek.symm
                · cases h
              · cases h
            · rename_i hq
              split at h
              · have ek : (4 : Int) = k := congrArg (fun y => y.1) (Option.some.inj h)
                rw [if_neg (fun z => z.elim hd hq)]
                exact ek.symm
              · cases h
theorem tokP_kind {x : Tok} (h : TokP x) : x.k = kindOf x.t.data.toList := by
  rcases h with ⟨h1, h2⟩ | ⟨L, n, v, h1, h2⟩
  · rw [h1, h2]
    rfl
  · rw [h2]
    exact tokL_kind h1
theorem vocab_kind : (vocab.all fun s => decide (kindOf s.data.toList = 1) || decide (kindOf s.data.toList = 4)) = true := by decide +kernel
/-- A text's tokens are such that the two readers agree. -/
theorem lexL_of {N p : Nat} {l : List UInt8} {t : List Tok} (h : (lexG N p l).1 = some t) : LexL t ∧ 0 < t.length := by
  obtain ⟨he, hne, _⟩ := lexG_endK N p l t h
  have hk : ∀ (i : Nat) (x : Tok), t[i]? = some x → x.k = kindOf x.t.data.toList := fun i x hx => tokP_kind (lexG_tokP N p l t h x (List.mem_of_getElem? hx))
  refine ⟨⟨fun i x hx => (he i x hx).1, fun i x hx s hs e => ?_, fun i x hx j y hy hyk e => ?_⟩, List.length_pos_iff.2 hne⟩
  · have := List.all_eq_true.1 vocab_kind s hs
    rw [hk i x hx, e]
    simpa using this
  · rw [hk i x hx, e, ← hk j y hy]
    exact hyk
end Go.Proofs.YtiajlhjjmlakmaaGreatDoor.Num
