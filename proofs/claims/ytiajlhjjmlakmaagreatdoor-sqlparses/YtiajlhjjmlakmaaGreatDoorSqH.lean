/-
  Contracts: package sql: the end of a statement, too many parts; the face of Parse. What is told of tokens has an end.
-/
import Derived.Test.YtiajlhjjmlakmaaGreatDoorSqE
import Derived.Defers
import Derived.Recover
namespace Go.Proofs.YtiajlhjjmlakmaaGreatDoor
open Go.RowKit Num
set_option linter.unusedSimpArgs false
set_option linter.unusedVariables false
set_option linter.unusedVariables false
set_option maxRecDepth 100000

theorem endK_cons {y : Tok} {r : List Tok} (hr : EndK r) (hne : r ≠ []) (hy : y.k = 2 → y.t ≠ ⟨#[]⟩) : EndK (y :: r) := by
  intro i x hx
  cases i with
  | zero =>
    obtain rfl := Option.some.inj hx
    refine ⟨.inl ?_, hy⟩
    have := List.length_pos_iff.2 hne
    simp only [List.length_cons]
    omega
  | succ i =>
    obtain ⟨h1, h2⟩ := hr i x (by simpa using hx)
    refine ⟨?_, h2⟩
    rcases h1 with h | h
    · left
      simp only [List.length_cons]
      omega
    · exact .inr h
theorem lexG_endK : ∀ (N p : Nat) (l : List UInt8) (t : List Tok), (lexG N p l).1 = some t → EndK t ∧ t ≠ [] ∧ t.length ≤ l.length + 1
  | 0, p, l, t, h => by
    obtain rfl := Option.some.inj h
    refine ⟨fun i x hx => ?_, by simp, by simp⟩
    cases i with
    | zero => obtain rfl := Option.some.inj hx; exact ⟨.inr ⟨rfl, rfl⟩, fun e => absurd (show (0 : Int) = 2 from e) (by decide)⟩
    | succ i => simp at hx
  | N + 1, p, [], t, h => by
    obtain rfl := Option.some.inj h
    refine ⟨fun i x hx => ?_, by simp, by simp⟩
    cases i with
    | zero => obtain rfl := Option.some.inj hx; exact ⟨.inr ⟨rfl, rfl⟩, fun e => absurd (show (0 : Int) = 2 from e) (by decide)⟩
    | succ i => simp at hx
  | N + 1, p, c :: r, t, h => by
    unfold lexG at h
    split at h
    · obtain ⟨h1, h2, h3⟩ := lexG_endK N _ _ _ h
      exact ⟨h1, h2, by simp only [List.length_cons]; omega⟩
    · cases hx : tokL (c :: r) with
      | none => rw [hx] at h; simp at h
      | some x =>
        rw [hx] at h
        have hn := tokL_len _ _ hx
        simp only at h
        unfold pre at h
        cases hq : (lexG N (p + x.2.1) ((c :: r).drop x.2.1)).1 with
        | none => rw [hq] at h; simp at h
        | some q =>
          rw [hq] at h
          obtain rfl := Option.some.inj h
          obtain ⟨h1, h2, h3⟩ := lexG_endK N _ _ _ hq
          rw [List.length_drop] at h3
          refine ⟨endK_cons h1 h2 fun _ e => ?_, by simp, by simp only [List.cons_append, List.nil_append, List.length_cons] at *; omega⟩
          have e2 := congrArg ByteArray.size e
          have e3 : (str ((c :: r).take x.2.1)).size = ((c :: r).take x.2.1).length := rfl
          rw [e3, List.length_take] at e2
          have e4 : (⟨#[]⟩ : ByteArray).size = 0 := rfl
          omega
theorem end_at {l : List Tok} {i j : Nat} {x : Tok} (hx : l[j]? = some x) (h : (if isT ⟨#[59]⟩ (rem l i) = true then (rem l i).tail else rem l i) = rem l j) : endR (rem l i) = if x.k = 0 then (some (), rem l j) else (none, rem l j) := by
  unfold endR
  rw [h, rem_at hx]
  rfl
set_option maxHeartbeats 1000000 in
theorem sqreadEnd_any {g : Nat} {v : Value} {l : List Tok} (hE : EndK l) {i : Nat} (w : World) (hP : PAt g v l i w) :
    Calls Tryz.prog 13 #[.pointer (some ⟨g, 0, none⟩)] w (Tells g v l i w VU (endR (rem l i))) := by
  have hgu := giveUp_any
  have hf := tok_f0
  rcases Bool.eq_false_or_eq_true (isT ⟨#[59]⟩ (rem l i)) with hb | hb
  · have hi1 := isT_lt hE (by decide) hP.lt hb
    have hx := List.getElem?_eq_getElem hi1
    have HO : Hid (endR (rem l i) = if (l[i + 1]).k = 0 then (some (), rem l (i + 1)) else (none, rem l (i + 1))) := end_at hx (by
      rw [if_pos hb, rem_at (List.getElem?_eq_getElem hP.lt)]
      rfl)
    have hn := fun W h => next_any (g := g) (v := v) hx W h
    have hy := took_yes hE (by decide) hb w hP rfl
    generalize l[i + 1] = x at *
    obtain ⟨kk, tt, vv, pp⟩ := x
    simp only at hn HO
    clear hb hx
    by_cases hk : kk = 0
    · subst hk
      go_enter Tryz.func13, Tryz.ntmps13
      go_wp2_with (first
        | (go_at_call 11; have hz := hk1; clear hz; refine (hn _ hP1).mono ?_; rintro e w2 ⟨rfl, hb2⟩)
        | (go_at_call 27; refine hy.mono ?_; rintro e w1 ⟨rfl, hk1, hP1, hr1⟩))
      go_end0
      rw [HO.out]
      exact ⟨kp_below hk1 hb2, i + 1, Nat.le_succ i, hP1.below hb2, rfl, _, rfl, rfl⟩
    · have HN : Hid (endR (rem l i) = (none, rem l (i + 1))) := by
        unfold Hid
        rw [HO.out, if_neg hk]
      have hkb : (kk != 0) = true := by simpa using hk
      clear HO hk
      go_enter Tryz.func13, Tryz.ntmps13
      go_wp2_with (first
        | (go_at_call 36; refine (hgu _).mono ?_; rintro e w3 ⟨rfl, rfl⟩)
        | (go_at_call 11; have hz := hk1; clear hz; refine (hn _ hP1).mono ?_; rintro e w2 ⟨rfl, hb2⟩)
        | (go_at_call 27; refine hy.mono ?_; rintro e w1 ⟨rfl, hk1, hP1, hr1⟩))
      refine ⟨rfl, ?_⟩
      rw [HN.out]
      exact ⟨kp_below hk1 hb2, i + 1, Nat.le_succ i, hP1.below hb2, rfl, rfl⟩
  · have hx := List.getElem?_eq_getElem hP.lt
    have HO : Hid (endR (rem l i) = if (l[i]'hP.lt).k = 0 then (some (), rem l i) else (none, rem l i)) := end_at hx (if_neg (by simp [hb]))
    have hn := fun W h => next_any (g := g) (v := v) hx W h
    have hy := took_no hb w hP rfl
    have hlt := hP.lt
    generalize l[i] = x at *
    obtain ⟨kk, tt, vv, pp⟩ := x
    simp only at hn HO
    clear hb hx
    by_cases hk : kk = 0
    · subst hk
      go_enter Tryz.func13, Tryz.ntmps13
      go_wp2_with (first
        | (go_at_call 11; have hz := hk1; clear hz; refine (hn _ hP1).mono ?_; rintro e w2 ⟨rfl, hb2⟩)
        | (go_at_call 27; refine hy.mono ?_; rintro e w1 ⟨rfl, hk1, hP1⟩))
      go_end0
      rw [HO.out]
      exact ⟨kp_below hk1 hb2, i, Nat.le_refl i, hP1.below hb2, rfl, _, rfl, rfl⟩
    · have HN : Hid (endR (rem l i) = (none, rem l i)) := by
        unfold Hid
        rw [HO.out, if_neg hk]
      have hkb : (kk != 0) = true := by simpa using hk
      clear HO hk
      go_enter Tryz.func13, Tryz.ntmps13
      go_wp2_with (first
        | (go_at_call 36; refine (hgu _).mono ?_; rintro e w3 ⟨rfl, rfl⟩)
        | (go_at_call 11; have hz := hk1; clear hz; refine (hn _ hP1).mono ?_; rintro e w2 ⟨rfl, hb2⟩)
        | (go_at_call 27; refine hy.mono ?_; rintro e w1 ⟨rfl, hk1, hP1⟩))
      refine ⟨rfl, ?_⟩
      rw [HN.out]
      exact ⟨kp_below hk1 hb2, i, Nat.le_refl i, hP1.below hb2, rfl, rfl⟩
theorem max4_run (a b c d : Int) (W : World) : (Builtin.max_ #[3, 3, 3, 3] 3 #[.int .i64 a, .int .i64 b, .int .i64 c, .int .i64 d]).run Tryz.prog W = .ok (.int .i64 (max (max (max a b) c) d)) W := by
  have key : ∀ x y : Int, Builtin.max2 (.int .i64 x) (.int .i64 y) = pure (.int .i64 (max x y)) := by
    intro x y
    show (pure (.int .i64 (if y > x then y else x)) : Sem Value) = _
    congr 2
    split <;> omega
  show (List.foldlM Builtin.max2 _ _).run Tryz.prog W = _
  simp [List.foldlM, key]
theorem sqtooMany_any (x : Stm) (t : SS) (w : World) :
    Calls Tryz.prog 14 #[.agg #[.int .i64 x.kind, .string x.table, .string x.name, .slice t.co x.cols.length t.cc, .slice t.vo x.vals.length t.vc, .slice t.so x.sets.length t.sc, .slice t.qo x.conds.length t.qc, .bool x.uniq, .int .i64 x.type, .slice t.yo x.types.length t.yc]] w fun e w' => e = .returned (.bool (tooMany x)) ∧ Below w.heap.size w w' := by
  unfold tooMany
  obtain ⟨a, ha⟩ : ∃ a, x.cols.length = a := ⟨_, rfl⟩
  obtain ⟨b, hb⟩ : ∃ b, x.types.length = b := ⟨_, rfl⟩
  obtain ⟨c, hc⟩ : ∃ c, x.vals.length = c := ⟨_, rfl⟩
  obtain ⟨d, hd⟩ : ∃ d, x.sets.length = d := ⟨_, rfl⟩
  obtain ⟨e, he⟩ : ∃ e, x.conds.length = e := ⟨_, rfl⟩
  rw [ha, hb, hc, hd, he]
  clear ha hb hc hd he
  obtain ⟨M, hM⟩ : ∃ M, max (max (max a b) c) d = M := ⟨_, rfl⟩
  have hmx := max4_run a b c d
  rw [show max (max (max (a : Int) (b : Int)) (c : Int)) (d : Int) = (M : Int) by omega] at hmx
  rw [hM]
  clear hM
  by_cases h8 : 8 < M
  · have g8 : (8 : Int) < (M : Int) := by omega
    rw [decide_eq_true h8, Bool.true_or]
    go_enter Tryz.func14, Tryz.ntmps14
    go_wp2
    go_ret
    exact ⟨rfl, (Below.refl _ w).alloc (Nat.le_refl _) _⟩
  · have g8 : ¬ (8 : Int) < (M : Int) := by omega
    rw [decide_eq_false h8, Bool.false_or]
    by_cases h4 : 4 < e
    · have g4 : (4 : Int) < (e : Int) := by omega
      rw [decide_eq_true h4]
      go_enter Tryz.func14, Tryz.ntmps14
      go_wp2
      go_ret
      exact ⟨rfl, (Below.refl _ w).alloc (Nat.le_refl _) _⟩
    · have g4 : ¬ (4 : Int) < (e : Int) := by omega
      rw [decide_eq_false h4]
      go_enter Tryz.func14, Tryz.ntmps14
      go_wp2
      go_ret
      exact ⟨rfl, (Below.refl _ w).alloc (Nat.le_refl _) _⟩
end Go.Proofs.YtiajlhjjmlakmaaGreatDoor
