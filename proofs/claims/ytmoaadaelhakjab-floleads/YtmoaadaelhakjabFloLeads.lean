/-
  Proved: of every three words the order leads on, turned round it is turned round, two words have the same place just if they have the same form, and the document's examples hold; no condition.
-/
import Derived.Test.YtmoaadaelhakjabRows
import Derived.Test.YtmoaadaelhakjabFlo
import Derived.WalkKit
import Derived.ProofKit
import Derived.OpenShut
namespace Go.Proofs.Ytmoaadaelhakjab.floLeads
open Go.ChangeShapes Go.WideShapes Go.ChangeAt Go.RowKit Num
set_option linter.unusedVariables false      -- a walk need not use every 'w<i>' (that an integer argument fits its kind)

theorem own : ownKnob Try.prog.godebug = none := by kernel_rfl

set_option maxHeartbeats 4000000 in

theorem walk (a0 : Int) (a1 : Int) (a2 : Int) (w0 : (Lit.int .u64 a0).wf = true) (w1 : (Lit.int .u64 a1).wf = true) (w2 : (Lit.int .u64 a2).wf = true) (w : World) :
    Calls Try.prog 3 #[.int .u64 a0, .int .u64 a1, .int .u64 a2] w fun e w' => e = .returned (.bool true) ∧ Grown w w' := by
  have hb0 := bounds_u64 w0
  obtain ⟨a, rfl⟩ := Int.eq_ofNat_of_zero_le hb0.1
  have ha : a < 18446744073709551616 := by omega
  have hb1 := bounds_u64 w1
  obtain ⟨b, rfl⟩ := Int.eq_ofNat_of_zero_le hb1.1
  have hb : b < 18446744073709551616 := by omega
  have hb2 := bounds_u64 w2
  obtain ⟨c, rfl⟩ := Int.eq_ofNat_of_zero_le hb2.1
  have hc : c < 18446744073709551616 := by omega
  have hcan := canon_of_place a b ha hb
  rcases cmp_cases a b with ⟨h1, p1⟩ | ⟨h1, p1⟩ | ⟨h1, p1⟩ <;> rcases cmp_cases b a with ⟨h4, p4⟩ | ⟨h4, p4⟩ | ⟨h4, p4⟩ <;> try (exfalso; omega)
  · have hne : (((canon a : Nat) : Int) == ((canon b : Nat) : Int)) = false := by simp only [beq_eq_false_iff_ne, ne_eq]; omega
    clear hcan
    rcases cmp_cases b c with ⟨h2, p2⟩ | ⟨h2, p2⟩ | ⟨h2, p2⟩ <;> rcases cmp_cases a c with ⟨h3, p3⟩ | ⟨h3, p3⟩ | ⟨h3, p3⟩ <;> try (exfalso; omega)
    all_goals (clear p1 p2 p3 p4; go_enter Try.func3, Try.ntmps3; go_wp2_with (first | (go_at_call 6; refine (cmp_any _ _ (by assumption) (by assumption) _).mono ?_; rintro e w' ⟨rfl, rfl⟩) | (go_at_call 7; refine (canon_any _ _).mono ?_; rintro e w' ⟨rfl, rfl⟩) | (go_at_call 8; refine (awake_any _ _ (Grown.refl _)).mono ?_; rintro e w' ⟨rfl, hg⟩)); go_ret; exact ⟨rfl, by assumption⟩)
  · have heq : canon a = canon b := by omega
    clear hcan
    rcases cmp_cases b c with ⟨h2, p2⟩ | ⟨h2, p2⟩ | ⟨h2, p2⟩ <;> rcases cmp_cases a c with ⟨h3, p3⟩ | ⟨h3, p3⟩ | ⟨h3, p3⟩ <;> try (exfalso; omega)
    all_goals (clear p1 p2 p3 p4; go_enter Try.func3, Try.ntmps3; go_wp2_with (first | (go_at_call 6; refine (cmp_any _ _ (by assumption) (by assumption) _).mono ?_; rintro e w' ⟨rfl, rfl⟩) | (go_at_call 7; refine (canon_any _ _).mono ?_; rintro e w' ⟨rfl, rfl⟩) | (go_at_call 8; refine (awake_any _ _ (Grown.refl _)).mono ?_; rintro e w' ⟨rfl, hg⟩)); go_ret; exact ⟨rfl, by assumption⟩)
  · have hne : (((canon a : Nat) : Int) == ((canon b : Nat) : Int)) = false := by simp only [beq_eq_false_iff_ne, ne_eq]; omega
    clear hcan
    rcases cmp_cases b c with ⟨h2, p2⟩ | ⟨h2, p2⟩ | ⟨h2, p2⟩ <;> rcases cmp_cases a c with ⟨h3, p3⟩ | ⟨h3, p3⟩ | ⟨h3, p3⟩ <;> try (exfalso; omega)
    all_goals (clear p1 p2 p3 p4; go_enter Try.func3, Try.ntmps3; go_wp2_with (first | (go_at_call 6; refine (cmp_any _ _ (by assumption) (by assumption) _).mono ?_; rintro e w' ⟨rfl, rfl⟩) | (go_at_call 7; refine (canon_any _ _).mono ?_; rintro e w' ⟨rfl, rfl⟩) | (go_at_call 8; refine (awake_any _ _ (Grown.refl _)).mono ?_; rintro e w' ⟨rfl, hg⟩)); go_ret; exact ⟨rfl, by assumption⟩)

/-! ### THE ROW's STEP -/
set_option maxRecDepth 100000 in
theorem lifted (os : Os) (started : os.Started) (H : Type) (enc : TypeId × Value → H) :
    ReturnsInHanded {} Try.checked os 3 .any (Rows.floLeadsSpec.pre6 enc Try.prog Try.f3 Rows.floLeadsRow.domain false) (Rows.floLeadsSpec.post enc Try.prog Try.f3 false true false false) := by
  refine returnsInHanded_of_change (C := Try.checked) own started (by kernel_rfl) Try.func3
    (ChangeSpec.witness6 (enc := enc) (C := Try.checked) false ⟨#[], #[.int .u64 0, .int .u64 0, .int .u64 0], []⟩ 8 (by kernel_rfl) (by kernel_rfl) (by kernel_rfl) (by kernel_rfl)) ?_
  intro W base args ds gs before hval0 hW hcnd _
  have hval : ∀ (j : Nat) t v, Try.f3.params[j]? = some t → args[j]? = some v → Value.okWide Try.prog W .any base t v := hval0
  have hW' := hW
  obtain ⟨p, q, hA0, hV, rfl, hfz, hnd⟩ := hW
  have hA : DataW.TrodAll enc Try.prog W 0 (fun _ => true) true Try.f3.params.toList args.toList ds p := hA0
  rw [Try.params3] at hA hval
  obtain ⟨v0, vs0, d0, ds0, p0, q0, hargs, rfl, rfl, h0, r0⟩ := trodAll_cons hA
  obtain ⟨v1, vs1, d1, ds1, p1, q1, rfl, rfl, rfl, h1, r1⟩ := trodAll_cons r0
  obtain ⟨v2, vs2, d2, ds2, p2, q2, rfl, rfl, rfl, h2, r2⟩ := trodAll_cons r1
  obtain ⟨rfl, rfl, rfl⟩ := trodAll_nil r2
  obtain rfl : args = #[v0, v1, v2] := by cases args; simp_all
  obtain ⟨rfl, rfl⟩ := trodVars_none hV
  obtain ⟨a0, rfl, rfl, rfl, w0⟩ := open_int Try.underlying22 (hval 0 22 v0 rfl rfl) h0
  obtain ⟨a1, rfl, rfl, rfl, w1⟩ := open_int Try.underlying22 (hval 1 22 v1 rfl rfl) h1
  obtain ⟨a2, rfl, rfl, rfl, w2⟩ := open_int Try.underlying22 (hval 2 22 v2 rfl rfl) h2
  clear hA0 hval0
  simp only [List.append_nil] at hW'
  refine (walk a0 a1 a2 w0 w1 w2 W).mono fun e W' ⟨he, hg⟩ => ?_
  subst he
  exact ⟨_, rfl, post_of_same (pa := []) (pv := []) hW' (fun _ _ _ => (trodAll_cons_mk (shut_bool Try.underlying4 _) trodAll_mk0)) (fun sp _ => (trodAll_cons_mk (shut_int Try.underlying22 w0) (trodAll_cons_mk (shut_int Try.underlying22 w1) (trodAll_cons_mk (shut_int Try.underlying22 w2) trodAll_mk0)))) (fun _ _ => rfl) rfl
    (hg.frame _) hg.2.1 (ok_one (by kernel_rfl) rfl (okWide_bool_mk Try.underlying4 _))⟩

theorem over : Rows.floLeadsRow.holds Try.pinned (OpenSpec.ofChange Rows.floLeadsSpec) :=
  OpenClaim.holds_of_wide 3 Try.f3 rfl rfl rfl rfl rfl rfl rfl ⟨rfl, rfl, rfl, rfl, rfl⟩ rfl rfl rfl rfl rfl (by kernel_rfl) Try.func3 (by kernel_rfl)
    (of_decide_eq_true (by kernel_rfl)) (by unfold Func.isWrapper; first | (rw [if_pos (by decide +kernel)]; kernel_rfl) | (rw [if_neg (by decide +kernel)]; exact ⟨rfl, rfl⟩))
    (fun os started H enc _ => lifted os started H enc)

/-- ████ THE STATEMENT ████ -/
theorem proved : Rows.FloLeadsSaid :=
  over
#print axioms proved
end Go.Proofs.Ytmoaadaelhakjab.floLeads
