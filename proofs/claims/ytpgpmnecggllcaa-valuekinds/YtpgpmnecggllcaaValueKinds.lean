/-
  Proved: for every two numbers, floats and texts the law ValueKinds returns true: within a kind value.Cmp orders as numbers, as floats, as texts are ordered; null is below a number, false below true (2.5); what came in reads behind the call as before. No condition.
-/
import Derived.Test.YtpgpmnecggllcaaRows
import Derived.Test.YtpgpmnecggllcaaVKindM
import Derived.WalkKit
import Derived.ProofKit
import Derived.OpenShut
import Derived.ShutString
import Derived.Lib.SmallJoins
namespace Go.Proofs.Ytpgpmnecggllcaa.valueKinds
open Go.ChangeShapes Go.WideShapes Go.ChangeAt Go.RowKit Go.Joins Num
open Go.ChangeMaps (open_string shut_string)
set_option linter.unusedVariables false

theorem own : ownKnob Try.prog.godebug = none := by kernel_rfl
theorem cellsV : Try.prog.cellsOf 24 = 4 := by kernel_rfl

theorem sign_num (a b : Int) : decide ((if a < b then (-1 : Int) else if b < a then 1 else 0) < 0) = decide (a < b) ∧ ((if a < b then (-1 : Int) else if b < a then 1 else 0) == 0) = (a == b) := by
  by_cases h1 : a < b
  · rw [if_pos h1]
    refine ⟨by simp [h1], ?_⟩
    have : ¬ a = b := by omega
    simp [this]
  · rw [if_neg h1]
    by_cases h2 : b < a
    · rw [if_pos h2]
      refine ⟨by simp [h1], ?_⟩
      have : ¬ a = b := by omega
      simp [this]
    · rw [if_neg h2]
      have : a = b := by omega
      subst this
      simp
theorem sign_text (s t : ByteArray) : decide (cb s.data.toList t.data.toList < 0) = Op.bytesLess s.toList t.toList ∧ (cb s.data.toList t.data.toList == 0) = (s.toList == t.toList) := by
  rw [ByteArray.toList_eq, ByteArray.toList_eq]
  rcases cb_cases s.data.toList t.data.toList with ⟨c1, _, c3, c4⟩ | ⟨c1, _, c3, c4⟩ | ⟨c1, _, c3, c4⟩
  · rw [c1, c3]
    exact ⟨rfl, (beq_eq_false_iff_ne.2 c4).symm⟩
  · rw [c1, c3]
    refine ⟨rfl, ?_⟩
    rw [c4]
    simp
  · rw [c1, c3]
    exact ⟨rfl, (beq_eq_false_iff_ne.2 c4).symm⟩

set_option maxHeartbeats 1000000 in
theorem core (a0 a1 : Int) (ha0 : -9223372036854775808 ≤ a0 ∧ a0 ≤ 9223372036854775807) (ha1 : -9223372036854775808 ≤ a1 ∧ a1 ≤ 9223372036854775807) (f2 f3 : Nat) (hf2 : f2 < 18446744073709551616) (hf3 : f3 < 18446744073709551616) (s4 s5 : ByteArray)
    (h4 : ¬ 40 < (s4.size : Int)) (h5 : ¬ 40 < (s5.size : Int)) (X Y U : Int) (hX1 : decide (X < 0) = decide (a0 < a1)) (hX2 : (X == 0) = (a0 == a1)) (hU1 : decide (U < 0) = Op.bytesLess s4.toList s5.toList) (hU2 : (U == 0) = (s4.toList == s5.toList))
    (g2 : 0 ≤ ((canon f2 : Nat) : Int) ∧ ((canon f2 : Nat) : Int) ≤ 18446744073709551615) (g3 : 0 ≤ ((canon f3 : Nat) : Int) ∧ ((canon f3 : Nat) : Int) ≤ 18446744073709551615)
    (fx : cmpV 2 a0 0 ⟨#[]⟩ 2 a1 0 ⟨#[]⟩ = X) (fy : cmpV 3 0 (canon f2) ⟨#[]⟩ 3 0 (canon f3) ⟨#[]⟩ = Y) (fu : cmpV 5 0 0 s4 5 0 0 s5 = U) (fw : cmpV 4 0 0 s4 4 0 0 s5 = U) (fn : cmpV 0 0 0 ⟨#[]⟩ 2 a0 0 ⟨#[]⟩ = -1) (fb : cmpV 1 0 0 ⟨#[]⟩ 1 1 0 ⟨#[]⟩ = -1)
    (hY : ∀ w, Calls Try.prog 21 #[.int .u64 (f2 : Int), .int .u64 (f3 : Int)] w fun e w' => e = .returned (.int .i64 Y) ∧ w' = w) (w : World) :
    Calls Try.prog 8 #[.int .i64 a0, .int .i64 a1, .int .u64 (f2 : Int), .int .u64 (f3 : Int), .string s4, .string s5] w fun e w' => e = .returned (.bool true) ∧ Below w.heap.size w w' := by
  have hb0 := Below.refl w.heap.size w
  go_enter Try.func8, Try.ntmps8
  go_wp2_with (first
    | (go_at_call 18; refine (valueCmp_i _ _ (by first | assumption | decide) _ (by first | assumption | decide) _ _ _ (by first | assumption | decide) _ (by first | assumption | decide) _ _).mono ?_; rintro e w1 ⟨rfl, hb1⟩; have hbn := below_next (B := w.heap.size) (a := w) (by assumption) (Nat.le_refl _) hb1; clear hb1; simp only [Int.toNat_zero, Int.toNat_natCast, fx, fy, fu, fw, fn, fb])
    | (go_at_call 20; refine (refCanon_any _ (by assumption) _).mono ?_; rintro e w2 ⟨rfl, rfl⟩)
    | (go_at_call 21; refine (hY _).mono ?_; rintro e w2 ⟨rfl, rfl⟩)
    | (go_at_call 12; refine (awake_any _).mono ?_; rintro e w3 ⟨rfl, hb3⟩; have hbn := below_next (B := w.heap.size) (a := w) (by assumption) (Nat.le_refl _) hb3; clear hb3))
  go_ret
  exact ⟨rfl, by assumption⟩

theorem walk (a0 : Int) (ha0 : -9223372036854775808 ≤ a0 ∧ a0 ≤ 9223372036854775807) (a1 : Int) (ha1 : -9223372036854775808 ≤ a1 ∧ a1 ≤ 9223372036854775807) (f2 : Nat) (hf2 : f2 < 18446744073709551616) (f3 : Nat) (hf3 : f3 < 18446744073709551616) (s4 : ByteArray) (ws4 : s4.size ≤ maxLen) (s5 : ByteArray) (ws5 : s5.size ≤ maxLen) (w : World) :
    Calls Try.prog 8 #[.int .i64 a0, .int .i64 a1, .int .u64 (f2 : Int), .int .u64 (f3 : Int), .string s4, .string s5] w fun e w' => e = .returned (.bool true) ∧ Below w.heap.size w w' := by
  by_cases h4 : 40 < (s4.size : Int)
  · go_enter Try.func8, Try.ntmps8
    go_wp2_with (first
      | (go_at_call 12; refine (awake_any _).mono ?_; rintro e w3 ⟨rfl, hb3⟩))
    go_ret
    exact ⟨rfl, hb3⟩
  · by_cases h5 : 40 < (s5.size : Int)
    · go_enter Try.func8, Try.ntmps8
      go_wp2_with (first
        | (go_at_call 12; refine (awake_any _).mono ?_; rintro e w3 ⟨rfl, hb3⟩))
      go_ret
      exact ⟨rfl, hb3⟩
    · have c2 := canon_lt f2 hf2
      have c3 := canon_lt f3 hf3
      exact core a0 a1 ha0 ha1 f2 f3 hf2 hf3 s4 s5 h4 h5 _ _ _ (sign_num a0 a1).1 (sign_num a0 a1).2 (sign_text s4 s5).1 (sign_text s4 s5).2 (by omega) (by omega)
        (kind_int a0 a1 ha0 ha1) (kind_float f2 f3 hf2 hf3) (kind_text s4 s5 h4 h5) (kind_bytes s4 s5 h4 h5) (kind_null a0) kind_bool (fun w => refCmp_any f2 f3 hf2 hf3 w) w

set_option maxRecDepth 100000 in
theorem lifted (os : Os) (started : os.Started) (H : Type) (enc : TypeId × Value → H) :
    ReturnsInHanded {} Try.checked os 8 .any (Rows.valueKindsSpec.pre6 enc Try.prog Try.f8 Rows.valueKindsRow.domain false) (Rows.valueKindsSpec.post enc Try.prog Try.f8 false true false false) := by
  refine returnsInHanded_of_change (C := Try.checked) own started (by kernel_rfl) Try.func8
    (ChangeSpec.witness6 (enc := enc) (C := Try.checked) false ⟨#[], #[.int .i64 0, .int .i64 0, .int .u64 0, .int .u64 0, .string ByteArray.empty, .string ByteArray.empty], []⟩ 8 (by kernel_rfl) (by kernel_rfl) (by kernel_rfl) (by kernel_rfl)) ?_
  intro W base args ds gs before hval0 hW hcnd _
  have hval : ∀ (j : Nat) t v, Try.f8.params[j]? = some t → args[j]? = some v → Value.okWide Try.prog W .any base t v := hval0
  have hW' := hW
  obtain ⟨p, q, hA0, hV, rfl, hfz, hnd⟩ := hW
  have hA : DataW.TrodAll enc Try.prog W 0 (fun _ => true) true Try.f8.params.toList args.toList ds p := hA0
  rw [Try.params8] at hA hval
  obtain ⟨v0, vs0, d0, ds0, p0, q0, hargs, rfl, rfl, h0, r0⟩ := trodAll_cons hA
  obtain ⟨v1, vs1, d1, ds1, p1, q1, rfl, rfl, rfl, h1, r1⟩ := trodAll_cons r0
  obtain ⟨v2, vs2, d2, ds2, p2, q2, rfl, rfl, rfl, h2, r2⟩ := trodAll_cons r1
  obtain ⟨v3, vs3, d3, ds3, p3, q3, rfl, rfl, rfl, h3, r3⟩ := trodAll_cons r2
  obtain ⟨v4, vs4, d4, ds4, p4, q4, rfl, rfl, rfl, h4, r4⟩ := trodAll_cons r3
  obtain ⟨v5, vs5, d5, ds5, p5, q5, rfl, rfl, rfl, h5, r5⟩ := trodAll_cons r4
  obtain ⟨rfl, rfl, rfl⟩ := trodAll_nil r5
  obtain rfl : args = #[v0, v1, v2, v3, v4, v5] := by cases args; simp_all
  obtain ⟨rfl, rfl⟩ := trodVars_none hV
  obtain ⟨a0, rfl, rfl, rfl, wa0⟩ := open_int Try.underlying2 (hval 0 2 v0 rfl rfl) h0
  have ba0 := bounds_i64 wa0
  obtain ⟨a1, rfl, rfl, rfl, wa1⟩ := open_int Try.underlying2 (hval 1 2 v1 rfl rfl) h1
  have ba1 := bounds_i64 wa1
  obtain ⟨g2, rfl, rfl, rfl, wf2⟩ := open_int Try.underlying22 (hval 2 22 v2 rfl rfl) h2
  have bf2 := bounds_u64 wf2
  obtain ⟨f2, rfl⟩ := Int.eq_ofNat_of_zero_le bf2.1
  obtain ⟨g3, rfl, rfl, rfl, wf3⟩ := open_int Try.underlying22 (hval 3 22 v3 rfl rfl) h3
  have bf3 := bounds_u64 wf3
  obtain ⟨f3, rfl⟩ := Int.eq_ofNat_of_zero_le bf3.1
  obtain ⟨s4, rfl, rfl, rfl, ws4⟩ := open_string Try.underlying9 (hval 4 9 v4 rfl rfl) h4
  obtain ⟨s5, rfl, rfl, rfl, ws5⟩ := open_string Try.underlying9 (hval 5 9 v5 rfl rfl) h5
  clear hA0 hval0
  simp only [List.append_nil] at hW'

  refine (walk a0 (by omega) a1 (by omega) f2 (by omega) f3 (by omega) s4 ws4 s5 ws5 W).mono fun e W' ⟨he, hg⟩ => ?_
  subst he
  exact ⟨_, rfl, _, _, _, [], [], [], hW', trodAll_cons_mk (shut_bool Try.underlying4 _) trodAll_mk0, (trodAll_cons_mk (shut_int Try.underlying2 wa0) (trodAll_cons_mk (shut_int Try.underlying2 wa1) (trodAll_cons_mk (shut_int Try.underlying22 wf2) (trodAll_cons_mk (shut_int Try.underlying22 wf3) (trodAll_cons_mk (shut_string Try.underlying9 ws4) (trodAll_cons_mk (shut_string Try.underlying9 ws5) trodAll_mk0)))))), rfl, hg.frame _, fun h => by cases h⟩

theorem over : Rows.valueKindsRow.holds Try.pinned (OpenSpec.ofChange Rows.valueKindsSpec) :=
  OpenClaim.holds_of_wide 8 Try.f8 rfl rfl rfl rfl rfl rfl rfl ⟨rfl, rfl, rfl, rfl, rfl⟩ rfl rfl rfl rfl rfl (by kernel_rfl) Try.func8 (by kernel_rfl)
    (of_decide_eq_true (by kernel_rfl)) (by unfold Func.isWrapper; first | (rw [if_pos (by decide +kernel)]; kernel_rfl) | (rw [if_neg (by decide +kernel)]; exact ⟨rfl, rfl⟩))
    (fun os started H enc _ => lifted os started H enc)

theorem proved : Rows.ValueKindsSaid :=
  over
#print axioms proved
end Go.Proofs.Ytpgpmnecggllcaa.valueKinds
