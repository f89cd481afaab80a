/-
  Proved: for every word f and every payload, the infinities are at both ends of all places but the NaNs', all NaNs are one and above all, both noughts are one, what is added to an infinity or a NaN stays, the opposite floats cancel to nought, a nought adds nothing, and the document's examples hold; no condition.
-/
import Derived.Test.YtmoaadaelhakjabRows
import Derived.Test.YtmoaadaelhakjabEdge
import Derived.Test.YtmoaadaelhakjabFlo
import Derived.WalkKit
import Derived.ProofKit
import Derived.OpenShut
namespace Go.Proofs.Ytmoaadaelhakjab.floEdges
open Go.ChangeShapes Go.WideShapes Go.ChangeAt Go.RowKit Num
set_option linter.unusedVariables false      -- a walk need not use every 'w<i>' (that an integer argument fits its kind)

theorem own : ownKnob Try.prog.godebug = none := by kernel_rfl

set_option maxHeartbeats 4000000 in

theorem walk (a0 : Int) (a1 : Int) (w0 : (Lit.int .u64 a0).wf = true) (w1 : (Lit.int .u64 a1).wf = true) (w : World) :
    Calls Try.prog 5 #[.int .u64 a0, .int .u64 a1] w fun e w' => e = .returned (.bool true) ∧ Grown w w' := by
  have hb0 := bounds_u64 w0
  obtain ⟨f, rfl⟩ := Int.eq_ofNat_of_zero_le hb0.1
  have hf : f < 18446744073709551616 := by omega
  have hb1 := bounds_u64 w1
  obtain ⟨p, rfl⟩ := Int.eq_ofNat_of_zero_le hb1.1
  have hp : p < 18446744073709551616 := by omega
  obtain ⟨r, s, N, T, g, e1, e2, e3, e4, e5, hN1, hN2, hT, hg1, hg2, hg3⟩ := edge_bits f p hf hp
  have hT2 : T < 18446744073709551616 := by omega
  have cN : canon N = 9221120237041090560 := canon_isnan N (by omega)
  have cT : canon T = 9221120237041090560 := canon_isnan T (by omega)
  have sN : canon (fadd f N) = 9221120237041090560 := sum_nan f N (.inr (by omega))
  have k0 : cmp 0 9223372036854775808 = 0 := by decide
  have pN : place N = 18444492273895866368 := place_nan N (by omega)
  have kN : cmp N T = 0 := cmp_eq N T (by rw [pN]; exact (place_nan T (by omega)).symm)
  have i1 : place 9218868437227405312 = 18442240474082181120 := by decide
  have i2 : place 18442240474082181120 = 4503599627370495 := by decide
  have hW : Grown w w := Grown.refl w
  by_cases hnan : 9218868437227405312 < f % 9223372036854775808
  · have cf : canon f = 9221120237041090560 := canon_isnan f hnan
    clear hT hg1 hg2 pN i1 i2
    go_enter Try.func5, Try.ntmps5
    go_wp2_with (first | (go_at_call 7; refine (canon_i _ (by omega) _).mono ?_; rintro e w' ⟨rfl, rfl⟩; simp only [Int.toNat_natCast, cf, cN, cT]) | (go_at_call 6; refine (cmp_i _ _ (by omega) (by omega) _).mono ?_; rintro e w' ⟨rfl, rfl⟩; simp only [Int.toNat_natCast, Int.toNat_zero, Int.reduceToNat, k0, kN]) | (go_at_call 11; refine (sum_i _ _ (by omega) (by omega) _ _ (by assumption)).mono ?_; rintro e w' ⟨rfl, hg⟩; simp only [Int.toNat_natCast, sN]) | (go_at_call 8; refine (awake_any _ _ (by assumption)).mono ?_; rintro e w' ⟨rfl, hg⟩))
    go_ret
    exact ⟨rfl, by assumption⟩
  · by_cases hinf : f % 9223372036854775808 = 9218868437227405312
    · have cf : canon f = f := by rw [canon_word f hnan, if_neg (by omega)]
      have hor : f = 9218868437227405312 ∨ f = 18442240474082181120 := by omega
      clear hT hg1 hg2
      rcases hor with hor | hor
      · have j1 : cmp 18442240474082181120 f = -1 := cmp_lt _ _ (by rw [hor]; decide)
        have j2 : cmp f 9218868437227405312 = 0 := cmp_eq _ _ (by rw [hor])
        have j3 : cmp f N = -1 := cmp_lt _ _ (by rw [hor, pN]; decide)
        have cf2 : canon f = 9218868437227405312 := by rw [cf, hor]
        clear cf hor pN i1 i2 hnan hinf
        go_enter Try.func5, Try.ntmps5
        go_wp2_with (first | (go_at_call 7; refine (canon_i _ (by omega) _).mono ?_; rintro e w' ⟨rfl, rfl⟩; simp only [Int.toNat_natCast, cf2, cN, cT]) | (go_at_call 6; refine (cmp_i _ _ (by omega) (by omega) _).mono ?_; rintro e w' ⟨rfl, rfl⟩; simp only [Int.toNat_natCast, Int.toNat_zero, Int.reduceToNat, k0, kN, j1, j2, j3]) | (go_at_call 11; refine (sum_i _ _ (by omega) (by omega) _ _ (by assumption)).mono ?_; rintro e w' ⟨rfl, hg⟩; simp only [Int.toNat_natCast, sN]) | (go_at_call 8; refine (awake_any _ _ (by assumption)).mono ?_; rintro e w' ⟨rfl, hg⟩))
        go_ret
        exact ⟨rfl, by assumption⟩
      · have j1 : cmp 18442240474082181120 f = 0 := cmp_eq _ _ (by rw [hor])
        have j2 : cmp f 9218868437227405312 = -1 := cmp_lt _ _ (by rw [hor]; decide)
        have j3 : cmp f N = -1 := cmp_lt _ _ (by rw [hor, pN]; decide)
        have cf2 : canon f = 18442240474082181120 := by rw [cf, hor]
        clear cf hor pN i1 i2 hnan hinf
        go_enter Try.func5, Try.ntmps5
        go_wp2_with (first | (go_at_call 7; refine (canon_i _ (by omega) _).mono ?_; rintro e w' ⟨rfl, rfl⟩; simp only [Int.toNat_natCast, cf2, cN, cT]) | (go_at_call 6; refine (cmp_i _ _ (by omega) (by omega) _).mono ?_; rintro e w' ⟨rfl, rfl⟩; simp only [Int.toNat_natCast, Int.toNat_zero, Int.reduceToNat, k0, kN, j1, j2, j3]) | (go_at_call 11; refine (sum_i _ _ (by omega) (by omega) _ _ (by assumption)).mono ?_; rintro e w' ⟨rfl, hg⟩; simp only [Int.toNat_natCast, sN]) | (go_at_call 8; refine (awake_any _ _ (by assumption)).mono ?_; rintro e w' ⟨rfl, hg⟩))
        go_ret
        exact ⟨rfl, by assumption⟩
    · have hfin : f % 9223372036854775808 < 9218868437227405312 := by omega
      have hpl := place_finite f hf hfin
      have j1 : cmp 18442240474082181120 f = -1 := cmp_lt _ _ (by rw [i2]; exact hpl.1)
      have j2 : cmp f 9218868437227405312 = -1 := cmp_lt _ _ (by rw [i1]; exact hpl.2)
      have j3 : cmp f N = -1 := cmp_lt _ _ (by rw [pN]; omega)
      have hcw := canon_word f hnan
      have hcl : canon f % 9223372036854775808 < 9218868437227405312 := by rw [hcw]; split <;> omega
      have d1 : ¬ ((canon f : Nat) : Int) = 9221120237041090560 := by omega
      have d2 : ¬ ((canon f : Nat) : Int) = 9218868437227405312 := by omega
      have d3 : ¬ ((canon f : Nat) : Int) = 18442240474082181120 := by omega
      have q1 := (sum_inf f hfin).1
      have q2 := (sum_inf f hfin).2
      have q3 : canon (fadd f g) = 0 := sum_opposite f g hfin hg1 hg2
      have q4 : canon (fadd f 0) = canon f := sum_nought f 0 hfin hf (by decide)
      have q5 : canon (fadd f 9223372036854775808) = canon f := sum_nought f 9223372036854775808 hfin hf (by decide)
      clear hT hg1 hg2 pN i1 i2 hnan hinf hpl hcw hcl hfin
      go_enter Try.func5, Try.ntmps5
      go_wp2_with (first | (go_at_call 7; refine (canon_i _ (by omega) _).mono ?_; rintro e w' ⟨rfl, rfl⟩; simp only [Int.toNat_natCast, cN, cT]) | (go_at_call 6; refine (cmp_i _ _ (by omega) (by omega) _).mono ?_; rintro e w' ⟨rfl, rfl⟩; simp only [Int.toNat_natCast, Int.toNat_zero, Int.reduceToNat, k0, kN, j1, j2, j3]) | (go_at_call 11; refine (sum_i _ _ (by omega) (by omega) _ _ (by assumption)).mono ?_; rintro e w' ⟨rfl, hg⟩; simp only [Int.toNat_natCast, Int.toNat_zero, Int.reduceToNat, sN, q1, q2, q3, q4, q5]) | (go_at_call 8; refine (awake_any _ _ (by assumption)).mono ?_; rintro e w' ⟨rfl, hg⟩))
      go_ret
      exact ⟨rfl, by assumption⟩

/-! ### THE ROW's STEP -/
set_option maxRecDepth 100000 in
theorem lifted (os : Os) (started : os.Started) (H : Type) (enc : TypeId × Value → H) :
    ReturnsInHanded {} Try.checked os 5 .any (Rows.floEdgesSpec.pre6 enc Try.prog Try.f5 Rows.floEdgesRow.domain false) (Rows.floEdgesSpec.post enc Try.prog Try.f5 false true false false) := by
  refine returnsInHanded_of_change (C := Try.checked) own started (by kernel_rfl) Try.func5
    (ChangeSpec.witness6 (enc := enc) (C := Try.checked) false ⟨#[], #[.int .u64 0, .int .u64 0], []⟩ 8 (by kernel_rfl) (by kernel_rfl) (by kernel_rfl) (by kernel_rfl)) ?_
  intro W base args ds gs before hval0 hW hcnd _
  have hval : ∀ (j : Nat) t v, Try.f5.params[j]? = some t → args[j]? = some v → Value.okWide Try.prog W .any base t v := hval0
  have hW' := hW
  obtain ⟨p, q, hA0, hV, rfl, hfz, hnd⟩ := hW
  have hA : DataW.TrodAll enc Try.prog W 0 (fun _ => true) true Try.f5.params.toList args.toList ds p := hA0
  rw [Try.params5] at hA hval
  obtain ⟨v0, vs0, d0, ds0, p0, q0, hargs, rfl, rfl, h0, r0⟩ := trodAll_cons hA
  obtain ⟨v1, vs1, d1, ds1, p1, q1, rfl, rfl, rfl, h1, r1⟩ := trodAll_cons r0
  obtain ⟨rfl, rfl, rfl⟩ := trodAll_nil r1
  obtain rfl : args = #[v0, v1] := by cases args; simp_all
  obtain ⟨rfl, rfl⟩ := trodVars_none hV
  obtain ⟨a0, rfl, rfl, rfl, w0⟩ := open_int Try.underlying22 (hval 0 22 v0 rfl rfl) h0
  obtain ⟨a1, rfl, rfl, rfl, w1⟩ := open_int Try.underlying22 (hval 1 22 v1 rfl rfl) h1
  clear hA0 hval0
  simp only [List.append_nil] at hW'
  refine (walk a0 a1 w0 w1 W).mono fun e W' ⟨he, hg⟩ => ?_
  subst he
  exact ⟨_, rfl, post_of_same (pa := []) (pv := []) hW' (fun _ _ _ => (trodAll_cons_mk (shut_bool Try.underlying4 _) trodAll_mk0)) (fun sp _ => (trodAll_cons_mk (shut_int Try.underlying22 w0) (trodAll_cons_mk (shut_int Try.underlying22 w1) trodAll_mk0))) (fun _ _ => rfl) rfl
    (hg.frame _) hg.2.1 (ok_one (by kernel_rfl) rfl (okWide_bool_mk Try.underlying4 _))⟩

theorem over : Rows.floEdgesRow.holds Try.pinned (OpenSpec.ofChange Rows.floEdgesSpec) :=
  OpenClaim.holds_of_wide 5 Try.f5 rfl rfl rfl rfl rfl rfl rfl ⟨rfl, rfl, rfl, rfl, rfl⟩ rfl rfl rfl rfl rfl (by kernel_rfl) Try.func5 (by kernel_rfl)
    (of_decide_eq_true (by kernel_rfl)) (by unfold Func.isWrapper; first | (rw [if_pos (by decide +kernel)]; kernel_rfl) | (rw [if_neg (by decide +kernel)]; exact ⟨rfl, rfl⟩))
    (fun os started H enc _ => lifted os started H enc)

/-- ████ THE STATEMENT ████ -/
theorem proved : Rows.FloEdgesSaid :=
  over
#print axioms proved
end Go.Proofs.Ytmoaadaelhakjab.floEdges
