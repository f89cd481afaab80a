/-
  Proved: for every two numbers brought below two to the 52 and every word f, such whole numbers are floats that are told back, in order, and their sums too; and of any float that is a whole number up to two to the 53 the float is that one again; and the document's examples hold; no condition.
-/
import Derived.Test.YtmoaadaelhakjabRows
import Derived.Test.YtmoaadaelhakjabIntC
import Derived.WalkKit
import Derived.ProofKit
import Derived.OpenShut
namespace Go.Proofs.Ytmoaadaelhakjab.floWhole
open Go.ChangeShapes Go.WideShapes Go.ChangeAt Go.RowKit Num
set_option linter.unusedVariables false      -- a walk need not use every 'w<i>' (that an integer argument fits its kind)

theorem own : ownKnob Try.prog.godebug = none := by kernel_rfl

theorem tmod_bounds (a : Int) : -4503599627370496 < a.tmod 4503599627370496 ∧ a.tmod 4503599627370496 < 4503599627370496 := by
  rw [Int.tmod_eq_emod]
  split <;> omega

set_option maxHeartbeats 8000000 in

theorem walk (a0 : Int) (a1 : Int) (a2 : Int) (w0 : (Lit.int .i64 a0).wf = true) (w1 : (Lit.int .i64 a1).wf = true) (w2 : (Lit.int .u64 a2).wf = true) (w : World) :
    Calls Try.prog 4 #[.int .i64 a0, .int .i64 a1, .int .u64 a2] w fun e w' => e = .returned (.bool true) ∧ Grown w w' := by
  have hb2 := bounds_u64 w2
  obtain ⟨f, rfl⟩ := Int.eq_ofNat_of_zero_le hb2.1
  have hf : f < 18446744073709551616 := by omega
  obtain ⟨x, hx⟩ : ∃ x, a0.tmod 4503599627370496 = x := ⟨_, rfl⟩
  obtain ⟨y, hy⟩ : ∃ y, a1.tmod 4503599627370496 = y := ⟨_, rfl⟩
  have bx := tmod_bounds a0
  have bz := tmod_bounds a1
  rw [hx] at bx
  rw [hy] at bz
  obtain ⟨A, hA⟩ : ∃ A, floatOfInt .f64 x = A := ⟨_, rfl⟩
  obtain ⟨B, hB⟩ : ∃ B, floatOfInt .f64 y = B := ⟨_, rfl⟩
  obtain ⟨vA, fA, lA⟩ := of_whole x (by omega)
  obtain ⟨vB, fB, lB⟩ := of_whole y (by omega)
  rw [hA] at vA fA lA
  rw [hB] at vB fB lB
  obtain ⟨ok1, num1⟩ := int_whole A x fA vA (by omega) (by omega)
  obtain ⟨S, hS⟩ : ∃ S, canon (fadd A B) = S := ⟨_, rfl⟩
  obtain ⟨ok2, num2⟩ : intOk S = true ∧ intNum S = x + y := by
    have hs : val A + val B = (x + y) * U := by rw [vA, vB, Int.add_mul]
    have hp := U_pos
    have hab : (val A + val B).natAbs = (x + y).natAbs * U := by rw [hs, Int.natAbs_mul, Int.natAbs_natCast]
    obtain ⟨r1, r2⟩ := rnd_whole (x + y).natAbs (by omega)
    have hfa : fadd A B = word (if val A + val B = 0 then sgn A && sgn B else decide (val A + val B < 0)) (rnd ((x + y).natAbs * U)) := by
      unfold fadd
      rw [add_finite A B fA fB, hab]
    have hlow : fadd A B % 9223372036854775808 < 9218868437227405312 := by rw [hfa, low_word _ _ (by omega)]; exact r2
    have hval : val (fadd A B) = (x + y) * U := by
      rw [hfa, val_word _ _ (by omega), r1, ← hs, ← hab]
      by_cases h0 : val A + val B = 0
      · rw [h0]
        cases sgn A <;> cases sgn B <;> rfl
      · rw [if_neg h0]
        by_cases h1 : val A + val B < 0
        · rw [decide_eq_true h1, if_pos rfl]; omega
        · rw [decide_eq_false h1]
          simp only [Bool.false_eq_true, if_false]
          omega
    obtain ⟨c1, c2⟩ := val_canon (fadd A B) hlow
    rw [hS] at c1 c2
    exact int_whole S (x + y) c2 (c1.trans hval) (by omega) (by omega)
  have hU : (0 : Int) < (U : Int) := by
    have := U_pos
    omega
  obtain ⟨pl, pe⟩ := place_val A B lA lB fA fB
  rw [vA, vB] at pl pe
  have hS2 : S < 18446744073709551616 := by
    rw [← hS]
    apply canon_lt
    unfold fadd
    rw [add_finite A B fA fB]
    exact word_lt _ _ (Nat.lt_of_le_of_lt (rnd_le _) (by decide))
  have nex : ∀ u v : Int, u ≠ v → (u == v) = false := fun u v h => by simp only [beq_eq_false_iff_ne, ne_eq]; exact h
  have hcmp : (x < y ∧ (x == y) = false ∧ cmp A B = -1) ∨ (decide (x < y) = false ∧ (x == y) = true ∧ cmp A B = 0) ∨ (decide (x < y) = false ∧ (x == y) = false ∧ cmp A B = 1) := by
    by_cases h1 : x < y
    · exact .inl ⟨h1, nex x y (by omega), cmp_lt _ _ (pl.2 (Int.mul_lt_mul_of_pos_right h1 hU))⟩
    · by_cases h2 : y < x
      · refine .inr (.inr ⟨decide_eq_false h1, nex x y (by omega), ?_⟩)
        have n1 : ¬ place A < place B := fun h => h1 (Int.lt_of_mul_lt_mul_right (pl.1 h) (Int.le_of_lt hU))
        have n2 : ¬ place A = place B := fun h => by
          have := Int.eq_of_mul_eq_mul_right (by omega) (pe.1 h)
          omega
        unfold cmp
        rw [if_neg n1, if_pos (by omega)]
      · refine .inr (.inl ⟨decide_eq_false h1, beq_iff_eq.2 (by omega), cmp_eq _ _ (pe.2 ?_)⟩)
        rw [show x = y by omega]
  have hW : Grown w w := Grown.refl w
  obtain ⟨k, hk⟩ : ∃ k, intNum f = k := ⟨_, rfl⟩
  obtain ⟨C, hC⟩ : ∃ C, floatOfInt .f64 k = C := ⟨_, rfl⟩
  have lC : C < 18446744073709551616 := by
    rw [← hC, of_word]
    exact word_lt _ _ (Nat.lt_of_le_of_lt (rnd_le _) (by decide))
  have hlast : intOk f = false ∨ (intOk f = true ∧ cmp C f = 0) ∨ (intOk f = true ∧ (cmp C f == 0) = false ∧ 9007199254740992 < k) ∨ (intOk f = true ∧ (cmp C f == 0) = false ∧ ¬ 9007199254740992 < k ∧ k < -9007199254740992) := by
    by_cases h0 : intOk f = true
    · obtain ⟨q1, q2, q3, q4⟩ := whole_int f h0
      rw [hk] at q1
      by_cases h1 : cmp C f = 0
      · exact .inr (.inl ⟨h0, h1⟩)
      · have hz : (cmp C f == 0) = false := by simp only [beq_eq_false_iff_ne, ne_eq]; exact h1
        by_cases h2 : k.natAbs ≤ 9007199254740992
        · exfalso
          obtain ⟨vC, fC, _⟩ := of_whole k h2
          rw [hC] at vC fC
          exact h1 (cmp_eq _ _ ((place_val C f lC hf fC q2).2.2 (by rw [vC, q1])))
        · by_cases h3 : 9007199254740992 < k
          · exact .inr (.inr (.inl ⟨h0, hz, h3⟩))
          · exact .inr (.inr (.inr ⟨h0, hz, h3, by omega⟩))
    · exact .inl (by simpa using h0)
  clear vA vB fA fB pl pe hU
  clear nex
  rcases hcmp with ⟨c0, c1, c2⟩ | ⟨c0, c1, c2⟩ | ⟨c0, c1, c2⟩ <;> rcases hlast with d1 | ⟨d1, d2⟩ | ⟨d1, d2, d3⟩ | ⟨d1, d2, d3, d4⟩
  all_goals (
    go_enter Try.func4, Try.ntmps4
    go_wp2_with (first | (go_at_call 10; refine (of_any _ _).mono ?_; rintro e w' ⟨rfl, rfl⟩; simp only [hA, hB, hC]) | (go_at_call 9; refine (int_any _ _).mono ?_; rintro e w' ⟨rfl, rfl⟩; simp only [ok1, num1, ok2, num2, hk, d1]) | (go_at_call 11; refine (sum_any _ _ _ _ (by assumption)).mono ?_; rintro e w' ⟨rfl, hg⟩; simp only [hS]) | (go_at_call 6; refine (cmp_any _ _ (by assumption) (by assumption) _).mono ?_; rintro e w' ⟨rfl, rfl⟩) | (go_at_call 8; refine (awake_any _ _ (by assumption)).mono ?_; rintro e w' ⟨rfl, hg⟩))
    go_ret
    exact ⟨rfl, by assumption⟩)

/-! ### THE ROW's STEP -/
set_option maxRecDepth 100000 in
theorem lifted (os : Os) (started : os.Started) (H : Type) (enc : TypeId × Value → H) :
    ReturnsInHanded {} Try.checked os 4 .any (Rows.floWholeSpec.pre6 enc Try.prog Try.f4 Rows.floWholeRow.domain false) (Rows.floWholeSpec.post enc Try.prog Try.f4 false true false false) := by
  refine returnsInHanded_of_change (C := Try.checked) own started (by kernel_rfl) Try.func4
    (ChangeSpec.witness6 (enc := enc) (C := Try.checked) false ⟨#[], #[.int .i64 0, .int .i64 0, .int .u64 0], []⟩ 8 (by kernel_rfl) (by kernel_rfl) (by kernel_rfl) (by kernel_rfl)) ?_
  intro W base args ds gs before hval0 hW hcnd _
  have hval : ∀ (j : Nat) t v, Try.f4.params[j]? = some t → args[j]? = some v → Value.okWide Try.prog W .any base t v := hval0
  have hW' := hW
  obtain ⟨p, q, hA0, hV, rfl, hfz, hnd⟩ := hW
  have hA : DataW.TrodAll enc Try.prog W 0 (fun _ => true) true Try.f4.params.toList args.toList ds p := hA0
  rw [Try.params4] at hA hval
  obtain ⟨v0, vs0, d0, ds0, p0, q0, hargs, rfl, rfl, h0, r0⟩ := trodAll_cons hA
  obtain ⟨v1, vs1, d1, ds1, p1, q1, rfl, rfl, rfl, h1, r1⟩ := trodAll_cons r0
  obtain ⟨v2, vs2, d2, ds2, p2, q2, rfl, rfl, rfl, h2, r2⟩ := trodAll_cons r1
  obtain ⟨rfl, rfl, rfl⟩ := trodAll_nil r2
  obtain rfl : args = #[v0, v1, v2] := by cases args; simp_all
  obtain ⟨rfl, rfl⟩ := trodVars_none hV
  obtain ⟨a0, rfl, rfl, rfl, w0⟩ := open_int Try.underlying2 (hval 0 2 v0 rfl rfl) h0
  obtain ⟨a1, rfl, rfl, rfl, w1⟩ := open_int Try.underlying2 (hval 1 2 v1 rfl rfl) h1
  obtain ⟨a2, rfl, rfl, rfl, w2⟩ := open_int Try.underlying22 (hval 2 22 v2 rfl rfl) h2
  clear hA0 hval0
  simp only [List.append_nil] at hW'
  refine (walk a0 a1 a2 w0 w1 w2 W).mono fun e W' ⟨he, hg⟩ => ?_
  subst he
  exact ⟨_, rfl, post_of_same (pa := []) (pv := []) hW' (fun _ _ _ => (trodAll_cons_mk (shut_bool Try.underlying4 _) trodAll_mk0)) (fun sp _ => (trodAll_cons_mk (shut_int Try.underlying2 w0) (trodAll_cons_mk (shut_int Try.underlying2 w1) (trodAll_cons_mk (shut_int Try.underlying22 w2) trodAll_mk0)))) (fun _ _ => rfl) rfl
    (hg.frame _) hg.2.1 (ok_one (by kernel_rfl) rfl (okWide_bool_mk Try.underlying4 _))⟩

theorem over : Rows.floWholeRow.holds Try.pinned (OpenSpec.ofChange Rows.floWholeSpec) :=
  OpenClaim.holds_of_wide 4 Try.f4 rfl rfl rfl rfl rfl rfl rfl ⟨rfl, rfl, rfl, rfl, rfl⟩ rfl rfl rfl rfl rfl (by kernel_rfl) Try.func4 (by kernel_rfl)
    (of_decide_eq_true (by kernel_rfl)) (by unfold Func.isWrapper; first | (rw [if_pos (by decide +kernel)]; kernel_rfl) | (rw [if_neg (by decide +kernel)]; exact ⟨rfl, rfl⟩))
    (fun os started H enc _ => lifted os started H enc)

/-- ████ THE STATEMENT ████ -/
theorem proved : Rows.FloWholeSaid :=
  over
#print axioms proved
end Go.Proofs.Ytmoaadaelhakjab.floWhole
