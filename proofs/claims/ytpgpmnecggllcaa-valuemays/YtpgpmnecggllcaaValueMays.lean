/-
  Proved: for every value the law ValueMays returns true: value.May tells what the document's own May tells (2.1); the value reads behind the call as before. No condition.
-/
import Derived.Test.YtpgpmnecggllcaaRows
import Derived.Test.YtpgpmnecggllcaaVLow
import Derived.WalkKit
import Derived.ProofKit
import Derived.OpenShut
import Derived.ShutString
import Derived.Lib.SmallJoins
namespace Go.Proofs.Ytpgpmnecggllcaa.valueMays
open Go.ChangeShapes Go.WideShapes Go.ChangeAt Go.RowKit Go.Joins Num
open Go.ChangeMaps (open_string shut_string)
set_option linter.unusedVariables false

theorem own : ownKnob Try.prog.godebug = none := by kernel_rfl
theorem cellsV : Try.prog.cellsOf 24 = 4 := by kernel_rfl

theorem walk (k0 n0 : Int) (hn0 : -9223372036854775808 ≤ n0 ∧ n0 ≤ 9223372036854775807) (f0 : Nat) (hf0 : f0 < 18446744073709551616) (s0 : ByteArray) (w : World) :
    Calls Try.prog 3 #[.agg #[.int .i64 k0, .int .i64 n0, .int .u64 (f0 : Int), .string s0]] w fun e w' => e = .returned (.bool true) ∧ Below w.heap.size w w' := by
  by_cases hl : 5000 < (s0.size : Int)
  · have hlong : ∀ w, Calls Try.prog 9 #[.string s0] w fun e w' => e = .returned (.bool true) ∧ w' = w := fun w => by have := long_any s0 w; rw [decide_eq_true hl] at this; exact this
    clear hl
    go_enter Try.func3, Try.ntmps3
    go_wp2_with fail
    go_quiet ((go_at_call 9; refine Calls.quiet_of_same (hlong _)))
    go_wp2
    go_ret
    exact ⟨rfl, below_drewN (Below.alloc (Below.refl _ _) (Nat.le_refl _) _) _⟩
  · have hd : decide (5000 < (s0.size : Int)) = false := decide_eq_false hl
    have hlong : ∀ w, Calls Try.prog 9 #[.string s0] w fun e w' => e = .returned (.bool false) ∧ w' = w := fun w => by have := long_any s0 w; rw [hd] at this; exact this
    clear hl hd
    have hm1 := may_any k0 n0 f0 s0
    have hm2 := refMay_any k0 n0 f0 hf0 s0
    generalize may k0 n0 f0 s0 = b at hm1 hm2
    go_enter Try.func3, Try.ntmps3
    go_wp2_with fail
    have c0 : ∀ x : Low (w.alloc (.cells #[.int .i64 k0, .int .i64 n0, .int .u64 (f0 : Int), .string s0] 24)), x.wd.cell? ⟨w.heap.size, 0, none⟩ = some (.int .i64 k0) := fun x => (x.cell (by simp)).trans (by simp)
    have c1 : ∀ x : Low (w.alloc (.cells #[.int .i64 k0, .int .i64 n0, .int .u64 (f0 : Int), .string s0] 24)), x.wd.cell? ⟨w.heap.size, 1, none⟩ = some (.int .i64 n0) := fun x => (x.cell (by simp)).trans (by simp)
    have c2 : ∀ x : Low (w.alloc (.cells #[.int .i64 k0, .int .i64 n0, .int .u64 (f0 : Int), .string s0] 24)), x.wd.cell? ⟨w.heap.size, 2, none⟩ = some (.int .u64 (f0 : Int)) := fun x => (x.cell (by simp)).trans (by simp)
    have c3 : ∀ x : Low (w.alloc (.cells #[.int .i64 k0, .int .i64 n0, .int .u64 (f0 : Int), .string s0] 24)), x.wd.cell? ⟨w.heap.size, 3, none⟩ = some (.string s0) := fun x => (x.cell (by simp)).trans (by simp)
    refine wp_region_low (by kernel_rfl) (by kernel_rfl) fun hsome => ?_
    repeat (go_big_quiet_step (first
      | (go_at_call 9; refine Calls.low_of_same (hlong _))
      | (go_at_call 10; refine Calls.low_of (hm1 _))
      | (go_at_call 11; refine Calls.low_of (hm2 _))
      | (go_at_call 12; refine Calls.low_of (awake_any _))))
    refine wpQuiet_nil ?_
    rintro _ ⟨x, rfl⟩
    go_wp2
    go_ret
    exact ⟨rfl, below_box0 x.low⟩

set_option maxRecDepth 100000 in
theorem lifted (os : Os) (started : os.Started) (H : Type) (enc : TypeId × Value → H) :
    ReturnsInHanded {} Try.checked os 3 .any (Rows.valueMaysSpec.pre6 enc Try.prog Try.f3 Rows.valueMaysRow.domain false) (Rows.valueMaysSpec.post enc Try.prog Try.f3 false true false false) := by
  refine returnsInHanded_of_change (C := Try.checked) own started (by kernel_rfl) Try.func3
    (ChangeSpec.witness6 (enc := enc) (C := Try.checked) false ⟨#[], #[.agg #[.int .i64 0, .int .i64 0, .int .u64 0, .string ByteArray.empty]], []⟩ 8 (by kernel_rfl) (by kernel_rfl) (by kernel_rfl) (by kernel_rfl)) ?_
  intro W base args ds gs before hval0 hW hcnd _
  have hval : ∀ (j : Nat) t v, Try.f3.params[j]? = some t → args[j]? = some v → Value.okWide Try.prog W .any base t v := hval0
  have hW' := hW
  obtain ⟨p, q, hA0, hV, rfl, hfz, hnd⟩ := hW
  have hA : DataW.TrodAll enc Try.prog W 0 (fun _ => true) true Try.f3.params.toList args.toList ds p := hA0
  rw [Try.params3] at hA hval
  obtain ⟨v0, vs0, d0, ds0, p0, q0, hargs, rfl, rfl, h0, r0⟩ := trodAll_cons hA
  obtain ⟨rfl, rfl, rfl⟩ := trodAll_nil r0
  obtain rfl : args = #[v0] := by cases args; simp_all
  obtain ⟨rfl, rfl⟩ := trodVars_none hV
  obtain ⟨ca0, cb0, cc0, cd0, ya0, yb0, yc0, yd0, m0, rfl, rfl, rfl, hya0, hyb0, hyc0, hyd0⟩ := open_agg4 Try.underlying24 (by kernel_rfl) cellsV (hval 0 24 v0 rfl rfl) h0
  obtain ⟨k0, ea0, rfl, wk0⟩ := DataW.trod_int Try.underlying3 hya0
  obtain ⟨n0, eb0, rfl, wn0⟩ := DataW.trod_int Try.underlying2 hyb0
  obtain ⟨g0, ec0, rfl, wf0⟩ := DataW.trod_int Try.underlying22 hyc0
  obtain ⟨s0, ed0, rfl, ws0⟩ := DataW.trod_string Try.underlying9 hyd0
  simp at ea0 eb0 ec0 ed0
  subst ea0 eb0 ec0 ed0
  have bn0 := bounds_i64 wn0
  have bf0 := bounds_u64 wf0
  obtain ⟨f0, rfl⟩ := Int.eq_ofNat_of_zero_le bf0.1
  clear hA0 hval0
  simp only [List.append_nil] at hW'
  have rd0 : ∀ (W' : World) (sp : Nat → Bool), DataW.Trod enc Try.prog W' 0 sp true 24 (.agg #[.int .i64 k0, .int .i64 n0, .int .u64 (f0 : Int), .string s0]) (.agg [.lit (.int .i64 k0), .lit (.int .i64 n0), .lit (.int .u64 (f0 : Int)), .lit (.string s0.data.toList)]) [] := fun W' sp =>
    shut_agg4 (y0 := (.lit (.int .i64 k0), [])) (y1 := (.lit (.int .i64 n0), [])) (y2 := (.lit (.int .u64 (f0 : Int)), [])) (y3 := (.lit (.string s0.data.toList), [])) Try.underlying24 (by kernel_rfl) cellsV
      ⟨1, by simp [DataW.trod, Try.underlying3, wk0]⟩ ⟨1, by simp [DataW.trod, Try.underlying2, wn0]⟩ ⟨1, by simp [DataW.trod, Try.underlying22, wf0]⟩ ⟨1, by simp [DataW.trod, Try.underlying9, ws0]⟩
  refine (walk k0 n0 (by omega) f0 (by omega) s0 W).mono fun e W' ⟨he, hg⟩ => ?_
  subst he
  exact ⟨_, rfl, _, _, _, [], [], [], hW', trodAll_cons_mk (shut_bool Try.underlying4 _) trodAll_mk0, (trodAll_cons_mk (rd0 _ _) trodAll_mk0), rfl, hg.frame _, fun h => by cases h⟩

theorem over : Rows.valueMaysRow.holds Try.pinned (OpenSpec.ofChange Rows.valueMaysSpec) :=
  OpenClaim.holds_of_wide 3 Try.f3 rfl rfl rfl rfl rfl rfl rfl ⟨rfl, rfl, rfl, rfl, rfl⟩ rfl rfl rfl rfl rfl (by kernel_rfl) Try.func3 (by kernel_rfl)
    (of_decide_eq_true (by kernel_rfl)) (by unfold Func.isWrapper; first | (rw [if_pos (by decide +kernel)]; kernel_rfl) | (rw [if_neg (by decide +kernel)]; exact ⟨rfl, rfl⟩))
    (fun os started H enc _ => lifted os started H enc)

theorem proved : Rows.ValueMaysSaid :=
  over
#print axioms proved
end Go.Proofs.Ytpgpmnecggllcaa.valueMays
