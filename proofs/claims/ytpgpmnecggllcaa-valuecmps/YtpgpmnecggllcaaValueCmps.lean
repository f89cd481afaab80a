/-
  Proved: for every two values the law ValueCmps returns true: value.Cmp tells which is below as the document's own Cmp does, and turned round with the other sign (2.4); the values read behind the call as before. No condition.
-/
import Derived.Test.YtpgpmnecggllcaaRows
import Derived.Test.YtpgpmnecggllcaaVCmp
import Derived.WalkKit
import Derived.ProofKit
import Derived.OpenShut
import Derived.ShutString
import Derived.Lib.SmallJoins
namespace Go.Proofs.Ytpgpmnecggllcaa.valueCmps
open Go.ChangeShapes Go.WideShapes Go.ChangeAt Go.RowKit Go.Joins Num
open Go.ChangeMaps (open_string shut_string)
set_option linter.unusedVariables false

theorem own : ownKnob Try.prog.godebug = none := by kernel_rfl
theorem cellsV : Try.prog.cellsOf 24 = 4 := by kernel_rfl
theorem cmpV_cases (k0 n0 : Int) (f0 : Nat) (s0 : ByteArray) (k1 n1 : Int) (f1 : Nat) (s1 : ByteArray) :
    (cmpV k0 n0 f0 s0 k1 n1 f1 s1 = -1 ∧ cmpV k1 n1 f1 s1 k0 n0 f0 s0 = 1) ∨ (cmpV k0 n0 f0 s0 k1 n1 f1 s1 = 0 ∧ cmpV k1 n1 f1 s1 k0 n0 f0 s0 = 0) ∨ (cmpV k0 n0 f0 s0 k1 n1 f1 s1 = 1 ∧ cmpV k1 n1 f1 s1 k0 n0 f0 s0 = -1) := by
  unfold cmpV
  by_cases h : may k0 n0 f0 s0 = true ∧ may k1 n1 f1 s1 = true
  · rw [if_pos h, if_pos h.symm]
    rcases cb_cases (putL k0 n0 f0 s0) (putL k1 n1 f1 s1) with ⟨a, b, _⟩ | ⟨a, b, _⟩ | ⟨a, b, _⟩
    · exact .inl ⟨a, b⟩
    · exact .inr (.inl ⟨a, b⟩)
    · exact .inr (.inr ⟨a, b⟩)
  · rw [if_neg h, if_neg (fun g => h g.symm)]
    exact .inr (.inl ⟨rfl, rfl⟩)

set_option maxHeartbeats 400000 in
theorem core (k0 n0 : Int) (hn0 : -9223372036854775808 ≤ n0 ∧ n0 ≤ 9223372036854775807) (f0 : Nat) (hf0 : f0 < 18446744073709551616) (s0 : ByteArray) (k1 n1 : Int) (hn1 : -9223372036854775808 ≤ n1 ∧ n1 ≤ 9223372036854775807) (f1 : Nat) (hf1 : f1 < 18446744073709551616) (s1 : ByteArray) (hl0 : ¬ 5000 < (s0.size : Int)) (hl1 : ¬ 5000 < (s1.size : Int)) (c d : Int) (hcd : (c = -1 ∧ d = 1) ∨ (c = 0 ∧ d = 0) ∨ (c = 1 ∧ d = -1))
    (hc : cmpV k0 n0 f0 s0 k1 n1 f1 s1 = c) (hd : cmpV k1 n1 f1 s1 k0 n0 f0 s0 = d) (w : World) :
    Calls Try.prog 6 #[.agg #[.int .i64 k0, .int .i64 n0, .int .u64 (f0 : Int), .string s0], .agg #[.int .i64 k1, .int .i64 n1, .int .u64 (f1 : Int), .string s1]] w fun e w' => e = .returned (.bool true) ∧ Below w.heap.size w w' := by
  rcases hcd with ⟨rfl, rfl⟩ | ⟨rfl, rfl⟩ | ⟨rfl, rfl⟩
  all_goals
    go_enter Try.func6, Try.ntmps6
    go_wp2_with (first
      | (go_at_call 9; refine (long_any _ _).mono ?_; rintro e w1 ⟨rfl, rfl⟩))
    have c00 : ∀ x : Low ((w.alloc (.cells #[.int .i64 k0, .int .i64 n0, .int .u64 (f0 : Int), .string s0] 24)).alloc (.cells #[.int .i64 k1, .int .i64 n1, .int .u64 (f1 : Int), .string s1] 24)), x.wd.cell? ⟨w.heap.size, 0, none⟩ = some (.int .i64 k0) := fun x => (x.cell (by simp; omega)).trans (by simp)
    have c01 : ∀ x : Low ((w.alloc (.cells #[.int .i64 k0, .int .i64 n0, .int .u64 (f0 : Int), .string s0] 24)).alloc (.cells #[.int .i64 k1, .int .i64 n1, .int .u64 (f1 : Int), .string s1] 24)), x.wd.cell? ⟨w.heap.size, 1, none⟩ = some (.int .i64 n0) := fun x => (x.cell (by simp; omega)).trans (by simp)
    have c02 : ∀ x : Low ((w.alloc (.cells #[.int .i64 k0, .int .i64 n0, .int .u64 (f0 : Int), .string s0] 24)).alloc (.cells #[.int .i64 k1, .int .i64 n1, .int .u64 (f1 : Int), .string s1] 24)), x.wd.cell? ⟨w.heap.size, 2, none⟩ = some (.int .u64 (f0 : Int)) := fun x => (x.cell (by simp; omega)).trans (by simp)
    have c03 : ∀ x : Low ((w.alloc (.cells #[.int .i64 k0, .int .i64 n0, .int .u64 (f0 : Int), .string s0] 24)).alloc (.cells #[.int .i64 k1, .int .i64 n1, .int .u64 (f1 : Int), .string s1] 24)), x.wd.cell? ⟨w.heap.size, 3, none⟩ = some (.string s0) := fun x => (x.cell (by simp; omega)).trans (by simp)
    have c10 : ∀ x : Low ((w.alloc (.cells #[.int .i64 k0, .int .i64 n0, .int .u64 (f0 : Int), .string s0] 24)).alloc (.cells #[.int .i64 k1, .int .i64 n1, .int .u64 (f1 : Int), .string s1] 24)), x.wd.cell? ⟨w.heap.size + 1, 0, none⟩ = some (.int .i64 k1) := fun x => (x.cell (by simp)).trans (by simp)
    have c11 : ∀ x : Low ((w.alloc (.cells #[.int .i64 k0, .int .i64 n0, .int .u64 (f0 : Int), .string s0] 24)).alloc (.cells #[.int .i64 k1, .int .i64 n1, .int .u64 (f1 : Int), .string s1] 24)), x.wd.cell? ⟨w.heap.size + 1, 1, none⟩ = some (.int .i64 n1) := fun x => (x.cell (by simp)).trans (by simp)
    have c12 : ∀ x : Low ((w.alloc (.cells #[.int .i64 k0, .int .i64 n0, .int .u64 (f0 : Int), .string s0] 24)).alloc (.cells #[.int .i64 k1, .int .i64 n1, .int .u64 (f1 : Int), .string s1] 24)), x.wd.cell? ⟨w.heap.size + 1, 2, none⟩ = some (.int .u64 (f1 : Int)) := fun x => (x.cell (by simp)).trans (by simp)
    have c13 : ∀ x : Low ((w.alloc (.cells #[.int .i64 k0, .int .i64 n0, .int .u64 (f0 : Int), .string s0] 24)).alloc (.cells #[.int .i64 k1, .int .i64 n1, .int .u64 (f1 : Int), .string s1] 24)), x.wd.cell? ⟨w.heap.size + 1, 3, none⟩ = some (.string s1) := fun x => (x.cell (by simp)).trans (by simp)
    refine wp_region_low (by kernel_rfl) (by kernel_rfl) fun hsome => ?_
    repeat (go_big_quiet_step (first
      | (go_at_call 18; exact Calls.low_of (valueCmp_any _ _ (by assumption) _ (by assumption) _ _ _ (by assumption) _ (by assumption) _ _))
      | (go_at_call 19; exact Calls.low_of (refCmpV_any _ _ (by assumption) _ (by assumption) _ _ _ (by assumption) _ (by assumption) _ _))
      | (go_at_call 12; exact Calls.low_of (awake_any _))))
    refine wpQuiet_nil ?_
    rintro _ ⟨x, rfl⟩
    go_wp2
    go_ret
    exact ⟨rfl, below_box2 x.low⟩

theorem walk (k0 n0 : Int) (hn0 : -9223372036854775808 ≤ n0 ∧ n0 ≤ 9223372036854775807) (f0 : Nat) (hf0 : f0 < 18446744073709551616) (s0 : ByteArray) (k1 n1 : Int) (hn1 : -9223372036854775808 ≤ n1 ∧ n1 ≤ 9223372036854775807) (f1 : Nat) (hf1 : f1 < 18446744073709551616) (s1 : ByteArray) (w : World) :
    Calls Try.prog 6 #[.agg #[.int .i64 k0, .int .i64 n0, .int .u64 (f0 : Int), .string s0], .agg #[.int .i64 k1, .int .i64 n1, .int .u64 (f1 : Int), .string s1]] w fun e w' => e = .returned (.bool true) ∧ Below w.heap.size w w' := by
  by_cases hl0 : 5000 < (s0.size : Int)
  · go_enter Try.func6, Try.ntmps6
    go_wp2_with (first
      | (go_at_call 9; refine (long_any _ _).mono ?_; rintro e w1 ⟨rfl, rfl⟩)
      | (go_at_call 12; refine (awake_any _).mono ?_; rintro e w3 ⟨rfl, hb3⟩))
    go_ret
    exact ⟨rfl, below_box2 hb3⟩
  · by_cases hl1 : 5000 < (s1.size : Int)
    · go_enter Try.func6, Try.ntmps6
      go_wp2_with (first
        | (go_at_call 9; refine (long_any _ _).mono ?_; rintro e w1 ⟨rfl, rfl⟩)
        | (go_at_call 12; refine (awake_any _).mono ?_; rintro e w3 ⟨rfl, hb3⟩))
      go_ret
      exact ⟨rfl, below_box2 hb3⟩
    · exact core k0 n0 hn0 f0 hf0 s0 k1 n1 hn1 f1 hf1 s1 hl0 hl1 _ _ (cmpV_cases k0 n0 f0 s0 k1 n1 f1 s1) rfl rfl w

set_option maxRecDepth 100000 in
theorem lifted (os : Os) (started : os.Started) (H : Type) (enc : TypeId × Value → H) :
    ReturnsInHanded {} Try.checked os 6 .any (Rows.valueCmpsSpec.pre6 enc Try.prog Try.f6 Rows.valueCmpsRow.domain false) (Rows.valueCmpsSpec.post enc Try.prog Try.f6 false true false false) := by
  refine returnsInHanded_of_change (C := Try.checked) own started (by kernel_rfl) Try.func6
    (ChangeSpec.witness6 (enc := enc) (C := Try.checked) false ⟨#[], #[.agg #[.int .i64 0, .int .i64 0, .int .u64 0, .string ByteArray.empty], .agg #[.int .i64 0, .int .i64 0, .int .u64 0, .string ByteArray.empty]], []⟩ 8 (by kernel_rfl) (by kernel_rfl) (by kernel_rfl) (by kernel_rfl)) ?_
  intro W base args ds gs before hval0 hW hcnd _
  have hval : ∀ (j : Nat) t v, Try.f6.params[j]? = some t → args[j]? = some v → Value.okWide Try.prog W .any base t v := hval0
  have hW' := hW
  obtain ⟨p, q, hA0, hV, rfl, hfz, hnd⟩ := hW
  have hA : DataW.TrodAll enc Try.prog W 0 (fun _ => true) true Try.f6.params.toList args.toList ds p := hA0
  rw [Try.params6] at hA hval
  obtain ⟨v0, vs0, d0, ds0, p0, q0, hargs, rfl, rfl, h0, r0⟩ := trodAll_cons hA
  obtain ⟨v1, vs1, d1, ds1, p1, q1, rfl, rfl, rfl, h1, r1⟩ := trodAll_cons r0
  obtain ⟨rfl, rfl, rfl⟩ := trodAll_nil r1
  obtain rfl : args = #[v0, v1] := by cases args; simp_all
  obtain ⟨rfl, rfl⟩ := trodVars_none hV
  obtain ⟨ca0, cb0, cc0, cd0, ya0, yb0, yc0, yd0, m0, rfl, rfl, rfl, hya0, hyb0, hyc0, hyd0⟩ := open_agg4 Try.underlying24 (by kernel_rfl) cellsV (hval 0 24 v0 rfl rfl) h0
  obtain ⟨k0, ea0, rfl, wk0⟩ := DataW.trod_int Try.underlying3 hya0
  obtain ⟨n0, eb0, rfl, wn0⟩ := DataW.trod_int Try.underlying2 hyb0
  obtain ⟨g0, ec0, rfl, wf0⟩ := DataW.trod_int Try.underlying22 hyc0
  obtain ⟨s0, ed0, rfl, ws0⟩ := DataW.trod_string Try.underlying9 hyd0
  simp at ea0 eb0 ec0 ed0
  subst ea0 eb0 ec0 ed0
  have bn0 := bounds_i64 wn0
  have bf0 := bounds_u64 wf0
  obtain ⟨f0, rfl⟩ := Int.eq_ofNat_of_zero_le bf0.1
  obtain ⟨ca1, cb1, cc1, cd1, ya1, yb1, yc1, yd1, m1, rfl, rfl, rfl, hya1, hyb1, hyc1, hyd1⟩ := open_agg4 Try.underlying24 (by kernel_rfl) cellsV (hval 1 24 v1 rfl rfl) h1
  obtain ⟨k1, ea1, rfl, wk1⟩ := DataW.trod_int Try.underlying3 hya1
  obtain ⟨n1, eb1, rfl, wn1⟩ := DataW.trod_int Try.underlying2 hyb1
  obtain ⟨g1, ec1, rfl, wf1⟩ := DataW.trod_int Try.underlying22 hyc1
  obtain ⟨s1, ed1, rfl, ws1⟩ := DataW.trod_string Try.underlying9 hyd1
  simp at ea1 eb1 ec1 ed1
  subst ea1 eb1 ec1 ed1
  have bn1 := bounds_i64 wn1
  have bf1 := bounds_u64 wf1
  obtain ⟨f1, rfl⟩ := Int.eq_ofNat_of_zero_le bf1.1
  clear hA0 hval0
  simp only [List.append_nil] at hW'
  have rd0 : ∀ (W' : World) (sp : Nat → Bool), DataW.Trod enc Try.prog W' 0 sp true 24 (.agg #[.int .i64 k0, .int .i64 n0, .int .u64 (f0 : Int), .string s0]) (.agg [.lit (.int .i64 k0), .lit (.int .i64 n0), .lit (.int .u64 (f0 : Int)), .lit (.string s0.data.toList)]) [] := fun W' sp =>
    shut_agg4 (y0 := (.lit (.int .i64 k0), [])) (y1 := (.lit (.int .i64 n0), [])) (y2 := (.lit (.int .u64 (f0 : Int)), [])) (y3 := (.lit (.string s0.data.toList), [])) Try.underlying24 (by kernel_rfl) cellsV
      ⟨1, by simp [DataW.trod, Try.underlying3, wk0]⟩ ⟨1, by simp [DataW.trod, Try.underlying2, wn0]⟩ ⟨1, by simp [DataW.trod, Try.underlying22, wf0]⟩ ⟨1, by simp [DataW.trod, Try.underlying9, ws0]⟩
  have rd1 : ∀ (W' : World) (sp : Nat → Bool), DataW.Trod enc Try.prog W' 0 sp true 24 (.agg #[.int .i64 k1, .int .i64 n1, .int .u64 (f1 : Int), .string s1]) (.agg [.lit (.int .i64 k1), .lit (.int .i64 n1), .lit (.int .u64 (f1 : Int)), .lit (.string s1.data.toList)]) [] := fun W' sp =>
    shut_agg4 (y0 := (.lit (.int .i64 k1), [])) (y1 := (.lit (.int .i64 n1), [])) (y2 := (.lit (.int .u64 (f1 : Int)), [])) (y3 := (.lit (.string s1.data.toList), [])) Try.underlying24 (by kernel_rfl) cellsV
      ⟨1, by simp [DataW.trod, Try.underlying3, wk1]⟩ ⟨1, by simp [DataW.trod, Try.underlying2, wn1]⟩ ⟨1, by simp [DataW.trod, Try.underlying22, wf1]⟩ ⟨1, by simp [DataW.trod, Try.underlying9, ws1]⟩
  refine (walk k0 n0 (by omega) f0 (by omega) s0 k1 n1 (by omega) f1 (by omega) s1 W).mono fun e W' ⟨he, hg⟩ => ?_
  subst he
  exact ⟨_, rfl, _, _, _, [], [], [], hW', trodAll_cons_mk (shut_bool Try.underlying4 _) trodAll_mk0, (trodAll_cons_mk (rd0 _ _) (trodAll_cons_mk (rd1 _ _) trodAll_mk0)), rfl, hg.frame _, fun h => by cases h⟩

theorem over : Rows.valueCmpsRow.holds Try.pinned (OpenSpec.ofChange Rows.valueCmpsSpec) :=
  OpenClaim.holds_of_wide 6 Try.f6 rfl rfl rfl rfl rfl rfl rfl ⟨rfl, rfl, rfl, rfl, rfl⟩ rfl rfl rfl rfl rfl (by kernel_rfl) Try.func6 (by kernel_rfl)
    (of_decide_eq_true (by kernel_rfl)) (by unfold Func.isWrapper; first | (rw [if_pos (by decide +kernel)]; kernel_rfl) | (rw [if_neg (by decide +kernel)]; exact ⟨rfl, rfl⟩))
    (fun os started H enc _ => lifted os started H enc)

theorem proved : Rows.ValueCmpsSaid :=
  over
#print axioms proved
end Go.Proofs.Ytpgpmnecggllcaa.valueCmps
