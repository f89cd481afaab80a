/-
  Proved: for every value the law ValuePuts returns true: value.Put tells the bytes that the document's own Put tells, or refuses as it does (2.2); the value reads behind the call as before. No condition.
-/
import Derived.Test.YtpgpmnecggllcaaRows
import Derived.Test.YtpgpmnecggllcaaVRef
import Derived.WalkKit
import Derived.ProofKit
import Derived.OpenShut
import Derived.ShutString
import Derived.Lib.SmallJoins
namespace Go.Proofs.Ytpgpmnecggllcaa.valuePuts
open Go.ChangeShapes Go.WideShapes Go.ChangeAt Go.RowKit Go.Joins Num
open Go.ChangeMaps (open_string shut_string)
set_option linter.unusedVariables false

theorem own : ownKnob Try.prog.godebug = none := by kernel_rfl
theorem cellsV : Try.prog.cellsOf 24 = 4 := by kernel_rfl

theorem walk (k0 n0 : Int) (hn0 : -9223372036854775808 ≤ n0 ∧ n0 ≤ 9223372036854775807) (f0 : Nat) (hf0 : f0 < 18446744073709551616) (s0 : ByteArray) (w : World) :
    Calls Try.prog 4 #[.agg #[.int .i64 k0, .int .i64 n0, .int .u64 (f0 : Int), .string s0]] w fun e w' => e = .returned (.bool true) ∧ Below w.heap.size w w' := by
  have hp1 := put_any k0 n0 hn0 f0 hf0 s0
  have hp2 := refPut_any k0 n0 hn0 f0 hf0 s0
  generalize str (putT k0 n0 f0 s0) = T at hp1 hp2
  generalize putE k0 n0 f0 s0 = E at hp1 hp2
  have hb0 := Below.refl w.heap.size w
  by_cases hl : 5000 < (s0.size : Int)
  · go_enter Try.func4, Try.ntmps4
    go_wp2_with (first
      | (go_at_call 9; refine (long_any s0 _).mono ?_; rintro e w1 ⟨rfl, rfl⟩)
      | (go_at_call 12; refine (awake_any _).mono ?_; rintro e w3 ⟨rfl, hb3⟩))
    go_ret
    exact ⟨rfl, below_box0 hb3⟩
  · go_enter Try.func4, Try.ntmps4
    go_wp2_with (first
      | (go_at_call 9; refine (long_any s0 _).mono ?_; rintro e w1 ⟨rfl, rfl⟩)
      | (go_at_call 13; refine (hp1 _).mono ?_; rintro e w1 ⟨rfl, hb1⟩; obtain ⟨b0, b1, b2, b3⟩ := box_cells hb1)
      | (go_at_call 14; refine (hp2 _).mono ?_; rintro e w2 ⟨rfl, hb2⟩)
      | (go_at_call 15; refine (num_any _ _).mono ?_; rintro e w4 ⟨rfl, rfl⟩)
      | (go_at_call 12; refine (awake_any _).mono ?_; rintro e w3 ⟨rfl, hb3⟩))
    go_ret
    exact ⟨rfl, below_next (below_next (below_box0 hb1) (Nat.le_refl _) hb2) (Nat.le_refl _) hb3⟩

set_option maxRecDepth 100000 in
theorem lifted (os : Os) (started : os.Started) (H : Type) (enc : TypeId × Value → H) :
    ReturnsInHanded {} Try.checked os 4 .any (Rows.valuePutsSpec.pre6 enc Try.prog Try.f4 Rows.valuePutsRow.domain false) (Rows.valuePutsSpec.post enc Try.prog Try.f4 false true false false) := by
  refine returnsInHanded_of_change (C := Try.checked) own started (by kernel_rfl) Try.func4
    (ChangeSpec.witness6 (enc := enc) (C := Try.checked) false ⟨#[], #[.agg #[.int .i64 0, .int .i64 0, .int .u64 0, .string ByteArray.empty]], []⟩ 8 (by kernel_rfl) (by kernel_rfl) (by kernel_rfl) (by kernel_rfl)) ?_
  intro W base args ds gs before hval0 hW hcnd _
  have hval : ∀ (j : Nat) t v, Try.f4.params[j]? = some t → args[j]? = some v → Value.okWide Try.prog W .any base t v := hval0
  have hW' := hW
  obtain ⟨p, q, hA0, hV, rfl, hfz, hnd⟩ := hW
  have hA : DataW.TrodAll enc Try.prog W 0 (fun _ => true) true Try.f4.params.toList args.toList ds p := hA0
  rw [Try.params4] at hA hval
  obtain ⟨v0, vs0, d0, ds0, p0, q0, hargs, rfl, rfl, h0, r0⟩ := trodAll_cons hA
  obtain ⟨rfl, rfl, rfl⟩ := trodAll_nil r0
  obtain rfl : args = #[v0] := by cases args; simp_all
  obtain ⟨rfl, rfl⟩ := trodVars_none hV
  obtain ⟨ca0, cb0, cc0, cd0, ya0, yb0, yc0, yd0, m0, rfl, rfl, rfl, hya0, hyb0, hyc0, hyd0⟩ := open_agg4 Try.underlying24 (by kernel_rfl) cellsV (hval 0 24 v0 rfl rfl) h0
  obtain ⟨k0, ea0, rfl, wk0⟩ := DataW.trod_int Try.underlying3 hya0
  obtain ⟨n0, eb0, rfl, wn0⟩ := DataW.trod_int Try.underlying2 hyb0
  obtain ⟨g0, ec0, rfl, wf0⟩ := DataW.trod_int Try.underlying22 hyc0
  obtain ⟨s0, ed0, rfl, ws0⟩ := DataW.trod_string Try.underlying9 hyd0
  simp at ea0 eb0 ec0 ed0
  subst ea0 eb0 ec0 ed0
  have bn0 := bounds_i64 wn0
  have bf0 := bounds_u64 wf0
  obtain ⟨f0, rfl⟩ := Int.eq_ofNat_of_zero_le bf0.1
  clear hA0 hval0
  simp only [List.append_nil] at hW'
  have rd0 : ∀ (W' : World) (sp : Nat → Bool), DataW.Trod enc Try.prog W' 0 sp true 24 (.agg #[.int .i64 k0, .int .i64 n0, .int .u64 (f0 : Int), .string s0]) (.agg [.lit (.int .i64 k0), .lit (.int .i64 n0), .lit (.int .u64 (f0 : Int)), .lit (.string s0.data.toList)]) [] := fun W' sp =>
    shut_agg4 (y0 := (.lit (.int .i64 k0), [])) (y1 := (.lit (.int .i64 n0), [])) (y2 := (.lit (.int .u64 (f0 : Int)), [])) (y3 := (.lit (.string s0.data.toList), [])) Try.underlying24 (by kernel_rfl) cellsV
      ⟨1, by simp [DataW.trod, Try.underlying3, wk0]⟩ ⟨1, by simp [DataW.trod, Try.underlying2, wn0]⟩ ⟨1, by simp [DataW.trod, Try.underlying22, wf0]⟩ ⟨1, by simp [DataW.trod, Try.underlying9, ws0]⟩
  refine (walk k0 n0 (by omega) f0 (by omega) s0 W).mono fun e W' ⟨he, hg⟩ => ?_
  subst he
  exact ⟨_, rfl, _, _, _, [], [], [], hW', trodAll_cons_mk (shut_bool Try.underlying4 _) trodAll_mk0, (trodAll_cons_mk (rd0 _ _) trodAll_mk0), rfl, hg.frame _, fun h => by cases h⟩

theorem over : Rows.valuePutsRow.holds Try.pinned (OpenSpec.ofChange Rows.valuePutsSpec) :=
  OpenClaim.holds_of_wide 4 Try.f4 rfl rfl rfl rfl rfl rfl rfl ⟨rfl, rfl, rfl, rfl, rfl⟩ rfl rfl rfl rfl rfl (by kernel_rfl) Try.func4 (by kernel_rfl)
    (of_decide_eq_true (by kernel_rfl)) (by unfold Func.isWrapper; first | (rw [if_pos (by decide +kernel)]; kernel_rfl) | (rw [if_neg (by decide +kernel)]; exact ⟨rfl, rfl⟩))
    (fun os started H enc _ => lifted os started H enc)

theorem proved : Rows.ValuePutsSaid :=
  over
#print axioms proved
end Go.Proofs.Ytpgpmnecggllcaa.valuePuts
