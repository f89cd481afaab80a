/-
  Which replicas may be is the document's (11.2): for every replica.
-/
import Derived.Test.YtgdehjdajjhjpaaRows
import Derived.Test.YtgdehjdajjhjpaaRpAwk
import Derived.Test.YtgdehjdajjhjpaaRpGrt
import Derived.Test.YtgdehjdajjhjpaaRpRMb
import Derived.WalkKit
import Derived.ProofKit
import Derived.OpenShut
import Derived.ShutString
import Derived.Lib.SmallJoins
import Derived.Deep.QuietTactic
import Derived.BigRegion
namespace Go.Proofs.Ytgdehjdajjhjpaa.replicaMays
open Go.ChangeShapes Go.WideShapes Go.ChangeAt Go.RowKit Go.Joins Num
open Go.ChangeMaps (open_string shut_string)
set_option linter.unusedVariables false

theorem own : ownKnob Try.prog.godebug = none := by kernel_rfl
open scoped Classical

theorem walk (r0 : Rep) (s0 : Sl) (hok0 : r0.ok) (w : World) (hl0 : LiesR w w.heap.size s0 r0) :
    Calls Try.prog 4 #[repV r0 s0] w fun e w' => e = .returned (.bool true) ∧ Below w.heap.size w w' := by
  have hb : ∀ ob : Obj, Below w.heap.size w (w.alloc ob) := fun ob => (Below.refl _ w).alloc (Nat.le_refl _) ob
  have hlz : ∀ (ob : Obj) (z : Low (w.alloc ob)), LiesR z.wd z.wd.heap.size s0 r0 := fun ob z => liesR_next (liesR_next hl0 (hb ob) (hb ob).size) z.low z.low.size
  have hG := fun (ob : Obj) (z : Low (w.alloc ob)) => great_any r0 s0 z.wd (hlz ob z)
  have hA := fun (ob : Obj) (z : Low (w.alloc ob)) => awake_any z.wd
  obtain ⟨O, hO⟩ : ∃ O : Obj, O = repO r0 (.slice s0.lo r0.log.length s0.lc) (.slice s0.ao r0.acked.length s0.ac) (.slice s0.vo r0.votes.length s0.vc) (.slice s0.wo r0.voters.length s0.wc) (.slice s0.bo r0.best.length s0.bc) 25 := ⟨_, rfl⟩
  have bx := box_rep w r0 (.slice s0.lo r0.log.length s0.lc) (.slice s0.ao r0.acked.length s0.ac) (.slice s0.vo r0.votes.length s0.vc) (.slice s0.wo r0.voters.length s0.wc) (.slice s0.bo r0.best.length s0.bc) undef 25 w.heap.size rfl
  obtain ⟨c0, c1, c2, c3, c4, c5, c6, c7, c8, c9, c10, c11, c12⟩ := bx.rep (by omega)
  have d0 := fun z : Low (w.alloc (repO r0 (.slice s0.lo r0.log.length s0.lc) (.slice s0.ao r0.acked.length s0.ac) (.slice s0.vo r0.votes.length s0.vc) (.slice s0.wo r0.voters.length s0.wc) (.slice s0.bo r0.best.length s0.bc) 25)) => (bx.below z.low).rep (by omega)
  have e0 := fun z => (d0 z).1
  have e1 := fun z => (d0 z).2.1
  have e2 := fun z => (d0 z).2.2.1
  have e3 := fun z => (d0 z).2.2.2.1
  have e4 := fun z => (d0 z).2.2.2.2.1
  have e5 := fun z => (d0 z).2.2.2.2.2.1
  have e6 := fun z => (d0 z).2.2.2.2.2.2.1
  have e7 := fun z => (d0 z).2.2.2.2.2.2.2.1
  have e8 := fun z => (d0 z).2.2.2.2.2.2.2.2.1
  have e9 := fun z => (d0 z).2.2.2.2.2.2.2.2.2.1
  have e10 := fun z => (d0 z).2.2.2.2.2.2.2.2.2.2.1
  have e11 := fun z => (d0 z).2.2.2.2.2.2.2.2.2.2.2.1
  have e12 := fun z => (d0 z).2.2.2.2.2.2.2.2.2.2.2.2
  clear d0 bx hO O
  cases hg : greatB r0 with
  | true =>
    rw [hg] at hG
    clear hA hlz hg
    go_enter Try.func4, Try.ntmps4
    go_wp2_with fail
    refine wp_region_low (by kernel_rfl) (by kernel_rfl) fun hsome => ?_
    repeat (go_big_quiet_step (first
      | (go_at_call 12; refine Calls.low_of (hG _ _))))
    refine wpQuiet_nil ?_
    rintro _ ⟨z, rfl⟩
    have hz := z.low
    go_wp2
    go_ret
    exact ⟨rfl, below_box0 hz⟩
  | false =>
    have hsm := great_small hg
    rw [hg] at hG
    have hM := fun (ob : Obj) (z : Low (w.alloc ob)) => may_any r0 s0 ⟨by have := hsm.ack; omega, by have := hsm.best; omega, by have := hsm.votes; omega, by have := hsm.voters; omega⟩ z.wd (hlz ob z)
    have hR := fun (ob : Obj) (z : Low (w.alloc ob)) => rmay_any r0 s0 ⟨by have := hsm.ack; omega, by have := hsm.best; omega, by have := hsm.votes; omega, by have := hsm.voters; omega⟩ z.wd (hlz ob z)
    generalize tru (May r0) = b at *
    clear hlz hg hsm
    cases b
    all_goals
      go_enter Try.func4, Try.ntmps4
      go_wp2_with fail
      refine wp_region_low (by kernel_rfl) (by kernel_rfl) fun hsome => ?_
      repeat (go_big_quiet_step (first
        | (go_at_call 12; refine Calls.low_of (hG _ _))
        | (go_at_call 13; refine Calls.low_of (hM _ _))
        | (go_at_call 14; refine Calls.low_of (hR _ _))
        | (go_at_call 11; refine Calls.low_of (hA _ _))))
      refine wpQuiet_nil ?_
      rintro _ ⟨z, rfl⟩
      have hz := z.low
      go_wp2
      go_ret
      exact ⟨rfl, below_box0 hz⟩

set_option maxRecDepth 100000 in
theorem lifted (os : Os) (started : os.Started) (H : Type) (enc : TypeId × Value → H) :
    ReturnsInHanded {} Try.checked os 4 .any (Rows.replicaMaysSpec.pre6 enc Try.prog Try.f4 Rows.replicaMaysRow.domain false) (Rows.replicaMaysSpec.post enc Try.prog Try.f4 false true false false) := by
  refine returnsInHanded_of_change (C := Try.checked) own started (by kernel_rfl) Try.func4
    (ChangeSpec.witness6 (enc := enc) (C := Try.checked) false ⟨#[], #[.agg #[.int .i64 0, .int .i64 0, .int .i64 0, .int .i64 0, .int .i64 0, .slice none 0 0, .int .i64 0, .slice none 0 0, .slice none 0 0, .slice none 0 0, .slice none 0 0, .int .i64 0, .int .i64 0]], []⟩ 8 (by kernel_rfl) (by kernel_rfl) (by kernel_rfl) (by kernel_rfl)) ?_
  intro W base args ds gs before hval0 hW hcnd _
  have hval : ∀ (j : Nat) t v, Try.f4.params[j]? = some t → args[j]? = some v → Value.okWide Try.prog W .any base t v := hval0
  have hW' := hW
  have hWk := hW
  obtain ⟨p, q, hA0, hV, rfl, hfz, hnd⟩ := hW
  have hA : DataW.TrodAll enc Try.prog W 0 (fun _ => true) true Try.f4.params.toList args.toList ds p := hA0
  rw [Try.params4] at hA hval
  obtain ⟨v0, vs0, d0, ds0, p0, q0, hargs, rfl, rfl, h0, rt0⟩ := trodAll_cons hA
  obtain ⟨rfl, rfl, rfl⟩ := trodAll_nil rt0
  obtain rfl : args = #[v0] := by cases args; simp_all
  obtain ⟨rfl, rfl⟩ := trodVars_none hV
  have hk0 := h0
  obtain ⟨r0, s0, rfl, hok0, hlies0⟩ := open_rep (hval 0 25 v0 rfl rfl) h0
  have hlt0 : ∀ x ∈ p0, x.block < W.heap.size := fun x hx => by simpa using hWk.lt x (by simp [hx])
  clear hA0 hval0
  simp only [List.append_nil] at hW'

  refine (walk r0 s0 hok0 W hlies0).mono fun e W' ⟨he, hg⟩ => ?_
  subst he
  exact ⟨_, rfl, _, _, _, [], _, [], hW', trodAll_cons_mk (shut_bool Try.underlying4 _) trodAll_mk0, (trodAll_cons_mk (Below.trod Try.laidOut (by kernel_rfl) (of_decide_eq_true (by kernel_rfl)) hk0 hg hlt0) trodAll_mk0), rfl, hg.frame _, fun h => by cases h⟩

theorem over : Rows.replicaMaysRow.holds Try.pinned (OpenSpec.ofChange Rows.replicaMaysSpec) :=
  OpenClaim.holds_of_wide 4 Try.f4 rfl rfl rfl rfl rfl rfl rfl ⟨rfl, rfl, rfl, rfl, rfl⟩ rfl rfl rfl rfl rfl (by kernel_rfl) Try.func4 (by kernel_rfl)
    (of_decide_eq_true (by kernel_rfl)) (by unfold Func.isWrapper; first | (rw [if_pos (by decide +kernel)]; kernel_rfl) | (rw [if_neg (by decide +kernel)]; exact ⟨rfl, rfl⟩))
    (fun os started H enc _ => lifted os started H enc)

theorem proved : Rows.ReplicaMaysSaid :=
  over
#print axioms proved
end Go.Proofs.Ytgdehjdajjhjpaa.replicaMays
