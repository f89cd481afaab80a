/-
  Proved: for every schema the law DescMays returns true: which schemas may be is told by desc.May as the document's own answer tells it (6.2), and the document's example holds; the schema reads behind the call as before. No condition.
-/
import Derived.Test.YtndppffcladalaaRows
import Derived.Test.YtndppffcladalaaDPut
import Derived.Test.YtndppffcladalaaDGreat
import Derived.Test.YtndppffcladalaaDRefD
import Derived.WalkKit
import Derived.ProofKit
import Derived.OpenShut
import Derived.ShutString
import Derived.Lib.SmallJoins
import Derived.Deep.QuietTactic
namespace Go.Proofs.Ytndppffcladalaa.descMays
open Go.ChangeShapes Go.WideShapes Go.ChangeAt Go.RowKit Go.Joins Num
open Go.ChangeMaps (open_string shut_string)
set_option linter.unusedVariables false

theorem own : ownKnob Try.prog.godebug = none := by kernel_rfl
open scoped Classical


theorem walk (x0 : Sch) (hin0 : ∀ t ∈ x0.tabs, TabIn t) (ao0 : Option Addr) (cap0 : Nat) (w : World) (hl0 : LiesT w w.heap.size ao0 x0.tabs) :
    Calls Try.prog 4 #[.agg #[.int .i64 x0.ver, .slice ao0 x0.tabs.length cap0, .int .i64 x0.next]] w fun e w' => e = .returned (.bool true) ∧ Below w.heap.size w w' := by
  have hb0 := heap_new w (.cells #[.int .i64 x0.ver, .slice ao0 x0.tabs.length cap0, .int .i64 x0.next] 26)
  have hl1 := liesT_next hl0 ((Below.refl _ w).alloc (Nat.le_refl _) (.cells #[.int .i64 x0.ver, .slice ao0 x0.tabs.length cap0, .int .i64 x0.next] 26))
  have hbw : Below w.heap.size w (w.alloc (.cells #[.int .i64 x0.ver, .slice ao0 x0.tabs.length cap0, .int .i64 x0.next] 26)) := (Below.refl _ w).alloc (Nat.le_refl _) _
  generalize hW : w.alloc (.cells #[.int .i64 x0.ver, .slice ao0 x0.tabs.length cap0, .int .i64 x0.next] 26) = W at *
  have hg : ∀ y : Low W, _ := fun y => great_any x0 ao0 cap0 y.wd (liesT_next hl1 y.low)
  have h1 : ∀ y : Low W, _ := fun y => may_sch x0 ao0 cap0 y.wd (liesT_next hl1 y.low)
  have h2 : ∀ y : Low W, _ := fun y => refMay_sch x0 hin0 ao0 cap0 y.wd (liesT_next hl1 y.low)
  have u0 : ∀ y : Low W, y.wd.cell? ⟨w.heap.size, 0, none⟩ = some (.int .i64 x0.ver) := fun y => box_cell (below_box y.low hb0) 0 _ rfl
  have u1 : ∀ y : Low W, y.wd.cell? ⟨w.heap.size, 1, none⟩ = some (.slice ao0 x0.tabs.length cap0) := fun y => box_cell (below_box y.low hb0) 1 _ rfl
  have u2 : ∀ y : Low W, y.wd.cell? ⟨w.heap.size, 2, none⟩ = some (.int .i64 x0.next) := fun y => box_cell (below_box y.low hb0) 2 _ rfl
  generalize tru (SchOk x0) = c at *
  clear hb0 hl1
  by_cases q : GrM x0
  · rw [tru_yes q] at hg
    clear h1 h2
    go_enter Try.func4, Try.ntmps4
    go_wp2_with fail
    try rw [hW]
    refine wp_region_low (by kernel_rfl) (by kernel_rfl) fun hsome => ?_
    repeat (go_big_quiet_step (first
      | (go_at_call 12; refine Calls.low_of (hg _))))
    refine wpQuiet_nil ?_
    rintro _ ⟨x, rfl⟩
    go_wp2
    go_ret
    exact ⟨rfl, below_next hbw (Nat.le_refl _) x.low⟩
  · rw [tru_no q] at hg
    go_enter Try.func4, Try.ntmps4
    go_wp2_with fail
    try rw [hW]
    refine wp_region_low (by kernel_rfl) (by kernel_rfl) fun hsome => ?_
    repeat (go_big_quiet_step (first
      | (go_at_call 12; refine Calls.low_of (hg _))
      | (go_at_call 13; refine Calls.low_of (h1 _))
      | (go_at_call 14; refine Calls.low_of (h2 _))
      | (go_at_call 11; refine Calls.low_of (awake_any _))))
    refine wpQuiet_nil ?_
    rintro _ ⟨x, rfl⟩
    go_wp2
    go_ret
    exact ⟨rfl, below_next hbw (Nat.le_refl _) x.low⟩

set_option maxRecDepth 100000 in
theorem lifted (os : Os) (started : os.Started) (H : Type) (enc : TypeId × Value → H) :
    ReturnsInHanded {} Try.checked os 4 .any (Rows.descMaysSpec.pre6 enc Try.prog Try.f4 Rows.descMaysRow.domain false) (Rows.descMaysSpec.post enc Try.prog Try.f4 false true false false) := by
  refine returnsInHanded_of_change (C := Try.checked) own started (by kernel_rfl) Try.func4
    (ChangeSpec.witness6 (enc := enc) (C := Try.checked) false ⟨#[], #[.agg #[.int .i64 0, .slice none 0 0, .int .i64 0]], []⟩ 8 (by kernel_rfl) (by kernel_rfl) (by kernel_rfl) (by kernel_rfl)) ?_
  intro W base args ds gs before hval0 hW hcnd _
  have hval : ∀ (j : Nat) t v, Try.f4.params[j]? = some t → args[j]? = some v → Value.okWide Try.prog W .any base t v := hval0
  have hW' := hW
  have hWk := hW
  obtain ⟨p, q, hA0, hV, rfl, hfz, hnd⟩ := hW
  have hA : DataW.TrodAll enc Try.prog W 0 (fun _ => true) true Try.f4.params.toList args.toList ds p := hA0
  rw [Try.params4] at hA hval
  obtain ⟨v0, vs0, d0, ds0, p0, q0, hargs, rfl, rfl, h0, r0⟩ := trodAll_cons hA
  obtain ⟨rfl, rfl, rfl⟩ := trodAll_nil r0
  obtain rfl : args = #[v0] := by cases args; simp_all
  obtain ⟨rfl, rfl⟩ := trodVars_none hV
  have hk0 := h0
  obtain ⟨ver0, ao0, cap0, l0, next0, rfl, hin0, hlies0⟩ := open_sch (hval 0 26 v0 rfl rfl) h0
  have hlt0 : ∀ x ∈ p0, x.block < W.heap.size := fun x hx => by simpa using hWk.lt x (by simp [hx])
  clear hA0 hval0
  simp only [List.append_nil] at hW'

  refine (walk ⟨ver0, l0, next0⟩ hin0 ao0 cap0 W hlies0).mono fun e W' ⟨he, hg⟩ => ?_
  subst he
  exact ⟨_, rfl, _, _, _, [], _, [], hW', trodAll_cons_mk (shut_bool Try.underlying4 _) trodAll_mk0, (trodAll_cons_mk (Below.trod Try.laidOut (by kernel_rfl) (of_decide_eq_true (by kernel_rfl)) hk0 hg hlt0) trodAll_mk0), rfl, hg.frame _, fun h => by cases h⟩

theorem over : Rows.descMaysRow.holds Try.pinned (OpenSpec.ofChange Rows.descMaysSpec) :=
  OpenClaim.holds_of_wide 4 Try.f4 rfl rfl rfl rfl rfl rfl rfl ⟨rfl, rfl, rfl, rfl, rfl⟩ rfl rfl rfl rfl rfl (by kernel_rfl) Try.func4 (by kernel_rfl)
    (of_decide_eq_true (by kernel_rfl)) (by unfold Func.isWrapper; first | (rw [if_pos (by decide +kernel)]; kernel_rfl) | (rw [if_neg (by decide +kernel)]; exact ⟨rfl, rfl⟩))
    (fun os started H enc _ => lifted os started H enc)

theorem proved : Rows.DescMaysSaid :=
  over
#print axioms proved
end Go.Proofs.Ytndppffcladalaa.descMays
