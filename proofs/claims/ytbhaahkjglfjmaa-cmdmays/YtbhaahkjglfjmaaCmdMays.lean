/-
  Proved: for every command the law CmdMays returns true: which commands may be is told by cmd.May as the document's own answer tells it (13.1), and the document's example holds; the command reads behind the call as before. No condition.
-/
import Derived.Test.YtbhaahkjglfjmaaRows
import Derived.Test.YtbhaahkjglfjmaaCPut
import Derived.Test.YtbhaahkjglfjmaaCGreat
import Derived.Test.YtbhaahkjglfjmaaCRefB
import Derived.WalkKit
import Derived.ProofKit
import Derived.OpenShut
import Derived.ShutString
import Derived.Lib.SmallJoins
import Derived.Deep.QuietTactic
namespace Go.Proofs.Ytbhaahkjglfjmaa.cmdMays
open Go.ChangeShapes Go.WideShapes Go.ChangeAt Go.RowKit Go.Joins Num
open Go.ChangeMaps (open_string shut_string)
set_option linter.unusedVariables false

theorem own : ownKnob Try.prog.godebug = none := by kernel_rfl
open scoped Classical
set_option maxRecDepth 100000
set_option maxHeartbeats 2000000


theorem walk (c0 : Cmd) (hin0 : CmdIn c0) (s0 : Cs) (w : World) (hl0 : LiesC w w.heap.size s0 c0) :
    Calls Try.prog 3 #[.agg #[.int .i64 c0.kind, .int .i64 c0.client, .int .i64 c0.seq, .int .i64 c0.snap, .slice s0.ko c0.keys.length s0.kc, .slice s0.ro c0.rngs.length s0.rc, .slice s0.wo c0.wrts.length s0.wc, .int .i64 c0.dead, .int .i64 c0.aft, .int .i64 c0.held, .string c0.text, .int .i64 c0.code, .slice s0.xo c0.rows.length s0.xc]] w fun e w' => e = .returned (.bool true) ∧ Below w.heap.size w w' := by
  have hb0 := heap_new w (.cells #[.int .i64 c0.kind, .int .i64 c0.client, .int .i64 c0.seq, .int .i64 c0.snap, .slice s0.ko c0.keys.length s0.kc, .slice s0.ro c0.rngs.length s0.rc, .slice s0.wo c0.wrts.length s0.wc, .int .i64 c0.dead, .int .i64 c0.aft, .int .i64 c0.held, .string c0.text, .int .i64 c0.code, .slice s0.xo c0.rows.length s0.xc] 27)
  have hl1 := liesC_alloc hl0 (.cells #[.int .i64 c0.kind, .int .i64 c0.client, .int .i64 c0.seq, .int .i64 c0.snap, .slice s0.ko c0.keys.length s0.kc, .slice s0.ro c0.rngs.length s0.rc, .slice s0.wo c0.wrts.length s0.wc, .int .i64 c0.dead, .int .i64 c0.aft, .int .i64 c0.held, .string c0.text, .int .i64 c0.code, .slice s0.xo c0.rows.length s0.xc] 27)
  have hbw : Below w.heap.size w (w.alloc (.cells #[.int .i64 c0.kind, .int .i64 c0.client, .int .i64 c0.seq, .int .i64 c0.snap, .slice s0.ko c0.keys.length s0.kc, .slice s0.ro c0.rngs.length s0.rc, .slice s0.wo c0.wrts.length s0.wc, .int .i64 c0.dead, .int .i64 c0.aft, .int .i64 c0.held, .string c0.text, .int .i64 c0.code, .slice s0.xo c0.rows.length s0.xc] 27)) := (Below.refl _ w).alloc (Nat.le_refl _) _
  generalize hW : w.alloc (.cells #[.int .i64 c0.kind, .int .i64 c0.client, .int .i64 c0.seq, .int .i64 c0.snap, .slice s0.ko c0.keys.length s0.kc, .slice s0.ro c0.rngs.length s0.rc, .slice s0.wo c0.wrts.length s0.wc, .int .i64 c0.dead, .int .i64 c0.aft, .int .i64 c0.held, .string c0.text, .int .i64 c0.code, .slice s0.xo c0.rows.length s0.xc] 27) = W at *
  have hg : ∀ y : Low W, _ := fun y => great_any c0 s0 y.wd (liesC_next hl1 y.low)
  have h1 : ∀ y : Low W, _ := fun y => may_cmd c0 s0 y.wd (liesC_next hl1 y.low)
  have h2 : ∀ y : Low W, _ := fun y => refMay_cmd c0 hin0 s0 y.wd (liesC_next hl1 y.low)
  have u0 : ∀ y : Low W, y.wd.cell? ⟨w.heap.size, 0, none⟩ = some (.int .i64 c0.kind) := fun y => box_cell (below_box y.low hb0) 0 _ rfl
  have u1 : ∀ y : Low W, y.wd.cell? ⟨w.heap.size, 1, none⟩ = some (.int .i64 c0.client) := fun y => box_cell (below_box y.low hb0) 1 _ rfl
  have u2 : ∀ y : Low W, y.wd.cell? ⟨w.heap.size, 2, none⟩ = some (.int .i64 c0.seq) := fun y => box_cell (below_box y.low hb0) 2 _ rfl
  have u3 : ∀ y : Low W, y.wd.cell? ⟨w.heap.size, 3, none⟩ = some (.int .i64 c0.snap) := fun y => box_cell (below_box y.low hb0) 3 _ rfl
  have u4 : ∀ y : Low W, y.wd.cell? ⟨w.heap.size, 4, none⟩ = some (.slice s0.ko c0.keys.length s0.kc) := fun y => box_cell (below_box y.low hb0) 4 _ rfl
  have u5 : ∀ y : Low W, y.wd.cell? ⟨w.heap.size, 5, none⟩ = some (.slice s0.ro c0.rngs.length s0.rc) := fun y => box_cell (below_box y.low hb0) 5 _ rfl
  have u6 : ∀ y : Low W, y.wd.cell? ⟨w.heap.size, 6, none⟩ = some (.slice s0.wo c0.wrts.length s0.wc) := fun y => box_cell (below_box y.low hb0) 6 _ rfl
  have u7 : ∀ y : Low W, y.wd.cell? ⟨w.heap.size, 7, none⟩ = some (.int .i64 c0.dead) := fun y => box_cell (below_box y.low hb0) 7 _ rfl
  have u8 : ∀ y : Low W, y.wd.cell? ⟨w.heap.size, 8, none⟩ = some (.int .i64 c0.aft) := fun y => box_cell (below_box y.low hb0) 8 _ rfl
  have u9 : ∀ y : Low W, y.wd.cell? ⟨w.heap.size, 9, none⟩ = some (.int .i64 c0.held) := fun y => box_cell (below_box y.low hb0) 9 _ rfl
  have u10 : ∀ y : Low W, y.wd.cell? ⟨w.heap.size, 10, none⟩ = some (.string c0.text) := fun y => box_cell (below_box y.low hb0) 10 _ rfl
  have u11 : ∀ y : Low W, y.wd.cell? ⟨w.heap.size, 11, none⟩ = some (.int .i64 c0.code) := fun y => box_cell (below_box y.low hb0) 11 _ rfl
  have u12 : ∀ y : Low W, y.wd.cell? ⟨w.heap.size, 12, none⟩ = some (.slice s0.xo c0.rows.length s0.xc) := fun y => box_cell (below_box y.low hb0) 12 _ rfl
  generalize tru (CmdOk c0) = c at *
  clear hb0 hl1
  by_cases q : ¬ SmallC c0
  · rw [tru_yes q] at hg
    clear h1 h2
    go_enter Try.func3, Try.ntmps3
    go_wp2_with fail
    try rw [hW]
    refine wp_region_low (by kernel_rfl) (by kernel_rfl) fun hsome => ?_
    repeat (go_big_quiet_step (first
      | (go_at_call 8; refine Calls.low_of (hg _))))
    refine wpQuiet_nil ?_
    rintro _ ⟨x, rfl⟩
    go_wp2
    go_ret
    exact ⟨rfl, below_next hbw (Nat.le_refl _) x.low⟩
  · rw [tru_no q] at hg
    go_enter Try.func3, Try.ntmps3
    go_wp2_with fail
    try rw [hW]
    refine wp_region_low (by kernel_rfl) (by kernel_rfl) fun hsome => ?_
    repeat (go_big_quiet_step (first
      | (go_at_call 8; refine Calls.low_of (hg _))
      | (go_at_call 9; refine Calls.low_of (h1 _))
      | (go_at_call 10; refine Calls.low_of (h2 _))
      | (go_at_call 11; refine Calls.low_of (awake_any _))))
    refine wpQuiet_nil ?_
    rintro _ ⟨x, rfl⟩
    go_wp2
    go_ret
    exact ⟨rfl, below_next hbw (Nat.le_refl _) x.low⟩

set_option maxRecDepth 100000 in
theorem lifted (os : Os) (started : os.Started) (H : Type) (enc : TypeId × Value → H) :
    ReturnsInHanded {} Try.checked os 3 .any (Rows.cmdMaysSpec.pre6 enc Try.prog Try.f3 Rows.cmdMaysRow.domain false) (Rows.cmdMaysSpec.post enc Try.prog Try.f3 false true false false) := by
  refine returnsInHanded_of_change (C := Try.checked) own started (by kernel_rfl) Try.func3
    (ChangeSpec.witness6 (enc := enc) (C := Try.checked) false ⟨#[], #[.agg #[.int .i64 0, .int .i64 0, .int .i64 0, .int .i64 0, .slice none 0 0, .slice none 0 0, .slice none 0 0, .int .i64 0, .int .i64 0, .int .i64 0, .string ⟨#[]⟩, .int .i64 0, .slice none 0 0]], []⟩ 8 (by kernel_rfl) (by kernel_rfl) (by kernel_rfl) (by kernel_rfl)) ?_
  intro W base args ds gs before hval0 hW hcnd _
  have hval : ∀ (j : Nat) t v, Try.f3.params[j]? = some t → args[j]? = some v → Value.okWide Try.prog W .any base t v := hval0
  have hW' := hW
  have hWk := hW
  obtain ⟨p, q, hA0, hV, rfl, hfz, hnd⟩ := hW
  have hA : DataW.TrodAll enc Try.prog W 0 (fun _ => true) true Try.f3.params.toList args.toList ds p := hA0
  rw [Try.params3] at hA hval
  obtain ⟨v0, vs0, d0, ds0, p0, q0, hargs, rfl, rfl, h0, rt0⟩ := trodAll_cons hA
  obtain ⟨rfl, rfl, rfl⟩ := trodAll_nil rt0
  obtain rfl : args = #[v0] := by cases args; simp_all
  obtain ⟨rfl, rfl⟩ := trodVars_none hV
  have hk0 := h0
  obtain ⟨c0, s0, rfl, hin0, hlies0⟩ := open_cmd (hval 0 27 v0 rfl rfl) h0
  have hlt0 : ∀ x ∈ p0, x.block < W.heap.size := fun x hx => by simpa using hWk.lt x (by simp [hx])
  clear hA0 hval0
  simp only [List.append_nil] at hW'

  refine (walk c0 hin0 s0 W hlies0).mono fun e W' ⟨he, hg⟩ => ?_
  subst he
  exact ⟨_, rfl, _, _, _, [], _, [], hW', trodAll_cons_mk (shut_bool Try.underlying4 _) trodAll_mk0, (trodAll_cons_mk (Below.trod Try.laidOut (by kernel_rfl) (of_decide_eq_true (by kernel_rfl)) hk0 hg hlt0) trodAll_mk0), rfl, hg.frame _, fun h => by cases h⟩

theorem over : Rows.cmdMaysRow.holds Try.pinned (OpenSpec.ofChange Rows.cmdMaysSpec) :=
  OpenClaim.holds_of_wide 3 Try.f3 rfl rfl rfl rfl rfl rfl rfl ⟨rfl, rfl, rfl, rfl, rfl⟩ rfl rfl rfl rfl rfl (by kernel_rfl) Try.func3 (by kernel_rfl)
    (of_decide_eq_true (by kernel_rfl)) (by unfold Func.isWrapper; first | (rw [if_pos (by decide +kernel)]; kernel_rfl) | (rw [if_neg (by decide +kernel)]; exact ⟨rfl, rfl⟩))
    (fun os started H enc _ => lifted os started H enc)

theorem proved : Rows.CmdMaysSaid :=
  over
#print axioms proved
end Go.Proofs.Ytbhaahkjglfjmaa.cmdMays
