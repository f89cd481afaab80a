/-
  Proved: for every command the law CmdPuts returns true: the bytes of a command, or that it is refused, are told by cmd.Put as the document's own answer tells them (13.2), and the document's example holds; the command reads behind the call as before. No condition.
-/
import Derived.Test.YtbhaahkjglfjmaaRows
import Derived.Test.YtbhaahkjglfjmaaCPut
import Derived.Test.YtbhaahkjglfjmaaCGreat
import Derived.Test.YtbhaahkjglfjmaaCRPut
import Derived.WalkKit
import Derived.ProofKit
import Derived.OpenShut
import Derived.ShutString
import Derived.Lib.SmallJoins
namespace Go.Proofs.Ytbhaahkjglfjmaa.cmdPuts
open Go.ChangeShapes Go.WideShapes Go.ChangeAt Go.RowKit Go.Joins Num
open Go.ChangeMaps (open_string shut_string)
set_option linter.unusedVariables false

theorem own : ownKnob Try.prog.godebug = none := by kernel_rfl

open scoped Classical
set_option maxRecDepth 100000
set_option maxHeartbeats 2000000
theorem core (c0 : Cmd) (s0 : Cs) (w : World) (hl0 : LiesC w w.heap.size s0 c0) (S : ByteArray) (E : Int)
    (hg : ∀ w, LiesC w w.heap.size s0 c0 → Calls Try.prog 8 #[.agg #[.int .i64 c0.kind, .int .i64 c0.client, .int .i64 c0.seq, .int .i64 c0.snap, .slice s0.ko c0.keys.length s0.kc, .slice s0.ro c0.rngs.length s0.rc, .slice s0.wo c0.wrts.length s0.wc, .int .i64 c0.dead, .int .i64 c0.aft, .int .i64 c0.held, .string c0.text, .int .i64 c0.code, .slice s0.xo c0.rows.length s0.xc]] w fun e w' => e = .returned (.bool false) ∧ Below w.heap.size w w')
    (h1 : ∀ w, LiesC w w.heap.size s0 c0 → Calls Try.prog 12 #[.agg #[.int .i64 c0.kind, .int .i64 c0.client, .int .i64 c0.seq, .int .i64 c0.snap, .slice s0.ko c0.keys.length s0.kc, .slice s0.ro c0.rngs.length s0.rc, .slice s0.wo c0.wrts.length s0.wc, .int .i64 c0.dead, .int .i64 c0.aft, .int .i64 c0.held, .string c0.text, .int .i64 c0.code, .slice s0.xo c0.rows.length s0.xc]] w fun e w' => e = .returned (.tuple #[.string S, .int .i64 E]) ∧ Below w.heap.size w w')
    (h2 : ∀ w, LiesC w w.heap.size s0 c0 → Calls Try.prog 13 #[.agg #[.int .i64 c0.kind, .int .i64 c0.client, .int .i64 c0.seq, .int .i64 c0.snap, .slice s0.ko c0.keys.length s0.kc, .slice s0.ro c0.rngs.length s0.rc, .slice s0.wo c0.wrts.length s0.wc, .int .i64 c0.dead, .int .i64 c0.aft, .int .i64 c0.held, .string c0.text, .int .i64 c0.code, .slice s0.xo c0.rows.length s0.xc]] w fun e w' => e = .returned (.tuple #[.string S, .int .i64 E]) ∧ Below w.heap.size w w') :
    Calls Try.prog 4 #[.agg #[.int .i64 c0.kind, .int .i64 c0.client, .int .i64 c0.seq, .int .i64 c0.snap, .slice s0.ko c0.keys.length s0.kc, .slice s0.ro c0.rngs.length s0.rc, .slice s0.wo c0.wrts.length s0.wc, .int .i64 c0.dead, .int .i64 c0.aft, .int .i64 c0.held, .string c0.text, .int .i64 c0.code, .slice s0.xo c0.rows.length s0.xc]] w fun e w' => e = .returned (.bool true) ∧ Below w.heap.size w w' := by
  have hbx := heap_new w (.cells #[.int .i64 c0.kind, .int .i64 c0.client, .int .i64 c0.seq, .int .i64 c0.snap, .slice s0.ko c0.keys.length s0.kc, .slice s0.ro c0.rngs.length s0.rc, .slice s0.wo c0.wrts.length s0.wc, .int .i64 c0.dead, .int .i64 c0.aft, .int .i64 c0.held, .string c0.text, .int .i64 c0.code, .slice s0.xo c0.rows.length s0.xc] 27)
  have hla := liesC_alloc hl0 (.cells #[.int .i64 c0.kind, .int .i64 c0.client, .int .i64 c0.seq, .int .i64 c0.snap, .slice s0.ko c0.keys.length s0.kc, .slice s0.ro c0.rngs.length s0.rc, .slice s0.wo c0.wrts.length s0.wc, .int .i64 c0.dead, .int .i64 c0.aft, .int .i64 c0.held, .string c0.text, .int .i64 c0.code, .slice s0.xo c0.rows.length s0.xc] 27)
  go_enter Try.func4, Try.ntmps4
  go_wp2_with (first
    | (go_at_call 8; refine (hg _ hla).mono ?_; rintro e w1 ⟨rfl, hb1⟩; have b1 := below_box hb1 hbx; have c0 := box_cell b1 0 _ rfl; have c1 := box_cell b1 1 _ rfl; have c2 := box_cell b1 2 _ rfl; have c3 := box_cell b1 3 _ rfl; have c4 := box_cell b1 4 _ rfl; have c5 := box_cell b1 5 _ rfl; have c6 := box_cell b1 6 _ rfl; have c7 := box_cell b1 7 _ rfl; have c8 := box_cell b1 8 _ rfl; have c9 := box_cell b1 9 _ rfl; have c10 := box_cell b1 10 _ rfl; have c11 := box_cell b1 11 _ rfl; have c12 := box_cell b1 12 _ rfl; have hl1 := liesC_next hla hb1)
    | (go_at_call 12; refine (h1 _ hl1).mono ?_; rintro e w2 ⟨rfl, hb2⟩; have b2 := below_box hb2 b1; have d0 := box_cell b2 0 _ rfl; have d1 := box_cell b2 1 _ rfl; have d2 := box_cell b2 2 _ rfl; have d3 := box_cell b2 3 _ rfl; have d4 := box_cell b2 4 _ rfl; have d5 := box_cell b2 5 _ rfl; have d6 := box_cell b2 6 _ rfl; have d7 := box_cell b2 7 _ rfl; have d8 := box_cell b2 8 _ rfl; have d9 := box_cell b2 9 _ rfl; have d10 := box_cell b2 10 _ rfl; have d11 := box_cell b2 11 _ rfl; have d12 := box_cell b2 12 _ rfl; have hl2 := liesC_next hl1 hb2)
    | (go_at_call 13; refine (h2 _ hl2).mono ?_; rintro e w3 ⟨rfl, hb3⟩)
    | (go_at_call 14; refine (num_any _ _).mono ?_; rintro e w4 ⟨rfl, rfl⟩)
    | (go_at_call 11; refine (awake_any _).mono ?_; rintro e w5 ⟨rfl, hb5⟩))
  go_ret
  exact ⟨rfl, below_next (below_next (below_next (below_box0 hb1) (Nat.le_refl _) hb2) (Nat.le_refl _) hb3) (Nat.le_refl _) hb5⟩

theorem walk (c0 : Cmd) (hin0 : CmdIn c0) (s0 : Cs) (w : World) (hl0 : LiesC w w.heap.size s0 c0) :
    Calls Try.prog 4 #[.agg #[.int .i64 c0.kind, .int .i64 c0.client, .int .i64 c0.seq, .int .i64 c0.snap, .slice s0.ko c0.keys.length s0.kc, .slice s0.ro c0.rngs.length s0.rc, .slice s0.wo c0.wrts.length s0.wc, .int .i64 c0.dead, .int .i64 c0.aft, .int .i64 c0.held, .string c0.text, .int .i64 c0.code, .slice s0.xo c0.rows.length s0.xc]] w fun e w' => e = .returned (.bool true) ∧ Below w.heap.size w w' := by
  have hg := fun w h => great_any c0 s0 w h
  by_cases q : ¬ SmallC c0
  · rw [tru_yes q] at hg
    have hla := liesC_alloc hl0 (.cells #[.int .i64 c0.kind, .int .i64 c0.client, .int .i64 c0.seq, .int .i64 c0.snap, .slice s0.ko c0.keys.length s0.kc, .slice s0.ro c0.rngs.length s0.rc, .slice s0.wo c0.wrts.length s0.wc, .int .i64 c0.dead, .int .i64 c0.aft, .int .i64 c0.held, .string c0.text, .int .i64 c0.code, .slice s0.xo c0.rows.length s0.xc] 27)
    go_enter Try.func4, Try.ntmps4
    go_wp2_with (first
      | (go_at_call 8; refine (hg _ hla).mono ?_; rintro e w1 ⟨rfl, hb1⟩)
      | (go_at_call 11; refine (awake_any _).mono ?_; rintro e w5 ⟨rfl, hb5⟩))
    go_ret
    exact ⟨rfl, below_next (below_box0 hb1) (Nat.le_refl _) hb5⟩
  · rw [tru_no q] at hg
    have hsm : SmallC c0 := Classical.not_not.1 q
    by_cases hx : CmdOk c0
    · have hlen := cmd_len hx hsm
      have h2 := refPut_yes c0 hx hin0 (by omega) s0
      by_cases hz : (cmdB c0).length ≤ 19996
      · rw [show putR c0 = _ from if_pos hz] at h2
        exact core c0 s0 w hl0 _ _ hg (dput_yes c0 hx hz s0) h2
      · rw [show putR c0 = _ from if_neg hz] at h2
        exact core c0 s0 w hl0 _ _ hg (dput_long c0 hx (by omega) (by omega) s0) h2
    · exact core c0 s0 w hl0 _ _ hg (dput_no c0 hx s0) (refPut_no c0 hx hin0 s0)

set_option maxRecDepth 100000 in
theorem lifted (os : Os) (started : os.Started) (H : Type) (enc : TypeId × Value → H) :
    ReturnsInHanded {} Try.checked os 4 .any (Rows.cmdPutsSpec.pre6 enc Try.prog Try.f4 Rows.cmdPutsRow.domain false) (Rows.cmdPutsSpec.post enc Try.prog Try.f4 false true false false) := by
  refine returnsInHanded_of_change (C := Try.checked) own started (by kernel_rfl) Try.func4
    (ChangeSpec.witness6 (enc := enc) (C := Try.checked) false ⟨#[], #[.agg #[.int .i64 0, .int .i64 0, .int .i64 0, .int .i64 0, .slice none 0 0, .slice none 0 0, .slice none 0 0, .int .i64 0, .int .i64 0, .int .i64 0, .string ⟨#[]⟩, .int .i64 0, .slice none 0 0]], []⟩ 8 (by kernel_rfl) (by kernel_rfl) (by kernel_rfl) (by kernel_rfl)) ?_
  intro W base args ds gs before hval0 hW hcnd _
  have hval : ∀ (j : Nat) t v, Try.f4.params[j]? = some t → args[j]? = some v → Value.okWide Try.prog W .any base t v := hval0
  have hW' := hW
  have hWk := hW
  obtain ⟨p, q, hA0, hV, rfl, hfz, hnd⟩ := hW
  have hA : DataW.TrodAll enc Try.prog W 0 (fun _ => true) true Try.f4.params.toList args.toList ds p := hA0
  rw [Try.params4] at hA hval
  obtain ⟨v0, vs0, d0, ds0, p0, q0, hargs, rfl, rfl, h0, rt0⟩ := trodAll_cons hA
  obtain ⟨rfl, rfl, rfl⟩ := trodAll_nil rt0
  obtain rfl : args = #[v0] := by cases args; simp_all
  obtain ⟨rfl, rfl⟩ := trodVars_none hV
  have hk0 := h0
  obtain ⟨c0, s0, rfl, hin0, hlies0⟩ := open_cmd (hval 0 27 v0 rfl rfl) h0
  have hlt0 : ∀ x ∈ p0, x.block < W.heap.size := fun x hx => by simpa using hWk.lt x (by simp [hx])
  clear hA0 hval0
  simp only [List.append_nil] at hW'

  refine (walk c0 hin0 s0 W hlies0).mono fun e W' ⟨he, hg⟩ => ?_
  subst he
  exact ⟨_, rfl, _, _, _, [], _, [], hW', trodAll_cons_mk (shut_bool Try.underlying4 _) trodAll_mk0, (trodAll_cons_mk (Below.trod Try.laidOut (by kernel_rfl) (of_decide_eq_true (by kernel_rfl)) hk0 hg hlt0) trodAll_mk0), rfl, hg.frame _, fun h => by cases h⟩

theorem over : Rows.cmdPutsRow.holds Try.pinned (OpenSpec.ofChange Rows.cmdPutsSpec) :=
  OpenClaim.holds_of_wide 4 Try.f4 rfl rfl rfl rfl rfl rfl rfl ⟨rfl, rfl, rfl, rfl, rfl⟩ rfl rfl rfl rfl rfl (by kernel_rfl) Try.func4 (by kernel_rfl)
    (of_decide_eq_true (by kernel_rfl)) (by unfold Func.isWrapper; first | (rw [if_pos (by decide +kernel)]; kernel_rfl) | (rw [if_neg (by decide +kernel)]; exact ⟨rfl, rfl⟩))
    (fun os started H enc _ => lifted os started H enc)

theorem proved : Rows.CmdPutsSaid :=
  over
#print axioms proved
end Go.Proofs.Ytbhaahkjglfjmaa.cmdPuts
