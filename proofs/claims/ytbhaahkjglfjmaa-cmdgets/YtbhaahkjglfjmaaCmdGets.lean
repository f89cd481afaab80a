/-
  Proved: for every text the law CmdGets returns true: bytes that cmd.Get reads are those of the command that it tells, and else they are refused, with nothing told (13.3), and the document's example holds; the text reads behind the call as before. No condition.
-/
import Derived.Test.YtbhaahkjglfjmaaRows
import Derived.Test.YtbhaahkjglfjmaaCPut
import Derived.Test.YtbhaahkjglfjmaaCGetB
import Derived.Test.YtbhaahkjglfjmaaCRPut
import Derived.Test.YtbhaahkjglfjmaaCSpoil
import Derived.WalkKit
import Derived.ProofKit
import Derived.OpenShut
import Derived.ShutString
import Derived.Lib.SmallJoins
namespace Go.Proofs.Ytbhaahkjglfjmaa.cmdGets
open Go.ChangeShapes Go.WideShapes Go.ChangeAt Go.RowKit Go.Joins Num
open Go.ChangeMaps (open_string shut_string)
set_option linter.unusedVariables false

theorem own : ownKnob Try.prog.godebug = none := by kernel_rfl

set_option maxRecDepth 100000
set_option maxHeartbeats 4000000
theorem core_no (s0 : ByteArray) (hl : ¬ 60000 < (s0.size : Int)) (w : World)
    (hget : ∀ w, Calls Try.prog 15 #[.string s0] w fun e w' => e = .returned (.tuple #[.agg #[.int .i64 0, .int .i64 0, .int .i64 0, .int .i64 0, .slice none 0 0, .slice none 0 0, .slice none 0 0, .int .i64 0, .int .i64 0, .int .i64 0, .string ⟨#[]⟩, .int .i64 0, .slice none 0 0], .int .i64 3]) ∧ Below w.heap.size w w') :
    Calls Try.prog 5 #[.string s0] w fun e w' => e = .returned (.bool true) ∧ Below w.heap.size w w' := by
  go_enter Try.func5, Try.ntmps5
  go_wp2_with (first
    | (go_at_call 15; refine (hget _).mono ?_; rintro e w1 ⟨rfl, hb1⟩)
    | (go_at_call 14; refine (num_any _ _).mono ?_; rintro e w2 ⟨rfl, hw2⟩; subst hw2)
    | (go_at_call 16; refine (same0 _).mono ?_; rintro e w3 ⟨rfl, hb3⟩)
    | (go_at_call 11; refine (awake_any _).mono ?_; rintro e w4 ⟨rfl, hb4⟩))
  go_ret
  exact ⟨rfl, below_next (below_next hb1 (Nat.le_refl _) (below_box0 hb3)) (Nat.le_refl _) hb4⟩
theorem core_yes (s0 : ByteArray) (hl : ¬ 60000 < (s0.size : Int)) (w : World) (y : Cmd)
    (hget : ∀ w, Calls Try.prog 15 #[.string s0] w fun e w' => ∃ t : Cs, e = .returned (.tuple #[.agg #[.int .i64 y.kind, .int .i64 y.client, .int .i64 y.seq, .int .i64 y.snap, .slice t.ko y.keys.length t.kc, .slice t.ro y.rngs.length t.rc, .slice t.wo y.wrts.length t.wc, .int .i64 y.dead, .int .i64 y.aft, .int .i64 y.held, .string y.text, .int .i64 y.code, .slice t.xo y.rows.length t.xc], .int .i64 0]) ∧ OwnC w.heap.size w' t y ∧ Below w.heap.size w w')
    (hput : ∀ t w, LiesC w w.heap.size t y → Calls Try.prog 13 #[.agg #[.int .i64 y.kind, .int .i64 y.client, .int .i64 y.seq, .int .i64 y.snap, .slice t.ko y.keys.length t.kc, .slice t.ro y.rngs.length t.rc, .slice t.wo y.wrts.length t.wc, .int .i64 y.dead, .int .i64 y.aft, .int .i64 y.held, .string y.text, .int .i64 y.code, .slice t.xo y.rows.length t.xc]] w fun e w' => e = .returned (.tuple #[.string s0, .int .i64 0]) ∧ Below w.heap.size w w') :
    Calls Try.prog 5 #[.string s0] w fun e w' => e = .returned (.bool true) ∧ Below w.heap.size w w' := by
  go_enter Try.func5, Try.ntmps5
  go_wp2_with (first
    | (go_at_call 15; refine (hget _).mono ?_; rintro e w1 ⟨t, rfl, hO1, hb1⟩; have hl1 := hO1.lies)
    | (go_at_call 14; refine (num_any _ _).mono ?_; rintro e w2 ⟨rfl, hw2⟩; subst hw2)
    | (go_at_call 13; refine (hput _ _ (liesC_next hl1 ((Below.refl _ _).alloc (Nat.le_refl _) _))).mono ?_; rintro e w3 ⟨rfl, hb3⟩)
    | (go_at_call 11; refine (awake_any _).mono ?_; rintro e w4 ⟨rfl, hb4⟩))
  go_ret
  exact ⟨rfl, below_next (below_next hb1 (Nat.le_refl _) (below_box0 hb3)) (Nat.le_refl _) hb4⟩

theorem walk (s0 : ByteArray) (ws0 : s0.size ≤ maxLen) (w : World) :
    Calls Try.prog 5 #[.string s0] w fun e w' => e = .returned (.bool true) ∧ Below w.heap.size w w' := by
  by_cases hl : 60000 < (s0.size : Int)
  · go_enter Try.func5, Try.ntmps5
    go_wp2_with (first
      | (go_at_call 11; refine (awake_any _).mono ?_; rintro e w3 ⟨rfl, hb3⟩))
    go_ret
    exact ⟨rfl, hb3⟩
  · by_cases h2 : 20000 < (s0.size : Int)
    · exact core_no s0 hl w (dget_long s0 h2)
    · cases ho : openL s0.data.toList with
      | none => exact core_no s0 hl w (dget_none s0 h2 ho)
      | some plain =>
        have hp := open_len4 s0 plain ho
        cases hr : rdCmd plain with
        | none => exact core_no s0 hl w (dget_panic s0 h2 plain ho (by omega) hr)
        | some q =>
          obtain ⟨y, r⟩ := q
          have hex : (cmdB y).length + r.length = plain.length := rdCmd_len hr
          by_cases hok : CmdOk y
          · have hpy := dput_yes y hok (by omega)
            by_cases he : str (sealL (cmdB y)) = s0
            · rw [he] at hpy
              refine core_yes s0 hl w y (dget_yes s0 h2 plain ho (by omega) y r hr hpy) ?_
              have h := refPut_yes y hok (rdCmd_in' hr) (by omega)
              rw [show putR y = _ from if_pos (by omega), he] at h
              exact h
            · exact core_no s0 hl w (dget_bad s0 h2 plain ho (by omega) y r hr _ _ hpy he)
          · refine core_no s0 hl w (dget_bad s0 h2 plain ho (by omega) y r hr _ _ (dput_no y hok) ?_)
            intro e
            rw [← e] at hp
            have : (⟨#[]⟩ : ByteArray).size = 0 := rfl
            omega

set_option maxRecDepth 100000 in
theorem lifted (os : Os) (started : os.Started) (H : Type) (enc : TypeId × Value → H) :
    ReturnsInHanded {} Try.checked os 5 .any (Rows.cmdGetsSpec.pre6 enc Try.prog Try.f5 Rows.cmdGetsRow.domain false) (Rows.cmdGetsSpec.post enc Try.prog Try.f5 false true false false) := by
  refine returnsInHanded_of_change (C := Try.checked) own started (by kernel_rfl) Try.func5
    (ChangeSpec.witness6 (enc := enc) (C := Try.checked) false ⟨#[], #[.string ByteArray.empty], []⟩ 8 (by kernel_rfl) (by kernel_rfl) (by kernel_rfl) (by kernel_rfl)) ?_
  intro W base args ds gs before hval0 hW hcnd _
  have hval : ∀ (j : Nat) t v, Try.f5.params[j]? = some t → args[j]? = some v → Value.okWide Try.prog W .any base t v := hval0
  have hW' := hW
  have hWk := hW
  obtain ⟨p, q, hA0, hV, rfl, hfz, hnd⟩ := hW
  have hA : DataW.TrodAll enc Try.prog W 0 (fun _ => true) true Try.f5.params.toList args.toList ds p := hA0
  rw [Try.params5] at hA hval
  obtain ⟨v0, vs0, d0, ds0, p0, q0, hargs, rfl, rfl, h0, rt0⟩ := trodAll_cons hA
  obtain ⟨rfl, rfl, rfl⟩ := trodAll_nil rt0
  obtain rfl : args = #[v0] := by cases args; simp_all
  obtain ⟨rfl, rfl⟩ := trodVars_none hV
  obtain ⟨s0, rfl, rfl, rfl, ws0⟩ := open_string Try.underlying9 (hval 0 9 v0 rfl rfl) h0
  clear hA0 hval0
  simp only [List.append_nil] at hW'

  refine (walk s0 ws0 W).mono fun e W' ⟨he, hg⟩ => ?_
  subst he
  exact ⟨_, rfl, _, _, _, [], _, [], hW', trodAll_cons_mk (shut_bool Try.underlying4 _) trodAll_mk0, (trodAll_cons_mk (shut_string Try.underlying9 ws0) trodAll_mk0), rfl, hg.frame _, fun h => by cases h⟩

theorem over : Rows.cmdGetsRow.holds Try.pinned (OpenSpec.ofChange Rows.cmdGetsSpec) :=
  OpenClaim.holds_of_wide 5 Try.f5 rfl rfl rfl rfl rfl rfl rfl ⟨rfl, rfl, rfl, rfl, rfl⟩ rfl rfl rfl rfl rfl (by kernel_rfl) Try.func5 (by kernel_rfl)
    (of_decide_eq_true (by kernel_rfl)) (by unfold Func.isWrapper; first | (rw [if_pos (by decide +kernel)]; kernel_rfl) | (rw [if_neg (by decide +kernel)]; exact ⟨rfl, rfl⟩))
    (fun os started H enc _ => lifted os started H enc)

theorem proved : Rows.CmdGetsSaid :=
  over
#print axioms proved
end Go.Proofs.Ytbhaahkjglfjmaa.cmdGets
