/-
  Proved: for every entry and number, the law ApplyNil returns true: a machine that there is not answers nothing (14.3), and the document's example holds; the arguments stay as they were.
-/
import Derived.Test.YtclliljkmmpglabGreatRows
import Derived.Test.YtclliljkmmpglabGreatApW
import Derived.Test.YtclliljkmmpglabGreatApU
import Derived.WalkKit
import Derived.ProofKit
import Derived.OpenShut
import Derived.ShutString
import Derived.Lib.SmallJoins
namespace Go.Proofs.YtclliljkmmpglabGreat.applyNil
open Go.ChangeShapes Go.WideShapes Go.ChangeAt Go.RowKit Go.Joins Num
open Go.ChangeMaps (open_string shut_string)
set_option linter.unusedVariables false
set_option maxRecDepth 100000

theorem own : ownKnob Tryz.prog.godebug = none := by kernel_rfl

open scoped Classical
set_option maxRecDepth 100000
set_option maxHeartbeats 1000000

theorem walk (t0 : Int) (x0 : ByteArray) (a1 : Int) (ha1 : -9223372036854775808 ≤ a1 ∧ a1 ≤ 9223372036854775807) (w : World) :
    Calls Tryz.prog 3 #[.agg #[.int .i64 t0, .string x0], .int .i64 a1] w fun e w' => e = .returned (.bool true) ∧ Below w.heap.size w w' := by
  have hd := nil_do t0 x0
  have ha := nil_answer a1 a1
  go_enter Tryz.func3, Tryz.ntmps3
  go_wp2_with (first
    | (go_at_call 4; refine (hd _).mono ?_; rintro e w1 ⟨rfl, hb1⟩; have hdb := heap_new w1 (dnBox ⟨0, 0, 0, 20⟩))
    | (go_at_call 5; refine (ha _).mono ?_; rintro e w2 ⟨rfl, hb2⟩; have dc := box_cell (alloc_box (dnBox ⟨0, 0, 0, 0⟩) (below_box hb2 hdb)) 3 _ rfl; have HB2 : Hid _ := hb2; clear hb2 hdb)
    | (go_at_call 6; refine (nil_dones _).mono ?_; rintro e wn ⟨rfl, hq⟩; have hq2 := hq.symm; clear hq; subst hq2)
    | (go_at_call 7; refine (nil_time _).mono ?_; rintro e wn ⟨rfl, hq⟩; have hq2 := hq.symm; clear hq; subst hq2)
    | (go_at_call 8; refine (nil_store _).mono ?_; rintro e wn ⟨rfl, hq⟩; have hq2 := hq.symm; clear hq; subst hq2)
    | (go_at_call 9; refine (nil_copy _).mono ?_; rintro e wn ⟨rfl, hq⟩; have hq2 := hq.symm; clear hq; subst hq2)
    | (go_at_call 10; refine (awake14 _).mono ?_; rintro e w9 ⟨rfl, hb9⟩))
  go_ret
  have h1 : Below w.heap.size w w1 := below_box0 hb1
  have h2 := h1.alloc h1.size (dnBox ⟨0, 0, 0, 20⟩)
  have h3 := below_next h2 (Nat.le_refl _) HB2.out
  exact ⟨rfl, below_next (h3.alloc h3.size _) (Nat.le_refl _) hb9⟩

set_option maxRecDepth 100000 in
theorem lifted (os : Os) (started : os.Started) (H : Type) (enc : TypeId × Value → H) :
    ReturnsInHanded {} Tryz.checked os 3 .any (Rows.applyNilSpec.pre6 enc Tryz.prog Tryz.f3 Rows.applyNilRow.domain false) (Rows.applyNilSpec.post enc Tryz.prog Tryz.f3 false true false false) := by
  refine returnsInHanded_of_change (C := Tryz.checked) own started (by kernel_rfl) Tryz.func3
    (ChangeSpec.witness6 (enc := enc) (C := Tryz.checked) false ⟨#[], #[.agg #[.int .i64 0, .string ⟨#[]⟩], .int .i64 0], []⟩ 8 (by kernel_rfl) (by kernel_rfl) (by kernel_rfl) (by kernel_rfl)) ?_
  intro W base args ds gs before hval0 hW hcnd _
  have hval : ∀ (j : Nat) t v, Tryz.f3.params[j]? = some t → args[j]? = some v → Value.okWide Tryz.prog W .any base t v := hval0
  have hW' := hW
  have hWk := hW
  obtain ⟨p, q, hA0, hV, rfl, hfz, hnd⟩ := hW
  have hA : DataW.TrodAll enc Tryz.prog W 0 (fun _ => true) true Tryz.f3.params.toList args.toList ds p := hA0
  rw [Tryz.params3] at hA hval
  obtain ⟨v0, vs0, d0, ds0, p0, q0, hargs, rfl, rfl, h0, rt0⟩ := trodAll_cons hA
  obtain ⟨v1, vs1, d1, ds1, p1, q1, rfl, rfl, rfl, h1, rt1⟩ := trodAll_cons rt0
  obtain ⟨rfl, rfl, rfl⟩ := trodAll_nil rt1
  obtain rfl : args = #[v0, v1] := by cases args; simp_all
  obtain ⟨rfl, rfl⟩ := trodVars_none hV
  have hk0 := h0
  obtain ⟨t0, x0, rfl⟩ := open_ent (hval 0 23 v0 rfl rfl) h0
  have hlt0 : ∀ x ∈ p0, x.block < W.heap.size := fun x hx => by simpa using hWk.lt x (by simp [hx])
  obtain ⟨a1, rfl, rfl, rfl, wa1⟩ := open_int Tryz.underlying3 (hval 1 3 v1 rfl rfl) h1
  have ba1 := bounds_i64 wa1
  clear hA0 hval0
  simp only [List.append_nil] at hW'

  refine (walk t0 x0 a1 (by omega) W).mono fun e W' ⟨he, hg⟩ => ?_
  subst he
  exact ⟨_, rfl, _, _, _, [], _, [], hW', trodAll_cons_mk (shut_bool Tryz.underlying4 _) trodAll_mk0, (trodAll_cons_mk (Below.trod Tryz.laidOut (by kernel_rfl) (of_decide_eq_true (by kernel_rfl)) hk0 hg hlt0) (trodAll_cons_mk (shut_int Tryz.underlying3 wa1) trodAll_mk0)), rfl, hg.frame _, fun h => by cases h⟩

theorem over : Rows.applyNilRow.holds Tryz.pinned (OpenSpec.ofChange Rows.applyNilSpec) :=
  OpenClaim.holds_of_wide 3 Tryz.f3 rfl rfl rfl rfl rfl rfl rfl ⟨rfl, rfl, rfl, rfl, rfl⟩ rfl rfl rfl rfl rfl (by kernel_rfl) Tryz.func3 (by kernel_rfl)
    (of_decide_eq_true (by kernel_rfl)) (by unfold Func.isWrapper; first | (rw [if_pos (by decide +kernel)]; kernel_rfl) | (rw [if_neg (by decide +kernel)]; exact ⟨rfl, rfl⟩))
    (fun os started H enc _ => lifted os started H enc)

theorem proved : Rows.ApplyNilSaid :=
  over
#print axioms proved
end Go.Proofs.YtclliljkmmpglabGreat.applyNil
