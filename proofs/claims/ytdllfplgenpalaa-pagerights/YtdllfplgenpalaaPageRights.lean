/-
  Which pages are right is the document's, for every pages.
-/
import Derived.Test.YtdllfplgenpalaaRows
import Derived.Test.YtdllfplgenpalaaPAwake
import Derived.Test.YtdllfplgenpalaaPRight
import Derived.Test.YtdllfplgenpalaaPGreat
import Derived.WalkKit
import Derived.ProofKit
import Derived.OpenShut
import Derived.ShutString
import Derived.Lib.SmallJoins
namespace Go.Proofs.Ytdllfplgenpalaa.pageRights
open Go.ChangeShapes Go.WideShapes Go.ChangeAt Go.RowKit Go.Joins Num
open Go.ChangeMaps (open_string shut_string)
set_option linter.unusedVariables false

theorem own : ownKnob Try.prog.godebug = none := by kernel_rfl
open scoped Classical
set_option maxRecDepth 100000 in
set_option maxHeartbeats 2000000 in

theorem walk (ao0 : Option Addr) (cap0 : Nat) (l0 : Pages) (w : World) (hl0 : LiesPg w w.heap.size ao0 l0) :
    Calls Try.prog 3 #[.slice ao0 l0.length cap0] w fun e w' => e = .returned (.bool true) ∧ Below w.heap.size w w' := by
  have hgr := great_sum l0 ao0 cap0 w hl0
  have hright := fun (hs : SmallQ l0) => right_any l0 ao0 cap0 (by have := hs.1; omega) (fun p hp => by have := hs.2.1 p hp; omega) w hl0
  have href := fun (hs : SmallQ l0) w1 (hb : Below w.heap.size w w1) => refRight_any l0 ao0 cap0 (by have := hs.1; omega) (fun p hp => by have := hs.2.1 p hp; omega) w1 (liesPg_next hl0 hb hb.size)
  generalize tru (RightP l0) = R at *
  go_enter Try.func3, Try.ntmps3
  go_wp2_with (first
    | (go_at_call 8; refine hgr.mono ?_; rintro e w1 ⟨⟨b, rfl, hsm⟩, hq⟩; have hq' := hq.symm; clear hq; subst hq'; cases b)
    | (go_at_call 9; refine (hright (by first | exact hsm rfl | exact hsm trivial | exact hsm)).mono ?_; rintro e w2 ⟨rfl, hb2⟩)
    | (go_at_call 10; refine (href (by first | exact hsm rfl | exact hsm trivial | exact hsm) w2 hb2).mono ?_; rintro e w3 ⟨rfl, hq⟩; have hq' := hq.symm; clear hq; subst hq')
    | (go_at_call 11; refine (awake_any _).mono ?_; rintro e w4 ⟨rfl, hb4⟩))
  all_goals go_ret
  all_goals first
    | exact ⟨rfl, Below.refl _ _⟩
    | exact ⟨rfl, below_next hb2 (Nat.le_refl _) hb4⟩

set_option maxRecDepth 100000 in
theorem lifted (os : Os) (started : os.Started) (H : Type) (enc : TypeId × Value → H) :
    ReturnsInHanded {} Try.checked os 3 .any (Rows.pageRightsSpec.pre6 enc Try.prog Try.f3 Rows.pageRightsRow.domain false) (Rows.pageRightsSpec.post enc Try.prog Try.f3 false true false false) := by
  refine returnsInHanded_of_change (C := Try.checked) own started (by kernel_rfl) Try.func3
    (ChangeSpec.witness6 (enc := enc) (C := Try.checked) false ⟨#[], #[.slice none 0 0], []⟩ 8 (by kernel_rfl) (by kernel_rfl) (by kernel_rfl) (by kernel_rfl)) ?_
  intro W base args ds gs before hval0 hW hcnd _
  have hval : ∀ (j : Nat) t v, Try.f3.params[j]? = some t → args[j]? = some v → Value.okWide Try.prog W .any base t v := hval0
  have hW' := hW
  have hWk := hW
  obtain ⟨p, q, hA0, hV, rfl, hfz, hnd⟩ := hW
  have hA : DataW.TrodAll enc Try.prog W 0 (fun _ => true) true Try.f3.params.toList args.toList ds p := hA0
  rw [Try.params3] at hA hval
  obtain ⟨v0, vs0, d0, ds0, p0, q0, hargs, rfl, rfl, h0, r0⟩ := trodAll_cons hA
  obtain ⟨rfl, rfl, rfl⟩ := trodAll_nil r0
  obtain rfl : args = #[v0] := by cases args; simp_all
  obtain ⟨rfl, rfl⟩ := trodVars_none hV
  have hk0 := h0
  obtain ⟨ao0, cap0, l0, rfl, hlies0⟩ := open_pages (hval 0 22 v0 rfl rfl) h0
  have hlt0 : ∀ x ∈ p0, x.block < W.heap.size := fun x hx => by simpa using hWk.lt x (by simp [hx])
  clear hA0 hval0
  simp only [List.append_nil] at hW'

  refine (walk ao0 cap0 l0 W hlies0).mono fun e W' ⟨he, hg⟩ => ?_
  subst he
  exact ⟨_, rfl, _, _, _, [], _, [], hW', trodAll_cons_mk (shut_bool Try.underlying4 _) trodAll_mk0, (trodAll_cons_mk (Below.trod Try.laidOut (by kernel_rfl) (of_decide_eq_true (by kernel_rfl)) hk0 hg hlt0) trodAll_mk0), rfl, hg.frame _, fun h => by cases h⟩

theorem over : Rows.pageRightsRow.holds Try.pinned (OpenSpec.ofChange Rows.pageRightsSpec) :=
  OpenClaim.holds_of_wide 3 Try.f3 rfl rfl rfl rfl rfl rfl rfl ⟨rfl, rfl, rfl, rfl, rfl⟩ rfl rfl rfl rfl rfl (by kernel_rfl) Try.func3 (by kernel_rfl)
    (of_decide_eq_true (by kernel_rfl)) (by unfold Func.isWrapper; first | (rw [if_pos (by decide +kernel)]; kernel_rfl) | (rw [if_neg (by decide +kernel)]; exact ⟨rfl, rfl⟩))
    (fun os started H enc _ => lifted os started H enc)

theorem proved : Rows.PageRightsSaid :=
  over
#print axioms proved
end Go.Proofs.Ytdllfplgenpalaa.pageRights
