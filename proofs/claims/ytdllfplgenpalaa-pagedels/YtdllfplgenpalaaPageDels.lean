/-
  Any pages without a key are the document's, and what was handed in stays, for every pages and text.
-/
import Derived.Test.YtdllfplgenpalaaRows
import Derived.Test.YtdllfplgenpalaaPAwake
import Derived.Test.YtdllfplgenpalaaPGreat
import Derived.Test.YtdllfplgenpalaaPCmp
import Derived.Test.YtdllfplgenpalaaPCop
import Derived.Test.YtdllfplgenpalaaPRefI
import Derived.WalkKit
import Derived.ProofKit
import Derived.OpenShut
import Derived.ShutString
import Derived.Lib.SmallJoins
namespace Go.Proofs.Ytdllfplgenpalaa.pageDels
open Go.ChangeShapes Go.WideShapes Go.ChangeAt Go.RowKit Go.Joins Num
open Go.ChangeMaps (open_string shut_string)
set_option linter.unusedVariables false

theorem own : ownKnob Try.prog.godebug = none := by kernel_rfl
open scoped Classical
theorem len_flat {ps : Pages} (h : ∀ p ∈ ps, 1 ≤ p.length) : ps.length ≤ ps.flatten.length := by
  induction ps with
  | nil => simp
  | cons p ps ih =>
    have h1 := h p (by simp)
    have h2 := ih fun q hq => h q (by simp [hq])
    rw [List.flatten_cons, List.length_append, List.length_cons]
    omega
theorem del_small (ps : Pages) (k : ByteArray) (h : SmallQ ps) : (delA ps k).length ≤ 1000000 ∧ ∀ p ∈ delA ps k, p.length ≤ 1000000 := by
  have h1 := h.2.2
  by_cases hr : RightP ps
  · rw [delA_yes hr]
    have hd := del_right hr k
    refine ⟨?_, fun p hp => by have := hd.1 p hp; omega⟩
    have h2 := len_flat fun p hp => (hd.1 p hp).1
    rw [del_flat hr] at h2
    have h3 := del_len ps.flatten k
    omega
  · rw [delA_no hr]
    exact ⟨by simp, by simp⟩
set_option maxRecDepth 100000 in
set_option maxHeartbeats 2000000 in

theorem walk (ao0 : Option Addr) (cap0 : Nat) (l0 : Pages) (s1 : ByteArray) (ws1 : s1.size ≤ maxLen) (w : World) (hl0 : LiesPg w w.heap.size ao0 l0) :
    Calls Try.prog 5 #[.slice ao0 l0.length cap0, .string s1] w fun e w' => e = .returned (.bool true) ∧ Below w.heap.size w w' := by
  have hgr := great_sum l0 ao0 cap0 w hl0
  have hcop := fun (hs : SmallQ l0) => lawCopied_any l0 ao0 cap0 (by have := hs.1; omega) (fun p hp => by have := hs.2.1 p hp; omega) w hl0
  have hput := fun (hs : SmallQ l0) w1 (hb : Below w.heap.size w w1) => del_any l0 ao0 cap0 s1 (by have := hs.1; omega) (fun p hp => by have := hs.2.1 p hp; omega) w1 (liesPg_next hl0 hb hb.size)
  have href := fun (hs : SmallQ l0) w1 (hb : Below w.heap.size w w1) => refDel_any l0 ao0 cap0 s1 (by have := hs.1; omega) (fun p hp => by have := hs.2.1 p hp; omega) w1 (liesPg_next hl0 hb hb.size)
  have hsmall := del_small l0 s1
  generalize delA l0 s1 = O at *
  have hlow := fun w1 (hb : Below w.heap.size w w1) => liesPg_next hl0 hb hb.size
  go_enter Try.func5, Try.ntmps5
  go_wp2_with (first
    | (go_at_call 8; refine hgr.mono ?_; rintro e w1 ⟨⟨b, rfl, hsm⟩, hq⟩; have hq' := hq.symm; clear hq; subst hq'; cases b)
    | (go_at_call 12; have hs : SmallQ l0 := (by first | exact hsm rfl | exact hsm trivial | exact hsm); refine (hcop hs).mono ?_; rintro e w2 ⟨vc, rfl, hown2, hb2⟩; obtain ⟨ao2, cap2, rfl, hl2⟩ := ownPs_lies hown2)
    | (go_at_call 16; refine (hput hs w2 hb2).mono ?_; rintro e w3 ⟨ao3, cap3, rfl, hl3, hb3⟩; have hb3' := below_next hb2 (Nat.le_refl _) hb3; have hl23 := liesPg_next hl2 hb3 hb3.size)
    | (go_at_call 17; refine (href hs w3 hb3').mono ?_; rintro e w4 ⟨ao4, cap4, rfl, hl4, hb4⟩; have hb4' := below_next hb3' (Nat.le_refl _) hb4; have hl24 := liesPg_next hl23 hb4 hb4.size; have hl34 := liesPg_next hl3 hb4 hb4.size)
    | (go_at_call 13; refine (pages_same ao0 ao2 cap0 cap2 l0 (by have := hs.1; omega) (fun p hp => by have := hs.2.1 p hp; omega) w5 (hlow w5 hb5') hl25).mono ?_; rintro e w6 ⟨rfl, hb6⟩; have hb6' := below_next hb5' (Nat.le_refl _) hb6)
    | (go_at_call 13; refine (pages_same ao3 ao4 cap3 cap4 O (hsmall hs).1 (hsmall hs).2 w4 hl34 hl4).mono ?_; rintro e w5 ⟨rfl, hb5⟩; have hb5' := below_next hb4' (Nat.le_refl _) hb5; have hl25 := liesPg_next hl24 hb5 hb5.size)
    | (go_at_call 11; refine (awake_any _).mono ?_; rintro e w7 ⟨rfl, hb7⟩))
  all_goals go_ret
  all_goals first
    | exact ⟨rfl, hb7⟩
    | exact ⟨rfl, below_next hb6' (Nat.le_refl _) hb7⟩

set_option maxRecDepth 100000 in
theorem lifted (os : Os) (started : os.Started) (H : Type) (enc : TypeId × Value → H) :
    ReturnsInHanded {} Try.checked os 5 .any (Rows.pageDelsSpec.pre6 enc Try.prog Try.f5 Rows.pageDelsRow.domain false) (Rows.pageDelsSpec.post enc Try.prog Try.f5 false true false false) := by
  refine returnsInHanded_of_change (C := Try.checked) own started (by kernel_rfl) Try.func5
    (ChangeSpec.witness6 (enc := enc) (C := Try.checked) false ⟨#[], #[.slice none 0 0, .string ByteArray.empty], []⟩ 8 (by kernel_rfl) (by kernel_rfl) (by kernel_rfl) (by kernel_rfl)) ?_
  intro W base args ds gs before hval0 hW hcnd _
  have hval : ∀ (j : Nat) t v, Try.f5.params[j]? = some t → args[j]? = some v → Value.okWide Try.prog W .any base t v := hval0
  have hW' := hW
  have hWk := hW
  obtain ⟨p, q, hA0, hV, rfl, hfz, hnd⟩ := hW
  have hA : DataW.TrodAll enc Try.prog W 0 (fun _ => true) true Try.f5.params.toList args.toList ds p := hA0
  rw [Try.params5] at hA hval
  obtain ⟨v0, vs0, d0, ds0, p0, q0, hargs, rfl, rfl, h0, r0⟩ := trodAll_cons hA
  obtain ⟨v1, vs1, d1, ds1, p1, q1, rfl, rfl, rfl, h1, r1⟩ := trodAll_cons r0
  obtain ⟨rfl, rfl, rfl⟩ := trodAll_nil r1
  obtain rfl : args = #[v0, v1] := by cases args; simp_all
  obtain ⟨rfl, rfl⟩ := trodVars_none hV
  have hk0 := h0
  obtain ⟨ao0, cap0, l0, rfl, hlies0⟩ := open_pages (hval 0 22 v0 rfl rfl) h0
  have hlt0 : ∀ x ∈ p0, x.block < W.heap.size := fun x hx => by simpa using hWk.lt x (by simp [hx])
  obtain ⟨s1, rfl, rfl, rfl, ws1⟩ := open_string Try.underlying9 (hval 1 9 v1 rfl rfl) h1
  clear hA0 hval0
  simp only [List.append_nil] at hW'

  refine (walk ao0 cap0 l0 s1 ws1 W hlies0).mono fun e W' ⟨he, hg⟩ => ?_
  subst he
  exact ⟨_, rfl, _, _, _, [], _, [], hW', trodAll_cons_mk (shut_bool Try.underlying4 _) trodAll_mk0, (trodAll_cons_mk (Below.trod Try.laidOut (by kernel_rfl) (of_decide_eq_true (by kernel_rfl)) hk0 hg hlt0) (trodAll_cons_mk (shut_string Try.underlying9 ws1) trodAll_mk0)), rfl, hg.frame _, fun h => by cases h⟩

theorem over : Rows.pageDelsRow.holds Try.pinned (OpenSpec.ofChange Rows.pageDelsSpec) :=
  OpenClaim.holds_of_wide 5 Try.f5 rfl rfl rfl rfl rfl rfl rfl ⟨rfl, rfl, rfl, rfl, rfl⟩ rfl rfl rfl rfl rfl (by kernel_rfl) Try.func5 (by kernel_rfl)
    (of_decide_eq_true (by kernel_rfl)) (by unfold Func.isWrapper; first | (rw [if_pos (by decide +kernel)]; kernel_rfl) | (rw [if_neg (by decide +kernel)]; exact ⟨rfl, rfl⟩))
    (fun os started H enc _ => lifted os started H enc)

theorem proved : Rows.PageDelsSaid :=
  over
#print axioms proved
end Go.Proofs.Ytdllfplgenpalaa.pageDels
