/-
  What stands at a key, and between two keys, is the document's, for every pages, texts and number.
-/
import Derived.Test.YtdllfplgenpalaaRows
import Derived.Test.YtdllfplgenpalaaPAwake
import Derived.Test.YtdllfplgenpalaaPGreat
import Derived.Test.YtdllfplgenpalaaPCmp
import Derived.Test.YtdllfplgenpalaaPScnB
import Derived.Test.YtdllfplgenpalaaPRefB
import Derived.WalkKit
import Derived.ProofKit
import Derived.OpenShut
import Derived.ShutString
import Derived.Lib.SmallJoins
namespace Go.Proofs.Ytdllfplgenpalaa.pageScans
open Go.ChangeShapes Go.WideShapes Go.ChangeAt Go.RowKit Go.Joins Num
open Go.ChangeMaps (open_string shut_string)
set_option linter.unusedVariables false

theorem own : ownKnob Try.prog.godebug = none := by kernel_rfl
open scoped Classical
theorem scan_small (ps : Pages) (lo hi : ByteArray) (n : Int) (h : SmallQ ps) : (scanA ps lo hi n).length ≤ 1000000 := by
  have h1 := h.2.2
  by_cases hr : RightP ps
  · rw [scanA_yes hr]
    have := scan_len ps.flatten lo hi n
    omega
  · rw [scanA_no hr]
    simp
set_option maxRecDepth 100000 in
set_option maxHeartbeats 2000000 in

theorem walk (ao0 : Option Addr) (cap0 : Nat) (l0 : Pages) (s1 : ByteArray) (ws1 : s1.size ≤ maxLen) (s2 : ByteArray) (ws2 : s2.size ≤ maxLen) (s3 : ByteArray) (ws3 : s3.size ≤ maxLen) (a4 : Int) (ha4 : -9223372036854775808 ≤ a4 ∧ a4 ≤ 9223372036854775807) (w : World) (hl0 : LiesPg w w.heap.size ao0 l0) :
    Calls Try.prog 6 #[.slice ao0 l0.length cap0, .string s1, .string s2, .string s3, .int .i64 a4] w fun e w' => e = .returned (.bool true) ∧ Below w.heap.size w w' := by
  have hgr := great_sum l0 ao0 cap0 w hl0
  have hget := fun (hs : SmallQ l0) => get_any l0 ao0 cap0 s1 (by have := hs.1; omega) (fun p hp => by have := hs.2.1 p hp; omega) w hl0
  have hrget := fun (hs : SmallQ l0) w1 (hb : Below w.heap.size w w1) => refGet_any l0 ao0 cap0 s1 (by have := hs.1; omega) (fun p hp => by have := hs.2.1 p hp; omega) w1 (liesPg_next hl0 hb hb.size)
  have hscan := fun (hs : SmallQ l0) w1 (hb : Below w.heap.size w w1) => scan_any l0 ao0 cap0 s2 s3 a4 (by have := hs.1; omega) (fun p hp => by have := hs.2.1 p hp; omega) (fun _ => by have := hs.2.2; omega) w1 (liesPg_next hl0 hb hb.size)
  have hrscan := fun (hs : SmallQ l0) w1 (hb : Below w.heap.size w w1) => refScan_any l0 ao0 cap0 s2 s3 a4 (by have := hs.1; omega) (fun p hp => by have := hs.2.1 p hp; omega) (fun _ => by have := hs.2.2; omega) w1 (liesPg_next hl0 hb hb.size)
  have hsmall := scan_small l0 s2 s3 a4
  generalize scanA l0 s2 s3 a4 = O at *
  generalize lookS (lookA l0 s1) = GS at *
  generalize lookB (lookA l0 s1) = GB at *
  go_enter Try.func6, Try.ntmps6
  go_wp2_with (first
    | (go_at_call 8; refine hgr.mono ?_; rintro e w1 ⟨⟨b, rfl, hsm⟩, hq⟩; have hq' := hq.symm; clear hq; subst hq'; cases b)
    | (go_at_call 18; have hs : SmallQ l0 := (by first | exact hsm rfl | exact hsm trivial | exact hsm); refine (hget hs).mono ?_; rintro e w2 ⟨rfl, hb2⟩)
    | (go_at_call 19; refine (hrget hs w2 hb2).mono ?_; rintro e w3 ⟨rfl, hq⟩; have hq' := hq.symm; clear hq; subst hq')
    | (go_at_call 21; refine (hscan hs w2 hb2).mono ?_; rintro e w3 ⟨ao3, cap3, rfl, hl3, hb3⟩; have hb3' := below_next hb2 (Nat.le_refl _) hb3)
    | (go_at_call 22; refine (hrscan hs w3 hb3').mono ?_; rintro e w4 ⟨ao4, cap4, rfl, hl4, hb4⟩; have hb4' := below_next hb3' (Nat.le_refl _) hb4; have hl34 := liesPr_next hl3 hb4 hb4.size)
    | (go_at_call 20; refine (pairs_same ao3 ao4 cap3 cap4 O (hsmall hs) w4 hl34 hl4).mono ?_; rintro e w5 ⟨rfl, hb5⟩; have hb5' := below_next hb4' (Nat.le_refl _) hb5)
    | (go_at_call 11; refine (awake_any _).mono ?_; rintro e w7 ⟨rfl, hb7⟩))
  all_goals go_ret
  all_goals first
    | exact ⟨rfl, hb7⟩
    | exact ⟨rfl, below_next hb5' (Nat.le_refl _) hb7⟩

set_option maxRecDepth 100000 in
theorem lifted (os : Os) (started : os.Started) (H : Type) (enc : TypeId × Value → H) :
    ReturnsInHanded {} Try.checked os 6 .any (Rows.pageScansSpec.pre6 enc Try.prog Try.f6 Rows.pageScansRow.domain false) (Rows.pageScansSpec.post enc Try.prog Try.f6 false true false false) := by
  refine returnsInHanded_of_change (C := Try.checked) own started (by kernel_rfl) Try.func6
    (ChangeSpec.witness6 (enc := enc) (C := Try.checked) false ⟨#[], #[.slice none 0 0, .string ByteArray.empty, .string ByteArray.empty, .string ByteArray.empty, .int .i64 0], []⟩ 8 (by kernel_rfl) (by kernel_rfl) (by kernel_rfl) (by kernel_rfl)) ?_
  intro W base args ds gs before hval0 hW hcnd _
  have hval : ∀ (j : Nat) t v, Try.f6.params[j]? = some t → args[j]? = some v → Value.okWide Try.prog W .any base t v := hval0
  have hW' := hW
  have hWk := hW
  obtain ⟨p, q, hA0, hV, rfl, hfz, hnd⟩ := hW
  have hA : DataW.TrodAll enc Try.prog W 0 (fun _ => true) true Try.f6.params.toList args.toList ds p := hA0
  rw [Try.params6] at hA hval
  obtain ⟨v0, vs0, d0, ds0, p0, q0, hargs, rfl, rfl, h0, r0⟩ := trodAll_cons hA
  obtain ⟨v1, vs1, d1, ds1, p1, q1, rfl, rfl, rfl, h1, r1⟩ := trodAll_cons r0
  obtain ⟨v2, vs2, d2, ds2, p2, q2, rfl, rfl, rfl, h2, r2⟩ := trodAll_cons r1
  obtain ⟨v3, vs3, d3, ds3, p3, q3, rfl, rfl, rfl, h3, r3⟩ := trodAll_cons r2
  obtain ⟨v4, vs4, d4, ds4, p4, q4, rfl, rfl, rfl, h4, r4⟩ := trodAll_cons r3
  obtain ⟨rfl, rfl, rfl⟩ := trodAll_nil r4
  obtain rfl : args = #[v0, v1, v2, v3, v4] := by cases args; simp_all
  obtain ⟨rfl, rfl⟩ := trodVars_none hV
  have hk0 := h0
  obtain ⟨ao0, cap0, l0, rfl, hlies0⟩ := open_pages (hval 0 22 v0 rfl rfl) h0
  have hlt0 : ∀ x ∈ p0, x.block < W.heap.size := fun x hx => by simpa using hWk.lt x (by simp [hx])
  obtain ⟨s1, rfl, rfl, rfl, ws1⟩ := open_string Try.underlying9 (hval 1 9 v1 rfl rfl) h1
  obtain ⟨s2, rfl, rfl, rfl, ws2⟩ := open_string Try.underlying9 (hval 2 9 v2 rfl rfl) h2
  obtain ⟨s3, rfl, rfl, rfl, ws3⟩ := open_string Try.underlying9 (hval 3 9 v3 rfl rfl) h3
  obtain ⟨a4, rfl, rfl, rfl, wa4⟩ := open_int Try.underlying3 (hval 4 3 v4 rfl rfl) h4
  have ba4 := bounds_i64 wa4
  clear hA0 hval0
  simp only [List.append_nil] at hW'

  refine (walk ao0 cap0 l0 s1 ws1 s2 ws2 s3 ws3 a4 (by omega) W hlies0).mono fun e W' ⟨he, hg⟩ => ?_
  subst he
  exact ⟨_, rfl, _, _, _, [], _, [], hW', trodAll_cons_mk (shut_bool Try.underlying4 _) trodAll_mk0, (trodAll_cons_mk (Below.trod Try.laidOut (by kernel_rfl) (of_decide_eq_true (by kernel_rfl)) hk0 hg hlt0) (trodAll_cons_mk (shut_string Try.underlying9 ws1) (trodAll_cons_mk (shut_string Try.underlying9 ws2) (trodAll_cons_mk (shut_string Try.underlying9 ws3) (trodAll_cons_mk (shut_int Try.underlying3 wa4) trodAll_mk0))))), rfl, hg.frame _, fun h => by cases h⟩

theorem over : Rows.pageScansRow.holds Try.pinned (OpenSpec.ofChange Rows.pageScansSpec) :=
  OpenClaim.holds_of_wide 6 Try.f6 rfl rfl rfl rfl rfl rfl rfl ⟨rfl, rfl, rfl, rfl, rfl⟩ rfl rfl rfl rfl rfl (by kernel_rfl) Try.func6 (by kernel_rfl)
    (of_decide_eq_true (by kernel_rfl)) (by unfold Func.isWrapper; first | (rw [if_pos (by decide +kernel)]; kernel_rfl) | (rw [if_neg (by decide +kernel)]; exact ⟨rfl, rfl⟩))
    (fun os started H enc _ => lifted os started H enc)

theorem proved : Rows.PageScansSaid :=
  over
#print axioms proved
end Go.Proofs.Ytdllfplgenpalaa.pageScans
