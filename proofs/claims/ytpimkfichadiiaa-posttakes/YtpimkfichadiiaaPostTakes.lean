/-
  What is taken out of any messages, and what is left, is the document's, for every messages and place.
-/
import Derived.Test.YtpimkfichadiiaaRows
import Derived.Test.YtpimkfichadiiaaMsLit
import Derived.Test.YtpimkfichadiiaaMsHev
import Derived.WalkKit
import Derived.ProofKit
import Derived.OpenShut
import Derived.ShutString
import Derived.Lib.SmallJoins
namespace Go.Proofs.Ytpimkfichadiiaa.postTakes
open Go.ChangeShapes Go.WideShapes Go.ChangeAt Go.RowKit Go.Joins Num
open Go.ChangeMaps (open_string shut_string)
set_option linter.unusedVariables false

theorem own : ownKnob Try.prog.godebug = none := by kernel_rfl
set_option maxRecDepth 100000 in
set_option maxHeartbeats 2000000 in
theorem walk_no (ao0 : Option Addr) (cap0 : Nat) (l0 : Msgs) (a1 : Int) (hi : a1 < 0 ∨ (l0.length : Int) ≤ a1) (w : World) (hl0 : LiesM w w.heap.size ao0 l0) :
    Calls Try.prog 4 #[.slice ao0 l0.length cap0, .int .i64 a1] w fun e w' => e = .returned (.bool true) ∧ Below w.heap.size w w' := by
  have hhv := heavy_any l0 ao0 cap0 w hl0
  have hd := take_no l0.length ao0 cap0 a1 hi w
  have hr := fun W => refTake_no l0.length ao0 cap0 a1 hi W
  have hm2 := fun W => msgs_same none none 0 0 [] (by simp) (by simp) W (fun i x hx => by simp at hx) (fun i x hx => by simp at hx)
  have hle0 : ∀ W : World, LiesE W W.heap.size none [] := fun W i x hx => by simp at hx
  rw [List.length_nil] at hm2
  clear hi
  go_enter Try.func4, Try.ntmps4
  go_wp2_with (first
    | (go_at_call 7; refine hhv.mono ?_; rintro e w1 ⟨⟨b, rfl, hs0⟩, hq⟩; have hq' := hq.symm; clear hq; subst hq'; cases b)
    | (go_at_call 12; have hs : SmallM l0 := (by first | exact hs0 rfl | exact hs0 trivial | exact hs0); refine hd.mono ?_; rintro e w2 ⟨rfl, hb2⟩; have hle2 := hle0 w2)
    | (go_at_call 13; refine (hr _).mono ?_; rintro e w3 ⟨rfl, hb3⟩; have hle3 := hle0 w3
       have kb := below_box hb3 (heap_new w2 _)
       have e0 := box_cell kb 0 _ rfl
       have e1 := box_cell kb 1 _ rfl
       have e2 := box_cell kb 2 _ rfl
       have e3 := box_cell kb 3 _ rfl
       have e4 := box_cell kb 4 _ rfl
       have e5 := box_cell kb 5 _ rfl
       have e6 := box_cell kb 6 _ rfl
       have e7 := box_cell kb 7 _ rfl
       have d0 := fun o : Obj => alloc_cell o e0
       have d1 := fun o : Obj => alloc_cell o e1
       have d2 := fun o : Obj => alloc_cell o e2
       have d3 := fun o : Obj => alloc_cell o e3
       have d4 := fun o : Obj => alloc_cell o e4
       have d5 := fun o : Obj => alloc_cell o e5
       have d6 := fun o : Obj => alloc_cell o e6
       have d7 := fun o : Obj => alloc_cell o e7
       have hb3' := below_box0 hb3
       have hle23 := liesE_next hle2 hb3' hb3'.size
       clear kb)
    | (have hk9 := hb4'; clear hk9; go_at_call 10; refine (hm2 _).mono ?_; rintro e w5 ⟨rfl, hb5⟩)
    | (go_at_call 10; refine (msgs_lits _ _ (by simp) ⟨0, 0, 0, 0, 0, 0, 0, []⟩ none none 0 0 (Nat.le_trans ((by simp : ([] : List Ent).length ≤ 1000)) (by omega)) (liesE_next hle23 ((Below.refl _ _).alloc (Nat.le_refl _) _) (by simp)) (liesE_next hle3 ((Below.refl _ _).alloc (Nat.le_refl _) _) (by simp))).mono ?_; rintro e w4 ⟨rfl, hb4⟩
       have hb4' := below_box0 hb4)
    | (go_at_call 14; refine (num_any _ _).mono ?_; rintro e w6 ⟨rfl, hq⟩; have hq' := hq.symm; clear hq; subst hq')
    | (go_at_call 8; refine (awake_any _).mono ?_; rintro e w7 ⟨rfl, hb7⟩))
  all_goals go_ret
  all_goals first
    | exact ⟨rfl, hb7⟩
    | exact ⟨rfl, below_next (below_next (below_next (below_next hb2 (Nat.le_refl _) hb3') (Nat.le_refl _) hb4') (Nat.le_refl _) hb5) (Nat.le_refl _) hb7⟩
set_option maxRecDepth 100000 in
set_option maxHeartbeats 2000000 in
theorem walk_yes (a : Addr) (cap0 : Nat) (l0 : Msgs) (hcap0 : l0.length ≤ cap0) (i : Nat) (m : Msg) (hi : l0[i]? = some m) (w : World) (hl0 : LiesM w w.heap.size (some a) l0) :
    Calls Try.prog 4 #[.slice (some a) l0.length cap0, .int .i64 (i : Int)] w fun e w' => e = .returned (.bool true) ∧ Below w.heap.size w w' := by
  have hhv := heavy_any l0 (some a) cap0 w hl0
  have hd := fun (hs : SmallM l0) => take_yes l0 (some a) cap0 i m hi (by have := hs.1; omega) (fun x hx => by have := hs.2 x hx; omega) w hl0
  have hr := fun (hs : SmallM l0) W (hb : Below w.heap.size w W) => refTake_yes l0 a cap0 i m hi (by have := hs.1; omega) hcap0 W (liesM_next hl0 hb hb.size)
  have hsm := fun (hs : SmallM l0) => hs.2 m (List.mem_of_getElem? hi)
  have hel : (l0.eraseIdx i).length = l0.length - 1 := List.length_eraseIdx_of_lt (List.getElem?_eq_some_iff.1 hi).1
  have hes := fun (hs : SmallM l0) => fun x (hx : x ∈ l0.eraseIdx i) => hs.2 x (List.mem_of_mem_eraseIdx hx)
  have hm2 := fun (hs : SmallM l0) ao1 ao2 c1 c2 w (h1 : LiesM w w.heap.size ao1 (l0.eraseIdx i)) (h2 : LiesM w w.heap.size ao2 (l0.eraseIdx i)) => msgs_same ao1 ao2 c1 c2 (l0.eraseIdx i) (by have := hs.1; omega) (fun x hx => by have := hes hs x hx; omega) w h1 h2
  rw [hel] at hm2
  clear hi hel
  go_enter Try.func4, Try.ntmps4
  go_wp2_with (first
    | (go_at_call 7; refine hhv.mono ?_; rintro e w1 ⟨⟨b, rfl, hs0⟩, hq⟩; have hq' := hq.symm; clear hq; subst hq'; cases b)
    | (go_at_call 12; have hs : SmallM l0 := (by first | exact hs0 rfl | exact hs0 trivial | exact hs0); refine (hd hs).mono ?_; rintro e w2 ⟨bo2, c2, ao2, cap2, rfl, hl2, hle2, hb2, _⟩)
    | (go_at_call 13; refine (hr hs _ (below_next hb2 (Nat.le_refl _) ((Below.refl _ _).alloc (Nat.le_refl _) _))).mono ?_; rintro e w3 ⟨bo3, c3, ao3, cap3, rfl, hl3, hle3, hb3⟩
       have kb := below_box hb3 (heap_new w2 _)
       have e0 := box_cell kb 0 _ rfl
       have e1 := box_cell kb 1 _ rfl
       have e2 := box_cell kb 2 _ rfl
       have e3 := box_cell kb 3 _ rfl
       have e4 := box_cell kb 4 _ rfl
       have e5 := box_cell kb 5 _ rfl
       have e6 := box_cell kb 6 _ rfl
       have e7 := box_cell kb 7 _ rfl
       have d0 := fun o : Obj => alloc_cell o e0
       have d1 := fun o : Obj => alloc_cell o e1
       have d2 := fun o : Obj => alloc_cell o e2
       have d3 := fun o : Obj => alloc_cell o e3
       have d4 := fun o : Obj => alloc_cell o e4
       have d5 := fun o : Obj => alloc_cell o e5
       have d6 := fun o : Obj => alloc_cell o e6
       have d7 := fun o : Obj => alloc_cell o e7
       have hb3' := below_box0 hb3
       have hle23 := liesE_next hle2 hb3' hb3'.size
       clear kb)
    | (have hk9 := hb4'; clear hk9; go_at_call 10; refine (hm2 hs ao2 ao3 cap2 cap3 _ hl24 hl34).mono ?_; rintro e w5 ⟨rfl, hb5⟩)
    | (go_at_call 10; refine (msgs_lits _ _ (by simp) m bo2 bo3 c2 c3 (Nat.le_trans (hsm hs) (by omega)) (liesE_next hle23 ((Below.refl _ _).alloc (Nat.le_refl _) _) (by simp)) (liesE_next hle3 ((Below.refl _ _).alloc (Nat.le_refl _) _) (by simp))).mono ?_; rintro e w4 ⟨rfl, hb4⟩
       have hb4' := below_box0 hb4
       have hl24 := liesM_next (liesM_next hl2 hb3' hb3'.size) hb4' hb4'.size
       have hl34 := liesM_next hl3 hb4' hb4'.size)
    | (go_at_call 14; refine (num_any _ _).mono ?_; rintro e w6 ⟨rfl, hq⟩; have hq' := hq.symm; clear hq; subst hq')
    | (go_at_call 8; refine (awake_any _).mono ?_; rintro e w7 ⟨rfl, hb7⟩))
  all_goals go_ret
  all_goals first
    | exact ⟨rfl, hb7⟩
    | exact ⟨rfl, below_next (below_next (below_next (below_next hb2 (Nat.le_refl _) hb3') (Nat.le_refl _) hb4') (Nat.le_refl _) hb5) (Nat.le_refl _) hb7⟩

theorem walk (ao0 : Option Addr) (cap0 : Nat) (l0 : Msgs) (hcap0 : l0.length ≤ cap0) (a1 : Int) (ha1 : -9223372036854775808 ≤ a1 ∧ a1 ≤ 9223372036854775807) (w : World) (hl0 : LiesM w w.heap.size ao0 l0) :
    Calls Try.prog 4 #[.slice ao0 l0.length cap0, .int .i64 a1] w fun e w' => e = .returned (.bool true) ∧ Below w.heap.size w w' := by
  by_cases h : a1 < 0 ∨ (l0.length : Int) ≤ a1
  · exact walk_no ao0 cap0 l0 a1 h w hl0
  · obtain ⟨i, rfl⟩ := Int.eq_ofNat_of_zero_le (show 0 ≤ a1 by omega)
    have hi : i < l0.length := by omega
    obtain ⟨a, rfl, _⟩ := hl0 i _ (List.getElem?_eq_getElem hi)
    exact walk_yes a cap0 l0 hcap0 i _ (List.getElem?_eq_getElem hi) w hl0

set_option maxRecDepth 100000 in
theorem lifted (os : Os) (started : os.Started) (H : Type) (enc : TypeId × Value → H) :
    ReturnsInHanded {} Try.checked os 4 .any (Rows.postTakesSpec.pre6 enc Try.prog Try.f4 Rows.postTakesRow.domain false) (Rows.postTakesSpec.post enc Try.prog Try.f4 false true false false) := by
  refine returnsInHanded_of_change (C := Try.checked) own started (by kernel_rfl) Try.func4
    (ChangeSpec.witness6 (enc := enc) (C := Try.checked) false ⟨#[], #[.slice none 0 0, .int .i64 0], []⟩ 8 (by kernel_rfl) (by kernel_rfl) (by kernel_rfl) (by kernel_rfl)) ?_
  intro W base args ds gs before hval0 hW hcnd _
  have hval : ∀ (j : Nat) t v, Try.f4.params[j]? = some t → args[j]? = some v → Value.okWide Try.prog W .any base t v := hval0
  have hW' := hW
  have hWk := hW
  obtain ⟨p, q, hA0, hV, rfl, hfz, hnd⟩ := hW
  have hA : DataW.TrodAll enc Try.prog W 0 (fun _ => true) true Try.f4.params.toList args.toList ds p := hA0
  rw [Try.params4] at hA hval
  obtain ⟨v0, vs0, d0, ds0, p0, q0, hargs, rfl, rfl, h0, r0⟩ := trodAll_cons hA
  obtain ⟨v1, vs1, d1, ds1, p1, q1, rfl, rfl, rfl, h1, r1⟩ := trodAll_cons r0
  obtain ⟨rfl, rfl, rfl⟩ := trodAll_nil r1
  obtain rfl : args = #[v0, v1] := by cases args; simp_all
  obtain ⟨rfl, rfl⟩ := trodVars_none hV
  have hk0 := h0
  obtain ⟨ao0, cap0, l0, rfl, hcap0, _, hlies0⟩ := open_msgs (hval 0 22 v0 rfl rfl) h0
  have hlt0 : ∀ x ∈ p0, x.block < W.heap.size := fun x hx => by simpa using hWk.lt x (by simp [hx])
  obtain ⟨a1, rfl, rfl, rfl, wa1⟩ := open_int Try.underlying3 (hval 1 3 v1 rfl rfl) h1
  have ba1 := bounds_i64 wa1
  clear hA0 hval0
  simp only [List.append_nil] at hW'

  refine (walk ao0 cap0 l0 hcap0 a1 (by omega) W hlies0).mono fun e W' ⟨he, hg⟩ => ?_
  subst he
  exact ⟨_, rfl, _, _, _, [], _, [], hW', trodAll_cons_mk (shut_bool Try.underlying4 _) trodAll_mk0, (trodAll_cons_mk (Below.trod Try.laidOut (by kernel_rfl) (of_decide_eq_true (by kernel_rfl)) hk0 hg hlt0) (trodAll_cons_mk (shut_int Try.underlying3 wa1) trodAll_mk0)), rfl, hg.frame _, fun h => by cases h⟩

theorem over : Rows.postTakesRow.holds Try.pinned (OpenSpec.ofChange Rows.postTakesSpec) :=
  OpenClaim.holds_of_wide 4 Try.f4 rfl rfl rfl rfl rfl rfl rfl ⟨rfl, rfl, rfl, rfl, rfl⟩ rfl rfl rfl rfl rfl (by kernel_rfl) Try.func4 (by kernel_rfl)
    (of_decide_eq_true (by kernel_rfl)) (by unfold Func.isWrapper; first | (rw [if_pos (by decide +kernel)]; kernel_rfl) | (rw [if_neg (by decide +kernel)]; exact ⟨rfl, rfl⟩))
    (fun os started H enc _ => lifted os started H enc)

theorem proved : Rows.PostTakesSaid :=
  over
#print axioms proved
end Go.Proofs.Ytpimkfichadiiaa.postTakes
