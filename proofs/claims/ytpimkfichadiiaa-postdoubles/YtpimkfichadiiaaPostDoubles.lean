/-
  Any messages of which one is there twice are the document's, for every messages and place.
-/
import Derived.Test.YtpimkfichadiiaaRows
import Derived.Test.YtpimkfichadiiaaMsDbl
import Derived.Test.YtpimkfichadiiaaMsCmp
import Derived.Test.YtpimkfichadiiaaMsHev
import Derived.WalkKit
import Derived.ProofKit
import Derived.OpenShut
import Derived.ShutString
import Derived.Lib.SmallJoins
namespace Go.Proofs.Ytpimkfichadiiaa.postDoubles
open Go.ChangeShapes Go.WideShapes Go.ChangeAt Go.RowKit Go.Joins Num
open Go.ChangeMaps (open_string shut_string)
set_option linter.unusedVariables false

theorem own : ownKnob Try.prog.godebug = none := by kernel_rfl
theorem addS (l : Msgs) (m : Msg) (h : SmallM l) (hm : m ∈ l) : (addM l [m]).length ≤ 1000000 ∧ ∀ x ∈ addM l [m], x.log.length ≤ 1000000 := by
  have h1 := h.1
  refine ⟨by rw [addM_len, List.length_singleton]; omega, fun x hx => ?_⟩
  rcases List.mem_append.1 (addM_mem hx) with h2 | h2
  · have := h.2 x h2
    omega
  · rw [List.mem_singleton.1 h2]
    have := h.2 m hm
    omega
set_option maxRecDepth 100000 in
set_option maxHeartbeats 1000000 in
theorem walk_no (ao0 : Option Addr) (cap0 : Nat) (l0 : Msgs) (a1 : Int) (hi : a1 < 0 ∨ (l0.length : Int) ≤ a1) (w : World) (hl0 : LiesM w w.heap.size ao0 l0) :
    Calls Try.prog 5 #[.slice ao0 l0.length cap0, .int .i64 a1] w fun e w' => e = .returned (.bool true) ∧ Below w.heap.size w w' := by
  have hhv := heavy_any l0 ao0 cap0 w hl0
  have hd := double_no l0.length ao0 cap0 a1 hi w
  have hr := fun W => refDouble_no l0.length ao0 cap0 a1 hi W
  have hms := fun W => msgs_same none none 0 0 [] (by simp) (by simp) W (fun i x hx => by simp at hx) (fun i x hx => by simp at hx)
  rw [List.length_nil] at hms
  clear hi
  go_enter Try.func5, Try.ntmps5
  go_wp2_with (first
    | (go_at_call 7; refine hhv.mono ?_; rintro e w1 ⟨⟨b, rfl, _⟩, hq⟩; have hq' := hq.symm; clear hq; subst hq'; cases b)
    | (go_at_call 15; refine hd.mono ?_; rintro e w2 ⟨rfl, hb2⟩)
    | (go_at_call 16; refine (hr _).mono ?_; rintro e w3 ⟨rfl, hb3⟩)
    | (go_at_call 10; refine (hms _).mono ?_; rintro e w4 ⟨rfl, hb4⟩)
    | (go_at_call 14; refine (num_any _ _).mono ?_; rintro e w5 ⟨rfl, hq⟩; have hq' := hq.symm; clear hq; subst hq')
    | (go_at_call 8; refine (awake_any _).mono ?_; rintro e w7 ⟨rfl, hb7⟩))
  all_goals go_ret
  all_goals first
    | exact ⟨rfl, hb7⟩
    | exact ⟨rfl, below_next (below_next (below_next hb2 (Nat.le_refl _) hb3) (Nat.le_refl _) hb4) (Nat.le_refl _) hb7⟩
set_option maxRecDepth 100000 in
set_option maxHeartbeats 1000000 in
theorem walk_yes (a : Addr) (cap0 : Nat) (l0 : Msgs) (hcap0 : l0.length ≤ cap0) (i : Nat) (m : Msg) (hi : l0[i]? = some m) (w : World) (hl0 : LiesM w w.heap.size (some a) l0) :
    Calls Try.prog 5 #[.slice (some a) l0.length cap0, .int .i64 (i : Int)] w fun e w' => e = .returned (.bool true) ∧ Below w.heap.size w w' := by
  have hhv := heavy_any l0 (some a) cap0 w hl0
  have hd := fun (hs : SmallM l0) => double_yes l0 a cap0 i m hi hs.1 (fun x hx => by have := hs.2 x hx; omega) hcap0 w hl0
  have hr := fun (hs : SmallM l0) W (hb : Below w.heap.size w W) => refDouble_yes l0 a cap0 i m hi hs.1 hcap0 W (liesM_next hl0 hb hb.size)
  have hsm := fun (hs : SmallM l0) => addS l0 m hs (List.mem_of_getElem? hi)
  generalize addM l0 [m] = O at *
  clear hi
  go_enter Try.func5, Try.ntmps5
  go_wp2_with (first
    | (go_at_call 7; refine hhv.mono ?_; rintro e w1 ⟨⟨b, rfl, hs0⟩, hq⟩; have hq' := hq.symm; clear hq; subst hq'; cases b)
    | (go_at_call 15; have hs : SmallM l0 := (by first | exact hs0 rfl | exact hs0 trivial | exact hs0); refine (hd hs).mono ?_; rintro e w2 ⟨v2, rfl, hown2, hb2⟩; obtain ⟨ao2, cap2, rfl, hl2⟩ := ownO_lies hown2)
    | (go_at_call 16; refine (hr hs _ hb2).mono ?_; rintro e w3 ⟨v3, rfl, hown3, hb3⟩; obtain ⟨ao3, cap3, rfl, hl3⟩ := ownV_lies hown3 hb3.size; have hl23 := liesM_next hl2 hb3 hb3.size)
    | (go_at_call 10; refine (msgs_same ao2 ao3 cap2 cap3 O (hsm hs).1 (hsm hs).2 _ hl23 hl3).mono ?_; rintro e w4 ⟨rfl, hb4⟩)
    | (go_at_call 14; refine (num_any _ _).mono ?_; rintro e w5 ⟨rfl, hq⟩; have hq' := hq.symm; clear hq; subst hq')
    | (go_at_call 8; refine (awake_any _).mono ?_; rintro e w7 ⟨rfl, hb7⟩))
  all_goals go_ret
  all_goals first
    | exact ⟨rfl, hb7⟩
    | exact ⟨rfl, below_next (below_next (below_next hb2 (Nat.le_refl _) hb3) (Nat.le_refl _) hb4) (Nat.le_refl _) hb7⟩

theorem walk (ao0 : Option Addr) (cap0 : Nat) (l0 : Msgs) (hcap0 : l0.length ≤ cap0) (a1 : Int) (ha1 : -9223372036854775808 ≤ a1 ∧ a1 ≤ 9223372036854775807) (w : World) (hl0 : LiesM w w.heap.size ao0 l0) :
    Calls Try.prog 5 #[.slice ao0 l0.length cap0, .int .i64 a1] w fun e w' => e = .returned (.bool true) ∧ Below w.heap.size w w' := by
  by_cases h : a1 < 0 ∨ (l0.length : Int) ≤ a1
  · exact walk_no ao0 cap0 l0 a1 h w hl0
  · obtain ⟨i, rfl⟩ := Int.eq_ofNat_of_zero_le (show 0 ≤ a1 by omega)
    have hi : i < l0.length := by omega
    obtain ⟨a, rfl, _⟩ := hl0 i _ (List.getElem?_eq_getElem hi)
    exact walk_yes a cap0 l0 hcap0 i _ (List.getElem?_eq_getElem hi) w hl0

set_option maxRecDepth 100000 in
theorem lifted (os : Os) (started : os.Started) (H : Type) (enc : TypeId × Value → H) :
    ReturnsInHanded {} Try.checked os 5 .any (Rows.postDoublesSpec.pre6 enc Try.prog Try.f5 Rows.postDoublesRow.domain false) (Rows.postDoublesSpec.post enc Try.prog Try.f5 false true false false) := by
  refine returnsInHanded_of_change (C := Try.checked) own started (by kernel_rfl) Try.func5
    (ChangeSpec.witness6 (enc := enc) (C := Try.checked) false ⟨#[], #[.slice none 0 0, .int .i64 0], []⟩ 8 (by kernel_rfl) (by kernel_rfl) (by kernel_rfl) (by kernel_rfl)) ?_
  intro W base args ds gs before hval0 hW hcnd _
  have hval : ∀ (j : Nat) t v, Try.f5.params[j]? = some t → args[j]? = some v → Value.okWide Try.prog W .any base t v := hval0
  have hW' := hW
  have hWk := hW
  obtain ⟨p, q, hA0, hV, rfl, hfz, hnd⟩ := hW
  have hA : DataW.TrodAll enc Try.prog W 0 (fun _ => true) true Try.f5.params.toList args.toList ds p := hA0
  rw [Try.params5] at hA hval
  obtain ⟨v0, vs0, d0, ds0, p0, q0, hargs, rfl, rfl, h0, r0⟩ := trodAll_cons hA
  obtain ⟨v1, vs1, d1, ds1, p1, q1, rfl, rfl, rfl, h1, r1⟩ := trodAll_cons r0
  obtain ⟨rfl, rfl, rfl⟩ := trodAll_nil r1
  obtain rfl : args = #[v0, v1] := by cases args; simp_all
  obtain ⟨rfl, rfl⟩ := trodVars_none hV
  have hk0 := h0
  obtain ⟨ao0, cap0, l0, rfl, hcap0, _, hlies0⟩ := open_msgs (hval 0 22 v0 rfl rfl) h0
  have hlt0 : ∀ x ∈ p0, x.block < W.heap.size := fun x hx => by simpa using hWk.lt x (by simp [hx])
  obtain ⟨a1, rfl, rfl, rfl, wa1⟩ := open_int Try.underlying3 (hval 1 3 v1 rfl rfl) h1
  have ba1 := bounds_i64 wa1
  clear hA0 hval0
  simp only [List.append_nil] at hW'

  refine (walk ao0 cap0 l0 hcap0 a1 (by omega) W hlies0).mono fun e W' ⟨he, hg⟩ => ?_
  subst he
  exact ⟨_, rfl, _, _, _, [], _, [], hW', trodAll_cons_mk (shut_bool Try.underlying4 _) trodAll_mk0, (trodAll_cons_mk (Below.trod Try.laidOut (by kernel_rfl) (of_decide_eq_true (by kernel_rfl)) hk0 hg hlt0) (trodAll_cons_mk (shut_int Try.underlying3 wa1) trodAll_mk0)), rfl, hg.frame _, fun h => by cases h⟩

theorem over : Rows.postDoublesRow.holds Try.pinned (OpenSpec.ofChange Rows.postDoublesSpec) :=
  OpenClaim.holds_of_wide 5 Try.f5 rfl rfl rfl rfl rfl rfl rfl ⟨rfl, rfl, rfl, rfl, rfl⟩ rfl rfl rfl rfl rfl (by kernel_rfl) Try.func5 (by kernel_rfl)
    (of_decide_eq_true (by kernel_rfl)) (by unfold Func.isWrapper; first | (rw [if_pos (by decide +kernel)]; kernel_rfl) | (rw [if_neg (by decide +kernel)]; exact ⟨rfl, rfl⟩))
    (fun os started H enc _ => lifted os started H enc)

theorem proved : Rows.PostDoublesSaid :=
  over
#print axioms proved
end Go.Proofs.Ytpimkfichadiiaa.postDoubles
