/-
  Proved: for every schema the law DescPuts returns true: the bytes of a schema, or that it is refused, are told by desc.Put as the document's own answer tells them (6.3), and the document's example holds; the schema reads behind the call as before. No condition.
-/
import Derived.Test.YtndppffcladalaaRows
import Derived.Test.YtndppffcladalaaDPut
import Derived.Test.YtndppffcladalaaDGreat
import Derived.Test.YtndppffcladalaaDRPut
import Derived.WalkKit
import Derived.ProofKit
import Derived.OpenShut
import Derived.ShutString
import Derived.Lib.SmallJoins
namespace Go.Proofs.Ytndppffcladalaa.descPuts
open Go.ChangeShapes Go.WideShapes Go.ChangeAt Go.RowKit Go.Joins Num
open Go.ChangeMaps (open_string shut_string)
set_option linter.unusedVariables false

theorem own : ownKnob Try.prog.godebug = none := by kernel_rfl

open scoped Classical
theorem core (x0 : Sch) (ao0 : Option Addr) (cap0 : Nat) (w : World) (hl0 : LiesT w w.heap.size ao0 x0.tabs) (S : ByteArray) (E : Int)
    (hg : ∀ w, LiesT w w.heap.size ao0 x0.tabs → Calls Try.prog 12 #[.agg #[.int .i64 x0.ver, .slice ao0 x0.tabs.length cap0, .int .i64 x0.next]] w fun e w' => e = .returned (.bool false) ∧ Below w.heap.size w w')
    (h1 : ∀ w, LiesT w w.heap.size ao0 x0.tabs → Calls Try.prog 15 #[.agg #[.int .i64 x0.ver, .slice ao0 x0.tabs.length cap0, .int .i64 x0.next]] w fun e w' => e = .returned (.tuple #[.string S, .int .i64 E]) ∧ Below w.heap.size w w')
    (h2 : ∀ w, LiesT w w.heap.size ao0 x0.tabs → Calls Try.prog 16 #[.agg #[.int .i64 x0.ver, .slice ao0 x0.tabs.length cap0, .int .i64 x0.next]] w fun e w' => e = .returned (.tuple #[.string S, .int .i64 E]) ∧ Below w.heap.size w w') :
    Calls Try.prog 5 #[.agg #[.int .i64 x0.ver, .slice ao0 x0.tabs.length cap0, .int .i64 x0.next]] w fun e w' => e = .returned (.bool true) ∧ Below w.heap.size w w' := by
  have hbx := heap_new w (.cells #[.int .i64 x0.ver, .slice ao0 x0.tabs.length cap0, .int .i64 x0.next] 26)
  have hla := liesT_next hl0 ((Below.refl _ w).alloc (Nat.le_refl _) (.cells #[.int .i64 x0.ver, .slice ao0 x0.tabs.length cap0, .int .i64 x0.next] 26))
  go_enter Try.func5, Try.ntmps5
  go_wp2_with (first
    | (go_at_call 12; refine (hg _ hla).mono ?_; rintro e w1 ⟨rfl, hb1⟩; have b1 := below_box hb1 hbx; have c0 := box_cell b1 0 _ rfl; have c1 := box_cell b1 1 _ rfl; have c2 := box_cell b1 2 _ rfl; have hl1 := liesT_next hla hb1)
    | (go_at_call 15; refine (h1 _ hl1).mono ?_; rintro e w2 ⟨rfl, hb2⟩; have b2 := below_box hb2 b1; have d0 := box_cell b2 0 _ rfl; have d1 := box_cell b2 1 _ rfl; have d2 := box_cell b2 2 _ rfl; have hl2 := liesT_next hl1 hb2)
    | (go_at_call 16; refine (h2 _ hl2).mono ?_; rintro e w3 ⟨rfl, hb3⟩)
    | (go_at_call 17; refine (num_any _ _).mono ?_; rintro e w4 ⟨rfl, rfl⟩)
    | (go_at_call 11; refine (awake_any _).mono ?_; rintro e w5 ⟨rfl, hb5⟩))
  go_ret
  exact ⟨rfl, below_next (below_next (below_next (below_box0 hb1) (Nat.le_refl _) hb2) (Nat.le_refl _) hb3) (Nat.le_refl _) hb5⟩

theorem walk (x0 : Sch) (hin0 : ∀ t ∈ x0.tabs, TabIn t) (ao0 : Option Addr) (cap0 : Nat) (w : World) (hl0 : LiesT w w.heap.size ao0 x0.tabs) :
    Calls Try.prog 5 #[.agg #[.int .i64 x0.ver, .slice ao0 x0.tabs.length cap0, .int .i64 x0.next]] w fun e w' => e = .returned (.bool true) ∧ Below w.heap.size w w' := by
  have hg := fun w h => great_any x0 ao0 cap0 w h
  by_cases q : GrM x0
  · rw [tru_yes q] at hg
    have hla := liesT_next hl0 ((Below.refl _ w).alloc (Nat.le_refl _) (.cells #[.int .i64 x0.ver, .slice ao0 x0.tabs.length cap0, .int .i64 x0.next] 26))
    go_enter Try.func5, Try.ntmps5
    go_wp2_with (first
      | (go_at_call 12; refine (hg _ hla).mono ?_; rintro e w1 ⟨rfl, hb1⟩)
      | (go_at_call 11; refine (awake_any _).mono ?_; rintro e w5 ⟨rfl, hb5⟩))
    go_ret
    exact ⟨rfl, below_next (below_box0 hb1) (Nat.le_refl _) hb5⟩
  · rw [tru_no q] at hg
    by_cases hx : SchOk x0
    · exact core x0 ao0 cap0 w hl0 _ _ hg (dput_yes x0 hx ao0 cap0) (refPut_yes x0 hx hin0 ao0 cap0)
    · exact core x0 ao0 cap0 w hl0 _ _ hg (dput_no x0 hx ao0 cap0) (refPut_no x0 hx hin0 ao0 cap0)

set_option maxRecDepth 100000 in
theorem lifted (os : Os) (started : os.Started) (H : Type) (enc : TypeId × Value → H) :
    ReturnsInHanded {} Try.checked os 5 .any (Rows.descPutsSpec.pre6 enc Try.prog Try.f5 Rows.descPutsRow.domain false) (Rows.descPutsSpec.post enc Try.prog Try.f5 false true false false) := by
  refine returnsInHanded_of_change (C := Try.checked) own started (by kernel_rfl) Try.func5
    (ChangeSpec.witness6 (enc := enc) (C := Try.checked) false ⟨#[], #[.agg #[.int .i64 0, .slice none 0 0, .int .i64 0]], []⟩ 8 (by kernel_rfl) (by kernel_rfl) (by kernel_rfl) (by kernel_rfl)) ?_
  intro W base args ds gs before hval0 hW hcnd _
  have hval : ∀ (j : Nat) t v, Try.f5.params[j]? = some t → args[j]? = some v → Value.okWide Try.prog W .any base t v := hval0
  have hW' := hW
  have hWk := hW
  obtain ⟨p, q, hA0, hV, rfl, hfz, hnd⟩ := hW
  have hA : DataW.TrodAll enc Try.prog W 0 (fun _ => true) true Try.f5.params.toList args.toList ds p := hA0
  rw [Try.params5] at hA hval
  obtain ⟨v0, vs0, d0, ds0, p0, q0, hargs, rfl, rfl, h0, r0⟩ := trodAll_cons hA
  obtain ⟨rfl, rfl, rfl⟩ := trodAll_nil r0
  obtain rfl : args = #[v0] := by cases args; simp_all
  obtain ⟨rfl, rfl⟩ := trodVars_none hV
  have hk0 := h0
  obtain ⟨ver0, ao0, cap0, l0, next0, rfl, hin0, hlies0⟩ := open_sch (hval 0 26 v0 rfl rfl) h0
  have hlt0 : ∀ x ∈ p0, x.block < W.heap.size := fun x hx => by simpa using hWk.lt x (by simp [hx])
  clear hA0 hval0
  simp only [List.append_nil] at hW'

  refine (walk ⟨ver0, l0, next0⟩ hin0 ao0 cap0 W hlies0).mono fun e W' ⟨he, hg⟩ => ?_
  subst he
  exact ⟨_, rfl, _, _, _, [], _, [], hW', trodAll_cons_mk (shut_bool Try.underlying4 _) trodAll_mk0, (trodAll_cons_mk (Below.trod Try.laidOut (by kernel_rfl) (of_decide_eq_true (by kernel_rfl)) hk0 hg hlt0) trodAll_mk0), rfl, hg.frame _, fun h => by cases h⟩

theorem over : Rows.descPutsRow.holds Try.pinned (OpenSpec.ofChange Rows.descPutsSpec) :=
  OpenClaim.holds_of_wide 5 Try.f5 rfl rfl rfl rfl rfl rfl rfl ⟨rfl, rfl, rfl, rfl, rfl⟩ rfl rfl rfl rfl rfl (by kernel_rfl) Try.func5 (by kernel_rfl)
    (of_decide_eq_true (by kernel_rfl)) (by unfold Func.isWrapper; first | (rw [if_pos (by decide +kernel)]; kernel_rfl) | (rw [if_neg (by decide +kernel)]; exact ⟨rfl, rfl⟩))
    (fun os started H enc _ => lifted os started H enc)

theorem proved : Rows.DescPutsSaid :=
  over
#print axioms proved
end Go.Proofs.Ytndppffcladalaa.descPuts
