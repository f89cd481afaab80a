/-
  Proved: for every text the law RowGets returns true: row.Get tells the cells that the document's own tells, or refuses as it does (4.2); the text reads behind the call as before. No condition.
-/
import Derived.Test.YtgaidhalkianfaaRows
import Derived.Test.YtgaidhalkianfaaRAwake
import Derived.Test.YtgaidhalkianfaaRGetR
import Derived.Test.YtgaidhalkianfaaRBack
import Derived.WalkKit
import Derived.ProofKit
import Derived.OpenShut
import Derived.ShutString
import Derived.Lib.SmallJoins
namespace Go.Proofs.Ytgaidhalkianfaa.rowGets
open Go.ChangeShapes Go.WideShapes Go.ChangeAt Go.RowKit Go.Joins Num
open Go.ChangeMaps (open_string shut_string)
set_option linter.unusedVariables false

theorem own : ownKnob Try.prog.godebug = none := by kernel_rfl
theorem cellsV : Try.prog.cellsOf 39 = 4 := by kernel_rfl

theorem ref_some (s : ByteArray) (hs : s.size ≤ 900000) (l : List Cel) (hv : rowL s.data.toList = some l) (w : World) :
    Calls Try.prog 15 #[.string s] w fun e w' => ∃ ao cap, e = .returned (.tuple #[.slice ao l.length cap, .int .i64 0]) ∧ LiesC w' w'.heap.size ao l ∧ Below w.heap.size w w' := by
  have h := refRowGet_any s hs w
  rw [hv] at h
  exact h.mono fun e w' ⟨⟨v, he, hr⟩, hb⟩ => by
    obtain ⟨ao, cap, rfl, hl, _⟩ := liesC_of_row hr
    exact ⟨ao, cap, he, hl, hb⟩
theorem ref_none (s : ByteArray) (hs : s.size ≤ 900000) (hv : rowL s.data.toList = none) (w : World) :
    Calls Try.prog 15 #[.string s] w fun e w' => e = .returned (.tuple #[.slice none 0 0, .int .i64 3]) ∧ Below w.heap.size w w' := by
  have h := refRowGet_any s hs w
  rw [hv] at h
  exact h
theorem same_nil (w : World) : Calls Try.prog 16 #[.slice none 0 0, .slice none 0 0] w fun e w' => e = .returned (.bool true) ∧ Below w.heap.size w w' :=
  sameC_any none none 0 0 [] (by simp) w (no_liesC _ _) (no_liesC _ _)
theorem core_none (s0 : ByteArray) (hl : ¬ 5000 < (s0.size : Int))
    (hget : ∀ w, Calls Try.prog 14 #[.string s0] w fun e w' => e = .returned (.tuple #[.slice none 0 0, .int .i64 3]) ∧ Below w.heap.size w w')
    (href : ∀ w, Calls Try.prog 15 #[.string s0] w fun e w' => e = .returned (.tuple #[.slice none 0 0, .int .i64 3]) ∧ Below w.heap.size w w') (w : World) :
    Calls Try.prog 4 #[.string s0] w fun e w' => e = .returned (.bool true) ∧ Below w.heap.size w w' := by
  go_enter Try.func4, Try.ntmps4
  go_wp2_with (first
    | (go_at_call 14; refine (hget _).mono ?_; rintro e w1 ⟨rfl, hb1⟩)
    | (go_at_call 15; refine (href _).mono ?_; rintro e w2 ⟨rfl, hb2⟩)
    | (go_at_call 16; refine (same_nil _).mono ?_; rintro e w5 ⟨rfl, hb5⟩)
    | (go_at_call 13; refine (num_any _ _).mono ?_; rintro e w4 ⟨rfl, rfl⟩)
    | (go_at_call 10; refine (awake_any _).mono ?_; rintro e w3 ⟨rfl, hb3⟩))
  go_ret
  exact ⟨rfl, below_next (below_next (below_next hb1 (Nat.le_refl _) hb2) (Nat.le_refl _) hb5) (Nat.le_refl _) hb3⟩
theorem core_some (s0 : ByteArray) (hl : ¬ 5000 < (s0.size : Int)) (L : List Cel) (hL : L.length ≤ 1000000)
    (hget : ∀ w, Calls Try.prog 14 #[.string s0] w fun e w' => ∃ ao cap, e = .returned (.tuple #[.slice ao L.length cap, .int .i64 0]) ∧ LiesC w' w'.heap.size ao L ∧ w'.ownsRow w.heap.size 41 5 (.slice ao L.length cap) L.length (celCells L) ∧ Below w.heap.size w w')
    (href : ∀ w, Calls Try.prog 15 #[.string s0] w fun e w' => ∃ ao cap, e = .returned (.tuple #[.slice ao L.length cap, .int .i64 0]) ∧ LiesC w' w'.heap.size ao L ∧ Below w.heap.size w w') (w : World) :
    Calls Try.prog 4 #[.string s0] w fun e w' => e = .returned (.bool true) ∧ Below w.heap.size w w' := by
  go_enter Try.func4, Try.ntmps4
  go_wp2_with (first
    | (go_at_call 14; refine (hget _).mono ?_; rintro e w1 ⟨ao1, cap1, rfl, hl1, _, hb1⟩)
    | (go_at_call 15; refine (href _).mono ?_; rintro e w2 ⟨ao2, cap2, rfl, hm2, hb2⟩; have hl2 := liesC_next hl1 hb2)
    | (go_at_call 16; refine (sameC_any _ _ _ _ L hL _ hl2 hm2).mono ?_; rintro e w5 ⟨rfl, hb5⟩)
    | (go_at_call 13; refine (num_any _ _).mono ?_; rintro e w4 ⟨rfl, rfl⟩)
    | (go_at_call 10; refine (awake_any _).mono ?_; rintro e w3 ⟨rfl, hb3⟩))
  go_ret
  exact ⟨rfl, below_next (below_next (below_next hb1 (Nat.le_refl _) hb2) (Nat.le_refl _) hb5) (Nat.le_refl _) hb3⟩

theorem walk (s0 : ByteArray) (ws0 : s0.size ≤ maxLen) (w : World) :
    Calls Try.prog 4 #[.string s0] w fun e w' => e = .returned (.bool true) ∧ Below w.heap.size w w' := by
  by_cases hl : 5000 < (s0.size : Int)
  · go_enter Try.func4, Try.ntmps4
    go_wp2_with (first
      | (go_at_call 10; refine (awake_any _).mono ?_; rintro e w3 ⟨rfl, hb3⟩))
    go_ret
    exact ⟨rfl, hb3⟩
  · cases hv : rowL s0.data.toList with
    | none => exact core_none s0 hl (rget_none s0 (by omega) hv) (ref_none s0 (by omega) hv) w
    | some L =>
      have hL := rowN_len _ _ _ _ hv
      have hlx : s0.data.toList.length = s0.size := rfl
      exact core_some s0 hl L (by omega) (rget_some s0 (by omega) L hv) (ref_some s0 (by omega) L hv) w

set_option maxRecDepth 100000 in
theorem lifted (os : Os) (started : os.Started) (H : Type) (enc : TypeId × Value → H) :
    ReturnsInHanded {} Try.checked os 4 .any (Rows.rowGetsSpec.pre6 enc Try.prog Try.f4 Rows.rowGetsRow.domain false) (Rows.rowGetsSpec.post enc Try.prog Try.f4 false true false false) := by
  refine returnsInHanded_of_change (C := Try.checked) own started (by kernel_rfl) Try.func4
    (ChangeSpec.witness6 (enc := enc) (C := Try.checked) false ⟨#[], #[.string ByteArray.empty], []⟩ 8 (by kernel_rfl) (by kernel_rfl) (by kernel_rfl) (by kernel_rfl)) ?_
  intro W base args ds gs before hval0 hW hcnd _
  have hval : ∀ (j : Nat) t v, Try.f4.params[j]? = some t → args[j]? = some v → Value.okWide Try.prog W .any base t v := hval0
  have hW' := hW
  have hWk := hW
  obtain ⟨p, q, hA0, hV, rfl, hfz, hnd⟩ := hW
  have hA : DataW.TrodAll enc Try.prog W 0 (fun _ => true) true Try.f4.params.toList args.toList ds p := hA0
  rw [Try.params4] at hA hval
  obtain ⟨v0, vs0, d0, ds0, p0, q0, hargs, rfl, rfl, h0, r0⟩ := trodAll_cons hA
  obtain ⟨rfl, rfl, rfl⟩ := trodAll_nil r0
  obtain rfl : args = #[v0] := by cases args; simp_all
  obtain ⟨rfl, rfl⟩ := trodVars_none hV
  obtain ⟨s0, rfl, rfl, rfl, ws0⟩ := open_string Try.underlying9 (hval 0 9 v0 rfl rfl) h0
  clear hA0 hval0
  simp only [List.append_nil] at hW'

  refine (walk s0 ws0 W).mono fun e W' ⟨he, hg⟩ => ?_
  subst he
  exact ⟨_, rfl, _, _, _, [], _, [], hW', trodAll_cons_mk (shut_bool Try.underlying4 _) trodAll_mk0, (trodAll_cons_mk (shut_string Try.underlying9 ws0) trodAll_mk0), rfl, hg.frame _, fun h => by cases h⟩

theorem over : Rows.rowGetsRow.holds Try.pinned (OpenSpec.ofChange Rows.rowGetsSpec) :=
  OpenClaim.holds_of_wide 4 Try.f4 rfl rfl rfl rfl rfl rfl rfl ⟨rfl, rfl, rfl, rfl, rfl⟩ rfl rfl rfl rfl rfl (by kernel_rfl) Try.func4 (by kernel_rfl)
    (of_decide_eq_true (by kernel_rfl)) (by unfold Func.isWrapper; first | (rw [if_pos (by decide +kernel)]; kernel_rfl) | (rw [if_neg (by decide +kernel)]; exact ⟨rfl, rfl⟩))
    (fun os started H enc _ => lifted os started H enc)

theorem proved : Rows.RowGetsSaid :=
  over
#print axioms proved
end Go.Proofs.Ytgaidhalkianfaa.rowGets
