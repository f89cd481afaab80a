/-
  Proved: for every text the law DescGets returns true: bytes that desc.Get reads are those of the schema that it tells, and else they are refused, with nothing told (6.4), and the document's example holds; the text reads behind the call as before. No condition.
-/
import Derived.Test.YtndppffcladalaaRows
import Derived.Test.YtndppffcladalaaDPut
import Derived.Test.YtndppffcladalaaDGreat
import Derived.Test.YtndppffcladalaaDRPut
import Derived.Test.YtndppffcladalaaDGetB
import Derived.Test.YtndppffcladalaaDSame
import Derived.WalkKit
import Derived.ProofKit
import Derived.OpenShut
import Derived.ShutString
import Derived.Lib.SmallJoins
namespace Go.Proofs.Ytndppffcladalaa.descGets
open Go.ChangeShapes Go.WideShapes Go.ChangeAt Go.RowKit Go.Joins Num
open Go.ChangeMaps (open_string shut_string)
set_option linter.unusedVariables false

theorem own : ownKnob Try.prog.godebug = none := by kernel_rfl

theorem core_no (s0 : ByteArray) (hl : ¬ 20000 < (s0.size : Int)) (w : World)
    (hget : ∀ w, Calls Try.prog 18 #[.string s0] w fun e w' => e = .returned (.tuple #[.agg #[.int .i64 0, .slice none 0 0, .int .i64 0], .int .i64 3]) ∧ Below w.heap.size w w') :
    Calls Try.prog 6 #[.string s0] w fun e w' => e = .returned (.bool true) ∧ Below w.heap.size w w' := by
  have hsame : ∀ w, Calls Try.prog 19 #[.agg #[.int .i64 0, .slice none 0 0, .int .i64 0], .agg #[.int .i64 0, .slice none 0 0, .int .i64 0]] w fun e w' => e = .returned (.bool true) ∧ Below w.heap.size w w' := fun w => sch_same sch0 (by show 0 ≤ 1000; omega) (fun t ht => by cases ht) none 0 none 0 w (lies0 w) (lies0 w)
  go_enter Try.func6, Try.ntmps6
  go_wp2_with (first
    | (go_at_call 18; refine (hget _).mono ?_; rintro e w1 ⟨rfl, hb1⟩)
    | (go_at_call 17; refine (num_any _ _).mono ?_; rintro e w2 ⟨rfl, hw2⟩; subst hw2)
    | (go_at_call 19; refine (hsame _).mono ?_; rintro e w3 ⟨rfl, hb3⟩)
    | (go_at_call 11; refine (awake_any _).mono ?_; rintro e w4 ⟨rfl, hb4⟩))
  go_ret
  exact ⟨rfl, below_next (below_next hb1 (Nat.le_refl _) (below_box0 hb3)) (Nat.le_refl _) hb4⟩
theorem core_yes (s0 : ByteArray) (hl : ¬ 20000 < (s0.size : Int)) (w : World) (y : Sch)
    (hget : ∀ w, Calls Try.prog 18 #[.string s0] w fun e w' => ∃ ao cap, e = .returned (.tuple #[.agg #[.int .i64 y.ver, .slice ao y.tabs.length cap, .int .i64 y.next], .int .i64 0]) ∧ OwnT w.heap.size w' (.slice ao y.tabs.length cap) y.tabs ∧ Below w.heap.size w w')
    (hput : ∀ ao cap w, LiesT w w.heap.size ao y.tabs → Calls Try.prog 16 #[.agg #[.int .i64 y.ver, .slice ao y.tabs.length cap, .int .i64 y.next]] w fun e w' => e = .returned (.tuple #[.string s0, .int .i64 0]) ∧ Below w.heap.size w w') :
    Calls Try.prog 6 #[.string s0] w fun e w' => e = .returned (.bool true) ∧ Below w.heap.size w w' := by
  go_enter Try.func6, Try.ntmps6
  go_wp2_with (first
    | (go_at_call 18; refine (hget _).mono ?_; rintro e w1 ⟨ao1, cap1, rfl, hO1, hb1⟩; obtain ⟨ao2, cap2, he2, hl1⟩ := ownT_lies hO1; cases he2)
    | (go_at_call 17; refine (num_any _ _).mono ?_; rintro e w2 ⟨rfl, hw2⟩; subst hw2)
    | (go_at_call 16; refine (hput _ _ _ (liesT_next hl1 ((Below.refl _ _).alloc (Nat.le_refl _) _))).mono ?_; rintro e w3 ⟨rfl, hb3⟩)
    | (go_at_call 11; refine (awake_any _).mono ?_; rintro e w4 ⟨rfl, hb4⟩))
  go_ret
  exact ⟨rfl, below_next (below_next hb1 (Nat.le_refl _) (below_box0 hb3)) (Nat.le_refl _) hb4⟩
theorem open_len (s : ByteArray) (plain : List UInt8) (h : openL s.data.toList = some plain) : plain.length ≤ s.size ∧ 4 ≤ s.size := by
  have hd : s.data.toList.length = s.size := rfl
  unfold openL at h
  split at h
  · cases h
  · split at h
    · cases h
      rw [List.length_take]
      omega
    · cases h

theorem walk (s0 : ByteArray) (ws0 : s0.size ≤ maxLen) (w : World) :
    Calls Try.prog 6 #[.string s0] w fun e w' => e = .returned (.bool true) ∧ Below w.heap.size w w' := by
  by_cases hl : 20000 < (s0.size : Int)
  · go_enter Try.func6, Try.ntmps6
    go_wp2_with (first
      | (go_at_call 11; refine (awake_any _).mono ?_; rintro e w3 ⟨rfl, hb3⟩))
    go_ret
    exact ⟨rfl, hb3⟩
  · cases ho : openL s0.data.toList with
    | none => exact core_no s0 hl w (dget_none s0 (by omega) ho)
    | some plain =>
      obtain ⟨hp, h4⟩ := open_len s0 plain ho
      cases hr : rdSch plain with
      | none => exact core_no s0 hl w (dget_panic s0 (by omega) plain ho (by omega) hr)
      | some q =>
        obtain ⟨y, r⟩ := q
        by_cases hok : SchOk y
        · by_cases he : str (sealL (schB y)) = s0
          · refine core_yes s0 hl w y (dget_yes s0 (by omega) plain ho (by omega) y r hr hok he) ?_
            have h := refPut_yes y hok (rdSch_ok _ _ hr)
            rw [he] at h
            exact h
          · exact core_no s0 hl w (dget_bad s0 (by omega) plain ho (by omega) y r hr _ _ (dput_yes y hok) he)
        · refine core_no s0 hl w (dget_bad s0 (by omega) plain ho (by omega) y r hr _ _ (dput_no y hok) ?_)
          intro e
          rw [← e] at h4
          have : (⟨#[]⟩ : ByteArray).size = 0 := rfl
          omega

set_option maxRecDepth 100000 in
theorem lifted (os : Os) (started : os.Started) (H : Type) (enc : TypeId × Value → H) :
    ReturnsInHanded {} Try.checked os 6 .any (Rows.descGetsSpec.pre6 enc Try.prog Try.f6 Rows.descGetsRow.domain false) (Rows.descGetsSpec.post enc Try.prog Try.f6 false true false false) := by
  refine returnsInHanded_of_change (C := Try.checked) own started (by kernel_rfl) Try.func6
    (ChangeSpec.witness6 (enc := enc) (C := Try.checked) false ⟨#[], #[.string ByteArray.empty], []⟩ 8 (by kernel_rfl) (by kernel_rfl) (by kernel_rfl) (by kernel_rfl)) ?_
  intro W base args ds gs before hval0 hW hcnd _
  have hval : ∀ (j : Nat) t v, Try.f6.params[j]? = some t → args[j]? = some v → Value.okWide Try.prog W .any base t v := hval0
  have hW' := hW
  have hWk := hW
  obtain ⟨p, q, hA0, hV, rfl, hfz, hnd⟩ := hW
  have hA : DataW.TrodAll enc Try.prog W 0 (fun _ => true) true Try.f6.params.toList args.toList ds p := hA0
  rw [Try.params6] at hA hval
  obtain ⟨v0, vs0, d0, ds0, p0, q0, hargs, rfl, rfl, h0, r0⟩ := trodAll_cons hA
  obtain ⟨rfl, rfl, rfl⟩ := trodAll_nil r0
  obtain rfl : args = #[v0] := by cases args; simp_all
  obtain ⟨rfl, rfl⟩ := trodVars_none hV
  obtain ⟨s0, rfl, rfl, rfl, ws0⟩ := open_string Try.underlying9 (hval 0 9 v0 rfl rfl) h0
  clear hA0 hval0
  simp only [List.append_nil] at hW'

  refine (walk s0 ws0 W).mono fun e W' ⟨he, hg⟩ => ?_
  subst he
  exact ⟨_, rfl, _, _, _, [], _, [], hW', trodAll_cons_mk (shut_bool Try.underlying4 _) trodAll_mk0, (trodAll_cons_mk (shut_string Try.underlying9 ws0) trodAll_mk0), rfl, hg.frame _, fun h => by cases h⟩

theorem over : Rows.descGetsRow.holds Try.pinned (OpenSpec.ofChange Rows.descGetsSpec) :=
  OpenClaim.holds_of_wide 6 Try.f6 rfl rfl rfl rfl rfl rfl rfl ⟨rfl, rfl, rfl, rfl, rfl⟩ rfl rfl rfl rfl rfl (by kernel_rfl) Try.func6 (by kernel_rfl)
    (of_decide_eq_true (by kernel_rfl)) (by unfold Func.isWrapper; first | (rw [if_pos (by decide +kernel)]; kernel_rfl) | (rw [if_neg (by decide +kernel)]; exact ⟨rfl, rfl⟩))
    (fun os started H enc _ => lifted os started H enc)

theorem proved : Rows.DescGetsSaid :=
  over
#print axioms proved
end Go.Proofs.Ytndppffcladalaa.descGets
