/-
  Whatever is done, a store answers as the document says, for every room and acts.
-/
import Derived.Test.YtgldgedbinbigaaRows
import Derived.Test.YtgldgedbinbigaaSAct
import Derived.WalkKit
import Derived.ProofKit
import Derived.OpenShut
import Derived.ShutString
import Derived.Lib.SmallJoins
namespace Go.Proofs.Ytgldgedbinbigaa.storeRuns
open Go.ChangeShapes Go.WideShapes Go.ChangeAt Go.RowKit Go.Joins Num
open Go.ChangeMaps (open_string shut_string)
set_option linter.unusedVariables false

theorem own : ownKnob Try.prog.godebug = none := by kernel_rfl
open scoped Classical
set_option maxRecDepth 100000 in
set_option maxHeartbeats 8000000 in

theorem walk (a0 : Int) (ha0 : -9223372036854775808 ≤ a0 ∧ a0 ≤ 9223372036854775807) (ao1 : Option Addr) (cap1 : Nat) (l1 : List A8) (w : World) (hl1 : LiesA8 w w.heap.size ao1 l1) :
    Calls Try.prog 3 #[.int .i64 a0, .slice ao1 l1.length cap1] w fun e w' => e = .returned (.bool true) ∧ Below w.heap.size w w' := by
  have haw := fun W => awake_any W
  by_cases hL : Light l1
  · have hhv := heavy_no l1 hL ao1 cap1 w hl1
    by_cases hroom : a0 < 1 ∨ 4096 < a0
    · have hnew := new_no a0 hroom w
      have hrnew := rnew_no a0 hroom w
      go_enter Try.func3, Try.ntmps3
      clear hroom
      go_wp2_with (first
        | (go_at_call 9; refine hhv.mono ?_; rintro e wn ⟨rfl, hq⟩; have hq' := hq.symm; clear hq; subst hq')
        | (go_at_call 11; refine hnew.mono ?_; rintro e wn ⟨rfl, hq⟩; have hq' := hq.symm; clear hq; subst hq')
        | (go_at_call 12; refine hrnew.mono ?_; rintro e wn ⟨rfl, hq⟩; have hq' := hq.symm; clear hq; subst hq')
        | (go_at_call 13; refine (num_any _ _).mono ?_; rintro e wn ⟨rfl, hq⟩; have hq' := hq.symm; clear hq; subst hq'))
      go_loopw [9] (fun i wr => i = .int .i64 0 ∧ wr = w) (fun i _ => 0)
      case atStart => exact ⟨rfl, rfl⟩
      case round =>
        obtain ⟨rfl, hwr⟩ := hrel
        have hwr' := hwr.symm
        clear hwr
        subst hwr'
        go_wp2_with (first
          | (go_at_call 10; refine (haw w).mono ?_; rintro e wa ⟨rfl, hba⟩))
        go_ret
        exact ⟨rfl, hba⟩
    · have hnew := new_yes a0 (by omega) (by omega) w
      have hrnew := fun W => rnew_yes a0 (by omega) (by omega) W
      have hL80 := hL.1
      go_enter Try.func3, Try.ntmps3
      go_wp2_with (first
        | (go_at_call 9; refine hhv.mono ?_; rintro e wn ⟨rfl, hq⟩; have hq' := hq.symm; clear hq; subst hq')
        | (go_at_call 11; refine hnew.mono ?_; rintro e w1 ⟨gs, rfl, hh1, hb1⟩; clear hnew)
        | (go_at_call 12; refine (hrnew w1).mono ?_; rintro e w2 ⟨gr, rfl, hr2, hb2⟩; clear hrnew)
        | (go_at_call 13; refine (num_any _ _).mono ?_; rintro e wn ⟨rfl, hq⟩; have hq' := hq.symm; clear hq; subst hq'))
      have hs2 := hh1.below hb2
      have hr3 := HoldR.down hr2 hb1.size
      have hbw := below_next hb1 (Nat.le_refl _) hb2
      clear hh1 hr2 hb1 hb2 hhv hroom
      go_loopw [9] (fun i wr => ∃ (c : Nat) (st : Sto), c ≤ l1.length ∧ i = .int .i64 (c : Int) ∧ HoldP w.heap.size wr gs st ∧ HoldR w.heap.size wr gr st ∧ st.vs.length ≤ c ∧ Below w.heap.size w wr) (fun i _ => l1.length - (intOf i).toNat)
      case atStart => exact ⟨0, ⟨a0, 0, []⟩, by omega, rfl, hs2, hr3, Nat.le_refl _, hbw⟩
      case round =>
        obtain ⟨c, st, hc, rfl, hh, hhr, hlen, hb⟩ := hrel
        clear hs2 hr3 hbw
        by_cases hcl : c < l1.length
        · have HX : Hid (l1[c]? = some l1[c]) := List.getElem?_eq_getElem hcl
          obtain ⟨a, rfl, hblk, e0, e1, e2, e3, e4⟩ := (hl1.below A8At.fast hb) c l1[c] HX.out
          obtain ⟨hks, hvs⟩ := hL.2 l1[c] (List.getElem_mem hcl)
          generalize l1[c] = x at *
          have hact := act_any w.heap.size gs gr st x hks hvs (by omega) wr hh hhr
          clear haw HX
          go_wp2_with (first
            | (go_at_call 14; refine hact.mono ?_; rintro e w3 ⟨st3, rfl, hh3, hr3, hl3, hb3⟩))
          go_roundw
          case rel => exact ⟨c + 1, st3, by omega, by go_num, hh3, hr3, by omega, hb.trans hb3⟩
          case measure => simp [intOf]; omega
        · have hcl2 : decide ((c : Int) < (l1.length : Int)) = false := decide_eq_false (by omega)
          go_wp2_with (first
            | (go_at_call 10; refine (haw wr).mono ?_; rintro e wa ⟨rfl, hba⟩))
          go_ret
          exact ⟨rfl, below_next hb (Nat.le_refl _) hba⟩
  · have hhv := heavy_yes l1 hL ao1 cap1 w hl1
    go_enter Try.func3, Try.ntmps3
    go_wp2_with (first
      | (go_at_call 9; refine hhv.mono ?_; rintro e wn ⟨rfl, hq⟩; have hq' := hq.symm; clear hq; subst hq')
      | (go_at_call 10; refine (haw w).mono ?_; rintro e wa ⟨rfl, hba⟩))
    go_ret
    exact ⟨rfl, hba⟩

set_option maxRecDepth 100000 in
theorem lifted (os : Os) (started : os.Started) (H : Type) (enc : TypeId × Value → H) :
    ReturnsInHanded {} Try.checked os 3 .any (Rows.storeRunsSpec.pre6 enc Try.prog Try.f3 Rows.storeRunsRow.domain false) (Rows.storeRunsSpec.post enc Try.prog Try.f3 false true false false) := by
  refine returnsInHanded_of_change (C := Try.checked) own started (by kernel_rfl) Try.func3
    (ChangeSpec.witness6 (enc := enc) (C := Try.checked) false ⟨#[], #[.int .i64 0, .slice none 0 0], []⟩ 8 (by kernel_rfl) (by kernel_rfl) (by kernel_rfl) (by kernel_rfl)) ?_
  intro W base args ds gs before hval0 hW hcnd _
  have hval : ∀ (j : Nat) t v, Try.f3.params[j]? = some t → args[j]? = some v → Value.okWide Try.prog W .any base t v := hval0
  have hW' := hW
  have hWk := hW
  obtain ⟨p, q, hA0, hV, rfl, hfz, hnd⟩ := hW
  have hA : DataW.TrodAll enc Try.prog W 0 (fun _ => true) true Try.f3.params.toList args.toList ds p := hA0
  rw [Try.params3] at hA hval
  obtain ⟨v0, vs0, d0, ds0, p0, q0, hargs, rfl, rfl, h0, r0⟩ := trodAll_cons hA
  obtain ⟨v1, vs1, d1, ds1, p1, q1, rfl, rfl, rfl, h1, r1⟩ := trodAll_cons r0
  obtain ⟨rfl, rfl, rfl⟩ := trodAll_nil r1
  obtain rfl : args = #[v0, v1] := by cases args; simp_all
  obtain ⟨rfl, rfl⟩ := trodVars_none hV
  obtain ⟨a0, rfl, rfl, rfl, wa0⟩ := open_int Try.underlying3 (hval 0 3 v0 rfl rfl) h0
  have ba0 := bounds_i64 wa0
  have hk1 := h1
  obtain ⟨ao1, cap1, l1, rfl, hlies1⟩ := open_acts8 (hval 1 22 v1 rfl rfl) h1
  have hlt1 : ∀ x ∈ p1, x.block < W.heap.size := fun x hx => by simpa using hWk.lt x (by simp [hx])
  clear hA0 hval0
  simp only [List.append_nil] at hW'

  refine (walk a0 (by omega) ao1 cap1 l1 W hlies1).mono fun e W' ⟨he, hg⟩ => ?_
  subst he
  exact ⟨_, rfl, _, _, _, [], _, [], hW', trodAll_cons_mk (shut_bool Try.underlying4 _) trodAll_mk0, (trodAll_cons_mk (shut_int Try.underlying3 wa0) (trodAll_cons_mk (Below.trod Try.laidOut (by kernel_rfl) (of_decide_eq_true (by kernel_rfl)) hk1 hg hlt1) trodAll_mk0)), rfl, hg.frame _, fun h => by cases h⟩

theorem over : Rows.storeRunsRow.holds Try.pinned (OpenSpec.ofChange Rows.storeRunsSpec) :=
  OpenClaim.holds_of_wide 3 Try.f3 rfl rfl rfl rfl rfl rfl rfl ⟨rfl, rfl, rfl, rfl, rfl⟩ rfl rfl rfl rfl rfl (by kernel_rfl) Try.func3 (by kernel_rfl)
    (of_decide_eq_true (by kernel_rfl)) (by unfold Func.isWrapper; first | (rw [if_pos (by decide +kernel)]; kernel_rfl) | (rw [if_neg (by decide +kernel)]; exact ⟨rfl, rfl⟩))
    (fun os started H enc _ => lifted os started H enc)

theorem proved : Rows.StoreRunsSaid :=
  over
#print axioms proved
end Go.Proofs.Ytgldgedbinbigaa.storeRuns
