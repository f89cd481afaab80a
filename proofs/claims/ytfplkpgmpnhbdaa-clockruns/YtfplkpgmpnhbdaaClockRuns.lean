/-
  Whatever is done, clocks answer as the document says, for every number of clocks and all acts.
-/
import Derived.Test.YtfplkpgmpnhbdaaRows
import Derived.Test.YtfplkpgmpnhbdaaCkActs
import Derived.WalkKit
import Derived.ProofKit
import Derived.OpenShut
import Derived.ShutString
import Derived.Lib.SmallJoins
namespace Go.Proofs.Ytfplkpgmpnhbdaa.clockRuns
open Go.ChangeShapes Go.WideShapes Go.ChangeAt Go.RowKit Go.Joins Num
open Go.ChangeMaps (open_string shut_string)
set_option linter.unusedVariables false

theorem own : ownKnob Try.prog.godebug = none := by kernel_rfl
open scoped Classical
set_option maxRecDepth 100000 in
set_option maxHeartbeats 8000000 in

theorem walk (a0 : Int) (ha0 : -9223372036854775808 ≤ a0 ∧ a0 ≤ 9223372036854775807) (ao1 : Option Addr) (cap1 : Nat) (l1 : List A10) (w : World) (hl1 : LiesA10 w w.heap.size ao1 l1) :
    Calls Try.prog 3 #[.int .i64 a0, .slice ao1 l1.length cap1] w fun e w' => e = .returned (.bool true) ∧ Below w.heap.size w w' := by
  have haw := fun W => awake_any W
  by_cases hroom : a0 < 1 ∨ 16 < a0
  · have hnew := cnew_no a0 hroom w
    have hrnew := rnew_no a0 hroom w
    go_enter Try.func3, Try.ntmps3
    clear hroom
    go_wp2_with (first
      | (go_at_call 7; refine hnew.mono ?_; rintro e wn ⟨rfl, hq⟩; have hq' := hq.symm; clear hq; subst hq')
      | (go_at_call 8; refine hrnew.mono ?_; rintro e wn ⟨rfl, hq⟩; have hq' := hq.symm; clear hq; subst hq')
      | (go_at_call 9; refine (num_any _ _).mono ?_; rintro e wn ⟨rfl, hq⟩; have hq' := hq.symm; clear hq; subst hq'))
    go_loopw [9] (fun i wr => i = .int .i64 0 ∧ wr = w) (fun i _ => 0)
    case atStart => exact ⟨rfl, rfl⟩
    case round =>
      obtain ⟨rfl, hwr⟩ := hrel
      have hwr' := hwr.symm
      clear hwr
      subst hwr'
      go_wp2_with (first
        | (go_at_call 18; refine (haw w).mono ?_; rintro e wa ⟨rfl, hba⟩))
      go_ret
      exact ⟨rfl, hba⟩
  · obtain ⟨n, rfl⟩ := Int.eq_ofNat_of_zero_le (show 0 ≤ a0 by omega)
    have hnew := cnew_yes n (by omega) (by omega) w
    have hrnew := fun W => rnew_yes n (by omega) (by omega) W
    go_enter Try.func3, Try.ntmps3
    go_wp2_with (first
      | (go_at_call 7; refine hnew.mono ?_; rintro e w1 ⟨rfl, hh1, hb1⟩; clear hnew)
      | (go_at_call 8; refine (hrnew w1).mono ?_; rintro e w2 ⟨r, ro, rl, rfl, hr2, l1, l2, l3, hb2⟩; clear hrnew)
      | (go_at_call 9; refine (num_any _ _).mono ?_; rintro e wn ⟨rfl, hq⟩; have hq' := hq.symm; clear hq; subst hq'))
    have hlt := hh1.lt
    have hT : Duo w.heap.size w2 w.heap.size r ro rl (newC n) := ⟨hh1.below hb2, hr2, by omega, by omega, by omega, Nat.le_refl _, by omega, by omega, by omega⟩
    have hbw := below_next hb1 (Nat.le_refl _) hb2
    clear hh1 hr2 hb1 hb2 hlt l1 l2 l3 hroom
    go_loopw [9] (fun i wr => ∃ (c : Nat) (k : Ck), c ≤ l1.length ∧ c ≤ 100 ∧ i = .int .i64 (c : Int) ∧ Duo w.heap.size wr w.heap.size r ro rl k ∧ Below w.heap.size w wr) (fun i _ => 100 - (intOf i).toNat)
    case atStart => exact ⟨0, newC n, by omega, by omega, rfl, hT, hbw⟩
    case round =>
      obtain ⟨c, k, hc, hc1, rfl, hD, hb⟩ := hrel
      clear hT hbw
      by_cases hcl : c < l1.length ∧ c < 100
      · have HX : Hid (l1[c]? = some (l1[c]'hcl.1)) := List.getElem?_eq_getElem hcl.1
        obtain ⟨a, rfl, hblk, e0, e1, e2⟩ := (hl1.below A10At.fast hb) c _ HX.out
        have hc2 : (c : Int) < (l1.length : Int) := by omega
        have hc3 : (c : Int) < 100 := by omega
        generalize (l1[c]'hcl.1) = x at *
        obtain ⟨op, xi, xn⟩ := x
        obtain ⟨WA, hWA⟩ : ∃ WA, WA = (wr.alloc (.cells #[.int .i64 op, .int .i64 xi, .int .i64 xn] 32)).drew := ⟨_, rfl⟩
        have kbA : WA.heap[wr.heap.size]? = some (.cells #[.int .i64 op, .int .i64 xi, .int .i64 xn] 32) := by rw [hWA]; exact heap_new wr _
        have hbA : Below wr.heap.size wr WA := by rw [hWA]; exact ((Below.refl _ wr).alloc (Nat.le_refl _) _).drew
        have hDA := hD.below hbA
        have hbB : Below w.heap.size w WA := below_next hb (Nat.le_refl _) hbA
        have hq : ∀ W : World, W.heap[wr.heap.size]? = some (.cells #[.int .i64 op, .int .i64 xi, .int .i64 xn] 32) → W.cell? ⟨wr.heap.size, 1, none⟩ = some (.int .i64 xi) ∧ W.cell? ⟨wr.heap.size, 2, none⟩ = some (.int .i64 xn) := fun W h => ⟨box_cell h 1 _ rfl, box_cell h 2 _ rfl⟩
        have u0 : wr.heap.size ∉ [w.heap.size] := by
          have := hD.p.lt
          simp
          omega
        have u1 : wr.heap.size ∉ [r, ro, rl] := by
          have h1 := hD.d.box.lt
          have h2 := hD.d.offs.lt
          have h3 := hD.d.tolds.lt
          simp
          omega
        have hS0 := hq _ kbA
        clear haw HX hD hbA hb
        subst hWA
        by_cases h0 : op = 0
        · subst h0
          have htk := tick_any _ k xn _ hDA.p
          have hrt := fun W h => rtick_any r ro rl k xn W h
          generalize (tickR k xn).1 = E at *
          generalize (tickR k xn).2 = k2 at *
          go_wp2_with fail
          go_region_held_law (fun w' => w'.cell? ⟨wr.heap.size, 1, none⟩ = some (.int .i64 xi) ∧ w'.cell? ⟨wr.heap.size, 2, none⟩ = some (.int .i64 xn)) (first | exact hS3 | exact hS2 | exact hS0)
            (first
              | (go_at_call 10; refine htk.mono ?_; rintro e w2 ⟨rfl, hh2, hb2⟩
                 clear htk
                 have kb2 := (hb2.keep _ u0).trans kbA
                 have hd2 := hDA.left hb2
                 have hS2 := hq _ kb2)
              | (go_at_call 9; refine (num_any _ _).mono ?_; rintro e wn ⟨rfl, hq9⟩; have hq' := hq9.symm; clear hq9; subst hq')
              | (go_at_call 11; refine (hrt w2 hd2).mono ?_; rintro e w3 ⟨rfl, hd3, hb3⟩
                 clear hrt
                 have hS3 := hq _ ((hb3.keep _ u1).trans kb2)))
          have hD3 := hDA.step hh2 hd3 hb3
          have hf3 := hDA.frame hb2 hb3
          clear hDA hS0 hS2 hS3 kbA kb2 hh2 hd2 hd3 hb2 hb3 hq
          go_wp2
          go_roundw
          case rel => exact ⟨c + 1, k2, by omega, by omega, by go_num, hD3, hbB.trans hf3⟩
          case measure => simp [intOf]; omega
        by_cases h1 : op = 1
        · subst h1
          have htk := set_any _ k xi xn _ hDA.p
          have hrt := fun W h => rset_any r ro rl k xi xn W h
          generalize (setR k xi xn).1 = E at *
          generalize (setR k xi xn).2 = k2 at *
          go_wp2_with fail
          go_region_held_law (fun w' => w'.cell? ⟨wr.heap.size, 1, none⟩ = some (.int .i64 xi) ∧ w'.cell? ⟨wr.heap.size, 2, none⟩ = some (.int .i64 xn)) (first | exact hS3 | exact hS2 | exact hS0)
            (first
              | (go_at_call 12; refine htk.mono ?_; rintro e w2 ⟨rfl, hh2, hb2⟩
                 clear htk
                 have kb2 := (hb2.keep _ u0).trans kbA
                 have hd2 := hDA.left hb2
                 have hS2 := hq _ kb2)
              | (go_at_call 9; refine (num_any _ _).mono ?_; rintro e wn ⟨rfl, hq9⟩; have hq' := hq9.symm; clear hq9; subst hq')
              | (go_at_call 13; refine (hrt w2 hd2).mono ?_; rintro e w3 ⟨rfl, hd3, hb3⟩
                 clear hrt
                 have hS3 := hq _ ((hb3.keep _ u1).trans kb2)))
          have hD3 := hDA.step hh2 hd3 hb3
          have hf3 := hDA.frame hb2 hb3
          clear hDA hS0 hS2 hS3 kbA kb2 hh2 hd2 hd3 hb2 hb3 hq
          go_wp2
          go_roundw
          case rel => exact ⟨c + 1, k2, by omega, by omega, by go_num, hD3, hbB.trans hf3⟩
          case measure => simp [intOf]; omega
        by_cases h2 : op = 2
        · subst h2
          have htk := now_any _ k xi _ hDA.p
          have hrt := fun W h => rnow_any r ro rl k xi W h
          generalize (nowR k xi).1 = E at *
          generalize (nowR k xi).2 = k2 at *
          go_wp2_with fail
          go_region_held_law (fun w' => w'.cell? ⟨wr.heap.size, 1, none⟩ = some (.int .i64 xi) ∧ w'.cell? ⟨wr.heap.size, 2, none⟩ = some (.int .i64 xn)) (first | exact hS3 | exact hS2 | exact hS0)
            (first
              | (go_at_call 14; refine htk.mono ?_; rintro e w2 ⟨rfl, hh2, hb2⟩
                 clear htk
                 have kb2 := (hb2.keep _ u0).trans kbA
                 have hd2 := hDA.left hb2
                 have hS2 := hq _ kb2)
              | (go_at_call 15; refine (hrt w2 hd2).mono ?_; rintro e w3 ⟨rfl, hd3, hb3⟩
                 clear hrt
                 have hS3 := hq _ ((hb3.keep _ u1).trans kb2)))
          have hD3 := hDA.step hh2 hd3 hb3
          have hf3 := hDA.frame hb2 hb3
          clear hDA hS0 hS2 hS3 kbA kb2 hh2 hd2 hd3 hb2 hb3 hq
          go_wp2
          go_roundw
          case rel => exact ⟨c + 1, k2, by omega, by omega, by go_num, hD3, hbB.trans hf3⟩
          case measure => simp [intOf]; omega
        have htr := true_any _ k _ hDA.p
        have hfa := fair_any _ k _ hDA.p
        have k0 : ((wr.alloc (.cells #[.int .i64 op, .int .i64 xi, .int .i64 xn] 32)).drew).cell? ⟨r, 0, none⟩ = some (.int .i64 k.time) := hDA.d.box.cell (k := 0) (by omega)
        have k3 : ((wr.alloc (.cells #[.int .i64 op, .int .i64 xi, .int .i64 xn] 32)).drew).cell? ⟨r, 3, none⟩ = some (.bool (!k.odd)) := hDA.d.box.cell (k := 3) (by omega)
        have g0 : decide (op = 0) = false := decide_eq_false h0
        have g1 : decide (op = 1) = false := decide_eq_false h1
        have g2 : decide (op = 2) = false := decide_eq_false h2
        clear hS0 hq
        go_wp2_with fail
        go_region_held_law (fun w' => w'.cell? ⟨r, 0, none⟩ = some (.int .i64 k.time) ∧ w'.cell? ⟨r, 3, none⟩ = some (.bool (!k.odd))) (first | exact ⟨k0, k3⟩)
          (first
            | (go_at_call 16; refine htr.mono ?_; rintro e wn ⟨rfl, hq9⟩; have hq' := hq9.symm; clear hq9; subst hq')
            | (go_at_call 17; refine hfa.mono ?_; rintro e wn ⟨rfl, hq9⟩; have hq' := hq9.symm; clear hq9; subst hq'))
        clear htr hfa k0 k3
        go_wp2
        go_roundw
        case rel => exact ⟨c + 1, k, by omega, by omega, by go_num, hDA, hbB⟩
        case measure => simp [intOf]; omega
      · by_cases hcL : (c : Int) < (l1.length : Int)
        · have hc3 : decide ((c : Int) < 100) = false := decide_eq_false (by omega)
          go_wp2_with (first
            | (go_at_call 18; refine (haw wr).mono ?_; rintro e wa ⟨rfl, hba⟩))
          go_ret
          exact ⟨rfl, below_next hb (Nat.le_refl _) hba⟩
        · have hc3 : decide ((c : Int) < (l1.length : Int)) = false := decide_eq_false hcL
          go_wp2_with (first
            | (go_at_call 18; refine (haw wr).mono ?_; rintro e wa ⟨rfl, hba⟩))
          go_ret
          exact ⟨rfl, below_next hb (Nat.le_refl _) hba⟩

set_option maxRecDepth 100000 in
theorem lifted (os : Os) (started : os.Started) (H : Type) (enc : TypeId × Value → H) :
    ReturnsInHanded {} Try.checked os 3 .any (Rows.clockRunsSpec.pre6 enc Try.prog Try.f3 Rows.clockRunsRow.domain false) (Rows.clockRunsSpec.post enc Try.prog Try.f3 false true false false) := by
  refine returnsInHanded_of_change (C := Try.checked) own started (by kernel_rfl) Try.func3
    (ChangeSpec.witness6 (enc := enc) (C := Try.checked) false ⟨#[], #[.int .i64 0, .slice none 0 0], []⟩ 8 (by kernel_rfl) (by kernel_rfl) (by kernel_rfl) (by kernel_rfl)) ?_
  intro W base args ds gs before hval0 hW hcnd _
  have hval : ∀ (j : Nat) t v, Try.f3.params[j]? = some t → args[j]? = some v → Value.okWide Try.prog W .any base t v := hval0
  have hW' := hW
  have hWk := hW
  obtain ⟨p, q, hA0, hV, rfl, hfz, hnd⟩ := hW
  have hA : DataW.TrodAll enc Try.prog W 0 (fun _ => true) true Try.f3.params.toList args.toList ds p := hA0
  rw [Try.params3] at hA hval
  obtain ⟨v0, vs0, d0, ds0, p0, q0, hargs, rfl, rfl, h0, r0⟩ := trodAll_cons hA
  obtain ⟨v1, vs1, d1, ds1, p1, q1, rfl, rfl, rfl, h1, r1⟩ := trodAll_cons r0
  obtain ⟨rfl, rfl, rfl⟩ := trodAll_nil r1
  obtain rfl : args = #[v0, v1] := by cases args; simp_all
  obtain ⟨rfl, rfl⟩ := trodVars_none hV
  obtain ⟨a0, rfl, rfl, rfl, wa0⟩ := open_int Try.underlying3 (hval 0 3 v0 rfl rfl) h0
  have ba0 := bounds_i64 wa0
  have hk1 := h1
  obtain ⟨ao1, cap1, l1, rfl, hlies1⟩ := open_acts10 (hval 1 22 v1 rfl rfl) h1
  have hlt1 : ∀ x ∈ p1, x.block < W.heap.size := fun x hx => by simpa using hWk.lt x (by simp [hx])
  clear hA0 hval0
  simp only [List.append_nil] at hW'

  refine (walk a0 (by omega) ao1 cap1 l1 W hlies1).mono fun e W' ⟨he, hg⟩ => ?_
  subst he
  exact ⟨_, rfl, _, _, _, [], _, [], hW', trodAll_cons_mk (shut_bool Try.underlying4 _) trodAll_mk0, (trodAll_cons_mk (shut_int Try.underlying3 wa0) (trodAll_cons_mk (Below.trod Try.laidOut (by kernel_rfl) (of_decide_eq_true (by kernel_rfl)) hk1 hg hlt1) trodAll_mk0)), rfl, hg.frame _, fun h => by cases h⟩

theorem over : Rows.clockRunsRow.holds Try.pinned (OpenSpec.ofChange Rows.clockRunsSpec) :=
  OpenClaim.holds_of_wide 3 Try.f3 rfl rfl rfl rfl rfl rfl rfl ⟨rfl, rfl, rfl, rfl, rfl⟩ rfl rfl rfl rfl rfl (by kernel_rfl) Try.func3 (by kernel_rfl)
    (of_decide_eq_true (by kernel_rfl)) (by unfold Func.isWrapper; first | (rw [if_pos (by decide +kernel)]; kernel_rfl) | (rw [if_neg (by decide +kernel)]; exact ⟨rfl, rfl⟩))
    (fun os started H enc _ => lifted os started H enc)

theorem proved : Rows.ClockRunsSaid :=
  over
#print axioms proved
end Go.Proofs.Ytfplkpgmpnhbdaa.clockRuns
