/-
  No clock goes back, whatever it is off, for all acts.
-/
import Derived.Test.YtfplkpgmpnhbdaaRows
import Derived.Test.YtfplkpgmpnhbdaaCkActs
import Derived.WalkKit
import Derived.ProofKit
import Derived.OpenShut
import Derived.ShutString
import Derived.Lib.SmallJoins
namespace Go.Proofs.Ytfplkpgmpnhbdaa.clockRises
open Go.ChangeShapes Go.WideShapes Go.ChangeAt Go.RowKit Go.Joins Num
open Go.ChangeMaps (open_string shut_string)
set_option linter.unusedVariables false

theorem own : ownKnob Try.prog.godebug = none := by kernel_rfl
open scoped Classical
set_option maxRecDepth 100000 in
set_option maxHeartbeats 8000000 in

theorem walk (ao0 : Option Addr) (cap0 : Nat) (l0 : List A10) (w : World) (hl0 : LiesA10 w w.heap.size ao0 l0) :
    Calls Try.prog 4 #[.slice ao0 l0.length cap0] w fun e w' => e = .returned (.bool true) ∧ Below w.heap.size w w' := by
  have haw := fun W => awake_any W
  have hnew := cnew_yes 3 (by omega) (by omega) w
  rw [show ((3 : Nat) : Int) = 3 from rfl] at hnew
  go_enter Try.func4, Try.ntmps4
  go_wp2_with (first
    | (go_at_call 7; refine hnew.mono ?_; rintro e w1 ⟨rfl, hh1, hb1⟩; clear hnew)
    | (go_at_call 9; refine (num_any _ _).mono ?_; rintro e wn ⟨rfl, hq⟩; have hq' := hq.symm; clear hq; subst hq'))
  have hpg : w1.heap.size ∉ [w.heap.size] := by
    have := hh1.lt
    simp
    omega
  have hpB : w.heap.size ≤ w1.heap.size := hb1.size
  have hgB : ∀ j ∈ [w.heap.size], w.heap.size ≤ j := fun j hj => by
    simp at hj
    omega
  have hp0 : BoxF (w1.alloc (.cells #[.int .i64 0, .int .i64 0, .int .i64 0] 43)) w1.heap.size 43 3 (fun j => .int .i64 ((fun _ => 0 : Nat → Int) j)) := boxF_new _ _ _ _ _ _ rfl rfl (fun j hj => by
    match j, hj with
    | 0, _ => rfl
    | 1, _ => rfl
    | 2, _ => rfl
    | j + 3, hj => exact absurd hj (by omega))
  have hbA := (Below.refl w1.heap.size w1).alloc (Nat.le_refl _) (.cells #[.int .i64 0, .int .i64 0, .int .i64 0] 43)
  have hhA := hh1.below hbA
  have hbB := below_next hb1 (Nat.le_refl _) hbA
  clear hh1 hb1 hbA
  go_loopw [6] (fun i wr => ∃ (c : Nat) (k : Ck) (L : Nat → Int), c ≤ l0.length ∧ c ≤ 100 ∧ i = .int .i64 (c : Int) ∧ HoldC wr w.heap.size k ∧ BoxF wr w1.heap.size 43 3 (fun j => .int .i64 (L j)) ∧ Hid (k.n = 3 ∧ ∀ j, L j ≤ k.told j) ∧ Below w.heap.size w wr) (fun i _ => 100 - (intOf i).toNat)
  case atStart => exact ⟨0, newC 3, fun _ => 0, by omega, by omega, rfl, hhA, hp0, ⟨rfl, fun j => Int.le_refl _⟩, hbB⟩
  case round =>
    obtain ⟨c, k, L, hc, hc1, rfl, hh, hp, HL, hb⟩ := hrel
    clear hhA hp0 hbB
    by_cases hcl : c < l0.length ∧ c < 100
    · have HX : Hid (l0[c]? = some (l0[c]'hcl.1)) := List.getElem?_eq_getElem hcl.1
      obtain ⟨a, rfl, hblk, e0, e1, e2⟩ := hl0 c _ HX.out
      have ea : ∀ W : World, Below w.heap.size w W → W.cell? (a.add (c * 3)) = w.cell? (a.add (c * 3)) ∧ W.cell? ⟨(a.add (c * 3)).block, (a.add (c * 3)).off + 1, none⟩ = w.cell? ⟨(a.add (c * 3)).block, (a.add (c * 3)).off + 1, none⟩ ∧ W.cell? ⟨(a.add (c * 3)).block, (a.add (c * 3)).off + 2, none⟩ = w.cell? ⟨(a.add (c * 3)).block, (a.add (c * 3)).off + 2, none⟩ := fun W hW => ⟨hW.cell (cell_lt e0), hW.cell (cell_lt e1), hW.cell (cell_lt e2)⟩
      have hc2 : (c : Int) < (l0.length : Int) := by omega
      have hc3 : (c : Int) < 100 := by omega
      generalize (l0[c]'hcl.1) = x at *
      obtain ⟨op, xi, xn⟩ := x
      have ee : ∀ W : World, Below w.heap.size w W → W.cell? (a.add (c * 3)) = some (.int .i64 op) ∧ W.cell? ⟨(a.add (c * 3)).block, (a.add (c * 3)).off + 1, none⟩ = some (.int .i64 xi) ∧ W.cell? ⟨(a.add (c * 3)).block, (a.add (c * 3)).off + 2, none⟩ = some (.int .i64 xn) := fun W hW => ⟨(ea W hW).1.trans e0, (ea W hW).2.1.trans e1, (ea W hW).2.2.trans e2⟩
      obtain ⟨u, K, hu, hK, hKm⟩ := place_mod xi 3 (by omega)
      rw [show ((3 : Nat) : Int) = 3 from rfl] at hK
      have hK3 : (K : Int) < 3 := by omega
      clear haw HX e0 e1 e2 ea hblk hcl
      obtain ⟨d0, d1, d2⟩ := ee wr hb
      by_cases h0 : op = 0
      · subst h0
        have hac := tick_any _ k xn wr hh
        have hnow := fun W h => now_yes w.heap.size (tickR k xn).2 K (by rw [tickR_n, HL.out.1]; exact hKm) W h
        have htl := fun h => tell_in (c := (tickR k xn).2) h K
        have HL2 : Hid ((nowC (tickR k xn).2 K).n = 3 ∧ ∀ j, upd L K (tellC (tickR k xn).2 K) j ≤ (nowC (tickR k xn).2 K).told j) := ⟨(tickR_n k xn).trans HL.out.1, fun j => by
          show (if j = K then _ else _) ≤ (if j = K then _ else _)
          split
          · exact Int.le_refl _
          · rw [tickR_told]
            exact HL.out.2 j⟩
        have hg : CkOk (tickR k xn).2 → decide (tellC (tickR k xn).2 K < L K) = false ∧ decide (tellC (tickR k xn).2 K < 1) = false := fun h => ⟨decide_eq_false (by
          have h1 := htl h
          have h2 := HL.out.2 K
          rw [tickR_told] at h1
          omega), decide_eq_false (by have := htl h; omega)⟩
        clear HL htl
        generalize tellC (tickR k xn).2 K = E at *
        generalize nowC (tickR k xn).2 K = k3 at *
        generalize (tickR k xn).1 = E0 at *
        generalize (tickR k xn).2 = k2 at *
        go_wp2_with (first
          | (go_at_call 14; refine (hnow w2 hh2).mono ?_; rintro e w3 ⟨rfl, hh3, hb3⟩
             clear hnow
             have hp3 := hp2.kept (hb3.keep _ hpg)
             have y3 := hp3.cell hKm
             have z3 := hp3.unfrozen K)
          | (go_at_call 10; refine hac.mono ?_; rintro e w2 ⟨rfl, hh2, hb2⟩
             clear hac
             have hp2 := hp.kept (hb2.keep _ hpg)
             have hbw2 := hb.trans (hb2.below hgB)
             obtain ⟨f0, f1, f2⟩ := ee w2 hbw2
             obtain ⟨g3, g4⟩ := hg hh2.ok))
        have hp4 := (hp3.set K (.int .i64 E)).ext (f' := fun j => .int .i64 (upd L K E j)) (fun j hj => by
          show (if j = K then Value.int .i64 E else .int .i64 (L j)) = .int .i64 (if j = K then E else L j)
          split <;> rfl)
        have hh4 := hh3.kept (w' := w3.setCell ⟨w1.heap.size, K, none⟩ (.int .i64 E)) (Below.heap_setCell _ _ _ _ (fun e => hpg (by simp at e; simp [e])))
        have hb4 := (hbw2.trans (hb3.below hgB)).setCell (p := ⟨w1.heap.size, K, none⟩) hpB (.int .i64 E)
        go_roundw
        case rel => exact ⟨c + 1, k3, upd L K E, by omega, by omega, by go_num, hh4, hp4, HL2, hb4⟩
        case measure => simp [intOf]; omega
      by_cases h1 : op = 1
      · subst h1
        have hac := set_any _ k K xn wr hh
        have hnow := fun W h => now_yes w.heap.size (setR k K xn).2 K (by rw [setR_n, HL.out.1]; exact hKm) W h
        have htl := fun h => tell_in (c := (setR k K xn).2) h K
        have HL2 : Hid ((nowC (setR k K xn).2 K).n = 3 ∧ ∀ j, upd L K (tellC (setR k K xn).2 K) j ≤ (nowC (setR k K xn).2 K).told j) := ⟨(setR_n k K xn).trans HL.out.1, fun j => by
          show (if j = K then _ else _) ≤ (if j = K then _ else _)
          split
          · exact Int.le_refl _
          · rw [setR_told]
            exact HL.out.2 j⟩
        have hg : CkOk (setR k K xn).2 → decide (tellC (setR k K xn).2 K < L K) = false ∧ decide (tellC (setR k K xn).2 K < 1) = false := fun h => ⟨decide_eq_false (by
          have h1 := htl h
          have h2 := HL.out.2 K
          rw [setR_told] at h1
          omega), decide_eq_false (by have := htl h; omega)⟩
        clear HL htl
        generalize tellC (setR k K xn).2 K = E at *
        generalize nowC (setR k K xn).2 K = k3 at *
        generalize (setR k K xn).1 = E0 at *
        generalize (setR k K xn).2 = k2 at *
        go_wp2_with (first
          | (go_at_call 14; refine (hnow w2 hh2).mono ?_; rintro e w3 ⟨rfl, hh3, hb3⟩
             clear hnow
             have hp3 := hp2.kept (hb3.keep _ hpg)
             have y3 := hp3.cell hKm
             have z3 := hp3.unfrozen K)
          | (go_at_call 12; refine hac.mono ?_; rintro e w2 ⟨rfl, hh2, hb2⟩
             clear hac
             have hp2 := hp.kept (hb2.keep _ hpg)
             have hbw2 := hb.trans (hb2.below hgB)
             obtain ⟨f0, f1, f2⟩ := ee w2 hbw2
             obtain ⟨g3, g4⟩ := hg hh2.ok))
        have hp4 := (hp3.set K (.int .i64 E)).ext (f' := fun j => .int .i64 (upd L K E j)) (fun j hj => by
          show (if j = K then Value.int .i64 E else .int .i64 (L j)) = .int .i64 (if j = K then E else L j)
          split <;> rfl)
        have hh4 := hh3.kept (w' := w3.setCell ⟨w1.heap.size, K, none⟩ (.int .i64 E)) (Below.heap_setCell _ _ _ _ (fun e => hpg (by simp at e; simp [e])))
        have hb4 := (hbw2.trans (hb3.below hgB)).setCell (p := ⟨w1.heap.size, K, none⟩) hpB (.int .i64 E)
        go_roundw
        case rel => exact ⟨c + 1, k3, upd L K E, by omega, by omega, by go_num, hh4, hp4, HL2, hb4⟩
        case measure => simp [intOf]; omega
      have g0 : decide (op = 0) = false := decide_eq_false h0
      have g1 : decide (op = 1) = false := decide_eq_false h1
      have hnow := now_yes _ k K (by rw [HL.out.1]; exact hKm) wr hh
      have htl := tell_in hh.ok K
      have HL2 : Hid ((nowC k K).n = 3 ∧ ∀ j, upd L K (tellC k K) j ≤ (nowC k K).told j) := ⟨HL.out.1, fun j => by
        show (if j = K then _ else _) ≤ (if j = K then _ else _)
        split
        · exact Int.le_refl _
        · exact HL.out.2 j⟩
      have g3 : decide (tellC k K < L K) = false := decide_eq_false (by have := HL.out.2 K; omega)
      have g4 : decide (tellC k K < 1) = false := decide_eq_false (by omega)
      clear HL htl
      generalize tellC k K = E at *
      generalize nowC k K = k3 at *
      go_wp2_with (first
        | (go_at_call 14; refine hnow.mono ?_; rintro e w3 ⟨rfl, hh3, hb3⟩
           clear hnow
           have hp3 := hp.kept (hb3.keep _ hpg)
           have y3 := hp3.cell hKm
           have z3 := hp3.unfrozen K))
      have hp4 := (hp3.set K (.int .i64 E)).ext (f' := fun j => .int .i64 (upd L K E j)) (fun j hj => by
        show (if j = K then Value.int .i64 E else .int .i64 (L j)) = .int .i64 (if j = K then E else L j)
        split <;> rfl)
      have hh4 := hh3.kept (w' := w3.setCell ⟨w1.heap.size, K, none⟩ (.int .i64 E)) (Below.heap_setCell _ _ _ _ (fun e => hpg (by simp at e; simp [e])))
      have hb4 := (hb.trans (hb3.below hgB)).setCell (p := ⟨w1.heap.size, K, none⟩) hpB (.int .i64 E)
      go_roundw
      case rel => exact ⟨c + 1, k3, upd L K E, by omega, by omega, by go_num, hh4, hp4, HL2, hb4⟩
      case measure => simp [intOf]; omega
    · by_cases hcL : (c : Int) < (l0.length : Int)
      · have hc3 : decide ((c : Int) < 100) = false := decide_eq_false (by omega)
        go_wp2_with (first
          | (go_at_call 18; refine (haw wr).mono ?_; rintro e wa ⟨rfl, hba⟩))
        go_ret
        exact ⟨rfl, below_next hb (Nat.le_refl _) hba⟩
      · have hc3 : decide ((c : Int) < (l0.length : Int)) = false := decide_eq_false hcL
        go_wp2_with (first
          | (go_at_call 18; refine (haw wr).mono ?_; rintro e wa ⟨rfl, hba⟩))
        go_ret
        exact ⟨rfl, below_next hb (Nat.le_refl _) hba⟩

set_option maxRecDepth 100000 in
theorem lifted (os : Os) (started : os.Started) (H : Type) (enc : TypeId × Value → H) :
    ReturnsInHanded {} Try.checked os 4 .any (Rows.clockRisesSpec.pre6 enc Try.prog Try.f4 Rows.clockRisesRow.domain false) (Rows.clockRisesSpec.post enc Try.prog Try.f4 false true false false) := by
  refine returnsInHanded_of_change (C := Try.checked) own started (by kernel_rfl) Try.func4
    (ChangeSpec.witness6 (enc := enc) (C := Try.checked) false ⟨#[], #[.slice none 0 0], []⟩ 8 (by kernel_rfl) (by kernel_rfl) (by kernel_rfl) (by kernel_rfl)) ?_
  intro W base args ds gs before hval0 hW hcnd _
  have hval : ∀ (j : Nat) t v, Try.f4.params[j]? = some t → args[j]? = some v → Value.okWide Try.prog W .any base t v := hval0
  have hW' := hW
  have hWk := hW
  obtain ⟨p, q, hA0, hV, rfl, hfz, hnd⟩ := hW
  have hA : DataW.TrodAll enc Try.prog W 0 (fun _ => true) true Try.f4.params.toList args.toList ds p := hA0
  rw [Try.params4] at hA hval
  obtain ⟨v0, vs0, d0, ds0, p0, q0, hargs, rfl, rfl, h0, r0⟩ := trodAll_cons hA
  obtain ⟨rfl, rfl, rfl⟩ := trodAll_nil r0
  obtain rfl : args = #[v0] := by cases args; simp_all
  obtain ⟨rfl, rfl⟩ := trodVars_none hV
  have hk0 := h0
  obtain ⟨ao0, cap0, l0, rfl, hlies0⟩ := open_acts10 (hval 0 22 v0 rfl rfl) h0
  have hlt0 : ∀ x ∈ p0, x.block < W.heap.size := fun x hx => by simpa using hWk.lt x (by simp [hx])
  clear hA0 hval0
  simp only [List.append_nil] at hW'

  refine (walk ao0 cap0 l0 W hlies0).mono fun e W' ⟨he, hg⟩ => ?_
  subst he
  exact ⟨_, rfl, _, _, _, [], _, [], hW', trodAll_cons_mk (shut_bool Try.underlying4 _) trodAll_mk0, (trodAll_cons_mk (Below.trod Try.laidOut (by kernel_rfl) (of_decide_eq_true (by kernel_rfl)) hk0 hg hlt0) trodAll_mk0), rfl, hg.frame _, fun h => by cases h⟩

theorem over : Rows.clockRisesRow.holds Try.pinned (OpenSpec.ofChange Rows.clockRisesSpec) :=
  OpenClaim.holds_of_wide 4 Try.f4 rfl rfl rfl rfl rfl rfl rfl ⟨rfl, rfl, rfl, rfl, rfl⟩ rfl rfl rfl rfl rfl (by kernel_rfl) Try.func4 (by kernel_rfl)
    (of_decide_eq_true (by kernel_rfl)) (by unfold Func.isWrapper; first | (rw [if_pos (by decide +kernel)]; kernel_rfl) | (rw [if_neg (by decide +kernel)]; exact ⟨rfl, rfl⟩))
    (fun os started H enc _ => lifted os started H enc)

theorem proved : Rows.ClockRisesSaid :=
  over
#print axioms proved
end Go.Proofs.Ytfplkpgmpnhbdaa.clockRises
