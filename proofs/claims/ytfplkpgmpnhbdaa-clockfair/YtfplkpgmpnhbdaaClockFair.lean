/-
  As long as all are fair, each tells a time that is near the true one; one that was once too far off is not fair any more: for all acts.
-/
import Derived.Test.YtfplkpgmpnhbdaaRows
import Derived.Test.YtfplkpgmpnhbdaaCkActs
import Derived.WalkKit
import Derived.ProofKit
import Derived.OpenShut
import Derived.ShutString
import Derived.Lib.SmallJoins
namespace Go.Proofs.Ytfplkpgmpnhbdaa.clockFair
open Go.ChangeShapes Go.WideShapes Go.ChangeAt Go.RowKit Go.Joins Num
open Go.ChangeMaps (open_string shut_string)
set_option linter.unusedVariables false

theorem own : ownKnob Try.prog.godebug = none := by kernel_rfl
open scoped Classical
set_option maxRecDepth 100000 in
set_option maxHeartbeats 8000000 in

theorem walk (ao0 : Option Addr) (cap0 : Nat) (l0 : List A10) (w : World) (hl0 : LiesA10 w w.heap.size ao0 l0) :
    Calls Try.prog 5 #[.slice ao0 l0.length cap0] w fun e w' => e = .returned (.bool true) ∧ Below w.heap.size w w' := by
  have haw := fun W => awake_any W
  have hnew := cnew_yes 2 (by omega) (by omega) w
  rw [show ((2 : Nat) : Int) = 2 from rfl] at hnew
  go_enter Try.func5, Try.ntmps5
  go_wp2_with (first
    | (go_at_call 7; refine hnew.mono ?_; rintro e w1 ⟨rfl, hh1, hb1⟩; clear hnew)
    | (go_at_call 9; refine (num_any _ _).mono ?_; rintro e wn ⟨rfl, hq⟩; have hq' := hq.symm; clear hq; subst hq'))
  have hgB : ∀ j ∈ [w.heap.size], w.heap.size ≤ j := fun j hj => by
    simp at hj
    omega
  go_loopw [5, 6] (fun f i wr => ∃ (c : Nat) (k : Ck), c ≤ l0.length ∧ c ≤ 100 ∧ f = .bool (!k.odd) ∧ i = .int .i64 (c : Int) ∧ HoldC wr w.heap.size k ∧ Hid (k.n = 2 ∧ k.time ≤ 1000 + (c : Int) * 10000 ∧ Close k) ∧ Below w.heap.size w wr) (fun _ i _ => 100 - (intOf i).toNat)
  case atStart => exact ⟨0, newC 2, by omega, by omega, rfl, rfl, hh1, ⟨rfl, by decide, close_new 2⟩, hb1⟩
  case round =>
    obtain ⟨c, k, hc, hc1, rfl, rfl, hh, HL, hb⟩ := hrel
    clear hh1 hb1
    by_cases hcl : c < l0.length ∧ c < 100
    · have HX : Hid (l0[c]? = some (l0[c]'hcl.1)) := List.getElem?_eq_getElem hcl.1
      obtain ⟨a, rfl, hblk, e0, e1, e2⟩ := hl0 c _ HX.out
      have ea : ∀ W : World, Below w.heap.size w W → W.cell? (a.add (c * 3)) = w.cell? (a.add (c * 3)) ∧ W.cell? ⟨(a.add (c * 3)).block, (a.add (c * 3)).off + 1, none⟩ = w.cell? ⟨(a.add (c * 3)).block, (a.add (c * 3)).off + 1, none⟩ ∧ W.cell? ⟨(a.add (c * 3)).block, (a.add (c * 3)).off + 2, none⟩ = w.cell? ⟨(a.add (c * 3)).block, (a.add (c * 3)).off + 2, none⟩ := fun W hW => ⟨hW.cell (cell_lt e0), hW.cell (cell_lt e1), hW.cell (cell_lt e2)⟩
      have hc2 : (c : Int) < (l0.length : Int) := by omega
      have hc3 : (c : Int) < 100 := by omega
      generalize (l0[c]'hcl.1) = x at *
      obtain ⟨op, xi, xn⟩ := x
      have ee : ∀ W : World, Below w.heap.size w W → W.cell? (a.add (c * 3)) = some (.int .i64 op) ∧ W.cell? ⟨(a.add (c * 3)).block, (a.add (c * 3)).off + 1, none⟩ = some (.int .i64 xi) ∧ W.cell? ⟨(a.add (c * 3)).block, (a.add (c * 3)).off + 2, none⟩ = some (.int .i64 xn) := fun W hW => ⟨(ea W hW).1.trans e0, (ea W hW).2.1.trans e1, (ea W hW).2.2.trans e2⟩
      obtain ⟨u, K, hu, hK, hKm⟩ := place_mod xi 2 (by omega)
      rw [show ((2 : Nat) : Int) = 2 from rfl] at hK
      have hK3 : (K : Int) < 2 := by omega
      clear haw HX e0 e1 e2 ea hblk hcl
      obtain ⟨d0, d1, d2⟩ := ee wr hb
      by_cases h0 : op = 0
      · subst h0
        by_cases hodd : k.odd = true
        · rw [hodd]
          have hac := tick_any w.heap.size k xn wr hh
          have HK : Hid ((tickR k xn).2.n = 2 ∧ (tickR k xn).2.time ≤ 1000 + ((c + 1 : Nat) : Int) * 10000 ∧ Close (tickR k xn).2) := ⟨(tickR_n k xn).trans HL.out.1, by
            have h1 := HL.out.2.1
            have h2 := tickR_time k xn
            omega, close_tick HL.out.2.2 xn⟩
          have HL2 : Hid (((tickR k xn).2).n = 2 ∧ ((tickR k xn).2).time ≤ 1000 + ((c + 1 : Nat) : Int) * 10000 ∧ Close ((tickR k xn).2)) := HK
          clear HK HL
          have hnow := fun W h => now_yes w.heap.size ((tickR k xn).2) K (by rw [HL2.out.1]; exact hKm) W h
          have htru := fun W h => true_any w.heap.size (nowC ((tickR k xn).2) K) W h
          have hfar := fun W h => fair_any w.heap.size (nowC ((tickR k xn).2) K) W h
          rw [show (nowC ((tickR k xn).2) K).odd = ((tickR k xn).2).odd from rfl] at hfar
          rw [show (nowC ((tickR k xn).2) K).time = ((tickR k xn).2).time from rfl] at htru
          have HL3 : CkOk ((tickR k xn).2) → Hid ((nowC ((tickR k xn).2) K).n = 2 ∧ (nowC ((tickR k xn).2) K).time ≤ 1000 + ((c + 1 : Nat) : Int) * 10000 ∧ Close (nowC ((tickR k xn).2) K)) := fun h => ⟨HL2.out.1, HL2.out.2.1, close_now HL2.out.2.2 h.t1 (by have := HL2.out.2.1; omega) K⟩
          have hod : (nowC ((tickR k xn).2) K).odd = ((tickR k xn).2).odd := rfl
          have hO : ((tickR k xn).2).odd = true := (tickR_odd k xn).trans hodd
          rw [hO] at hfar hod
          generalize tellC ((tickR k xn).2) K = E at *
          generalize nowC ((tickR k xn).2) K = k3 at *
          generalize (tickR k xn).2 = k2 at *
          go_wp2_with (first
            | (go_at_call 14; refine (hnow w2 hh2).mono ?_; rintro e w3 ⟨rfl, hh3, hb3⟩
               clear hnow
               have HL4 := HL3 hh2.ok)
            | (go_at_call 10; refine hac.mono ?_; rintro e w2 ⟨rfl, hh2, hb2⟩
               clear hac
               have hbw2 := hb.trans (hb2.below hgB)
               obtain ⟨f0, f1, f2⟩ := ee w2 hbw2)
            | (go_at_call 9; refine (num_any _ _).mono ?_; rintro e wn ⟨rfl, hq⟩; have hq' := hq.symm; clear hq; subst hq')
            | (go_at_call 17; refine (hfar w3 hh3).mono ?_; rintro e wn ⟨rfl, hq⟩; have hq' := hq.symm; clear hq; subst hq')
            | (go_at_call 16; refine (htru w3 hh3).mono ?_; rintro e wn ⟨rfl, hq⟩; have hq' := hq.symm; clear hq; subst hq'))
          go_roundw
          case rel => exact ⟨c + 1, k3, by omega, by omega, by rw [hod]; rfl, by go_num, hh3, HL4, hbw2.trans (hb3.below hgB)⟩
          case measure => simp [intOf]; omega
        have ho2 : k.odd = false := by simpa using hodd
        rw [ho2]
        clear hodd
        have hac := tick_any w.heap.size k xn wr hh
        have HK : Hid ((tickR k xn).2.n = 2 ∧ (tickR k xn).2.time ≤ 1000 + ((c + 1 : Nat) : Int) * 10000 ∧ Close (tickR k xn).2) := ⟨(tickR_n k xn).trans HL.out.1, by
          have h1 := HL.out.2.1
          have h2 := tickR_time k xn
          omega, close_tick HL.out.2.2 xn⟩
        have HL2 : Hid (((tickR k xn).2).n = 2 ∧ ((tickR k xn).2).time ≤ 1000 + ((c + 1 : Nat) : Int) * 10000 ∧ Close ((tickR k xn).2)) := HK
        clear HK HL
        have hnow := fun W h => now_yes w.heap.size ((tickR k xn).2) K (by rw [HL2.out.1]; exact hKm) W h
        have htru := fun W h => true_any w.heap.size (nowC ((tickR k xn).2) K) W h
        have hfar := fun W h => fair_any w.heap.size (nowC ((tickR k xn).2) K) W h
        rw [show (nowC ((tickR k xn).2) K).odd = ((tickR k xn).2).odd from rfl] at hfar
        rw [show (nowC ((tickR k xn).2) K).time = ((tickR k xn).2).time from rfl] at htru
        have HL3 : CkOk ((tickR k xn).2) → Hid ((nowC ((tickR k xn).2) K).n = 2 ∧ (nowC ((tickR k xn).2) K).time ≤ 1000 + ((c + 1 : Nat) : Int) * 10000 ∧ Close (nowC ((tickR k xn).2) K)) := fun h => ⟨HL2.out.1, HL2.out.2.1, close_now HL2.out.2.2 h.t1 (by have := HL2.out.2.1; omega) K⟩
        have hod : (nowC ((tickR k xn).2) K).odd = ((tickR k xn).2).odd := rfl
        have hO : ((tickR k xn).2).odd = false := (tickR_odd k xn).trans ho2
        have hg : CkOk ((tickR k xn).2) → decide (((tickR k xn).2).time + 10 < tellC ((tickR k xn).2) K) = false ∧ decide (tellC ((tickR k xn).2) K < ((tickR k xn).2).time - 10) = false ∧ IntKind.i64.wrap (((tickR k xn).2).time + 10) = ((tickR k xn).2).time + 10 ∧ IntKind.i64.wrap (((tickR k xn).2).time - 10) = ((tickR k xn).2).time - 10 := fun h => by
          have h1 := HL2.out.2.1
          have h2 := h.t1
          have h3 := close_tell HL2.out.2.2 hO h.t1 (by omega) K
          refine ⟨decide_eq_false (by omega), decide_eq_false (by omega), ?_, ?_⟩
          · rw [IntKind.wrap_i64]; omega
          · rw [IntKind.wrap_i64]; omega
        rw [hO] at hfar hod
        generalize tellC ((tickR k xn).2) K = E at *
        generalize nowC ((tickR k xn).2) K = k3 at *
        generalize (tickR k xn).2 = k2 at *
        go_wp2_with (first
          | (go_at_call 14; refine (hnow w2 hh2).mono ?_; rintro e w3 ⟨rfl, hh3, hb3⟩
             clear hnow
             have HL4 := HL3 hh2.ok
             obtain ⟨g3, g4, g5, g6⟩ := hg hh2.ok)
          | (go_at_call 10; refine hac.mono ?_; rintro e w2 ⟨rfl, hh2, hb2⟩
             clear hac
             have hbw2 := hb.trans (hb2.below hgB)
             obtain ⟨f0, f1, f2⟩ := ee w2 hbw2)
          | (go_at_call 9; refine (num_any _ _).mono ?_; rintro e wn ⟨rfl, hq⟩; have hq' := hq.symm; clear hq; subst hq')
          | (go_at_call 17; refine (hfar w3 hh3).mono ?_; rintro e wn ⟨rfl, hq⟩; have hq' := hq.symm; clear hq; subst hq')
          | (go_at_call 16; refine (htru w3 hh3).mono ?_; rintro e wn ⟨rfl, hq⟩; have hq' := hq.symm; clear hq; subst hq'))
        go_roundw
        case rel => exact ⟨c + 1, k3, by omega, by omega, by rw [hod]; rfl, by go_num, hh3, HL4, hbw2.trans (hb3.below hgB)⟩
        case measure => simp [intOf]; omega
      by_cases h1 : op = 1
      · subst h1
        have hiK : (0 : Int) ≤ (K : Int) ∧ (K : Int) < (k.n : Int) := by
          rw [HL.out.1]
          omega
        by_cases hx : -100000 ≤ xn ∧ xn ≤ 100000
        · have hR : setR k (K : Int) xn = (0, setC k K xn) := by
            rw [setR, if_pos hiK, if_pos hx]
            rfl
          have hac := set_any w.heap.size k (K : Int) xn wr hh
          rw [hR] at hac
          clear hR hiK hx
          have HK : Hid ((setC k K xn).n = 2 ∧ (setC k K xn).time ≤ 1000 + ((c + 1 : Nat) : Int) * 10000 ∧ Close (setC k K xn)) := ⟨HL.out.1, by
            have h1 : k.time ≤ _ := HL.out.2.1
            show k.time ≤ _
            omega, close_set HL.out.2.2 K xn⟩
          by_cases hhi : 10 < xn
          · have hfx : isFar xn = true := decide_eq_true (.inr hhi)
            have HL2 : Hid ((setC k K xn).n = 2 ∧ (setC k K xn).time ≤ 1000 + ((c + 1 : Nat) : Int) * 10000 ∧ Close (setC k K xn)) := HK
            clear HK HL
            have hnow := fun W h => now_yes w.heap.size (setC k K xn) K (by rw [HL2.out.1]; exact hKm) W h
            have htru := fun W h => true_any w.heap.size (nowC (setC k K xn) K) W h
            have hfar := fun W h => fair_any w.heap.size (nowC (setC k K xn) K) W h
            rw [show (nowC (setC k K xn) K).odd = (setC k K xn).odd from rfl] at hfar
            rw [show (nowC (setC k K xn) K).time = (setC k K xn).time from rfl] at htru
            have HL3 : CkOk (setC k K xn) → Hid ((nowC (setC k K xn) K).n = 2 ∧ (nowC (setC k K xn) K).time ≤ 1000 + ((c + 1 : Nat) : Int) * 10000 ∧ Close (nowC (setC k K xn) K)) := fun h => ⟨HL2.out.1, HL2.out.2.1, close_now HL2.out.2.2 h.t1 (by have := HL2.out.2.1; omega) K⟩
            have hod : (nowC (setC k K xn) K).odd = (setC k K xn).odd := rfl
            have hO : (setC k K xn).odd = true := by show (k.odd || isFar xn) = true; rw [hfx, Bool.or_true]
            rw [hO] at hfar hod
            generalize tellC (setC k K xn) K = E at *
            generalize nowC (setC k K xn) K = k3 at *
            generalize setC k K xn = k2 at *
            go_wp2_with (first
              | (go_at_call 14; refine (hnow w2 hh2).mono ?_; rintro e w3 ⟨rfl, hh3, hb3⟩
                 clear hnow
                 have HL4 := HL3 hh2.ok)
              | (go_at_call 12; refine hac.mono ?_; rintro e w2 ⟨rfl, hh2, hb2⟩
                 clear hac
                 have hbw2 := hb.trans (hb2.below hgB)
                 obtain ⟨f0, f1, f2⟩ := ee w2 hbw2)
              | (go_at_call 9; refine (num_any _ _).mono ?_; rintro e wn ⟨rfl, hq⟩; have hq' := hq.symm; clear hq; subst hq')
              | (go_at_call 17; refine (hfar w3 hh3).mono ?_; rintro e wn ⟨rfl, hq⟩; have hq' := hq.symm; clear hq; subst hq')
              | (go_at_call 16; refine (htru w3 hh3).mono ?_; rintro e wn ⟨rfl, hq⟩; have hq' := hq.symm; clear hq; subst hq'))
            go_roundw
            case rel => exact ⟨c + 1, k3, by omega, by omega, by rw [hod]; rfl, by go_num, hh3, HL4, hbw2.trans (hb3.below hgB)⟩
            case measure => simp [intOf]; omega
          have hhi2 : decide (10 < xn) = false := decide_eq_false hhi
          by_cases hlo : xn < -10
          · have hfx : isFar xn = true := decide_eq_true (.inl hlo)
            have HL2 : Hid ((setC k K xn).n = 2 ∧ (setC k K xn).time ≤ 1000 + ((c + 1 : Nat) : Int) * 10000 ∧ Close (setC k K xn)) := HK
            clear HK HL
            have hnow := fun W h => now_yes w.heap.size (setC k K xn) K (by rw [HL2.out.1]; exact hKm) W h
            have htru := fun W h => true_any w.heap.size (nowC (setC k K xn) K) W h
            have hfar := fun W h => fair_any w.heap.size (nowC (setC k K xn) K) W h
            rw [show (nowC (setC k K xn) K).odd = (setC k K xn).odd from rfl] at hfar
            rw [show (nowC (setC k K xn) K).time = (setC k K xn).time from rfl] at htru
            have HL3 : CkOk (setC k K xn) → Hid ((nowC (setC k K xn) K).n = 2 ∧ (nowC (setC k K xn) K).time ≤ 1000 + ((c + 1 : Nat) : Int) * 10000 ∧ Close (nowC (setC k K xn) K)) := fun h => ⟨HL2.out.1, HL2.out.2.1, close_now HL2.out.2.2 h.t1 (by have := HL2.out.2.1; omega) K⟩
            have hod : (nowC (setC k K xn) K).odd = (setC k K xn).odd := rfl
            have hO : (setC k K xn).odd = true := by show (k.odd || isFar xn) = true; rw [hfx, Bool.or_true]
            rw [hO] at hfar hod
            generalize tellC (setC k K xn) K = E at *
            generalize nowC (setC k K xn) K = k3 at *
            generalize setC k K xn = k2 at *
            go_wp2_with (first
              | (go_at_call 14; refine (hnow w2 hh2).mono ?_; rintro e w3 ⟨rfl, hh3, hb3⟩
                 clear hnow
                 have HL4 := HL3 hh2.ok)
              | (go_at_call 12; refine hac.mono ?_; rintro e w2 ⟨rfl, hh2, hb2⟩
                 clear hac
                 have hbw2 := hb.trans (hb2.below hgB)
                 obtain ⟨f0, f1, f2⟩ := ee w2 hbw2)
              | (go_at_call 9; refine (num_any _ _).mono ?_; rintro e wn ⟨rfl, hq⟩; have hq' := hq.symm; clear hq; subst hq')
              | (go_at_call 17; refine (hfar w3 hh3).mono ?_; rintro e wn ⟨rfl, hq⟩; have hq' := hq.symm; clear hq; subst hq')
              | (go_at_call 16; refine (htru w3 hh3).mono ?_; rintro e wn ⟨rfl, hq⟩; have hq' := hq.symm; clear hq; subst hq'))
            go_roundw
            case rel => exact ⟨c + 1, k3, by omega, by omega, by rw [hod]; rfl, by go_num, hh3, HL4, hbw2.trans (hb3.below hgB)⟩
            case measure => simp [intOf]; omega
          have hlo2 : decide (xn < -10) = false := decide_eq_false hlo
          have hfx : isFar xn = false := decide_eq_false (by omega)
          by_cases hodd : k.odd = true
          · rw [hodd]
            have HL2 : Hid ((setC k K xn).n = 2 ∧ (setC k K xn).time ≤ 1000 + ((c + 1 : Nat) : Int) * 10000 ∧ Close (setC k K xn)) := HK
            clear HK HL
            have hnow := fun W h => now_yes w.heap.size (setC k K xn) K (by rw [HL2.out.1]; exact hKm) W h
            have htru := fun W h => true_any w.heap.size (nowC (setC k K xn) K) W h
            have hfar := fun W h => fair_any w.heap.size (nowC (setC k K xn) K) W h
            rw [show (nowC (setC k K xn) K).odd = (setC k K xn).odd from rfl] at hfar
            rw [show (nowC (setC k K xn) K).time = (setC k K xn).time from rfl] at htru
            have HL3 : CkOk (setC k K xn) → Hid ((nowC (setC k K xn) K).n = 2 ∧ (nowC (setC k K xn) K).time ≤ 1000 + ((c + 1 : Nat) : Int) * 10000 ∧ Close (nowC (setC k K xn) K)) := fun h => ⟨HL2.out.1, HL2.out.2.1, close_now HL2.out.2.2 h.t1 (by have := HL2.out.2.1; omega) K⟩
            have hod : (nowC (setC k K xn) K).odd = (setC k K xn).odd := rfl
            have hO : (setC k K xn).odd = true := by show (k.odd || isFar xn) = _; rw [hfx, hodd]; rfl
            rw [hO] at hfar hod
            generalize tellC (setC k K xn) K = E at *
            generalize nowC (setC k K xn) K = k3 at *
            generalize setC k K xn = k2 at *
            go_wp2_with (first
              | (go_at_call 14; refine (hnow w2 hh2).mono ?_; rintro e w3 ⟨rfl, hh3, hb3⟩
                 clear hnow
                 have HL4 := HL3 hh2.ok)
              | (go_at_call 12; refine hac.mono ?_; rintro e w2 ⟨rfl, hh2, hb2⟩
                 clear hac
                 have hbw2 := hb.trans (hb2.below hgB)
                 obtain ⟨f0, f1, f2⟩ := ee w2 hbw2)
              | (go_at_call 9; refine (num_any _ _).mono ?_; rintro e wn ⟨rfl, hq⟩; have hq' := hq.symm; clear hq; subst hq')
              | (go_at_call 17; refine (hfar w3 hh3).mono ?_; rintro e wn ⟨rfl, hq⟩; have hq' := hq.symm; clear hq; subst hq')
              | (go_at_call 16; refine (htru w3 hh3).mono ?_; rintro e wn ⟨rfl, hq⟩; have hq' := hq.symm; clear hq; subst hq'))
            go_roundw
            case rel => exact ⟨c + 1, k3, by omega, by omega, by rw [hod]; rfl, by go_num, hh3, HL4, hbw2.trans (hb3.below hgB)⟩
            case measure => simp [intOf]; omega
          have ho2 : k.odd = false := by simpa using hodd
          rw [ho2]
          clear hodd
          have HL2 : Hid ((setC k K xn).n = 2 ∧ (setC k K xn).time ≤ 1000 + ((c + 1 : Nat) : Int) * 10000 ∧ Close (setC k K xn)) := HK
          clear HK HL
          have hnow := fun W h => now_yes w.heap.size (setC k K xn) K (by rw [HL2.out.1]; exact hKm) W h
          have htru := fun W h => true_any w.heap.size (nowC (setC k K xn) K) W h
          have hfar := fun W h => fair_any w.heap.size (nowC (setC k K xn) K) W h
          rw [show (nowC (setC k K xn) K).odd = (setC k K xn).odd from rfl] at hfar
          rw [show (nowC (setC k K xn) K).time = (setC k K xn).time from rfl] at htru
          have HL3 : CkOk (setC k K xn) → Hid ((nowC (setC k K xn) K).n = 2 ∧ (nowC (setC k K xn) K).time ≤ 1000 + ((c + 1 : Nat) : Int) * 10000 ∧ Close (nowC (setC k K xn) K)) := fun h => ⟨HL2.out.1, HL2.out.2.1, close_now HL2.out.2.2 h.t1 (by have := HL2.out.2.1; omega) K⟩
          have hod : (nowC (setC k K xn) K).odd = (setC k K xn).odd := rfl
          have hO : (setC k K xn).odd = false := by show (k.odd || isFar xn) = _; rw [hfx, ho2]; rfl
          have hg : CkOk (setC k K xn) → decide ((setC k K xn).time + 10 < tellC (setC k K xn) K) = false ∧ decide (tellC (setC k K xn) K < (setC k K xn).time - 10) = false ∧ IntKind.i64.wrap ((setC k K xn).time + 10) = (setC k K xn).time + 10 ∧ IntKind.i64.wrap ((setC k K xn).time - 10) = (setC k K xn).time - 10 := fun h => by
            have h1 := HL2.out.2.1
            have h2 := h.t1
            have h3 := close_tell HL2.out.2.2 hO h.t1 (by omega) K
            refine ⟨decide_eq_false (by omega), decide_eq_false (by omega), ?_, ?_⟩
            · rw [IntKind.wrap_i64]; omega
            · rw [IntKind.wrap_i64]; omega
          rw [hO] at hfar hod
          generalize tellC (setC k K xn) K = E at *
          generalize nowC (setC k K xn) K = k3 at *
          generalize setC k K xn = k2 at *
          go_wp2_with (first
            | (go_at_call 14; refine (hnow w2 hh2).mono ?_; rintro e w3 ⟨rfl, hh3, hb3⟩
               clear hnow
               have HL4 := HL3 hh2.ok
               obtain ⟨g3, g4, g5, g6⟩ := hg hh2.ok)
            | (go_at_call 12; refine hac.mono ?_; rintro e w2 ⟨rfl, hh2, hb2⟩
               clear hac
               have hbw2 := hb.trans (hb2.below hgB)
               obtain ⟨f0, f1, f2⟩ := ee w2 hbw2)
            | (go_at_call 9; refine (num_any _ _).mono ?_; rintro e wn ⟨rfl, hq⟩; have hq' := hq.symm; clear hq; subst hq')
            | (go_at_call 17; refine (hfar w3 hh3).mono ?_; rintro e wn ⟨rfl, hq⟩; have hq' := hq.symm; clear hq; subst hq')
            | (go_at_call 16; refine (htru w3 hh3).mono ?_; rintro e wn ⟨rfl, hq⟩; have hq' := hq.symm; clear hq; subst hq'))
          go_roundw
          case rel => exact ⟨c + 1, k3, by omega, by omega, by rw [hod]; rfl, by go_num, hh3, HL4, hbw2.trans (hb3.below hgB)⟩
          case measure => simp [intOf]; omega
        have hR : setR k (K : Int) xn = (1, k) := by
          rw [setR, if_pos hiK, if_neg hx]
        have hac := set_any w.heap.size k (K : Int) xn wr hh
        rw [hR] at hac
        clear hR hiK hx
        by_cases hodd : k.odd = true
        · rw [hodd]
          have HK : Hid (k.n = 2 ∧ k.time ≤ 1000 + ((c + 1 : Nat) : Int) * 10000 ∧ Close k) := ⟨HL.out.1, by
            have h1 := HL.out.2.1
            omega, HL.out.2.2⟩
          have HL2 : Hid ((k).n = 2 ∧ (k).time ≤ 1000 + ((c + 1 : Nat) : Int) * 10000 ∧ Close (k)) := HK
          clear HK HL
          have hnow := fun W h => now_yes w.heap.size (k) K (by rw [HL2.out.1]; exact hKm) W h
          have htru := fun W h => true_any w.heap.size (nowC (k) K) W h
          have hfar := fun W h => fair_any w.heap.size (nowC (k) K) W h
          rw [show (nowC (k) K).odd = (k).odd from rfl] at hfar
          rw [show (nowC (k) K).time = (k).time from rfl] at htru
          have HL3 : CkOk (k) → Hid ((nowC (k) K).n = 2 ∧ (nowC (k) K).time ≤ 1000 + ((c + 1 : Nat) : Int) * 10000 ∧ Close (nowC (k) K)) := fun h => ⟨HL2.out.1, HL2.out.2.1, close_now HL2.out.2.2 h.t1 (by have := HL2.out.2.1; omega) K⟩
          have hod : (nowC (k) K).odd = (k).odd := rfl
          have hO : (k).odd = true := hodd
          rw [hO] at hfar hod
          generalize tellC (k) K = E at *
          generalize nowC (k) K = k3 at *
          go_wp2_with (first
            | (go_at_call 14; refine (hnow w2 hh2).mono ?_; rintro e w3 ⟨rfl, hh3, hb3⟩
               clear hnow
               have HL4 := HL3 hh2.ok)
            | (go_at_call 12; refine hac.mono ?_; rintro e w2 ⟨rfl, hh2, hb2⟩
               clear hac
               have hbw2 := hb.trans (hb2.below hgB)
               obtain ⟨f0, f1, f2⟩ := ee w2 hbw2)
            | (go_at_call 9; refine (num_any _ _).mono ?_; rintro e wn ⟨rfl, hq⟩; have hq' := hq.symm; clear hq; subst hq')
            | (go_at_call 17; refine (hfar w3 hh3).mono ?_; rintro e wn ⟨rfl, hq⟩; have hq' := hq.symm; clear hq; subst hq')
            | (go_at_call 16; refine (htru w3 hh3).mono ?_; rintro e wn ⟨rfl, hq⟩; have hq' := hq.symm; clear hq; subst hq'))
          go_roundw
          case rel => exact ⟨c + 1, k3, by omega, by omega, by rw [hod]; rfl, by go_num, hh3, HL4, hbw2.trans (hb3.below hgB)⟩
          case measure => simp [intOf]; omega
        have ho2 : k.odd = false := by simpa using hodd
        rw [ho2]
        clear hodd
        have HK : Hid (k.n = 2 ∧ k.time ≤ 1000 + ((c + 1 : Nat) : Int) * 10000 ∧ Close k) := ⟨HL.out.1, by
          have h1 := HL.out.2.1
          omega, HL.out.2.2⟩
        have HL2 : Hid ((k).n = 2 ∧ (k).time ≤ 1000 + ((c + 1 : Nat) : Int) * 10000 ∧ Close (k)) := HK
        clear HK HL
        have hnow := fun W h => now_yes w.heap.size (k) K (by rw [HL2.out.1]; exact hKm) W h
        have htru := fun W h => true_any w.heap.size (nowC (k) K) W h
        have hfar := fun W h => fair_any w.heap.size (nowC (k) K) W h
        rw [show (nowC (k) K).odd = (k).odd from rfl] at hfar
        rw [show (nowC (k) K).time = (k).time from rfl] at htru
        have HL3 : CkOk (k) → Hid ((nowC (k) K).n = 2 ∧ (nowC (k) K).time ≤ 1000 + ((c + 1 : Nat) : Int) * 10000 ∧ Close (nowC (k) K)) := fun h => ⟨HL2.out.1, HL2.out.2.1, close_now HL2.out.2.2 h.t1 (by have := HL2.out.2.1; omega) K⟩
        have hod : (nowC (k) K).odd = (k).odd := rfl
        have hO : (k).odd = false := ho2
        have hg : CkOk (k) → decide ((k).time + 10 < tellC (k) K) = false ∧ decide (tellC (k) K < (k).time - 10) = false ∧ IntKind.i64.wrap ((k).time + 10) = (k).time + 10 ∧ IntKind.i64.wrap ((k).time - 10) = (k).time - 10 := fun h => by
          have h1 := HL2.out.2.1
          have h2 := h.t1
          have h3 := close_tell HL2.out.2.2 hO h.t1 (by omega) K
          refine ⟨decide_eq_false (by omega), decide_eq_false (by omega), ?_, ?_⟩
          · rw [IntKind.wrap_i64]; omega
          · rw [IntKind.wrap_i64]; omega
        rw [hO] at hfar hod
        generalize tellC (k) K = E at *
        generalize nowC (k) K = k3 at *
        go_wp2_with (first
          | (go_at_call 14; refine (hnow w2 hh2).mono ?_; rintro e w3 ⟨rfl, hh3, hb3⟩
             clear hnow
             have HL4 := HL3 hh2.ok
             obtain ⟨g3, g4, g5, g6⟩ := hg hh2.ok)
          | (go_at_call 12; refine hac.mono ?_; rintro e w2 ⟨rfl, hh2, hb2⟩
             clear hac
             have hbw2 := hb.trans (hb2.below hgB)
             obtain ⟨f0, f1, f2⟩ := ee w2 hbw2)
          | (go_at_call 9; refine (num_any _ _).mono ?_; rintro e wn ⟨rfl, hq⟩; have hq' := hq.symm; clear hq; subst hq')
          | (go_at_call 17; refine (hfar w3 hh3).mono ?_; rintro e wn ⟨rfl, hq⟩; have hq' := hq.symm; clear hq; subst hq')
          | (go_at_call 16; refine (htru w3 hh3).mono ?_; rintro e wn ⟨rfl, hq⟩; have hq' := hq.symm; clear hq; subst hq'))
        go_roundw
        case rel => exact ⟨c + 1, k3, by omega, by omega, by rw [hod]; rfl, by go_num, hh3, HL4, hbw2.trans (hb3.below hgB)⟩
        case measure => simp [intOf]; omega
      have g0 : decide (op = 0) = false := decide_eq_false h0
      have g1 : decide (op = 1) = false := decide_eq_false h1
      by_cases hodd : k.odd = true
      · rw [hodd]
        have HK : Hid (k.n = 2 ∧ k.time ≤ 1000 + ((c + 1 : Nat) : Int) * 10000 ∧ Close k) := ⟨HL.out.1, by
          have h1 := HL.out.2.1
          omega, HL.out.2.2⟩
        have HL2 : Hid ((k).n = 2 ∧ (k).time ≤ 1000 + ((c + 1 : Nat) : Int) * 10000 ∧ Close (k)) := HK
        clear HK HL
        have hnow := fun W h => now_yes w.heap.size (k) K (by rw [HL2.out.1]; exact hKm) W h
        have htru := fun W h => true_any w.heap.size (nowC (k) K) W h
        have hfar := fun W h => fair_any w.heap.size (nowC (k) K) W h
        rw [show (nowC (k) K).odd = (k).odd from rfl] at hfar
        rw [show (nowC (k) K).time = (k).time from rfl] at htru
        have HL3 : CkOk (k) → Hid ((nowC (k) K).n = 2 ∧ (nowC (k) K).time ≤ 1000 + ((c + 1 : Nat) : Int) * 10000 ∧ Close (nowC (k) K)) := fun h => ⟨HL2.out.1, HL2.out.2.1, close_now HL2.out.2.2 h.t1 (by have := HL2.out.2.1; omega) K⟩
        have hod : (nowC (k) K).odd = (k).odd := rfl
        have hO : (k).odd = true := hodd
        rw [hO] at hfar hod
        generalize tellC (k) K = E at *
        generalize nowC (k) K = k3 at *
        go_wp2_with (first
          | (go_at_call 14; refine (hnow wr hh).mono ?_; rintro e w3 ⟨rfl, hh3, hb3⟩
             clear hnow
             have HL4 := HL3 hh.ok)
          | (go_at_call 9; refine (num_any _ _).mono ?_; rintro e wn ⟨rfl, hq⟩; have hq' := hq.symm; clear hq; subst hq')
          | (go_at_call 17; refine (hfar w3 hh3).mono ?_; rintro e wn ⟨rfl, hq⟩; have hq' := hq.symm; clear hq; subst hq')
          | (go_at_call 16; refine (htru w3 hh3).mono ?_; rintro e wn ⟨rfl, hq⟩; have hq' := hq.symm; clear hq; subst hq'))
        go_roundw
        case rel => exact ⟨c + 1, k3, by omega, by omega, by rw [hod]; rfl, by go_num, hh3, HL4, hb.trans (hb3.below hgB)⟩
        case measure => simp [intOf]; omega
      have ho2 : k.odd = false := by simpa using hodd
      rw [ho2]
      clear hodd
      have HK : Hid (k.n = 2 ∧ k.time ≤ 1000 + ((c + 1 : Nat) : Int) * 10000 ∧ Close k) := ⟨HL.out.1, by
        have h1 := HL.out.2.1
        omega, HL.out.2.2⟩
      have HL2 : Hid ((k).n = 2 ∧ (k).time ≤ 1000 + ((c + 1 : Nat) : Int) * 10000 ∧ Close (k)) := HK
      clear HK HL
      have hnow := fun W h => now_yes w.heap.size (k) K (by rw [HL2.out.1]; exact hKm) W h
      have htru := fun W h => true_any w.heap.size (nowC (k) K) W h
      have hfar := fun W h => fair_any w.heap.size (nowC (k) K) W h
      rw [show (nowC (k) K).odd = (k).odd from rfl] at hfar
      rw [show (nowC (k) K).time = (k).time from rfl] at htru
      have HL3 : CkOk (k) → Hid ((nowC (k) K).n = 2 ∧ (nowC (k) K).time ≤ 1000 + ((c + 1 : Nat) : Int) * 10000 ∧ Close (nowC (k) K)) := fun h => ⟨HL2.out.1, HL2.out.2.1, close_now HL2.out.2.2 h.t1 (by have := HL2.out.2.1; omega) K⟩
      have hod : (nowC (k) K).odd = (k).odd := rfl
      have hO : (k).odd = false := ho2
      have hg : CkOk (k) → decide ((k).time + 10 < tellC (k) K) = false ∧ decide (tellC (k) K < (k).time - 10) = false ∧ IntKind.i64.wrap ((k).time + 10) = (k).time + 10 ∧ IntKind.i64.wrap ((k).time - 10) = (k).time - 10 := fun h => by
        have h1 := HL2.out.2.1
        have h2 := h.t1
        have h3 := close_tell HL2.out.2.2 hO h.t1 (by omega) K
        refine ⟨decide_eq_false (by omega), decide_eq_false (by omega), ?_, ?_⟩
        · rw [IntKind.wrap_i64]; omega
        · rw [IntKind.wrap_i64]; omega
      rw [hO] at hfar hod
      generalize tellC (k) K = E at *
      generalize nowC (k) K = k3 at *
      go_wp2_with (first
        | (go_at_call 14; refine (hnow wr hh).mono ?_; rintro e w3 ⟨rfl, hh3, hb3⟩
           clear hnow
           have HL4 := HL3 hh.ok
           obtain ⟨g3, g4, g5, g6⟩ := hg hh.ok)
        | (go_at_call 9; refine (num_any _ _).mono ?_; rintro e wn ⟨rfl, hq⟩; have hq' := hq.symm; clear hq; subst hq')
        | (go_at_call 17; refine (hfar w3 hh3).mono ?_; rintro e wn ⟨rfl, hq⟩; have hq' := hq.symm; clear hq; subst hq')
        | (go_at_call 16; refine (htru w3 hh3).mono ?_; rintro e wn ⟨rfl, hq⟩; have hq' := hq.symm; clear hq; subst hq'))
      go_roundw
      case rel => exact ⟨c + 1, k3, by omega, by omega, by rw [hod]; rfl, by go_num, hh3, HL4, hb.trans (hb3.below hgB)⟩
      case measure => simp [intOf]; omega
    · by_cases hcL : (c : Int) < (l0.length : Int)
      · have hc3 : decide ((c : Int) < 100) = false := decide_eq_false (by omega)
        go_wp2_with (first
          | (go_at_call 18; refine (haw wr).mono ?_; rintro e wa ⟨rfl, hba⟩))
        go_ret
        exact ⟨rfl, below_next hb (Nat.le_refl _) hba⟩
      · have hc3 : decide ((c : Int) < (l0.length : Int)) = false := decide_eq_false hcL
        go_wp2_with (first
          | (go_at_call 18; refine (haw wr).mono ?_; rintro e wa ⟨rfl, hba⟩))
        go_ret
        exact ⟨rfl, below_next hb (Nat.le_refl _) hba⟩

set_option maxRecDepth 100000 in
theorem lifted (os : Os) (started : os.Started) (H : Type) (enc : TypeId × Value → H) :
    ReturnsInHanded {} Try.checked os 5 .any (Rows.clockFairSpec.pre6 enc Try.prog Try.f5 Rows.clockFairRow.domain false) (Rows.clockFairSpec.post enc Try.prog Try.f5 false true false false) := by
  refine returnsInHanded_of_change (C := Try.checked) own started (by kernel_rfl) Try.func5
    (ChangeSpec.witness6 (enc := enc) (C := Try.checked) false ⟨#[], #[.slice none 0 0], []⟩ 8 (by kernel_rfl) (by kernel_rfl) (by kernel_rfl) (by kernel_rfl)) ?_
  intro W base args ds gs before hval0 hW hcnd _
  have hval : ∀ (j : Nat) t v, Try.f5.params[j]? = some t → args[j]? = some v → Value.okWide Try.prog W .any base t v := hval0
  have hW' := hW
  have hWk := hW
  obtain ⟨p, q, hA0, hV, rfl, hfz, hnd⟩ := hW
  have hA : DataW.TrodAll enc Try.prog W 0 (fun _ => true) true Try.f5.params.toList args.toList ds p := hA0
  rw [Try.params5] at hA hval
  obtain ⟨v0, vs0, d0, ds0, p0, q0, hargs, rfl, rfl, h0, r0⟩ := trodAll_cons hA
  obtain ⟨rfl, rfl, rfl⟩ := trodAll_nil r0
  obtain rfl : args = #[v0] := by cases args; simp_all
  obtain ⟨rfl, rfl⟩ := trodVars_none hV
  have hk0 := h0
  obtain ⟨ao0, cap0, l0, rfl, hlies0⟩ := open_acts10 (hval 0 22 v0 rfl rfl) h0
  have hlt0 : ∀ x ∈ p0, x.block < W.heap.size := fun x hx => by simpa using hWk.lt x (by simp [hx])
  clear hA0 hval0
  simp only [List.append_nil] at hW'

  refine (walk ao0 cap0 l0 W hlies0).mono fun e W' ⟨he, hg⟩ => ?_
  subst he
  exact ⟨_, rfl, _, _, _, [], _, [], hW', trodAll_cons_mk (shut_bool Try.underlying4 _) trodAll_mk0, (trodAll_cons_mk (Below.trod Try.laidOut (by kernel_rfl) (of_decide_eq_true (by kernel_rfl)) hk0 hg hlt0) trodAll_mk0), rfl, hg.frame _, fun h => by cases h⟩

theorem over : Rows.clockFairRow.holds Try.pinned (OpenSpec.ofChange Rows.clockFairSpec) :=
  OpenClaim.holds_of_wide 5 Try.f5 rfl rfl rfl rfl rfl rfl rfl ⟨rfl, rfl, rfl, rfl, rfl⟩ rfl rfl rfl rfl rfl (by kernel_rfl) Try.func5 (by kernel_rfl)
    (of_decide_eq_true (by kernel_rfl)) (by unfold Func.isWrapper; first | (rw [if_pos (by decide +kernel)]; kernel_rfl) | (rw [if_neg (by decide +kernel)]; exact ⟨rfl, rfl⟩))
    (fun os started H enc _ => lifted os started H enc)

theorem proved : Rows.ClockFairSaid :=
  over
#print axioms proved
end Go.Proofs.Ytfplkpgmpnhbdaa.clockFair
