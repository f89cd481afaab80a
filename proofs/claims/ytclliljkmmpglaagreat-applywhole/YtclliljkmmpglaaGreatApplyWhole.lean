/-
  Proved: for every list of writes, room and lateness, the law ApplyWhole returns true: a command that is OK is done whole, one that is not, not at all (14.4), and the document's example holds; the arguments stay as they were.
-/
import Derived.Test.YtclliljkmmpglaaGreatRows
import Derived.Test.YtclliljkmmpglaaGreatApYb
import Derived.Test.YtclliljkmmpglaaGreatCGreat
import Derived.WalkKit
import Derived.ProofKit
import Derived.OpenShut
import Derived.ShutString
import Derived.Lib.SmallJoins
namespace Go.Proofs.YtclliljkmmpglaaGreat.applyWhole
open Go.ChangeShapes Go.WideShapes Go.ChangeAt Go.RowKit Go.Joins Num
open Go.ChangeMaps (open_string shut_string)
set_option linter.unusedVariables false
set_option maxRecDepth 100000

theorem own : ownKnob Tryz.prog.godebug = none := by kernel_rfl

open scoped Classical
open Go.Maps
set_option maxRecDepth 100000
set_option maxHeartbeats 8000000
abbrev whS (ao : Option Addr) (cap : Nat) : Cs := ⟨none, 0, none, 0, ao, cap, none, 0⟩
theorem wh_in (ws : List Wrt) (dead : Int) : CmdIn (whC ws dead) := fun l h => by cases h
theorem wh_lies {W : World} {B : Nat} {ao : Option Addr} {cap : Nat} {ws : List Wrt} {dead : Int} (h : LiesW W B ao ws) : LiesC W B (whS ao cap) (whC ws dead) := ⟨lies_noneG, lies_noneG, h, lies_noneG⟩
theorem wh_a0 (ao0 : Option Addr) (cap0 : Nat) (l0 : List Wrt) (f1 : Nat) (hf1 : f1 < 256) (q : ¬ SmallC (whC l0 0)) (w : World) (hl0 : LiesW w w.heap.size ao0 l0) :
    Calls Tryz.prog 5 #[.slice ao0 l0.length cap0, .int .u8 (f1 : Int), .bool false] w fun e w' => e = .returned (.bool true) ∧ Below w.heap.size w w' := by
  have hl9 : LiesC w w.heap.size (whS ao0 cap0) (whC l0 0) := wh_lies hl0
  have hg : ∀ w, LiesC w w.heap.size (whS ao0 cap0) (whC l0 0) → Calls Tryz.prog 26 #[cmV (whS ao0 cap0) (whC l0 0)] w fun e w' => e = .returned (.bool true) ∧ Below w.heap.size w w' := fun w h => by
    have := great_any (whC l0 0) (whS ao0 cap0) w h
    rw [tru_yes q] at this
    exact this
  have hbx := heap_new w (cmCells (whS ao0 cap0) (whC l0 0))
  have hla := liesC_alloc hl9 (cmCells (whS ao0 cap0) (whC l0 0))
  obtain ⟨k0, k1, k2, k3, k4, k5, k6, k7, k8, k9, k10, k11, k12⟩ := cm_cells hbx
  go_enter Tryz.func5, Tryz.ntmps5
  go_wp2_with (first
    | (go_at_call 26; refine (hg _ hla).mono ?_; rintro e w1 ⟨rfl, hb1⟩; have b1 := below_box hb1 hbx; clear k0 k1 k2 k3 k4 k5 k6 k7 k8 k9 k10 k11 k12; obtain ⟨k0, k1, k2, k3, k4, k5, k6, k7, k8, k9, k10, k11, k12⟩ := cm_cells b1; have hla1 := liesC_next hla hb1)
    | (go_at_call 10; refine (awake14 _).mono ?_; rintro e w9 ⟨rfl, hb9⟩))
  go_ret
  exact ⟨rfl, below_next (below_box0 hb1) (Nat.le_refl _) hb9⟩
theorem wh_b0 (ao0 : Option Addr) (cap0 : Nat) (l0 : List Wrt) (f1 : Nat) (hf1 : f1 < 256) (q : SmallC (whC l0 0)) (hok : ¬ CmdOk (whC l0 0)) (w : World) (hl0 : LiesW w w.heap.size ao0 l0) :
    Calls Tryz.prog 5 #[.slice ao0 l0.length cap0, .int .u8 (f1 : Int), .bool false] w fun e w' => e = .returned (.bool true) ∧ Below w.heap.size w w' := by
  have hl9 : LiesC w w.heap.size (whS ao0 cap0) (whC l0 0) := wh_lies hl0
  have hg : ∀ w, LiesC w w.heap.size (whS ao0 cap0) (whC l0 0) → Calls Tryz.prog 26 #[cmV (whS ao0 cap0) (whC l0 0)] w fun e w' => e = .returned (.bool false) ∧ Below w.heap.size w w' := fun w h => by
    have := great_any (whC l0 0) (whS ao0 cap0) w h
    rw [tru_no (fun h => h q)] at this
    exact this
  have hm : ∀ w, LiesC w w.heap.size (whS ao0 cap0) (whC l0 0) → Calls Tryz.prog 27 #[cmV (whS ao0 cap0) (whC l0 0)] w fun e w' => e = .returned (.bool false) ∧ Below w.heap.size w w' := fun w h => by
    have := refMay_cmd (whC l0 0) (wh_in _ _) (whS ao0 cap0) w h
    rw [tru_no hok] at this
    exact this
  have hbx := heap_new w (cmCells (whS ao0 cap0) (whC l0 0))
  have hla := liesC_alloc hl9 (cmCells (whS ao0 cap0) (whC l0 0))
  obtain ⟨k0, k1, k2, k3, k4, k5, k6, k7, k8, k9, k10, k11, k12⟩ := cm_cells hbx
  go_enter Tryz.func5, Tryz.ntmps5
  go_wp2_with (first
    | (go_at_call 26; refine (hg _ hla).mono ?_; rintro e w1 ⟨rfl, hb1⟩; have b1 := below_box hb1 hbx; clear k0 k1 k2 k3 k4 k5 k6 k7 k8 k9 k10 k11 k12; obtain ⟨k0, k1, k2, k3, k4, k5, k6, k7, k8, k9, k10, k11, k12⟩ := cm_cells b1; have hla1 := liesC_next hla hb1)
    | (go_at_call 27; refine (hm w1 hla1).mono ?_; rintro e w2 ⟨rfl, hb2⟩; have b2 := below_box hb2 b1; clear k0 k1 k2 k3 k4 k5 k6 k7 k8 k9 k10 k11 k12; obtain ⟨k0, k1, k2, k3, k4, k5, k6, k7, k8, k9, k10, k11, k12⟩ := cm_cells b2; have hla2 := liesC_next hla1 hb2; have HB2 : Hid (Below w.heap.size w w2) := below_next (below_box0 hb1) (Nat.le_refl _) hb2)
    | (go_at_call 10; refine (awake14 _).mono ?_; rintro e w9 ⟨rfl, hb9⟩))
  go_ret
  exact ⟨rfl, below_next HB2.out (Nat.le_refl _) hb9⟩
theorem wh_a3 (ao0 : Option Addr) (cap0 : Nat) (l0 : List Wrt) (f1 : Nat) (hf1 : f1 < 256) (q : ¬ SmallC (whC l0 3)) (w : World) (hl0 : LiesW w w.heap.size ao0 l0) :
    Calls Tryz.prog 5 #[.slice ao0 l0.length cap0, .int .u8 (f1 : Int), .bool true] w fun e w' => e = .returned (.bool true) ∧ Below w.heap.size w w' := by
  have hl9 : LiesC w w.heap.size (whS ao0 cap0) (whC l0 3) := wh_lies hl0
  have hg : ∀ w, LiesC w w.heap.size (whS ao0 cap0) (whC l0 3) → Calls Tryz.prog 26 #[cmV (whS ao0 cap0) (whC l0 3)] w fun e w' => e = .returned (.bool true) ∧ Below w.heap.size w w' := fun w h => by
    have := great_any (whC l0 3) (whS ao0 cap0) w h
    rw [tru_yes q] at this
    exact this
  have hbx := heap_new w (cmCells (whS ao0 cap0) (whC l0 3))
  have hla := liesC_alloc hl9 (cmCells (whS ao0 cap0) (whC l0 3))
  obtain ⟨k0, k1, k2, k3, k4, k5, k6, k7, k8, k9, k10, k11, k12⟩ := cm_cells hbx
  go_enter Tryz.func5, Tryz.ntmps5
  go_wp2_with (first
    | (go_at_call 26; refine (hg _ hla).mono ?_; rintro e w1 ⟨rfl, hb1⟩; have b1 := below_box hb1 hbx; clear k0 k1 k2 k3 k4 k5 k6 k7 k8 k9 k10 k11 k12; obtain ⟨k0, k1, k2, k3, k4, k5, k6, k7, k8, k9, k10, k11, k12⟩ := cm_cells b1; have hla1 := liesC_next hla hb1)
    | (go_at_call 10; refine (awake14 _).mono ?_; rintro e w9 ⟨rfl, hb9⟩))
  go_ret
  exact ⟨rfl, below_next (below_box0 hb1) (Nat.le_refl _) hb9⟩
theorem wh_b3 (ao0 : Option Addr) (cap0 : Nat) (l0 : List Wrt) (f1 : Nat) (hf1 : f1 < 256) (q : SmallC (whC l0 3)) (hok : ¬ CmdOk (whC l0 3)) (w : World) (hl0 : LiesW w w.heap.size ao0 l0) :
    Calls Tryz.prog 5 #[.slice ao0 l0.length cap0, .int .u8 (f1 : Int), .bool true] w fun e w' => e = .returned (.bool true) ∧ Below w.heap.size w w' := by
  have hl9 : LiesC w w.heap.size (whS ao0 cap0) (whC l0 3) := wh_lies hl0
  have hg : ∀ w, LiesC w w.heap.size (whS ao0 cap0) (whC l0 3) → Calls Tryz.prog 26 #[cmV (whS ao0 cap0) (whC l0 3)] w fun e w' => e = .returned (.bool false) ∧ Below w.heap.size w w' := fun w h => by
    have := great_any (whC l0 3) (whS ao0 cap0) w h
    rw [tru_no (fun h => h q)] at this
    exact this
  have hm : ∀ w, LiesC w w.heap.size (whS ao0 cap0) (whC l0 3) → Calls Tryz.prog 27 #[cmV (whS ao0 cap0) (whC l0 3)] w fun e w' => e = .returned (.bool false) ∧ Below w.heap.size w w' := fun w h => by
    have := refMay_cmd (whC l0 3) (wh_in _ _) (whS ao0 cap0) w h
    rw [tru_no hok] at this
    exact this
  have hbx := heap_new w (cmCells (whS ao0 cap0) (whC l0 3))
  have hla := liesC_alloc hl9 (cmCells (whS ao0 cap0) (whC l0 3))
  obtain ⟨k0, k1, k2, k3, k4, k5, k6, k7, k8, k9, k10, k11, k12⟩ := cm_cells hbx
  go_enter Tryz.func5, Tryz.ntmps5
  go_wp2_with (first
    | (go_at_call 26; refine (hg _ hla).mono ?_; rintro e w1 ⟨rfl, hb1⟩; have b1 := below_box hb1 hbx; clear k0 k1 k2 k3 k4 k5 k6 k7 k8 k9 k10 k11 k12; obtain ⟨k0, k1, k2, k3, k4, k5, k6, k7, k8, k9, k10, k11, k12⟩ := cm_cells b1; have hla1 := liesC_next hla hb1)
    | (go_at_call 27; refine (hm w1 hla1).mono ?_; rintro e w2 ⟨rfl, hb2⟩; have b2 := below_box hb2 b1; clear k0 k1 k2 k3 k4 k5 k6 k7 k8 k9 k10 k11 k12; obtain ⟨k0, k1, k2, k3, k4, k5, k6, k7, k8, k9, k10, k11, k12⟩ := cm_cells b2; have hla2 := liesC_next hla1 hb2; have HB2 : Hid (Below w.heap.size w w2) := below_next (below_box0 hb1) (Nat.le_refl _) hb2)
    | (go_at_call 10; refine (awake14 _).mono ?_; rintro e w9 ⟨rfl, hb9⟩))
  go_ret
  exact ⟨rfl, below_next HB2.out (Nat.le_refl _) hb9⟩
theorem wh_d (ao0 : Option Addr) (cap0 : Nat) (l0 : List Wrt) (f1 : Nat) (hf1 : f1 < 256) (q : SmallC (whC l0 3)) (hok : CmdOk (whC l0 3)) (hlen : (cmdB (whC l0 3)).length ≤ 19996)  (w : World) (hl0 : LiesW w w.heap.size ao0 l0) :
    Calls Tryz.prog 5 #[.slice ao0 l0.length cap0, .int .u8 (f1 : Int), .bool true] w fun e w' => e = .returned (.bool true) ∧ Below w.heap.size w w' := by
  have hl9 : LiesC w w.heap.size (whS ao0 cap0) (whC l0 3) := wh_lies hl0
  have hg : ∀ w, LiesC w w.heap.size (whS ao0 cap0) (whC l0 3) → Calls Tryz.prog 26 #[cmV (whS ao0 cap0) (whC l0 3)] w fun e w' => e = .returned (.bool false) ∧ Below w.heap.size w w' := fun w h => by
    have := great_any (whC l0 3) (whS ao0 cap0) w h
    rw [tru_no (fun h => h q)] at this
    exact this
  have hm : ∀ w, LiesC w w.heap.size (whS ao0 cap0) (whC l0 3) → Calls Tryz.prog 27 #[cmV (whS ao0 cap0) (whC l0 3)] w fun e w' => e = .returned (.bool true) ∧ Below w.heap.size w w' := fun w h => by
    have := refMay_cmd (whC l0 3) (wh_in _ _) (whS ao0 cap0) w h
    rw [tru_yes hok] at this
    exact this
  have hbx := heap_new w (cmCells (whS ao0 cap0) (whC l0 3))
  have hla := liesC_alloc hl9 (cmCells (whS ao0 cap0) (whC l0 3))
  obtain ⟨k0, k1, k2, k3, k4, k5, k6, k7, k8, k9, k10, k11, k12⟩ := cm_cells hbx
  obtain ⟨M1, HM1⟩ : ∃ M, Hid (nextM (newM (1 + (f1 : Int))) 4 (whC l0 3) 0 = M) := ⟨_, rfl⟩
  have HD1 : Hid (doneV (newM (1 + (f1 : Int))) 4 (whC l0 3) 0 = ⟨3, 9, 4, 14⟩) := (wh_no (1 + (f1 : Int)) l0 3 14 ((wh_code _ _ _).trans (if_pos (by decide))) (by decide)).1
  have hne : (bytesC (whC l0 3)).toList.isEmpty = false := by
    rw [Lib.toList_data]
    show (sealL (cmdB (whC l0 3))).isEmpty = false
    cases h : sealL (cmdB (whC l0 3)) with
    | nil =>
      have h2 : (sealL (cmdB (whC l0 3))).length = (cmdB (whC l0 3)).length + 4 := by simp [sealL, be4]
      rw [h] at h2
      simp at h2
    | cons a l => rfl
  have HSC : Hid (ScanIs M1.st.vs 4 ⟨#[]⟩ ⟨#[]⟩ []) := by
    rw [← HM1.out, (wh_no (1 + (f1 : Int)) l0 3 14 ((wh_code _ _ _).trans (if_pos (by decide))) (by decide)).2]
    exact ⟨List.Pairwise.nil, fun x => Iff.intro (fun h => absurd h (by simp)) (fun h => absurd h.2 (by simp [get_nil]))⟩
  have hput : ∀ w, LiesC w w.heap.size (whS ao0 cap0) (whC l0 3) → Calls Tryz.prog 29 #[cmV (whS ao0 cap0) (whC l0 3)] w fun e w' => e = .returned (.tuple #[.string (bytesC (whC l0 3)), .int .i64 0]) ∧ Below w.heap.size w w' := fun w h => by
    have h9 := cmd_len hok q
    have := refPut_yes (whC l0 3) hok (wh_in _ _) (by omega) (whS ao0 cap0) w h
    rw [show putR (whC l0 3) = _ from if_pos hlen] at this
    exact this
  have hdo : ∀ B W g gs, HoldM B W g (newM (1 + (f1 : Int))) gs none 0 (.map none) → Calls Tryz.prog 15 #[.pointer (some ⟨g, 0, none⟩), enV 4 (bytesC (whC l0 3))] W fun e w' => e = .returned (.agg #[.int .i64 3, .int .i64 9, .int .i64 4, .int .i64 14]) ∧ (∃ ao' cap' lv', HoldM B w' g M1 gs ao' cap' lv') ∧ TurnA B none W w' := fun B W g gs h => by
    have := do_any B g gs 0 (newM (1 + (f1 : Int))) none (.map none) 4 (bytesC (whC l0 3)) (whC l0 3) 0 (one_get hok (wh_in _ _) hlen) (by simp [newM]) (by simp [newM]) W h
    rw [HD1.out, HM1.out] at this
    refine this.mono ?_
    rintro e w' ⟨h1, ⟨ao', cap', lv', h2, _⟩, h3⟩
    exact ⟨h1, ⟨ao', cap', lv', h2⟩, h3⟩
  go_enter Tryz.func5, Tryz.ntmps5
  go_wp2_with (first
    | (go_at_call 26; refine (hg _ hla).mono ?_; rintro e w1 ⟨rfl, hb1⟩; have b1 := below_box hb1 hbx; clear k0 k1 k2 k3 k4 k5 k6 k7 k8 k9 k10 k11 k12; obtain ⟨k0, k1, k2, k3, k4, k5, k6, k7, k8, k9, k10, k11, k12⟩ := cm_cells b1; have hla1 := liesC_next hla hb1)
    | (go_at_call 27; refine (hm w1 hla1).mono ?_; rintro e w2 ⟨rfl, hb2⟩; have b2 := below_box hb2 b1; clear k0 k1 k2 k3 k4 k5 k6 k7 k8 k9 k10 k11 k12; obtain ⟨k0, k1, k2, k3, k4, k5, k6, k7, k8, k9, k10, k11, k12⟩ := cm_cells b2; have hla2 := liesC_next hla1 hb2; have HB2 : Hid (Below w.heap.size w w2) := below_next (below_box0 hb1) (Nat.le_refl _) hb2)
    | (go_at_call 11; refine (anew_yes (1 + (f1 : Int)) (by omega) (by omega) _).mono ?_; rintro e w4 ⟨g, gs, rfl, hM4, hb4⟩; have HM4 : Hid _ := hM4; have b4 := below_box hb4 b2; clear hM4 k0 k1 k2 k3 k4 k5 k6 k7 k8 k9 k10 k11 k12; obtain ⟨k0, k1, k2, k3, k4, k5, k6, k7, k8, k9, k10, k11, k12⟩ := cm_cells b4; have hla4 := liesC_next hla2 hb4; have HB4 : Hid (Below w.heap.size w w4) := below_next HB2.out (Nat.le_refl _) hb4)
    | (go_at_call 13; refine (num_any14 _ _).mono ?_; rintro e wn ⟨rfl, hq⟩; have hq2 := hq.symm; clear hq; subst hq2)
    | (go_at_call 28; refine (entry_any 4 (whS ao0 cap0) (whC l0 3) hok (wh_in _ _) hlen w4 hla4).mono ?_; rintro e w5 ⟨rfl, hb5⟩; have HB5 : Hid _ := hb5; clear hb5)
    | (go_at_call 15; refine (hdo _ w5 g gs (HM4.out.below HB5.out)).mono ?_; rintro e w6 ⟨rfl, ⟨ao6, cap6, lv6, hM6⟩, hT6⟩
       have HB6 : Hid (Below w.heap.size w w6) := (below_next HB4.out (Nat.le_refl _) HB5.out).trans (hT6.below.mono HB2.out.size)
       have HB7 : Hid _ := HB6.out.alloc HB6.out.size (dnBox ⟨3, 9, 4, 14⟩)
       have HC7 : Hid _ := alloc_box (dnBox ⟨3, 9, 4, 14⟩) (hT6.keep _ _ (below_box HB5.out b4) ⟨by decide, by decide, by decide, by decide⟩)
       have HD7 : Hid _ := heap_new w6 (dnBox ⟨3, 9, 4, 14⟩)
       have HM7 : Hid _ := hM6.below ((Below.refl _ w6).alloc (Nat.le_refl _) (dnBox ⟨3, 9, 4, 14⟩))
       clear hM6 hT6 b4 hla4 HM4 hdo k0 k1 k2 k3 k4 k5 k6 k7 k8 k9 k10 k11 k12))
  have hll : l0.length ≤ 200 := (wrts_bound hok.wrts).1
  go_loopw [11, 12] (fun pv iv wr => ∃ k : Nat, k ≤ l0.length ∧ iv = .int .i64 (k : Int) ∧ pv = .int .i64 ((putsW (l0.take k)).length : Int) ∧ wr = w6.alloc (dnBox ⟨3, 9, 4, 14⟩)) (fun _ i _ => l0.length - (intOf i).toNat)
  case atStart => exact ⟨0, by omega, rfl, rfl, rfl⟩
  case round =>
    obtain ⟨k, hk, rfl, rfl, rfl⟩ := hrel
    by_cases hkl : k < l0.length
    · have HX : Hid (l0[k]? = some (l0[k]'hkl)) := List.getElem?_eq_getElem hkl
      obtain ⟨a, rfl, hblk, e0, e1, e2⟩ := (hl0.below WrtAt.fast HB7.out) k _ HX.out
      generalize (l0[k]'hkl) = x at *
      have HN : Hid _ := puts_snoc HX.out
      have hle := Nat.le_trans (puts_le (l0.take k)) (List.length_take_le k l0)
      generalize (putsW (l0.take k)).length = n at *
      have hn9 : (n : Int) ≤ 200 := by omega
      cases hD : x.del with
      | true =>
        have HN2 : Hid ((putsW (l0.take (k + 1))).length = n) := HN.out.trans (by rw [if_pos hD]; rfl)
        rw [hD] at e2
        clear HN hD
        go_wp2
        go_roundw
        case rel => exact ⟨k + 1, by omega, by go_num, by rw [HN2.out], trivial⟩
        case measure => simp [intOf]; omega
      | false =>
        have HN2 : Hid ((putsW (l0.take (k + 1))).length = n + 1) := HN.out.trans (by rw [if_neg (by rw [hD]; decide)])
        rw [hD] at e2
        clear HN hD
        go_wp2
        go_roundw
        case rel => exact ⟨k + 1, by omega, by go_num, by rw [HN2.out]; go_num, trivial⟩
        case measure => simp [intOf]; omega
    · have hke : k = l0.length := by omega
      subst hke
      rw [List.take_length]
      obtain ⟨k0, k1, k2, k3, k4, k5, k6, k7, k8, k9, k10, k11, k12⟩ := cm_cells HC7.out
      have hla7 : LiesC (w6.alloc (dnBox ⟨3, 9, 4, 14⟩)) (w6.alloc (dnBox ⟨3, 9, 4, 14⟩)).heap.size (whS ao0 cap0) (whC l0 3) := liesC_next (wh_lies hl0) HB7.out
      go_wp2_with (first
        | (go_at_call 29; refine (hput _ hla7).mono ?_; rintro e w8 ⟨rfl, hb8⟩
           have hM8 := HM7.out.below hb8
           have hstor := astore_any _ _ _ _ _ _ _ _ hM8
           have hscan := sscan_any _ gs _ 4 ⟨#[]⟩ ⟨#[]⟩ 1000 (Nat.le_trans hM8.few (by decide)) _ hM8.sto [] HSC.out
           have HM8 : Hid _ := hM8
           have HB8 : Hid _ := below_next HB7.out (Nat.le_refl _) hb8
           have HD8 : Hid _ := below_box hb8 HD7.out
           clear hb8 hM8)
        | (go_at_call 20; refine hstor.mono ?_; rintro e wn ⟨rfl, hq⟩; have hq2 := hq.symm; clear hq; subst hq2)
        | (go_at_call 22; refine hscan.mono ?_; rintro e w10 ⟨ao10, cap10, rfl, hO10, hb10⟩; have bc := box_cell (below_box hb10 HD8.out) 3 _ rfl; have HB10 : Hid _ := below_next HB8.out (Nat.le_refl _) hb10; have HM10 : Hid _ := HM8.out.below hb10; clear hb10 hO10 hscan hstor)
        | (go_at_call 10; refine (awake14 _).mono ?_; rintro e w9 ⟨rfl, hb9⟩))
      go_ret
      exact ⟨rfl, below_next HB10.out (Nat.le_refl _) hb9⟩
theorem wh_e (ao0 : Option Addr) (cap0 : Nat) (l0 : List Wrt) (f1 : Nat) (hf1 : f1 < 256) (q : SmallC (whC l0 0)) (hok : CmdOk (whC l0 0)) (hlen : (cmdB (whC l0 0)).length ≤ 19996) (hp : 1 + (f1 : Int) < ((putsW l0).length : Int)) (w : World) (hl0 : LiesW w w.heap.size ao0 l0) :
    Calls Tryz.prog 5 #[.slice ao0 l0.length cap0, .int .u8 (f1 : Int), .bool false] w fun e w' => e = .returned (.bool true) ∧ Below w.heap.size w w' := by
  have hl9 : LiesC w w.heap.size (whS ao0 cap0) (whC l0 0) := wh_lies hl0
  have hg : ∀ w, LiesC w w.heap.size (whS ao0 cap0) (whC l0 0) → Calls Tryz.prog 26 #[cmV (whS ao0 cap0) (whC l0 0)] w fun e w' => e = .returned (.bool false) ∧ Below w.heap.size w w' := fun w h => by
    have := great_any (whC l0 0) (whS ao0 cap0) w h
    rw [tru_no (fun h => h q)] at this
    exact this
  have hm : ∀ w, LiesC w w.heap.size (whS ao0 cap0) (whC l0 0) → Calls Tryz.prog 27 #[cmV (whS ao0 cap0) (whC l0 0)] w fun e w' => e = .returned (.bool true) ∧ Below w.heap.size w w' := fun w h => by
    have := refMay_cmd (whC l0 0) (wh_in _ _) (whS ao0 cap0) w h
    rw [tru_yes hok] at this
    exact this
  have hbx := heap_new w (cmCells (whS ao0 cap0) (whC l0 0))
  have hla := liesC_alloc hl9 (cmCells (whS ao0 cap0) (whC l0 0))
  obtain ⟨k0, k1, k2, k3, k4, k5, k6, k7, k8, k9, k10, k11, k12⟩ := cm_cells hbx
  obtain ⟨M1, HM1⟩ : ∃ M, Hid (nextM (newM (1 + (f1 : Int))) 4 (whC l0 0) 0 = M) := ⟨_, rfl⟩
  have HD1 : Hid (doneV (newM (1 + (f1 : Int))) 4 (whC l0 0) 0 = ⟨3, 9, 4, 4⟩) := (wh_no (1 + (f1 : Int)) l0 0 4 ((wh_code _ _ _).trans ((if_neg (by simp)).trans (if_pos hp))) (by decide)).1
  have hne : (bytesC (whC l0 0)).toList.isEmpty = false := by
    rw [Lib.toList_data]
    show (sealL (cmdB (whC l0 0))).isEmpty = false
    cases h : sealL (cmdB (whC l0 0)) with
    | nil =>
      have h2 : (sealL (cmdB (whC l0 0))).length = (cmdB (whC l0 0)).length + 4 := by simp [sealL, be4]
      rw [h] at h2
      simp at h2
    | cons a l => rfl
  have HSC : Hid (ScanIs M1.st.vs 4 ⟨#[]⟩ ⟨#[]⟩ []) := by
    rw [← HM1.out, (wh_no (1 + (f1 : Int)) l0 0 4 ((wh_code _ _ _).trans ((if_neg (by simp)).trans (if_pos hp))) (by decide)).2]
    exact ⟨List.Pairwise.nil, fun x => Iff.intro (fun h => absurd h (by simp)) (fun h => absurd h.2 (by simp [get_nil]))⟩
  have zf : decide (1 + (f1 : Int) < ((putsW l0).length : Int)) = true := decide_eq_true hp
  have hput : ∀ w, LiesC w w.heap.size (whS ao0 cap0) (whC l0 0) → Calls Tryz.prog 29 #[cmV (whS ao0 cap0) (whC l0 0)] w fun e w' => e = .returned (.tuple #[.string (bytesC (whC l0 0)), .int .i64 0]) ∧ Below w.heap.size w w' := fun w h => by
    have h9 := cmd_len hok q
    have := refPut_yes (whC l0 0) hok (wh_in _ _) (by omega) (whS ao0 cap0) w h
    rw [show putR (whC l0 0) = _ from if_pos hlen] at this
    exact this
  have hdo : ∀ B W g gs, HoldM B W g (newM (1 + (f1 : Int))) gs none 0 (.map none) → Calls Tryz.prog 15 #[.pointer (some ⟨g, 0, none⟩), enV 4 (bytesC (whC l0 0))] W fun e w' => e = .returned (.agg #[.int .i64 3, .int .i64 9, .int .i64 4, .int .i64 4]) ∧ (∃ ao' cap' lv', HoldM B w' g M1 gs ao' cap' lv') ∧ TurnA B none W w' := fun B W g gs h => by
    have := do_any B g gs 0 (newM (1 + (f1 : Int))) none (.map none) 4 (bytesC (whC l0 0)) (whC l0 0) 0 (one_get hok (wh_in _ _) hlen) (by simp [newM]) (by simp [newM]) W h
    rw [HD1.out, HM1.out] at this
    refine this.mono ?_
    rintro e w' ⟨h1, ⟨ao', cap', lv', h2, _⟩, h3⟩
    exact ⟨h1, ⟨ao', cap', lv', h2⟩, h3⟩
  go_enter Tryz.func5, Tryz.ntmps5
  go_wp2_with (first
    | (go_at_call 26; refine (hg _ hla).mono ?_; rintro e w1 ⟨rfl, hb1⟩; have b1 := below_box hb1 hbx; clear k0 k1 k2 k3 k4 k5 k6 k7 k8 k9 k10 k11 k12; obtain ⟨k0, k1, k2, k3, k4, k5, k6, k7, k8, k9, k10, k11, k12⟩ := cm_cells b1; have hla1 := liesC_next hla hb1)
    | (go_at_call 27; refine (hm w1 hla1).mono ?_; rintro e w2 ⟨rfl, hb2⟩; have b2 := below_box hb2 b1; clear k0 k1 k2 k3 k4 k5 k6 k7 k8 k9 k10 k11 k12; obtain ⟨k0, k1, k2, k3, k4, k5, k6, k7, k8, k9, k10, k11, k12⟩ := cm_cells b2; have hla2 := liesC_next hla1 hb2; have HB2 : Hid (Below w.heap.size w w2) := below_next (below_box0 hb1) (Nat.le_refl _) hb2)
    | (go_at_call 11; refine (anew_yes (1 + (f1 : Int)) (by omega) (by omega) _).mono ?_; rintro e w4 ⟨g, gs, rfl, hM4, hb4⟩; have HM4 : Hid _ := hM4; have b4 := below_box hb4 b2; clear hM4 k0 k1 k2 k3 k4 k5 k6 k7 k8 k9 k10 k11 k12; obtain ⟨k0, k1, k2, k3, k4, k5, k6, k7, k8, k9, k10, k11, k12⟩ := cm_cells b4; have hla4 := liesC_next hla2 hb4; have HB4 : Hid (Below w.heap.size w w4) := below_next HB2.out (Nat.le_refl _) hb4)
    | (go_at_call 13; refine (num_any14 _ _).mono ?_; rintro e wn ⟨rfl, hq⟩; have hq2 := hq.symm; clear hq; subst hq2)
    | (go_at_call 28; refine (entry_any 4 (whS ao0 cap0) (whC l0 0) hok (wh_in _ _) hlen w4 hla4).mono ?_; rintro e w5 ⟨rfl, hb5⟩; have HB5 : Hid _ := hb5; clear hb5)
    | (go_at_call 15; refine (hdo _ w5 g gs (HM4.out.below HB5.out)).mono ?_; rintro e w6 ⟨rfl, ⟨ao6, cap6, lv6, hM6⟩, hT6⟩
       have HB6 : Hid (Below w.heap.size w w6) := (below_next HB4.out (Nat.le_refl _) HB5.out).trans (hT6.below.mono HB2.out.size)
       have HB7 : Hid _ := HB6.out.alloc HB6.out.size (dnBox ⟨3, 9, 4, 4⟩)
       have HC7 : Hid _ := alloc_box (dnBox ⟨3, 9, 4, 4⟩) (hT6.keep _ _ (below_box HB5.out b4) ⟨by decide, by decide, by decide, by decide⟩)
       have HD7 : Hid _ := heap_new w6 (dnBox ⟨3, 9, 4, 4⟩)
       have HM7 : Hid _ := hM6.below ((Below.refl _ w6).alloc (Nat.le_refl _) (dnBox ⟨3, 9, 4, 4⟩))
       clear hM6 hT6 b4 hla4 HM4 hdo k0 k1 k2 k3 k4 k5 k6 k7 k8 k9 k10 k11 k12))
  have hll : l0.length ≤ 200 := (wrts_bound hok.wrts).1
  go_loopw [11, 12] (fun pv iv wr => ∃ k : Nat, k ≤ l0.length ∧ iv = .int .i64 (k : Int) ∧ pv = .int .i64 ((putsW (l0.take k)).length : Int) ∧ wr = w6.alloc (dnBox ⟨3, 9, 4, 4⟩)) (fun _ i _ => l0.length - (intOf i).toNat)
  case atStart => exact ⟨0, by omega, rfl, rfl, rfl⟩
  case round =>
    obtain ⟨k, hk, rfl, rfl, rfl⟩ := hrel
    by_cases hkl : k < l0.length
    · have HX : Hid (l0[k]? = some (l0[k]'hkl)) := List.getElem?_eq_getElem hkl
      obtain ⟨a, rfl, hblk, e0, e1, e2⟩ := (hl0.below WrtAt.fast HB7.out) k _ HX.out
      generalize (l0[k]'hkl) = x at *
      have HN : Hid _ := puts_snoc HX.out
      have hle := Nat.le_trans (puts_le (l0.take k)) (List.length_take_le k l0)
      generalize (putsW (l0.take k)).length = n at *
      have hn9 : (n : Int) ≤ 200 := by omega
      cases hD : x.del with
      | true =>
        have HN2 : Hid ((putsW (l0.take (k + 1))).length = n) := HN.out.trans (by rw [if_pos hD]; rfl)
        rw [hD] at e2
        clear HN hD
        go_wp2
        go_roundw
        case rel => exact ⟨k + 1, by omega, by go_num, by rw [HN2.out], trivial⟩
        case measure => simp [intOf]; omega
      | false =>
        have HN2 : Hid ((putsW (l0.take (k + 1))).length = n + 1) := HN.out.trans (by rw [if_neg (by rw [hD]; decide)])
        rw [hD] at e2
        clear HN hD
        go_wp2
        go_roundw
        case rel => exact ⟨k + 1, by omega, by go_num, by rw [HN2.out]; go_num, trivial⟩
        case measure => simp [intOf]; omega
    · have hke : k = l0.length := by omega
      subst hke
      rw [List.take_length]
      obtain ⟨k0, k1, k2, k3, k4, k5, k6, k7, k8, k9, k10, k11, k12⟩ := cm_cells HC7.out
      have hla7 : LiesC (w6.alloc (dnBox ⟨3, 9, 4, 4⟩)) (w6.alloc (dnBox ⟨3, 9, 4, 4⟩)).heap.size (whS ao0 cap0) (whC l0 0) := liesC_next (wh_lies hl0) HB7.out
      go_wp2_with (first
        | (go_at_call 29; refine (hput _ hla7).mono ?_; rintro e w8 ⟨rfl, hb8⟩
           have hM8 := HM7.out.below hb8
           have hstor := astore_any _ _ _ _ _ _ _ _ hM8
           have hscan := sscan_any _ gs _ 4 ⟨#[]⟩ ⟨#[]⟩ 1000 (Nat.le_trans hM8.few (by decide)) _ hM8.sto [] HSC.out
           have HM8 : Hid _ := hM8
           have HB8 : Hid _ := below_next HB7.out (Nat.le_refl _) hb8
           have HD8 : Hid _ := below_box hb8 HD7.out
           clear hb8 hM8)
        | (go_at_call 20; refine hstor.mono ?_; rintro e wn ⟨rfl, hq⟩; have hq2 := hq.symm; clear hq; subst hq2)
        | (go_at_call 22; refine hscan.mono ?_; rintro e w10 ⟨ao10, cap10, rfl, hO10, hb10⟩; have bc := box_cell (below_box hb10 HD8.out) 3 _ rfl; have HB10 : Hid _ := below_next HB8.out (Nat.le_refl _) hb10; have HM10 : Hid _ := HM8.out.below hb10; clear hb10 hO10 hscan hstor)
        | (go_at_call 10; refine (awake14 _).mono ?_; rintro e w9 ⟨rfl, hb9⟩))
      go_ret
      exact ⟨rfl, below_next HB10.out (Nat.le_refl _) hb9⟩
theorem wh_f (ao0 : Option Addr) (cap0 : Nat) (l0 : List Wrt) (f1 : Nat) (hf1 : f1 < 256) (q : SmallC (whC l0 0)) (hok : CmdOk (whC l0 0)) (hlen : (cmdB (whC l0 0)).length ≤ 19996) (hp : ¬ 1 + (f1 : Int) < ((putsW l0).length : Int)) (w : World) (hl0 : LiesW w w.heap.size ao0 l0) :
    Calls Tryz.prog 5 #[.slice ao0 l0.length cap0, .int .u8 (f1 : Int), .bool false] w fun e w' => e = .returned (.bool true) ∧ Below w.heap.size w w' := by
  have hl9 : LiesC w w.heap.size (whS ao0 cap0) (whC l0 0) := wh_lies hl0
  have hg : ∀ w, LiesC w w.heap.size (whS ao0 cap0) (whC l0 0) → Calls Tryz.prog 26 #[cmV (whS ao0 cap0) (whC l0 0)] w fun e w' => e = .returned (.bool false) ∧ Below w.heap.size w w' := fun w h => by
    have := great_any (whC l0 0) (whS ao0 cap0) w h
    rw [tru_no (fun h => h q)] at this
    exact this
  have hm : ∀ w, LiesC w w.heap.size (whS ao0 cap0) (whC l0 0) → Calls Tryz.prog 27 #[cmV (whS ao0 cap0) (whC l0 0)] w fun e w' => e = .returned (.bool true) ∧ Below w.heap.size w w' := fun w h => by
    have := refMay_cmd (whC l0 0) (wh_in _ _) (whS ao0 cap0) w h
    rw [tru_yes hok] at this
    exact this
  have hbx := heap_new w (cmCells (whS ao0 cap0) (whC l0 0))
  have hla := liesC_alloc hl9 (cmCells (whS ao0 cap0) (whC l0 0))
  obtain ⟨k0, k1, k2, k3, k4, k5, k6, k7, k8, k9, k10, k11, k12⟩ := cm_cells hbx
  obtain ⟨M1, HM1⟩ : ∃ M, Hid (nextM (newM (1 + (f1 : Int))) 4 (whC l0 0) 0 = M) := ⟨_, rfl⟩
  have HD1 : Hid (doneV (newM (1 + (f1 : Int))) 4 (whC l0 0) 0 = ⟨3, 9, 4, 0⟩) := (wh_yes (1 + (f1 : Int)) l0 hok.wrts (by omega)).1
  have hne : (bytesC (whC l0 0)).toList.isEmpty = false := by
    rw [Lib.toList_data]
    show (sealL (cmdB (whC l0 0))).isEmpty = false
    cases h : sealL (cmdB (whC l0 0)) with
    | nil =>
      have h2 : (sealL (cmdB (whC l0 0))).length = (cmdB (whC l0 0)).length + 4 := by simp [sealL, be4]
      rw [h] at h2
      simp at h2
    | cons a l => rfl
  have HSC : Hid (ScanIs M1.st.vs 4 ⟨#[]⟩ ⟨#[]⟩ (pairsW l0)) := by
    rw [← HM1.out, (wh_yes (1 + (f1 : Int)) l0 hok.wrts (by omega)).2]
    exact wh_scan hok.wrts
  have HGX : Hid (∀ x ∈ l0, getV M1.st.vs x.key 4 = if x.del = true then none else some x.val) := fun x hx => by
    rw [← HM1.out, (wh_yes (1 + (f1 : Int)) l0 hok.wrts (by omega)).2]
    exact wh_get (wh_unlike hok.wrts) hx
  have zf : decide (1 + (f1 : Int) < ((putsW l0).length : Int)) = false := decide_eq_false hp
  have hmn : min 1000 (pairsW l0).length = (putsW l0).length := by
    have h1 := puts_le l0
    have h2 := (wrts_bound hok.wrts).1
    have h3 : (pairsW l0).length = (putsW l0).length := by simp [pairsW]
    rw [h3]
    omega
  have hput : ∀ w, LiesC w w.heap.size (whS ao0 cap0) (whC l0 0) → Calls Tryz.prog 29 #[cmV (whS ao0 cap0) (whC l0 0)] w fun e w' => e = .returned (.tuple #[.string (bytesC (whC l0 0)), .int .i64 0]) ∧ Below w.heap.size w w' := fun w h => by
    have h9 := cmd_len hok q
    have := refPut_yes (whC l0 0) hok (wh_in _ _) (by omega) (whS ao0 cap0) w h
    rw [show putR (whC l0 0) = _ from if_pos hlen] at this
    exact this
  have hdo : ∀ B W g gs, HoldM B W g (newM (1 + (f1 : Int))) gs none 0 (.map none) → Calls Tryz.prog 15 #[.pointer (some ⟨g, 0, none⟩), enV 4 (bytesC (whC l0 0))] W fun e w' => e = .returned (.agg #[.int .i64 3, .int .i64 9, .int .i64 4, .int .i64 0]) ∧ (∃ ao' cap' lv', HoldM B w' g M1 gs ao' cap' lv') ∧ TurnA B none W w' := fun B W g gs h => by
    have := do_any B g gs 0 (newM (1 + (f1 : Int))) none (.map none) 4 (bytesC (whC l0 0)) (whC l0 0) 0 (one_get hok (wh_in _ _) hlen) (by simp [newM]) (by simp [newM]) W h
    rw [HD1.out, HM1.out] at this
    refine this.mono ?_
    rintro e w' ⟨h1, ⟨ao', cap', lv', h2, _⟩, h3⟩
    exact ⟨h1, ⟨ao', cap', lv', h2⟩, h3⟩
  go_enter Tryz.func5, Tryz.ntmps5
  go_wp2_with (first
    | (go_at_call 26; refine (hg _ hla).mono ?_; rintro e w1 ⟨rfl, hb1⟩; have b1 := below_box hb1 hbx; clear k0 k1 k2 k3 k4 k5 k6 k7 k8 k9 k10 k11 k12; obtain ⟨k0, k1, k2, k3, k4, k5, k6, k7, k8, k9, k10, k11, k12⟩ := cm_cells b1; have hla1 := liesC_next hla hb1)
    | (go_at_call 27; refine (hm w1 hla1).mono ?_; rintro e w2 ⟨rfl, hb2⟩; have b2 := below_box hb2 b1; clear k0 k1 k2 k3 k4 k5 k6 k7 k8 k9 k10 k11 k12; obtain ⟨k0, k1, k2, k3, k4, k5, k6, k7, k8, k9, k10, k11, k12⟩ := cm_cells b2; have hla2 := liesC_next hla1 hb2; have HB2 : Hid (Below w.heap.size w w2) := below_next (below_box0 hb1) (Nat.le_refl _) hb2)
    | (go_at_call 11; refine (anew_yes (1 + (f1 : Int)) (by omega) (by omega) _).mono ?_; rintro e w4 ⟨g, gs, rfl, hM4, hb4⟩; have HM4 : Hid _ := hM4; have b4 := below_box hb4 b2; clear hM4 k0 k1 k2 k3 k4 k5 k6 k7 k8 k9 k10 k11 k12; obtain ⟨k0, k1, k2, k3, k4, k5, k6, k7, k8, k9, k10, k11, k12⟩ := cm_cells b4; have hla4 := liesC_next hla2 hb4; have HB4 : Hid (Below w.heap.size w w4) := below_next HB2.out (Nat.le_refl _) hb4)
    | (go_at_call 13; refine (num_any14 _ _).mono ?_; rintro e wn ⟨rfl, hq⟩; have hq2 := hq.symm; clear hq; subst hq2)
    | (go_at_call 28; refine (entry_any 4 (whS ao0 cap0) (whC l0 0) hok (wh_in _ _) hlen w4 hla4).mono ?_; rintro e w5 ⟨rfl, hb5⟩; have HB5 : Hid _ := hb5; clear hb5)
    | (go_at_call 15; refine (hdo _ w5 g gs (HM4.out.below HB5.out)).mono ?_; rintro e w6 ⟨rfl, ⟨ao6, cap6, lv6, hM6⟩, hT6⟩
       have HB6 : Hid (Below w.heap.size w w6) := (below_next HB4.out (Nat.le_refl _) HB5.out).trans (hT6.below.mono HB2.out.size)
       have HB7 : Hid _ := HB6.out.alloc HB6.out.size (dnBox ⟨3, 9, 4, 0⟩)
       have HC7 : Hid _ := alloc_box (dnBox ⟨3, 9, 4, 0⟩) (hT6.keep _ _ (below_box HB5.out b4) ⟨by decide, by decide, by decide, by decide⟩)
       have HD7 : Hid _ := heap_new w6 (dnBox ⟨3, 9, 4, 0⟩)
       have HM7 : Hid _ := hM6.below ((Below.refl _ w6).alloc (Nat.le_refl _) (dnBox ⟨3, 9, 4, 0⟩))
       clear hM6 hT6 b4 hla4 HM4 hdo k0 k1 k2 k3 k4 k5 k6 k7 k8 k9 k10 k11 k12))
  have hll : l0.length ≤ 200 := (wrts_bound hok.wrts).1
  go_loopw [11, 12] (fun pv iv wr => ∃ k : Nat, k ≤ l0.length ∧ iv = .int .i64 (k : Int) ∧ pv = .int .i64 ((putsW (l0.take k)).length : Int) ∧ wr = w6.alloc (dnBox ⟨3, 9, 4, 0⟩)) (fun _ i _ => l0.length - (intOf i).toNat)
  case atStart => exact ⟨0, by omega, rfl, rfl, rfl⟩
  case round =>
    obtain ⟨k, hk, rfl, rfl, rfl⟩ := hrel
    by_cases hkl : k < l0.length
    · have HX : Hid (l0[k]? = some (l0[k]'hkl)) := List.getElem?_eq_getElem hkl
      obtain ⟨a, rfl, hblk, e0, e1, e2⟩ := (hl0.below WrtAt.fast HB7.out) k _ HX.out
      generalize (l0[k]'hkl) = x at *
      have HN : Hid _ := puts_snoc HX.out
      have hle := Nat.le_trans (puts_le (l0.take k)) (List.length_take_le k l0)
      generalize (putsW (l0.take k)).length = n at *
      have hn9 : (n : Int) ≤ 200 := by omega
      cases hD : x.del with
      | true =>
        have HN2 : Hid ((putsW (l0.take (k + 1))).length = n) := HN.out.trans (by rw [if_pos hD]; rfl)
        rw [hD] at e2
        clear HN hD
        go_wp2
        go_roundw
        case rel => exact ⟨k + 1, by omega, by go_num, by rw [HN2.out], trivial⟩
        case measure => simp [intOf]; omega
      | false =>
        have HN2 : Hid ((putsW (l0.take (k + 1))).length = n + 1) := HN.out.trans (by rw [if_neg (by rw [hD]; decide)])
        rw [hD] at e2
        clear HN hD
        go_wp2
        go_roundw
        case rel => exact ⟨k + 1, by omega, by go_num, by rw [HN2.out]; go_num, trivial⟩
        case measure => simp [intOf]; omega
    · have hke : k = l0.length := by omega
      subst hke
      rw [List.take_length]
      obtain ⟨k0, k1, k2, k3, k4, k5, k6, k7, k8, k9, k10, k11, k12⟩ := cm_cells HC7.out
      have hla7 : LiesC (w6.alloc (dnBox ⟨3, 9, 4, 0⟩)) (w6.alloc (dnBox ⟨3, 9, 4, 0⟩)).heap.size (whS ao0 cap0) (whC l0 0) := liesC_next (wh_lies hl0) HB7.out
      go_wp2_with (first
        | (go_at_call 29; refine (hput _ hla7).mono ?_; rintro e w8 ⟨rfl, hb8⟩
           have hM8 := HM7.out.below hb8
           have hstor := astore_any _ _ _ _ _ _ _ _ hM8
           have hscan := sscan_any _ gs _ 4 ⟨#[]⟩ ⟨#[]⟩ 1000 (Nat.le_trans hM8.few (by decide)) _ hM8.sto (pairsW l0) HSC.out
           have HM8 : Hid _ := hM8
           have HB8 : Hid _ := below_next HB7.out (Nat.le_refl _) hb8
           have HD8 : Hid _ := below_box hb8 HD7.out
           clear hb8 hM8)
        | (go_at_call 20; refine hstor.mono ?_; rintro e wn ⟨rfl, hq⟩; have hq2 := hq.symm; clear hq; subst hq2)
        | (go_at_call 22; refine hscan.mono ?_; rintro e w10 ⟨ao10, cap10, rfl, hO10, hb10⟩; have bc := box_cell (below_box hb10 HD8.out) 3 _ rfl; have HB10 : Hid _ := below_next HB8.out (Nat.le_refl _) hb10; have HM10 : Hid _ := HM8.out.below hb10; clear hb10 hO10 hscan hstor))
      clear k0 k1 k2 k3 k4 k5 k6 k7 k8 k9 k10 k11 k12 hne hput HB7 HC7 HD7 HM7 HB8 HD8 HM8 bc hla7
      go_loopw [16] (fun iv wr => ∃ k : Nat, k ≤ l0.length ∧ iv = .int .i64 (k : Int) ∧ Hid (Below w10.heap.size w10 wr)) (fun i _ => l0.length - (intOf i).toNat)
      case atStart => exact ⟨0, by omega, rfl, Below.refl _ _⟩
      case round =>
        obtain ⟨k, hk, rfl, HBL⟩ := hrel
        have HBW : Hid (Below w.heap.size w wr) := below_next HB10.out (Nat.le_refl _) HBL.out
        by_cases hkl : k < l0.length
        · have HX : Hid (l0[k]? = some (l0[k]'hkl)) := List.getElem?_eq_getElem hkl
          have hmem := List.getElem_mem hkl
          have hgx := HGX.out _ hmem
          have hxs := (wrts_bound hok.wrts).2 _ hmem
          have hvx := (hok.wrts.2.1 _ hmem).2
          have hzW : ∀ z : Low wr, LiesW z.wd w.heap.size ao0 l0 := fun z => hl0.below WrtAt.fast (below_next HBW.out (Nat.le_refl _) z.low)
          obtain ⟨a, rfl, hblk, e0, e1, e2⟩ := (hl0.below WrtAt.fast HBW.out) k _ HX.out
          generalize (l0[k]'hkl) = x at *
          have k0 : ∀ z : Low wr, z.wd.cell? (a.add (k * 3)) = some (.string x.key) := fun z => (z.cell (cell_lt e0)).trans e0
          have k1 : ∀ z : Low wr, z.wd.cell? ⟨(a.add (k * 3)).block, (a.add (k * 3)).off + 1, none⟩ = some (.string x.val) := fun z => (z.cell (cell_lt e1)).trans e1
          have k2 : ∀ z : Low wr, z.wd.cell? ⟨(a.add (k * 3)).block, (a.add (k * 3)).off + 2, none⟩ = some (.bool x.del) := fun z => (z.cell (cell_lt e2)).trans e2
          have hst : ∀ z : Low wr, Calls Tryz.prog 20 #[.pointer (some ⟨g, 0, none⟩)] z.wd fun e w' => e = .returned (.pointer (some ⟨gs, 0, none⟩)) ∧ ∃ y : Low wr, w' = y.wd := fun z => Calls.low_of_same (astore_any _ _ _ _ _ _ _ _ ((HM10.out.below HBL.out).below z.low))
          have hgt : ∀ z : Low wr, Calls Tryz.prog 30 #[.pointer (some ⟨gs, 0, none⟩), .int .i64 4, .string x.key] z.wd fun e w' => e = .returned (.tuple #[.string (lookS (if x.del = true then none else some x.val)), .bool (lookB (if x.del = true then none else some x.val))]) ∧ ∃ y : Low wr, w' = y.wd := fun z => by
            have h9 := (HM10.out.below HBL.out).below z.low
            have := Calls.low_of (x := z) (sget_any _ gs _ 4 x.key (key_max hxs) (Nat.le_trans h9.few (by decide)) z.wd h9.sto)
            rw [hgx] at this
            exact this
          cases hD : x.del with
          | true =>
            simp only [hD, if_pos, show lookS none = ⟨#[]⟩ from rfl, show lookB none = false from rfl] at hgt
            have hval : x.val = ⟨#[]⟩ := by
              have h8 := hvx hD
              rw [Lib.toList_data] at h8
              exact ByteArray.ext (Array.ext' (by simpa using h8))
            rw [hD] at k2
            rw [hval] at k1
            clear e0 e1 e2 hvx hgx hD HX hval hzW
            go_wp2_with fail
            refine wp_region_low (by kernel_rfl) (by kernel_rfl) fun hsome => ?_
            repeat (go_big_quiet_step (first | exact hst _ | exact hgt _))
            refine wpQuiet_nil ?_
            rintro _ ⟨z, rfl⟩
            have q0 := k0 z
            have q1 := k1 z
            have q2 := k2 z
            have HZ : Hid _ := below_next HBL.out (Nat.le_refl _) z.low
            clear k0 k1 k2 hst hgt hsome
            go_wp2
            go_roundw
            case rel => exact ⟨k + 1, by omega, by go_num, HZ.out⟩
            case measure => simp [intOf]; omega
          | false =>
            simp only [hD, if_neg (by decide : ¬ false = true), show lookS (some x.val) = x.val from rfl, show lookB (some x.val) = true from rfl] at hgt
            rw [hD] at k2
            clear e0 e1 e2 hvx hgx hD HX hzW
            go_wp2_with fail
            refine wp_region_low (by kernel_rfl) (by kernel_rfl) fun hsome => ?_
            repeat (go_big_quiet_step (first | exact hst _ | exact hgt _))
            refine wpQuiet_nil ?_
            rintro _ ⟨z, rfl⟩
            have q0 := k0 z
            have q1 := k1 z
            have q2 := k2 z
            have HZ : Hid _ := below_next HBL.out (Nat.le_refl _) z.low
            clear k0 k1 k2 hst hgt hsome
            go_wp2
            go_roundw
            case rel => exact ⟨k + 1, by omega, by go_num, HZ.out⟩
            case measure => simp [intOf]; omega
        · go_wp2_with (first | (go_at_call 10; refine (awake14 _).mono ?_; rintro e w9 ⟨rfl, hb9⟩))
          go_ret
          exact ⟨rfl, below_next HBW.out (Nat.le_refl _) hb9⟩
theorem wh_c0 (ao0 : Option Addr) (cap0 : Nat) (l0 : List Wrt) (f1 : Nat) (hf1 : f1 < 256) (q : SmallC (whC l0 0)) (hok : CmdOk (whC l0 0)) (hlen : ¬ (cmdB (whC l0 0)).length ≤ 19996) (w : World) (hl0 : LiesW w w.heap.size ao0 l0) :
    Calls Tryz.prog 5 #[.slice ao0 l0.length cap0, .int .u8 (f1 : Int), .bool false] w fun e w' => e = .returned (.bool true) ∧ Below w.heap.size w w' := by
  have hl9 : LiesC w w.heap.size (whS ao0 cap0) (whC l0 0) := wh_lies hl0
  have hg : ∀ w, LiesC w w.heap.size (whS ao0 cap0) (whC l0 0) → Calls Tryz.prog 26 #[cmV (whS ao0 cap0) (whC l0 0)] w fun e w' => e = .returned (.bool false) ∧ Below w.heap.size w w' := fun w h => by
    have := great_any (whC l0 0) (whS ao0 cap0) w h
    rw [tru_no (fun h => h q)] at this
    exact this
  have hm : ∀ w, LiesC w w.heap.size (whS ao0 cap0) (whC l0 0) → Calls Tryz.prog 27 #[cmV (whS ao0 cap0) (whC l0 0)] w fun e w' => e = .returned (.bool true) ∧ Below w.heap.size w w' := fun w h => by
    have := refMay_cmd (whC l0 0) (wh_in _ _) (whS ao0 cap0) w h
    rw [tru_yes hok] at this
    exact this
  have hbx := heap_new w (cmCells (whS ao0 cap0) (whC l0 0))
  have hla := liesC_alloc hl9 (cmCells (whS ao0 cap0) (whC l0 0))
  obtain ⟨k0, k1, k2, k3, k4, k5, k6, k7, k8, k9, k10, k11, k12⟩ := cm_cells hbx
  obtain ⟨M1, HM1⟩ : ∃ M, Hid (nextM (newM (1 + (f1 : Int))) 4 noCmd 3 = M) := ⟨_, rfl⟩
  have HD1 : Hid (doneV (newM (1 + (f1 : Int))) 4 noCmd 3 = ⟨0, 0, 4, 3⟩) := wh_form _
  have hput : ∀ w, LiesC w w.heap.size (whS ao0 cap0) (whC l0 0) → Calls Tryz.prog 29 #[cmV (whS ao0 cap0) (whC l0 0)] w fun e w' => e = .returned (.tuple #[.string ⟨#[]⟩, .int .i64 2]) ∧ Below w.heap.size w w' := fun w h => by
    have h9 := cmd_len hok q
    have := refPut_yes (whC l0 0) hok (wh_in _ _) (by omega) (whS ao0 cap0) w h
    rw [show putR (whC l0 0) = _ from if_neg hlen] at this
    exact this
  have hdo : ∀ B W g gs, HoldM B W g (newM (1 + (f1 : Int))) gs none 0 (.map none) → Calls Tryz.prog 15 #[.pointer (some ⟨g, 0, none⟩), enV 4 ⟨#[]⟩] W fun e w' => e = .returned (.agg #[.int .i64 0, .int .i64 0, .int .i64 4, .int .i64 3]) ∧ (∃ ao' cap' lv', HoldM B w' g M1 gs ao' cap' lv') ∧ TurnA B none W w' := fun B W g gs h => by
    have := do_any B g gs 0 (newM (1 + (f1 : Int))) none (.map none) 4 ⟨#[]⟩ noCmd 3 get_empty (by simp [newM]) (by simp [newM]) W h
    rw [HD1.out, HM1.out] at this
    refine this.mono ?_
    rintro e w' ⟨h1, ⟨ao', cap', lv', h2, _⟩, h3⟩
    exact ⟨h1, ⟨ao', cap', lv', h2⟩, h3⟩
  go_enter Tryz.func5, Tryz.ntmps5
  go_wp2_with (first
    | (go_at_call 26; refine (hg _ hla).mono ?_; rintro e w1 ⟨rfl, hb1⟩; have b1 := below_box hb1 hbx; clear k0 k1 k2 k3 k4 k5 k6 k7 k8 k9 k10 k11 k12; obtain ⟨k0, k1, k2, k3, k4, k5, k6, k7, k8, k9, k10, k11, k12⟩ := cm_cells b1; have hla1 := liesC_next hla hb1)
    | (go_at_call 27; refine (hm w1 hla1).mono ?_; rintro e w2 ⟨rfl, hb2⟩; have b2 := below_box hb2 b1; clear k0 k1 k2 k3 k4 k5 k6 k7 k8 k9 k10 k11 k12; obtain ⟨k0, k1, k2, k3, k4, k5, k6, k7, k8, k9, k10, k11, k12⟩ := cm_cells b2; have hla2 := liesC_next hla1 hb2; have HB2 : Hid (Below w.heap.size w w2) := below_next (below_box0 hb1) (Nat.le_refl _) hb2)
    | (go_at_call 11; refine (anew_yes (1 + (f1 : Int)) (by omega) (by omega) _).mono ?_; rintro e w4 ⟨g, gs, rfl, hM4, hb4⟩; have HM4 : Hid _ := hM4; have b4 := below_box hb4 b2; clear hM4 k0 k1 k2 k3 k4 k5 k6 k7 k8 k9 k10 k11 k12; obtain ⟨k0, k1, k2, k3, k4, k5, k6, k7, k8, k9, k10, k11, k12⟩ := cm_cells b4; have hla4 := liesC_next hla2 hb4; have HB4 : Hid (Below w.heap.size w w4) := below_next HB2.out (Nat.le_refl _) hb4)
    | (go_at_call 13; refine (num_any14 _ _).mono ?_; rintro e wn ⟨rfl, hq⟩; have hq2 := hq.symm; clear hq; subst hq2)
    | (go_at_call 28; refine (entry_long 4 (whS ao0 cap0) (whC l0 0) hok (wh_in _ _) hlen (Nat.le_trans (cmd_len hok q) (by decide)) w4 hla4).mono ?_; rintro e w5 ⟨rfl, hb5⟩; have HB5 : Hid _ := hb5; clear hb5)
    | (go_at_call 15; refine (hdo _ w5 g gs (HM4.out.below HB5.out)).mono ?_; rintro e w6 ⟨rfl, ⟨ao6, cap6, lv6, hM6⟩, hT6⟩
       have HB6 : Hid (Below w.heap.size w w6) := (below_next HB4.out (Nat.le_refl _) HB5.out).trans (hT6.below.mono HB2.out.size)
       have HB7 : Hid _ := HB6.out.alloc HB6.out.size (dnBox ⟨0, 0, 4, 3⟩)
       have HC7 : Hid _ := alloc_box (dnBox ⟨0, 0, 4, 3⟩) (hT6.keep _ _ (below_box HB5.out b4) ⟨by decide, by decide, by decide, by decide⟩)
       have HD7 : Hid _ := heap_new w6 (dnBox ⟨0, 0, 4, 3⟩)
       have HM7 : Hid _ := hM6.below ((Below.refl _ w6).alloc (Nat.le_refl _) (dnBox ⟨0, 0, 4, 3⟩))
       clear hM6 hT6 b4 hla4 HM4 hdo k0 k1 k2 k3 k4 k5 k6 k7 k8 k9 k10 k11 k12))
  have hll : l0.length ≤ 200 := (wrts_bound hok.wrts).1
  go_loopw [11, 12] (fun pv iv wr => ∃ k : Nat, k ≤ l0.length ∧ iv = .int .i64 (k : Int) ∧ pv = .int .i64 ((putsW (l0.take k)).length : Int) ∧ wr = w6.alloc (dnBox ⟨0, 0, 4, 3⟩)) (fun _ i _ => l0.length - (intOf i).toNat)
  case atStart => exact ⟨0, by omega, rfl, rfl, rfl⟩
  case round =>
    obtain ⟨k, hk, rfl, rfl, rfl⟩ := hrel
    by_cases hkl : k < l0.length
    · have HX : Hid (l0[k]? = some (l0[k]'hkl)) := List.getElem?_eq_getElem hkl
      obtain ⟨a, rfl, hblk, e0, e1, e2⟩ := (hl0.below WrtAt.fast HB7.out) k _ HX.out
      generalize (l0[k]'hkl) = x at *
      have HN : Hid _ := puts_snoc HX.out
      have hle := Nat.le_trans (puts_le (l0.take k)) (List.length_take_le k l0)
      generalize (putsW (l0.take k)).length = n at *
      have hn9 : (n : Int) ≤ 200 := by omega
      cases hD : x.del with
      | true =>
        have HN2 : Hid ((putsW (l0.take (k + 1))).length = n) := HN.out.trans (by rw [if_pos hD]; rfl)
        rw [hD] at e2
        clear HN hD
        go_wp2
        go_roundw
        case rel => exact ⟨k + 1, by omega, by go_num, by rw [HN2.out], trivial⟩
        case measure => simp [intOf]; omega
      | false =>
        have HN2 : Hid ((putsW (l0.take (k + 1))).length = n + 1) := HN.out.trans (by rw [if_neg (by rw [hD]; decide)])
        rw [hD] at e2
        clear HN hD
        go_wp2
        go_roundw
        case rel => exact ⟨k + 1, by omega, by go_num, by rw [HN2.out]; go_num, trivial⟩
        case measure => simp [intOf]; omega
    · have hke : k = l0.length := by omega
      subst hke
      rw [List.take_length]
      obtain ⟨k0, k1, k2, k3, k4, k5, k6, k7, k8, k9, k10, k11, k12⟩ := cm_cells HC7.out
      have hla7 : LiesC (w6.alloc (dnBox ⟨0, 0, 4, 3⟩)) (w6.alloc (dnBox ⟨0, 0, 4, 3⟩)).heap.size (whS ao0 cap0) (whC l0 0) := liesC_next (wh_lies hl0) HB7.out
      go_wp2_with (first
        | (go_at_call 29; refine (hput _ hla7).mono ?_; rintro e w8 ⟨rfl, hb8⟩; have bc := box_cell (below_box hb8 HD7.out) 3 _ rfl; have HB8 : Hid _ := below_next HB7.out (Nat.le_refl _) hb8; have HMB8 : Hid _ := hb8; clear hb8)
        | (go_at_call 10; refine (awake14 _).mono ?_; rintro e w9 ⟨rfl, hb9⟩))
      go_ret
      exact ⟨rfl, below_next HB8.out (Nat.le_refl _) hb9⟩
theorem wh_c3 (ao0 : Option Addr) (cap0 : Nat) (l0 : List Wrt) (f1 : Nat) (hf1 : f1 < 256) (q : SmallC (whC l0 3)) (hok : CmdOk (whC l0 3)) (hlen : ¬ (cmdB (whC l0 3)).length ≤ 19996) (w : World) (hl0 : LiesW w w.heap.size ao0 l0) :
    Calls Tryz.prog 5 #[.slice ao0 l0.length cap0, .int .u8 (f1 : Int), .bool true] w fun e w' => e = .returned (.bool true) ∧ Below w.heap.size w w' := by
  have hl9 : LiesC w w.heap.size (whS ao0 cap0) (whC l0 3) := wh_lies hl0
  have hg : ∀ w, LiesC w w.heap.size (whS ao0 cap0) (whC l0 3) → Calls Tryz.prog 26 #[cmV (whS ao0 cap0) (whC l0 3)] w fun e w' => e = .returned (.bool false) ∧ Below w.heap.size w w' := fun w h => by
    have := great_any (whC l0 3) (whS ao0 cap0) w h
    rw [tru_no (fun h => h q)] at this
    exact this
  have hm : ∀ w, LiesC w w.heap.size (whS ao0 cap0) (whC l0 3) → Calls Tryz.prog 27 #[cmV (whS ao0 cap0) (whC l0 3)] w fun e w' => e = .returned (.bool true) ∧ Below w.heap.size w w' := fun w h => by
    have := refMay_cmd (whC l0 3) (wh_in _ _) (whS ao0 cap0) w h
    rw [tru_yes hok] at this
    exact this
  have hbx := heap_new w (cmCells (whS ao0 cap0) (whC l0 3))
  have hla := liesC_alloc hl9 (cmCells (whS ao0 cap0) (whC l0 3))
  obtain ⟨k0, k1, k2, k3, k4, k5, k6, k7, k8, k9, k10, k11, k12⟩ := cm_cells hbx
  obtain ⟨M1, HM1⟩ : ∃ M, Hid (nextM (newM (1 + (f1 : Int))) 4 noCmd 3 = M) := ⟨_, rfl⟩
  have HD1 : Hid (doneV (newM (1 + (f1 : Int))) 4 noCmd 3 = ⟨0, 0, 4, 3⟩) := wh_form _
  have hput : ∀ w, LiesC w w.heap.size (whS ao0 cap0) (whC l0 3) → Calls Tryz.prog 29 #[cmV (whS ao0 cap0) (whC l0 3)] w fun e w' => e = .returned (.tuple #[.string ⟨#[]⟩, .int .i64 2]) ∧ Below w.heap.size w w' := fun w h => by
    have h9 := cmd_len hok q
    have := refPut_yes (whC l0 3) hok (wh_in _ _) (by omega) (whS ao0 cap0) w h
    rw [show putR (whC l0 3) = _ from if_neg hlen] at this
    exact this
  have hdo : ∀ B W g gs, HoldM B W g (newM (1 + (f1 : Int))) gs none 0 (.map none) → Calls Tryz.prog 15 #[.pointer (some ⟨g, 0, none⟩), enV 4 ⟨#[]⟩] W fun e w' => e = .returned (.agg #[.int .i64 0, .int .i64 0, .int .i64 4, .int .i64 3]) ∧ (∃ ao' cap' lv', HoldM B w' g M1 gs ao' cap' lv') ∧ TurnA B none W w' := fun B W g gs h => by
    have := do_any B g gs 0 (newM (1 + (f1 : Int))) none (.map none) 4 ⟨#[]⟩ noCmd 3 get_empty (by simp [newM]) (by simp [newM]) W h
    rw [HD1.out, HM1.out] at this
    refine this.mono ?_
    rintro e w' ⟨h1, ⟨ao', cap', lv', h2, _⟩, h3⟩
    exact ⟨h1, ⟨ao', cap', lv', h2⟩, h3⟩
  go_enter Tryz.func5, Tryz.ntmps5
  go_wp2_with (first
    | (go_at_call 26; refine (hg _ hla).mono ?_; rintro e w1 ⟨rfl, hb1⟩; have b1 := below_box hb1 hbx; clear k0 k1 k2 k3 k4 k5 k6 k7 k8 k9 k10 k11 k12; obtain ⟨k0, k1, k2, k3, k4, k5, k6, k7, k8, k9, k10, k11, k12⟩ := cm_cells b1; have hla1 := liesC_next hla hb1)
    | (go_at_call 27; refine (hm w1 hla1).mono ?_; rintro e w2 ⟨rfl, hb2⟩; have b2 := below_box hb2 b1; clear k0 k1 k2 k3 k4 k5 k6 k7 k8 k9 k10 k11 k12; obtain ⟨k0, k1, k2, k3, k4, k5, k6, k7, k8, k9, k10, k11, k12⟩ := cm_cells b2; have hla2 := liesC_next hla1 hb2; have HB2 : Hid (Below w.heap.size w w2) := below_next (below_box0 hb1) (Nat.le_refl _) hb2)
    | (go_at_call 11; refine (anew_yes (1 + (f1 : Int)) (by omega) (by omega) _).mono ?_; rintro e w4 ⟨g, gs, rfl, hM4, hb4⟩; have HM4 : Hid _ := hM4; have b4 := below_box hb4 b2; clear hM4 k0 k1 k2 k3 k4 k5 k6 k7 k8 k9 k10 k11 k12; obtain ⟨k0, k1, k2, k3, k4, k5, k6, k7, k8, k9, k10, k11, k12⟩ := cm_cells b4; have hla4 := liesC_next hla2 hb4; have HB4 : Hid (Below w.heap.size w w4) := below_next HB2.out (Nat.le_refl _) hb4)
    | (go_at_call 13; refine (num_any14 _ _).mono ?_; rintro e wn ⟨rfl, hq⟩; have hq2 := hq.symm; clear hq; subst hq2)
    | (go_at_call 28; refine (entry_long 4 (whS ao0 cap0) (whC l0 3) hok (wh_in _ _) hlen (Nat.le_trans (cmd_len hok q) (by decide)) w4 hla4).mono ?_; rintro e w5 ⟨rfl, hb5⟩; have HB5 : Hid _ := hb5; clear hb5)
    | (go_at_call 15; refine (hdo _ w5 g gs (HM4.out.below HB5.out)).mono ?_; rintro e w6 ⟨rfl, ⟨ao6, cap6, lv6, hM6⟩, hT6⟩
       have HB6 : Hid (Below w.heap.size w w6) := (below_next HB4.out (Nat.le_refl _) HB5.out).trans (hT6.below.mono HB2.out.size)
       have HB7 : Hid _ := HB6.out.alloc HB6.out.size (dnBox ⟨0, 0, 4, 3⟩)
       have HC7 : Hid _ := alloc_box (dnBox ⟨0, 0, 4, 3⟩) (hT6.keep _ _ (below_box HB5.out b4) ⟨by decide, by decide, by decide, by decide⟩)
       have HD7 : Hid _ := heap_new w6 (dnBox ⟨0, 0, 4, 3⟩)
       have HM7 : Hid _ := hM6.below ((Below.refl _ w6).alloc (Nat.le_refl _) (dnBox ⟨0, 0, 4, 3⟩))
       clear hM6 hT6 b4 hla4 HM4 hdo k0 k1 k2 k3 k4 k5 k6 k7 k8 k9 k10 k11 k12))
  have hll : l0.length ≤ 200 := (wrts_bound hok.wrts).1
  go_loopw [11, 12] (fun pv iv wr => ∃ k : Nat, k ≤ l0.length ∧ iv = .int .i64 (k : Int) ∧ pv = .int .i64 ((putsW (l0.take k)).length : Int) ∧ wr = w6.alloc (dnBox ⟨0, 0, 4, 3⟩)) (fun _ i _ => l0.length - (intOf i).toNat)
  case atStart => exact ⟨0, by omega, rfl, rfl, rfl⟩
  case round =>
    obtain ⟨k, hk, rfl, rfl, rfl⟩ := hrel
    by_cases hkl : k < l0.length
    · have HX : Hid (l0[k]? = some (l0[k]'hkl)) := List.getElem?_eq_getElem hkl
      obtain ⟨a, rfl, hblk, e0, e1, e2⟩ := (hl0.below WrtAt.fast HB7.out) k _ HX.out
      generalize (l0[k]'hkl) = x at *
      have HN : Hid _ := puts_snoc HX.out
      have hle := Nat.le_trans (puts_le (l0.take k)) (List.length_take_le k l0)
      generalize (putsW (l0.take k)).length = n at *
      have hn9 : (n : Int) ≤ 200 := by omega
      cases hD : x.del with
      | true =>
        have HN2 : Hid ((putsW (l0.take (k + 1))).length = n) := HN.out.trans (by rw [if_pos hD]; rfl)
        rw [hD] at e2
        clear HN hD
        go_wp2
        go_roundw
        case rel => exact ⟨k + 1, by omega, by go_num, by rw [HN2.out], trivial⟩
        case measure => simp [intOf]; omega
      | false =>
        have HN2 : Hid ((putsW (l0.take (k + 1))).length = n + 1) := HN.out.trans (by rw [if_neg (by rw [hD]; decide)])
        rw [hD] at e2
        clear HN hD
        go_wp2
        go_roundw
        case rel => exact ⟨k + 1, by omega, by go_num, by rw [HN2.out]; go_num, trivial⟩
        case measure => simp [intOf]; omega
    · have hke : k = l0.length := by omega
      subst hke
      rw [List.take_length]
      obtain ⟨k0, k1, k2, k3, k4, k5, k6, k7, k8, k9, k10, k11, k12⟩ := cm_cells HC7.out
      have hla7 : LiesC (w6.alloc (dnBox ⟨0, 0, 4, 3⟩)) (w6.alloc (dnBox ⟨0, 0, 4, 3⟩)).heap.size (whS ao0 cap0) (whC l0 3) := liesC_next (wh_lies hl0) HB7.out
      go_wp2_with (first
        | (go_at_call 29; refine (hput _ hla7).mono ?_; rintro e w8 ⟨rfl, hb8⟩; have bc := box_cell (below_box hb8 HD7.out) 3 _ rfl; have HB8 : Hid _ := below_next HB7.out (Nat.le_refl _) hb8; have HMB8 : Hid _ := hb8; clear hb8)
        | (go_at_call 10; refine (awake14 _).mono ?_; rintro e w9 ⟨rfl, hb9⟩))
      go_ret
      exact ⟨rfl, below_next HB8.out (Nat.le_refl _) hb9⟩

theorem walk (ao0 : Option Addr) (cap0 : Nat) (l0 : List Wrt) (f1 : Nat) (hf1 : f1 < 256) (b2 : Bool) (w : World) (hl0 : LiesW w w.heap.size ao0 l0) :
    Calls Tryz.prog 5 #[.slice ao0 l0.length cap0, .int .u8 (f1 : Int), .bool b2] w fun e w' => e = .returned (.bool true) ∧ Below w.heap.size w w' := by
  cases b2 with
  | false =>
    by_cases q : ¬ SmallC (whC l0 0)
    · exact wh_a0 ao0 cap0 l0 f1 hf1 q w hl0
    · have q := Classical.not_not.1 q
      by_cases hok : CmdOk (whC l0 0)
      · by_cases hlen : (cmdB (whC l0 0)).length ≤ 19996
        · by_cases hp : 1 + (f1 : Int) < ((putsW l0).length : Int)
          · exact wh_e ao0 cap0 l0 f1 hf1 q hok hlen hp w hl0
          · exact wh_f ao0 cap0 l0 f1 hf1 q hok hlen hp w hl0
        · exact wh_c0 ao0 cap0 l0 f1 hf1 q hok hlen w hl0
      · exact wh_b0 ao0 cap0 l0 f1 hf1 q hok w hl0
  | true =>
    by_cases q : ¬ SmallC (whC l0 3)
    · exact wh_a3 ao0 cap0 l0 f1 hf1 q w hl0
    · have q := Classical.not_not.1 q
      by_cases hok : CmdOk (whC l0 3)
      · by_cases hlen : (cmdB (whC l0 3)).length ≤ 19996
        · exact wh_d ao0 cap0 l0 f1 hf1 q hok hlen w hl0
        · exact wh_c3 ao0 cap0 l0 f1 hf1 q hok hlen w hl0
      · exact wh_b3 ao0 cap0 l0 f1 hf1 q hok w hl0

set_option maxRecDepth 100000 in
theorem lifted (os : Os) (started : os.Started) (H : Type) (enc : TypeId × Value → H) :
    ReturnsInHanded {} Tryz.checked os 5 .any (Rows.applyWholeSpec.pre6 enc Tryz.prog Tryz.f5 Rows.applyWholeRow.domain false) (Rows.applyWholeSpec.post enc Tryz.prog Tryz.f5 false true false false) := by
  refine returnsInHanded_of_change (C := Tryz.checked) own started (by kernel_rfl) Tryz.func5
    (ChangeSpec.witness6 (enc := enc) (C := Tryz.checked) false ⟨#[], #[.slice none 0 0, .int .u8 0, .bool false], []⟩ 8 (by kernel_rfl) (by kernel_rfl) (by kernel_rfl) (by kernel_rfl)) ?_
  intro W base args ds gs before hval0 hW hcnd _
  have hval : ∀ (j : Nat) t v, Tryz.f5.params[j]? = some t → args[j]? = some v → Value.okWide Tryz.prog W .any base t v := hval0
  have hW' := hW
  have hWk := hW
  obtain ⟨p, q, hA0, hV, rfl, hfz, hnd⟩ := hW
  have hA : DataW.TrodAll enc Tryz.prog W 0 (fun _ => true) true Tryz.f5.params.toList args.toList ds p := hA0
  rw [Tryz.params5] at hA hval
  obtain ⟨v0, vs0, d0, ds0, p0, q0, hargs, rfl, rfl, h0, rt0⟩ := trodAll_cons hA
  obtain ⟨v1, vs1, d1, ds1, p1, q1, rfl, rfl, rfl, h1, rt1⟩ := trodAll_cons rt0
  obtain ⟨v2, vs2, d2, ds2, p2, q2, rfl, rfl, rfl, h2, rt2⟩ := trodAll_cons rt1
  obtain ⟨rfl, rfl, rfl⟩ := trodAll_nil rt2
  obtain rfl : args = #[v0, v1, v2] := by cases args; simp_all
  obtain ⟨rfl, rfl⟩ := trodVars_none hV
  have hk0 := h0
  obtain ⟨ao0, cap0, l0, rfl, hlies0⟩ := open_wrts (hval 0 38 v0 rfl rfl) h0
  have hlt0 : ∀ x ∈ p0, x.block < W.heap.size := fun x hx => by simpa using hWk.lt x (by simp [hx])
  obtain ⟨g1, rfl, rfl, rfl, wf1⟩ := open_int Tryz.underlying5 (hval 1 5 v1 rfl rfl) h1
  have bf1 := bounds_u8 wf1
  obtain ⟨f1, rfl⟩ := Int.eq_ofNat_of_zero_le bf1.1
  obtain ⟨b2, rfl, rfl, rfl⟩ := open_bool Tryz.underlying4 (hval 2 4 v2 rfl rfl) h2
  clear hA0 hval0
  simp only [List.append_nil] at hW'

  refine (walk ao0 cap0 l0 f1 (by omega) b2 W hlies0).mono fun e W' ⟨he, hg⟩ => ?_
  subst he
  exact ⟨_, rfl, _, _, _, [], _, [], hW', trodAll_cons_mk (shut_bool Tryz.underlying4 _) trodAll_mk0, (trodAll_cons_mk (Below.trod Tryz.laidOut (by kernel_rfl) (of_decide_eq_true (by kernel_rfl)) hk0 hg hlt0) (trodAll_cons_mk (shut_int Tryz.underlying5 wf1) (trodAll_cons_mk (shut_bool Tryz.underlying4 b2) trodAll_mk0))), rfl, hg.frame _, fun h => by cases h⟩

theorem over : Rows.applyWholeRow.holds Tryz.pinned (OpenSpec.ofChange Rows.applyWholeSpec) :=
  OpenClaim.holds_of_wide 5 Tryz.f5 rfl rfl rfl rfl rfl rfl rfl ⟨rfl, rfl, rfl, rfl, rfl⟩ rfl rfl rfl rfl rfl (by kernel_rfl) Tryz.func5 (by kernel_rfl)
    (of_decide_eq_true (by kernel_rfl)) (by unfold Func.isWrapper; first | (rw [if_pos (by decide +kernel)]; kernel_rfl) | (rw [if_neg (by decide +kernel)]; exact ⟨rfl, rfl⟩))
    (fun os started H enc _ => lifted os started H enc)

theorem proved : Rows.ApplyWholeSaid :=
  over
#print axioms proved
end Go.Proofs.YtclliljkmmpglaaGreat.applyWhole
