/-
  Proved: for every time, deadline, earliest time, and whether what it read was touched, the law ApplyTimes returns true: behind its deadline, ahead of its time, with what it read changed, a command is not done, else it is (14.2), and the document's example holds; the arguments stay as they were.
-/
import Derived.Test.YtclliljkmmpglaaGreatRows
import Derived.Test.YtclliljkmmpglaaGreatApV
import Derived.Test.YtclliljkmmpglaaGreatApT
import Derived.WalkKit
import Derived.ProofKit
import Derived.OpenShut
import Derived.ShutString
import Derived.Lib.SmallJoins
namespace Go.Proofs.YtclliljkmmpglaaGreat.applyTimes
open Go.ChangeShapes Go.WideShapes Go.ChangeAt Go.RowKit Go.Joins Num
open Go.ChangeMaps (open_string shut_string)
set_option linter.unusedVariables false
set_option maxRecDepth 100000

theorem own : ownKnob Tryz.prog.godebug = none := by kernel_rfl

open scoped Classical
open Go.Maps
set_option maxRecDepth 100000
set_option maxHeartbeats 1000000
abbrev bxW (k v : ByteArray) : Obj := .cells #[.string k, .string v, .bool false] 72
abbrev bxQ (a b : ByteArray) : Obj := .cells #[.string a, .string b] 67
abbrev csW (n : Nat) : Cs := ⟨none, 0, none, 0, some ⟨n, 0, none⟩, 1, none, 0⟩
abbrev csC (n : Nat) : Cs := ⟨some ⟨n, 0, none⟩, 1, some ⟨n + 1, 0, none⟩, 1, some ⟨n + 1 + 1, 0, none⟩, 1, none, 0⟩
theorem liesA {W : World} {n : Nat} (h : W.heap[n]? = some (bxW ⟨#[97]⟩ ⟨#[49]⟩)) : LiesC W W.heap.size (csW n) tmA := ⟨lies_noneG, lies_noneG, lies_oneW (x := ⟨⟨#[97]⟩, ⟨#[49]⟩, false⟩) h (Array.getElem?_eq_some_iff.1 h).1, lies_noneG⟩
theorem liesB {W : World} {n : Nat} {k : ByteArray} (h : W.heap[n]? = some (bxW k ⟨#[50]⟩)) : LiesC W W.heap.size (csW n) (tmB k) := ⟨lies_noneG, lies_noneG, lies_oneW (x := ⟨k, ⟨#[50]⟩, false⟩) h (Array.getElem?_eq_some_iff.1 h).1, lies_noneG⟩
theorem liesC' {W : World} {n : Nat} {dead aft : Int} (h0 : W.heap[n]? = some exK) (h1 : W.heap[n + 1]? = some (bxQ ⟨#[98]⟩ ⟨#[99]⟩)) (h2 : W.heap[n + 1 + 1]? = some (bxW ⟨#[122]⟩ ⟨#[57]⟩)) : LiesC W W.heap.size (csC n) (tmC dead aft) :=
  ⟨lies_oneS h0 (Array.getElem?_eq_some_iff.1 h0).1, lies_oneQ (x := ⟨⟨#[98]⟩, ⟨#[99]⟩⟩) h1 (Array.getElem?_eq_some_iff.1 h1).1, lies_oneW (x := ⟨⟨#[122]⟩, ⟨#[57]⟩, false⟩) h2 (Array.getElem?_eq_some_iff.1 h2).1, lies_noneG⟩
theorem hdoA (B : Nat) (W : World) (g gs : Nat) (h : HoldM B W g (newM 500) gs none 0 (.map none)) : Calls Tryz.prog 15 #[.pointer (some ⟨g, 0, none⟩), enV 3 (bytesC tmA)] W fun e w' => (∃ v, e = .returned v) ∧ (∃ ao' cap' lv', HoldM B w' g tm1 gs ao' cap' lv') ∧ TurnA B none W w' := by
  have := do_any B g gs 0 (newM 500) none (.map none) 3 (bytesC tmA) tmA 0 (one_get tmA_ok.1 (one_in _ _ _ _ _ _ _ _) tmA_ok.2) (by simp [newM]) (by simp [newM]) W h
  rw [tm_next1] at this
  refine this.mono ?_
  rintro e w' ⟨h1, ⟨ao', cap', lv', h2, _⟩, h3⟩
  exact ⟨⟨_, h1⟩, ⟨ao', cap', lv', h2⟩, h3⟩
theorem hdoB (B : Nat) (W : World) (g gs cap : Nat) (ao : Option Addr) (lv : Value) (k : ByteArray) (hk : k.size ≤ 10) (h : HoldM B W g tm1 gs ao cap lv) : Calls Tryz.prog 15 #[.pointer (some ⟨g, 0, none⟩), enV 5 (bytesC (tmB k))] W fun e w' => (∃ v, e = .returned v) ∧ (∃ ao' cap' lv', HoldM B w' g (tm2 k) gs ao' cap' lv') ∧ TurnA B (Value.slice ao 1 cap).ownBlock W w' := by
  have := do_any B g gs cap tm1 ao lv 5 (bytesC (tmB k)) (tmB k) 0 (one_get (tmB_ok hk).1 (one_in _ _ _ _ _ _ _ _) (tmB_ok hk).2) (by simp [tm1]) (by simp [tm1]) W h
  rw [tm_next2] at this
  refine this.mono ?_
  rintro e w' ⟨h1, ⟨ao', cap', lv', h2, _⟩, h3⟩
  exact ⟨⟨_, h1⟩, ⟨ao', cap', lv', h2⟩, h3⟩
theorem hdoC (B : Nat) (W : World) (g gs cap : Nat) (ao : Option Addr) (lv : Value) (m : Mac) (t dead aft : Int) (h1 : 0 ≤ dead ∧ dead ≤ 1000) (h2 : 0 ≤ aft ∧ aft ≤ 1000) (hn : m.dones.length ≤ 10) (hl : m.lim ≤ 10) (C : Int) (hC : (doneV m t (tmC dead aft) 0).code = C) (h : HoldM B W g m gs ao cap lv) : Calls Tryz.prog 15 #[.pointer (some ⟨g, 0, none⟩), enV t (bytesC (tmC dead aft))] W fun e w' => e = .returned (.agg #[.int .i64 0, .int .i64 0, .int .i64 t, .int .i64 C]) ∧ (∃ ao' cap' lv', HoldM B w' g (nextM m t (tmC dead aft) 0) gs ao' cap' lv') ∧ Below B W w' := by
  have := do_any B g gs cap m ao lv t (bytesC (tmC dead aft)) (tmC dead aft) 0 (one_get (tmC_ok h1 h2).1 (one_in _ _ _ _ _ _ _ _) (tmC_ok h1 h2).2) (by omega) (by omega) W h
  refine this.mono ?_
  rintro e w' ⟨h1, ⟨ao', cap', lv', h2, _⟩, h3⟩
  refine ⟨?_, ⟨ao', cap', lv', h2⟩, h3.below⟩
  rw [h1, ← hC]
  rfl
theorem times_no_a14 (f0 : Nat) (hf0 : f0 < 256) (f1 : Nat) (hf1 : f1 < 256) (f2 : Nat) (hf2 : f2 < 256) (hd : (f1 : Int) ≠ 0 ∧ (f1 : Int) < 10 + (f0 : Int)) (w : World) :
    Calls Tryz.prog 7 #[.int .u8 (f0 : Int), .int .u8 (f1 : Int), .int .u8 (f2 : Int), .bool false] w fun e w' => e = .returned (.bool true) ∧ Below w.heap.size w w' := by
  have hnew := anew_yes 500 (by decide) (by decide) w
  have hentA : ∀ W n, W.heap[n]? = some (bxW ⟨#[97]⟩ ⟨#[49]⟩) → Calls Tryz.prog 28 #[.int .i64 3, cmV (csW n) tmA] W fun e w' => e = .returned (enV 3 (bytesC tmA)) ∧ Below W.heap.size W w' := fun W n h => entry_any 3 (csW n) tmA tmA_ok.1 (one_in _ _ _ _ _ _ _ _) tmA_ok.2 W (liesA h)
  have hentC : ∀ W n, W.heap[n]? = some exK → W.heap[n + 1]? = some (bxQ ⟨#[98]⟩ ⟨#[99]⟩) → W.heap[n + 1 + 1]? = some (bxW ⟨#[122]⟩ ⟨#[57]⟩) → Calls Tryz.prog 28 #[.int .i64 (10 + (f0 : Int)), cmV (csC n) (tmC (f1 : Int) (f2 : Int))] W fun e w' => e = .returned (enV (10 + (f0 : Int)) (bytesC (tmC (f1 : Int) (f2 : Int)))) ∧ Below W.heap.size W w' := fun W n h0 h1 h2 => entry_any (10 + (f0 : Int)) (csC n) _ (tmC_ok (by omega) (by omega)).1 (one_in _ _ _ _ _ _ _ _) (tmC_ok (by omega) (by omega)).2 W (liesC' h0 h1 h2)
  have HCO : Hid ((doneV tm1 (10 + (f0 : Int)) (tmC (f1 : Int) (f2 : Int)) 0).code = 14 ∧ lookB (getV (nextM tm1 (10 + (f0 : Int)) (tmC (f1 : Int) (f2 : Int)) 0).st.vs ⟨#[122]⟩ (10 + (f0 : Int))) = decide ((14 : Int) = 0)) := tm_last tm1 (10 + (f0 : Int)) (f1 : Int) (f2 : Int) false (by omega) (tm1_facts).1 (tm1_facts).2.1 (tm1_facts).2.2 14 (if_pos hd).symm
  have z1 : ((f1 : Int) != 0) = true := bne_iff_ne.2 hd.1
  have z2 : decide ((f1 : Int) < 10 + (f0 : Int)) = true := decide_eq_true hd.2
  clear hd
  go_enter Tryz.func7, Tryz.ntmps7
  go_wp2_with (first
    | (go_at_call 11; refine hnew.mono ?_; rintro e w1 ⟨g, gs, rfl, hM1, hb1⟩
       have HA : Hid ((w1.alloc (bxW ⟨#[97]⟩ ⟨#[49]⟩)).heap[w1.heap.size]? = some (bxW ⟨#[97]⟩ ⟨#[49]⟩)) := heap_new w1 _
       have HM1 : Hid _ := hM1
       clear hM1 hnew)
    | (go_at_call 13; refine (num_any14 _ _).mono ?_; rintro e wn ⟨rfl, hq⟩; have hq2 := hq.symm; clear hq; subst hq2)
    | (go_at_call 28; refine (hentA _ w1.heap.size HA.out).mono ?_; rintro e w2 ⟨rfl, hb2⟩; have HB2 : Hid (Below w1.heap.size w1 w2) := below_box0 hb2; clear hb2 HA hentA)
    | (go_at_call 15; refine (hdoA _ w2 g gs (HM1.out.below HB2.out)).mono ?_; rintro e w3 ⟨⟨v3, rfl⟩, ⟨ao3, cap3, lv3, hM3⟩, hT3⟩
       have HM3 : Hid _ := hM3
       have HB3 : Hid (Below w.heap.size w w3) := (below_next hb1 (Nat.le_refl _) HB2.out).trans hT3.below
       have HBA : Hid (Below w3.heap.size w3 ((((w3.alloc exK).alloc (bxQ ⟨#[98]⟩ ⟨#[99]⟩)).alloc (bxW ⟨#[122]⟩ ⟨#[57]⟩)).alloc (cmCells (csC w3.heap.size) (tmC (f1 : Int) (f2 : Int))))) := ((((Below.refl _ w3).alloc (Nat.le_refl _) _).alloc (by simp) _).alloc (by simp; omega) _).alloc (by simp; omega) _
       have HC0 : Hid (((((w3.alloc exK).alloc (bxQ ⟨#[98]⟩ ⟨#[99]⟩)).alloc (bxW ⟨#[122]⟩ ⟨#[57]⟩)).alloc (cmCells (csC w3.heap.size) (tmC (f1 : Int) (f2 : Int)))).heap[w3.heap.size]? = some exK) := alloc_box _ (alloc_box _ (alloc_box _ (heap_new w3 _)))
       have HC1 : Hid (((((w3.alloc exK).alloc (bxQ ⟨#[98]⟩ ⟨#[99]⟩)).alloc (bxW ⟨#[122]⟩ ⟨#[57]⟩)).alloc (cmCells (csC w3.heap.size) (tmC (f1 : Int) (f2 : Int)))).heap[w3.heap.size + 1]? = some (bxQ ⟨#[98]⟩ ⟨#[99]⟩)) := alloc_box _ (alloc_box _ (heap_newB _ _ _ (by simp)))
       have HC2 : Hid (((((w3.alloc exK).alloc (bxQ ⟨#[98]⟩ ⟨#[99]⟩)).alloc (bxW ⟨#[122]⟩ ⟨#[57]⟩)).alloc (cmCells (csC w3.heap.size) (tmC (f1 : Int) (f2 : Int)))).heap[w3.heap.size + 1 + 1]? = some (bxW ⟨#[122]⟩ ⟨#[57]⟩)) := alloc_box _ (heap_newB _ _ _ (by simp))
       have HC3 : Hid (((((w3.alloc exK).alloc (bxQ ⟨#[98]⟩ ⟨#[99]⟩)).alloc (bxW ⟨#[122]⟩ ⟨#[57]⟩)).alloc (cmCells (csC w3.heap.size) (tmC (f1 : Int) (f2 : Int)))).heap[w3.heap.size + 1 + 1 + 1]? = some (cmCells (csC w3.heap.size) (tmC (f1 : Int) (f2 : Int)))) := heap_newB _ _ _ (by simp)
       have HK0 : Hid _ := HC0.out
       have HK1 : Hid _ := HC1.out
       have HK2 : Hid _ := HC2.out
       obtain ⟨k0, k1, k2, k3, k4, k5, k6, k7, k8, k9, k10, k11, k12⟩ := cm_cells HC3.out
       clear hM3 hT3 HM1)
    | (go_at_call 28; refine (hentC _ w3.heap.size HK0.out HK1.out HK2.out).mono ?_; rintro e w6 ⟨rfl, hb6⟩; have HB6 : Hid _ := hb6; clear hb6)
    | (go_at_call 15; refine (hdoC _ w6 g gs _ _ _ tm1 (10 + (f0 : Int)) (f1 : Int) (f2 : Int) (by omega) (by omega) (Nat.le_of_ble_eq_true rfl) (Nat.le_of_ble_eq_true rfl) 14 HCO.out.1 ((HM3.out.below HBA.out).below HB6.out)).mono ?_; rintro e w7 ⟨rfl, ⟨ao7, cap7, lv7, hM7⟩, hb7⟩
       have hM8 := hM7.below ((Below.refl _ w7).alloc (Nat.le_refl _) (dnBox ⟨0, 0, 10 + (f0 : Int), 14⟩))
       have hstor := astore_any _ _ _ _ _ _ _ _ hM8
       have hgetz := sget_any _ gs _ (10 + (f0 : Int)) ⟨#[122]⟩ (by decide) (Nat.le_trans hM8.few (by decide)) _ hM8.sto
       rw [HCO.out.2] at hgetz
       have HB7 : Hid (Below w.heap.size w w7) := (below_next (below_next HB3.out (Nat.le_refl _) HBA.out) (Nat.le_refl _) HB6.out).trans hb7
       have HD : Hid ((w7.alloc (dnBox ⟨0, 0, 10 + (f0 : Int), 14⟩)).heap[w7.heap.size]? = some (dnBox ⟨0, 0, 10 + (f0 : Int), 14⟩)) := heap_new w7 _
       clear hM7 hM8 hb7 k0 k1 k2 k3 k4 k5 k6 k7 k8 k9 k10 k11 k12)
    | (go_at_call 20; refine hstor.mono ?_; rintro e wn ⟨rfl, hq⟩; have hq2 := hq.symm; clear hq; subst hq2)
    | (go_at_call 30; refine hgetz.mono ?_; rintro e w9 ⟨rfl, hb9⟩; have dc := box_cell (below_box hb9 HD.out) 3 _ rfl; have HB9 : Hid _ := hb9; clear hb9)
    | (go_at_call 10; refine (awake14 _).mono ?_; rintro e w10 ⟨rfl, hb10⟩))
  go_ret
  exact ⟨rfl, below_next (below_next (HB7.out.alloc HB7.out.size _) (Nat.le_refl _) HB9.out) (Nat.le_refl _) hb10⟩
theorem times_no_b15 (f0 : Nat) (hf0 : f0 < 256) (f1 : Nat) (hf1 : f1 < 256) (f2 : Nat) (hf2 : f2 < 256) (hd : (f1 : Int) = 0) (ha : 10 + (f0 : Int) < (f2 : Int)) (w : World) :
    Calls Tryz.prog 7 #[.int .u8 (f0 : Int), .int .u8 (f1 : Int), .int .u8 (f2 : Int), .bool false] w fun e w' => e = .returned (.bool true) ∧ Below w.heap.size w w' := by
  have hnew := anew_yes 500 (by decide) (by decide) w
  have hentA : ∀ W n, W.heap[n]? = some (bxW ⟨#[97]⟩ ⟨#[49]⟩) → Calls Tryz.prog 28 #[.int .i64 3, cmV (csW n) tmA] W fun e w' => e = .returned (enV 3 (bytesC tmA)) ∧ Below W.heap.size W w' := fun W n h => entry_any 3 (csW n) tmA tmA_ok.1 (one_in _ _ _ _ _ _ _ _) tmA_ok.2 W (liesA h)
  have hentC : ∀ W n, W.heap[n]? = some exK → W.heap[n + 1]? = some (bxQ ⟨#[98]⟩ ⟨#[99]⟩) → W.heap[n + 1 + 1]? = some (bxW ⟨#[122]⟩ ⟨#[57]⟩) → Calls Tryz.prog 28 #[.int .i64 (10 + (f0 : Int)), cmV (csC n) (tmC (f1 : Int) (f2 : Int))] W fun e w' => e = .returned (enV (10 + (f0 : Int)) (bytesC (tmC (f1 : Int) (f2 : Int)))) ∧ Below W.heap.size W w' := fun W n h0 h1 h2 => entry_any (10 + (f0 : Int)) (csC n) _ (tmC_ok (by omega) (by omega)).1 (one_in _ _ _ _ _ _ _ _) (tmC_ok (by omega) (by omega)).2 W (liesC' h0 h1 h2)
  have HCO : Hid ((doneV tm1 (10 + (f0 : Int)) (tmC (f1 : Int) (f2 : Int)) 0).code = 15 ∧ lookB (getV (nextM tm1 (10 + (f0 : Int)) (tmC (f1 : Int) (f2 : Int)) 0).st.vs ⟨#[122]⟩ (10 + (f0 : Int))) = decide ((15 : Int) = 0)) := tm_last tm1 (10 + (f0 : Int)) (f1 : Int) (f2 : Int) false (by omega) (tm1_facts).1 (tm1_facts).2.1 (tm1_facts).2.2 15 ((if_neg (fun h => h.1 hd)).trans (if_pos ha)).symm
  have z1 : ((f1 : Int) != 0) = false := by simp [hd]
  have z3 : decide (10 + (f0 : Int) < (f2 : Int)) = true := decide_eq_true ha
  clear hd ha
  go_enter Tryz.func7, Tryz.ntmps7
  go_wp2_with (first
    | (go_at_call 11; refine hnew.mono ?_; rintro e w1 ⟨g, gs, rfl, hM1, hb1⟩
       have HA : Hid ((w1.alloc (bxW ⟨#[97]⟩ ⟨#[49]⟩)).heap[w1.heap.size]? = some (bxW ⟨#[97]⟩ ⟨#[49]⟩)) := heap_new w1 _
       have HM1 : Hid _ := hM1
       clear hM1 hnew)
    | (go_at_call 13; refine (num_any14 _ _).mono ?_; rintro e wn ⟨rfl, hq⟩; have hq2 := hq.symm; clear hq; subst hq2)
    | (go_at_call 28; refine (hentA _ w1.heap.size HA.out).mono ?_; rintro e w2 ⟨rfl, hb2⟩; have HB2 : Hid (Below w1.heap.size w1 w2) := below_box0 hb2; clear hb2 HA hentA)
    | (go_at_call 15; refine (hdoA _ w2 g gs (HM1.out.below HB2.out)).mono ?_; rintro e w3 ⟨⟨v3, rfl⟩, ⟨ao3, cap3, lv3, hM3⟩, hT3⟩
       have HM3 : Hid _ := hM3
       have HB3 : Hid (Below w.heap.size w w3) := (below_next hb1 (Nat.le_refl _) HB2.out).trans hT3.below
       have HBA : Hid (Below w3.heap.size w3 ((((w3.alloc exK).alloc (bxQ ⟨#[98]⟩ ⟨#[99]⟩)).alloc (bxW ⟨#[122]⟩ ⟨#[57]⟩)).alloc (cmCells (csC w3.heap.size) (tmC (f1 : Int) (f2 : Int))))) := ((((Below.refl _ w3).alloc (Nat.le_refl _) _).alloc (by simp) _).alloc (by simp; omega) _).alloc (by simp; omega) _
       have HC0 : Hid (((((w3.alloc exK).alloc (bxQ ⟨#[98]⟩ ⟨#[99]⟩)).alloc (bxW ⟨#[122]⟩ ⟨#[57]⟩)).alloc (cmCells (csC w3.heap.size) (tmC (f1 : Int) (f2 : Int)))).heap[w3.heap.size]? = some exK) := alloc_box _ (alloc_box _ (alloc_box _ (heap_new w3 _)))
       have HC1 : Hid (((((w3.alloc exK).alloc (bxQ ⟨#[98]⟩ ⟨#[99]⟩)).alloc (bxW ⟨#[122]⟩ ⟨#[57]⟩)).alloc (cmCells (csC w3.heap.size) (tmC (f1 : Int) (f2 : Int)))).heap[w3.heap.size + 1]? = some (bxQ ⟨#[98]⟩ ⟨#[99]⟩)) := alloc_box _ (alloc_box _ (heap_newB _ _ _ (by simp)))
       have HC2 : Hid (((((w3.alloc exK).alloc (bxQ ⟨#[98]⟩ ⟨#[99]⟩)).alloc (bxW ⟨#[122]⟩ ⟨#[57]⟩)).alloc (cmCells (csC w3.heap.size) (tmC (f1 : Int) (f2 : Int)))).heap[w3.heap.size + 1 + 1]? = some (bxW ⟨#[122]⟩ ⟨#[57]⟩)) := alloc_box _ (heap_newB _ _ _ (by simp))
       have HC3 : Hid (((((w3.alloc exK).alloc (bxQ ⟨#[98]⟩ ⟨#[99]⟩)).alloc (bxW ⟨#[122]⟩ ⟨#[57]⟩)).alloc (cmCells (csC w3.heap.size) (tmC (f1 : Int) (f2 : Int)))).heap[w3.heap.size + 1 + 1 + 1]? = some (cmCells (csC w3.heap.size) (tmC (f1 : Int) (f2 : Int)))) := heap_newB _ _ _ (by simp)
       have HK0 : Hid _ := HC0.out
       have HK1 : Hid _ := HC1.out
       have HK2 : Hid _ := HC2.out
       obtain ⟨k0, k1, k2, k3, k4, k5, k6, k7, k8, k9, k10, k11, k12⟩ := cm_cells HC3.out
       clear hM3 hT3 HM1)
    | (go_at_call 28; refine (hentC _ w3.heap.size HK0.out HK1.out HK2.out).mono ?_; rintro e w6 ⟨rfl, hb6⟩; have HB6 : Hid _ := hb6; clear hb6)
    | (go_at_call 15; refine (hdoC _ w6 g gs _ _ _ tm1 (10 + (f0 : Int)) (f1 : Int) (f2 : Int) (by omega) (by omega) (Nat.le_of_ble_eq_true rfl) (Nat.le_of_ble_eq_true rfl) 15 HCO.out.1 ((HM3.out.below HBA.out).below HB6.out)).mono ?_; rintro e w7 ⟨rfl, ⟨ao7, cap7, lv7, hM7⟩, hb7⟩
       have hM8 := hM7.below ((Below.refl _ w7).alloc (Nat.le_refl _) (dnBox ⟨0, 0, 10 + (f0 : Int), 15⟩))
       have hstor := astore_any _ _ _ _ _ _ _ _ hM8
       have hgetz := sget_any _ gs _ (10 + (f0 : Int)) ⟨#[122]⟩ (by decide) (Nat.le_trans hM8.few (by decide)) _ hM8.sto
       rw [HCO.out.2] at hgetz
       have HB7 : Hid (Below w.heap.size w w7) := (below_next (below_next HB3.out (Nat.le_refl _) HBA.out) (Nat.le_refl _) HB6.out).trans hb7
       have HD : Hid ((w7.alloc (dnBox ⟨0, 0, 10 + (f0 : Int), 15⟩)).heap[w7.heap.size]? = some (dnBox ⟨0, 0, 10 + (f0 : Int), 15⟩)) := heap_new w7 _
       clear hM7 hM8 hb7 k0 k1 k2 k3 k4 k5 k6 k7 k8 k9 k10 k11 k12)
    | (go_at_call 20; refine hstor.mono ?_; rintro e wn ⟨rfl, hq⟩; have hq2 := hq.symm; clear hq; subst hq2)
    | (go_at_call 30; refine hgetz.mono ?_; rintro e w9 ⟨rfl, hb9⟩; have dc := box_cell (below_box hb9 HD.out) 3 _ rfl; have HB9 : Hid _ := hb9; clear hb9)
    | (go_at_call 10; refine (awake14 _).mono ?_; rintro e w10 ⟨rfl, hb10⟩))
  go_ret
  exact ⟨rfl, below_next (below_next (HB7.out.alloc HB7.out.size _) (Nat.le_refl _) HB9.out) (Nat.le_refl _) hb10⟩
theorem times_no_c15 (f0 : Nat) (hf0 : f0 < 256) (f1 : Nat) (hf1 : f1 < 256) (f2 : Nat) (hf2 : f2 < 256) (hd : (f1 : Int) ≠ 0) (he : ¬ (f1 : Int) < 10 + (f0 : Int)) (ha : 10 + (f0 : Int) < (f2 : Int)) (w : World) :
    Calls Tryz.prog 7 #[.int .u8 (f0 : Int), .int .u8 (f1 : Int), .int .u8 (f2 : Int), .bool false] w fun e w' => e = .returned (.bool true) ∧ Below w.heap.size w w' := by
  have hnew := anew_yes 500 (by decide) (by decide) w
  have hentA : ∀ W n, W.heap[n]? = some (bxW ⟨#[97]⟩ ⟨#[49]⟩) → Calls Tryz.prog 28 #[.int .i64 3, cmV (csW n) tmA] W fun e w' => e = .returned (enV 3 (bytesC tmA)) ∧ Below W.heap.size W w' := fun W n h => entry_any 3 (csW n) tmA tmA_ok.1 (one_in _ _ _ _ _ _ _ _) tmA_ok.2 W (liesA h)
  have hentC : ∀ W n, W.heap[n]? = some exK → W.heap[n + 1]? = some (bxQ ⟨#[98]⟩ ⟨#[99]⟩) → W.heap[n + 1 + 1]? = some (bxW ⟨#[122]⟩ ⟨#[57]⟩) → Calls Tryz.prog 28 #[.int .i64 (10 + (f0 : Int)), cmV (csC n) (tmC (f1 : Int) (f2 : Int))] W fun e w' => e = .returned (enV (10 + (f0 : Int)) (bytesC (tmC (f1 : Int) (f2 : Int)))) ∧ Below W.heap.size W w' := fun W n h0 h1 h2 => entry_any (10 + (f0 : Int)) (csC n) _ (tmC_ok (by omega) (by omega)).1 (one_in _ _ _ _ _ _ _ _) (tmC_ok (by omega) (by omega)).2 W (liesC' h0 h1 h2)
  have HCO : Hid ((doneV tm1 (10 + (f0 : Int)) (tmC (f1 : Int) (f2 : Int)) 0).code = 15 ∧ lookB (getV (nextM tm1 (10 + (f0 : Int)) (tmC (f1 : Int) (f2 : Int)) 0).st.vs ⟨#[122]⟩ (10 + (f0 : Int))) = decide ((15 : Int) = 0)) := tm_last tm1 (10 + (f0 : Int)) (f1 : Int) (f2 : Int) false (by omega) (tm1_facts).1 (tm1_facts).2.1 (tm1_facts).2.2 15 ((if_neg (fun h => he h.2)).trans (if_pos ha)).symm
  have z1 : ((f1 : Int) != 0) = true := bne_iff_ne.2 hd
  have z2 : decide ((f1 : Int) < 10 + (f0 : Int)) = false := decide_eq_false he
  have z3 : decide (10 + (f0 : Int) < (f2 : Int)) = true := decide_eq_true ha
  clear hd he ha
  go_enter Tryz.func7, Tryz.ntmps7
  go_wp2_with (first
    | (go_at_call 11; refine hnew.mono ?_; rintro e w1 ⟨g, gs, rfl, hM1, hb1⟩
       have HA : Hid ((w1.alloc (bxW ⟨#[97]⟩ ⟨#[49]⟩)).heap[w1.heap.size]? = some (bxW ⟨#[97]⟩ ⟨#[49]⟩)) := heap_new w1 _
       have HM1 : Hid _ := hM1
       clear hM1 hnew)
    | (go_at_call 13; refine (num_any14 _ _).mono ?_; rintro e wn ⟨rfl, hq⟩; have hq2 := hq.symm; clear hq; subst hq2)
    | (go_at_call 28; refine (hentA _ w1.heap.size HA.out).mono ?_; rintro e w2 ⟨rfl, hb2⟩; have HB2 : Hid (Below w1.heap.size w1 w2) := below_box0 hb2; clear hb2 HA hentA)
    | (go_at_call 15; refine (hdoA _ w2 g gs (HM1.out.below HB2.out)).mono ?_; rintro e w3 ⟨⟨v3, rfl⟩, ⟨ao3, cap3, lv3, hM3⟩, hT3⟩
       have HM3 : Hid _ := hM3
       have HB3 : Hid (Below w.heap.size w w3) := (below_next hb1 (Nat.le_refl _) HB2.out).trans hT3.below
       have HBA : Hid (Below w3.heap.size w3 ((((w3.alloc exK).alloc (bxQ ⟨#[98]⟩ ⟨#[99]⟩)).alloc (bxW ⟨#[122]⟩ ⟨#[57]⟩)).alloc (cmCells (csC w3.heap.size) (tmC (f1 : Int) (f2 : Int))))) := ((((Below.refl _ w3).alloc (Nat.le_refl _) _).alloc (by simp) _).alloc (by simp; omega) _).alloc (by simp; omega) _
       have HC0 : Hid (((((w3.alloc exK).alloc (bxQ ⟨#[98]⟩ ⟨#[99]⟩)).alloc (bxW ⟨#[122]⟩ ⟨#[57]⟩)).alloc (cmCells (csC w3.heap.size) (tmC (f1 : Int) (f2 : Int)))).heap[w3.heap.size]? = some exK) := alloc_box _ (alloc_box _ (alloc_box _ (heap_new w3 _)))
       have HC1 : Hid (((((w3.alloc exK).alloc (bxQ ⟨#[98]⟩ ⟨#[99]⟩)).alloc (bxW ⟨#[122]⟩ ⟨#[57]⟩)).alloc (cmCells (csC w3.heap.size) (tmC (f1 : Int) (f2 : Int)))).heap[w3.heap.size + 1]? = some (bxQ ⟨#[98]⟩ ⟨#[99]⟩)) := alloc_box _ (alloc_box _ (heap_newB _ _ _ (by simp)))
       have HC2 : Hid (((((w3.alloc exK).alloc (bxQ ⟨#[98]⟩ ⟨#[99]⟩)).alloc (bxW ⟨#[122]⟩ ⟨#[57]⟩)).alloc (cmCells (csC w3.heap.size) (tmC (f1 : Int) (f2 : Int)))).heap[w3.heap.size + 1 + 1]? = some (bxW ⟨#[122]⟩ ⟨#[57]⟩)) := alloc_box _ (heap_newB _ _ _ (by simp))
       have HC3 : Hid (((((w3.alloc exK).alloc (bxQ ⟨#[98]⟩ ⟨#[99]⟩)).alloc (bxW ⟨#[122]⟩ ⟨#[57]⟩)).alloc (cmCells (csC w3.heap.size) (tmC (f1 : Int) (f2 : Int)))).heap[w3.heap.size + 1 + 1 + 1]? = some (cmCells (csC w3.heap.size) (tmC (f1 : Int) (f2 : Int)))) := heap_newB _ _ _ (by simp)
       have HK0 : Hid _ := HC0.out
       have HK1 : Hid _ := HC1.out
       have HK2 : Hid _ := HC2.out
       obtain ⟨k0, k1, k2, k3, k4, k5, k6, k7, k8, k9, k10, k11, k12⟩ := cm_cells HC3.out
       clear hM3 hT3 HM1)
    | (go_at_call 28; refine (hentC _ w3.heap.size HK0.out HK1.out HK2.out).mono ?_; rintro e w6 ⟨rfl, hb6⟩; have HB6 : Hid _ := hb6; clear hb6)
    | (go_at_call 15; refine (hdoC _ w6 g gs _ _ _ tm1 (10 + (f0 : Int)) (f1 : Int) (f2 : Int) (by omega) (by omega) (Nat.le_of_ble_eq_true rfl) (Nat.le_of_ble_eq_true rfl) 15 HCO.out.1 ((HM3.out.below HBA.out).below HB6.out)).mono ?_; rintro e w7 ⟨rfl, ⟨ao7, cap7, lv7, hM7⟩, hb7⟩
       have hM8 := hM7.below ((Below.refl _ w7).alloc (Nat.le_refl _) (dnBox ⟨0, 0, 10 + (f0 : Int), 15⟩))
       have hstor := astore_any _ _ _ _ _ _ _ _ hM8
       have hgetz := sget_any _ gs _ (10 + (f0 : Int)) ⟨#[122]⟩ (by decide) (Nat.le_trans hM8.few (by decide)) _ hM8.sto
       rw [HCO.out.2] at hgetz
       have HB7 : Hid (Below w.heap.size w w7) := (below_next (below_next HB3.out (Nat.le_refl _) HBA.out) (Nat.le_refl _) HB6.out).trans hb7
       have HD : Hid ((w7.alloc (dnBox ⟨0, 0, 10 + (f0 : Int), 15⟩)).heap[w7.heap.size]? = some (dnBox ⟨0, 0, 10 + (f0 : Int), 15⟩)) := heap_new w7 _
       clear hM7 hM8 hb7 k0 k1 k2 k3 k4 k5 k6 k7 k8 k9 k10 k11 k12)
    | (go_at_call 20; refine hstor.mono ?_; rintro e wn ⟨rfl, hq⟩; have hq2 := hq.symm; clear hq; subst hq2)
    | (go_at_call 30; refine hgetz.mono ?_; rintro e w9 ⟨rfl, hb9⟩; have dc := box_cell (below_box hb9 HD.out) 3 _ rfl; have HB9 : Hid _ := hb9; clear hb9)
    | (go_at_call 10; refine (awake14 _).mono ?_; rintro e w10 ⟨rfl, hb10⟩))
  go_ret
  exact ⟨rfl, below_next (below_next (HB7.out.alloc HB7.out.size _) (Nat.le_refl _) HB9.out) (Nat.le_refl _) hb10⟩
theorem times_no_d0 (f0 : Nat) (hf0 : f0 < 256) (f1 : Nat) (hf1 : f1 < 256) (f2 : Nat) (hf2 : f2 < 256) (hd : (f1 : Int) = 0) (ha : ¬ 10 + (f0 : Int) < (f2 : Int)) (w : World) :
    Calls Tryz.prog 7 #[.int .u8 (f0 : Int), .int .u8 (f1 : Int), .int .u8 (f2 : Int), .bool false] w fun e w' => e = .returned (.bool true) ∧ Below w.heap.size w w' := by
  have hnew := anew_yes 500 (by decide) (by decide) w
  have hentA : ∀ W n, W.heap[n]? = some (bxW ⟨#[97]⟩ ⟨#[49]⟩) → Calls Tryz.prog 28 #[.int .i64 3, cmV (csW n) tmA] W fun e w' => e = .returned (enV 3 (bytesC tmA)) ∧ Below W.heap.size W w' := fun W n h => entry_any 3 (csW n) tmA tmA_ok.1 (one_in _ _ _ _ _ _ _ _) tmA_ok.2 W (liesA h)
  have hentC : ∀ W n, W.heap[n]? = some exK → W.heap[n + 1]? = some (bxQ ⟨#[98]⟩ ⟨#[99]⟩) → W.heap[n + 1 + 1]? = some (bxW ⟨#[122]⟩ ⟨#[57]⟩) → Calls Tryz.prog 28 #[.int .i64 (10 + (f0 : Int)), cmV (csC n) (tmC (f1 : Int) (f2 : Int))] W fun e w' => e = .returned (enV (10 + (f0 : Int)) (bytesC (tmC (f1 : Int) (f2 : Int)))) ∧ Below W.heap.size W w' := fun W n h0 h1 h2 => entry_any (10 + (f0 : Int)) (csC n) _ (tmC_ok (by omega) (by omega)).1 (one_in _ _ _ _ _ _ _ _) (tmC_ok (by omega) (by omega)).2 W (liesC' h0 h1 h2)
  have HCO : Hid ((doneV tm1 (10 + (f0 : Int)) (tmC (f1 : Int) (f2 : Int)) 0).code = 0 ∧ lookB (getV (nextM tm1 (10 + (f0 : Int)) (tmC (f1 : Int) (f2 : Int)) 0).st.vs ⟨#[122]⟩ (10 + (f0 : Int))) = decide ((0 : Int) = 0)) := tm_last tm1 (10 + (f0 : Int)) (f1 : Int) (f2 : Int) false (by omega) (tm1_facts).1 (tm1_facts).2.1 (tm1_facts).2.2 0 ((if_neg (fun h => h.1 hd)).trans (if_neg ha)).symm
  have z1 : ((f1 : Int) != 0) = false := by simp [hd]
  have z3 : decide (10 + (f0 : Int) < (f2 : Int)) = false := decide_eq_false ha
  clear hd ha
  go_enter Tryz.func7, Tryz.ntmps7
  go_wp2_with (first
    | (go_at_call 11; refine hnew.mono ?_; rintro e w1 ⟨g, gs, rfl, hM1, hb1⟩
       have HA : Hid ((w1.alloc (bxW ⟨#[97]⟩ ⟨#[49]⟩)).heap[w1.heap.size]? = some (bxW ⟨#[97]⟩ ⟨#[49]⟩)) := heap_new w1 _
       have HM1 : Hid _ := hM1
       clear hM1 hnew)
    | (go_at_call 13; refine (num_any14 _ _).mono ?_; rintro e wn ⟨rfl, hq⟩; have hq2 := hq.symm; clear hq; subst hq2)
    | (go_at_call 28; refine (hentA _ w1.heap.size HA.out).mono ?_; rintro e w2 ⟨rfl, hb2⟩; have HB2 : Hid (Below w1.heap.size w1 w2) := below_box0 hb2; clear hb2 HA hentA)
    | (go_at_call 15; refine (hdoA _ w2 g gs (HM1.out.below HB2.out)).mono ?_; rintro e w3 ⟨⟨v3, rfl⟩, ⟨ao3, cap3, lv3, hM3⟩, hT3⟩
       have HM3 : Hid _ := hM3
       have HB3 : Hid (Below w.heap.size w w3) := (below_next hb1 (Nat.le_refl _) HB2.out).trans hT3.below
       have HBA : Hid (Below w3.heap.size w3 ((((w3.alloc exK).alloc (bxQ ⟨#[98]⟩ ⟨#[99]⟩)).alloc (bxW ⟨#[122]⟩ ⟨#[57]⟩)).alloc (cmCells (csC w3.heap.size) (tmC (f1 : Int) (f2 : Int))))) := ((((Below.refl _ w3).alloc (Nat.le_refl _) _).alloc (by simp) _).alloc (by simp; omega) _).alloc (by simp; omega) _
       have HC0 : Hid (((((w3.alloc exK).alloc (bxQ ⟨#[98]⟩ ⟨#[99]⟩)).alloc (bxW ⟨#[122]⟩ ⟨#[57]⟩)).alloc (cmCells (csC w3.heap.size) (tmC (f1 : Int) (f2 : Int)))).heap[w3.heap.size]? = some exK) := alloc_box _ (alloc_box _ (alloc_box _ (heap_new w3 _)))
       have HC1 : Hid (((((w3.alloc exK).alloc (bxQ ⟨#[98]⟩ ⟨#[99]⟩)).alloc (bxW ⟨#[122]⟩ ⟨#[57]⟩)).alloc (cmCells (csC w3.heap.size) (tmC (f1 : Int) (f2 : Int)))).heap[w3.heap.size + 1]? = some (bxQ ⟨#[98]⟩ ⟨#[99]⟩)) := alloc_box _ (alloc_box _ (heap_newB _ _ _ (by simp)))
       have HC2 : Hid (((((w3.alloc exK).alloc (bxQ ⟨#[98]⟩ ⟨#[99]⟩)).alloc (bxW ⟨#[122]⟩ ⟨#[57]⟩)).alloc (cmCells (csC w3.heap.size) (tmC (f1 : Int) (f2 : Int)))).heap[w3.heap.size + 1 + 1]? = some (bxW ⟨#[122]⟩ ⟨#[57]⟩)) := alloc_box _ (heap_newB _ _ _ (by simp))
       have HC3 : Hid (((((w3.alloc exK).alloc (bxQ ⟨#[98]⟩ ⟨#[99]⟩)).alloc (bxW ⟨#[122]⟩ ⟨#[57]⟩)).alloc (cmCells (csC w3.heap.size) (tmC (f1 : Int) (f2 : Int)))).heap[w3.heap.size + 1 + 1 + 1]? = some (cmCells (csC w3.heap.size) (tmC (f1 : Int) (f2 : Int)))) := heap_newB _ _ _ (by simp)
       have HK0 : Hid _ := HC0.out
       have HK1 : Hid _ := HC1.out
       have HK2 : Hid _ := HC2.out
       obtain ⟨k0, k1, k2, k3, k4, k5, k6, k7, k8, k9, k10, k11, k12⟩ := cm_cells HC3.out
       clear hM3 hT3 HM1)
    | (go_at_call 28; refine (hentC _ w3.heap.size HK0.out HK1.out HK2.out).mono ?_; rintro e w6 ⟨rfl, hb6⟩; have HB6 : Hid _ := hb6; clear hb6)
    | (go_at_call 15; refine (hdoC _ w6 g gs _ _ _ tm1 (10 + (f0 : Int)) (f1 : Int) (f2 : Int) (by omega) (by omega) (Nat.le_of_ble_eq_true rfl) (Nat.le_of_ble_eq_true rfl) 0 HCO.out.1 ((HM3.out.below HBA.out).below HB6.out)).mono ?_; rintro e w7 ⟨rfl, ⟨ao7, cap7, lv7, hM7⟩, hb7⟩
       have hM8 := hM7.below ((Below.refl _ w7).alloc (Nat.le_refl _) (dnBox ⟨0, 0, 10 + (f0 : Int), 0⟩))
       have hstor := astore_any _ _ _ _ _ _ _ _ hM8
       have hgetz := sget_any _ gs _ (10 + (f0 : Int)) ⟨#[122]⟩ (by decide) (Nat.le_trans hM8.few (by decide)) _ hM8.sto
       rw [HCO.out.2] at hgetz
       have HB7 : Hid (Below w.heap.size w w7) := (below_next (below_next HB3.out (Nat.le_refl _) HBA.out) (Nat.le_refl _) HB6.out).trans hb7
       have HD : Hid ((w7.alloc (dnBox ⟨0, 0, 10 + (f0 : Int), 0⟩)).heap[w7.heap.size]? = some (dnBox ⟨0, 0, 10 + (f0 : Int), 0⟩)) := heap_new w7 _
       clear hM7 hM8 hb7 k0 k1 k2 k3 k4 k5 k6 k7 k8 k9 k10 k11 k12)
    | (go_at_call 20; refine hstor.mono ?_; rintro e wn ⟨rfl, hq⟩; have hq2 := hq.symm; clear hq; subst hq2)
    | (go_at_call 30; refine hgetz.mono ?_; rintro e w9 ⟨rfl, hb9⟩; have dc := box_cell (below_box hb9 HD.out) 3 _ rfl; have HB9 : Hid _ := hb9; clear hb9)
    | (go_at_call 10; refine (awake14 _).mono ?_; rintro e w10 ⟨rfl, hb10⟩))
  go_ret
  exact ⟨rfl, below_next (below_next (HB7.out.alloc HB7.out.size _) (Nat.le_refl _) HB9.out) (Nat.le_refl _) hb10⟩
theorem times_no_e0 (f0 : Nat) (hf0 : f0 < 256) (f1 : Nat) (hf1 : f1 < 256) (f2 : Nat) (hf2 : f2 < 256) (hd : (f1 : Int) ≠ 0) (he : ¬ (f1 : Int) < 10 + (f0 : Int)) (ha : ¬ 10 + (f0 : Int) < (f2 : Int)) (w : World) :
    Calls Tryz.prog 7 #[.int .u8 (f0 : Int), .int .u8 (f1 : Int), .int .u8 (f2 : Int), .bool false] w fun e w' => e = .returned (.bool true) ∧ Below w.heap.size w w' := by
  have hnew := anew_yes 500 (by decide) (by decide) w
  have hentA : ∀ W n, W.heap[n]? = some (bxW ⟨#[97]⟩ ⟨#[49]⟩) → Calls Tryz.prog 28 #[.int .i64 3, cmV (csW n) tmA] W fun e w' => e = .returned (enV 3 (bytesC tmA)) ∧ Below W.heap.size W w' := fun W n h => entry_any 3 (csW n) tmA tmA_ok.1 (one_in _ _ _ _ _ _ _ _) tmA_ok.2 W (liesA h)
  have hentC : ∀ W n, W.heap[n]? = some exK → W.heap[n + 1]? = some (bxQ ⟨#[98]⟩ ⟨#[99]⟩) → W.heap[n + 1 + 1]? = some (bxW ⟨#[122]⟩ ⟨#[57]⟩) → Calls Tryz.prog 28 #[.int .i64 (10 + (f0 : Int)), cmV (csC n) (tmC (f1 : Int) (f2 : Int))] W fun e w' => e = .returned (enV (10 + (f0 : Int)) (bytesC (tmC (f1 : Int) (f2 : Int)))) ∧ Below W.heap.size W w' := fun W n h0 h1 h2 => entry_any (10 + (f0 : Int)) (csC n) _ (tmC_ok (by omega) (by omega)).1 (one_in _ _ _ _ _ _ _ _) (tmC_ok (by omega) (by omega)).2 W (liesC' h0 h1 h2)
  have HCO : Hid ((doneV tm1 (10 + (f0 : Int)) (tmC (f1 : Int) (f2 : Int)) 0).code = 0 ∧ lookB (getV (nextM tm1 (10 + (f0 : Int)) (tmC (f1 : Int) (f2 : Int)) 0).st.vs ⟨#[122]⟩ (10 + (f0 : Int))) = decide ((0 : Int) = 0)) := tm_last tm1 (10 + (f0 : Int)) (f1 : Int) (f2 : Int) false (by omega) (tm1_facts).1 (tm1_facts).2.1 (tm1_facts).2.2 0 ((if_neg (fun h => he h.2)).trans (if_neg ha)).symm
  have z1 : ((f1 : Int) != 0) = true := bne_iff_ne.2 hd
  have z2 : decide ((f1 : Int) < 10 + (f0 : Int)) = false := decide_eq_false he
  have z3 : decide (10 + (f0 : Int) < (f2 : Int)) = false := decide_eq_false ha
  clear hd he ha
  go_enter Tryz.func7, Tryz.ntmps7
  go_wp2_with (first
    | (go_at_call 11; refine hnew.mono ?_; rintro e w1 ⟨g, gs, rfl, hM1, hb1⟩
       have HA : Hid ((w1.alloc (bxW ⟨#[97]⟩ ⟨#[49]⟩)).heap[w1.heap.size]? = some (bxW ⟨#[97]⟩ ⟨#[49]⟩)) := heap_new w1 _
       have HM1 : Hid _ := hM1
       clear hM1 hnew)
    | (go_at_call 13; refine (num_any14 _ _).mono ?_; rintro e wn ⟨rfl, hq⟩; have hq2 := hq.symm; clear hq; subst hq2)
    | (go_at_call 28; refine (hentA _ w1.heap.size HA.out).mono ?_; rintro e w2 ⟨rfl, hb2⟩; have HB2 : Hid (Below w1.heap.size w1 w2) := below_box0 hb2; clear hb2 HA hentA)
    | (go_at_call 15; refine (hdoA _ w2 g gs (HM1.out.below HB2.out)).mono ?_; rintro e w3 ⟨⟨v3, rfl⟩, ⟨ao3, cap3, lv3, hM3⟩, hT3⟩
       have HM3 : Hid _ := hM3
       have HB3 : Hid (Below w.heap.size w w3) := (below_next hb1 (Nat.le_refl _) HB2.out).trans hT3.below
       have HBA : Hid (Below w3.heap.size w3 ((((w3.alloc exK).alloc (bxQ ⟨#[98]⟩ ⟨#[99]⟩)).alloc (bxW ⟨#[122]⟩ ⟨#[57]⟩)).alloc (cmCells (csC w3.heap.size) (tmC (f1 : Int) (f2 : Int))))) := ((((Below.refl _ w3).alloc (Nat.le_refl _) _).alloc (by simp) _).alloc (by simp; omega) _).alloc (by simp; omega) _
       have HC0 : Hid (((((w3.alloc exK).alloc (bxQ ⟨#[98]⟩ ⟨#[99]⟩)).alloc (bxW ⟨#[122]⟩ ⟨#[57]⟩)).alloc (cmCells (csC w3.heap.size) (tmC (f1 : Int) (f2 : Int)))).heap[w3.heap.size]? = some exK) := alloc_box _ (alloc_box _ (alloc_box _ (heap_new w3 _)))
       have HC1 : Hid (((((w3.alloc exK).alloc (bxQ ⟨#[98]⟩ ⟨#[99]⟩)).alloc (bxW ⟨#[122]⟩ ⟨#[57]⟩)).alloc (cmCells (csC w3.heap.size) (tmC (f1 : Int) (f2 : Int)))).heap[w3.heap.size + 1]? = some (bxQ ⟨#[98]⟩ ⟨#[99]⟩)) := alloc_box _ (alloc_box _ (heap_newB _ _ _ (by simp)))
       have HC2 : Hid (((((w3.alloc exK).alloc (bxQ ⟨#[98]⟩ ⟨#[99]⟩)).alloc (bxW ⟨#[122]⟩ ⟨#[57]⟩)).alloc (cmCells (csC w3.heap.size) (tmC (f1 : Int) (f2 : Int)))).heap[w3.heap.size + 1 + 1]? = some (bxW ⟨#[122]⟩ ⟨#[57]⟩)) := alloc_box _ (heap_newB _ _ _ (by simp))
       have HC3 : Hid (((((w3.alloc exK).alloc (bxQ ⟨#[98]⟩ ⟨#[99]⟩)).alloc (bxW ⟨#[122]⟩ ⟨#[57]⟩)).alloc (cmCells (csC w3.heap.size) (tmC (f1 : Int) (f2 : Int)))).heap[w3.heap.size + 1 + 1 + 1]? = some (cmCells (csC w3.heap.size) (tmC (f1 : Int) (f2 : Int)))) := heap_newB _ _ _ (by simp)
       have HK0 : Hid _ := HC0.out
       have HK1 : Hid _ := HC1.out
       have HK2 : Hid _ := HC2.out
       obtain ⟨k0, k1, k2, k3, k4, k5, k6, k7, k8, k9, k10, k11, k12⟩ := cm_cells HC3.out
       clear hM3 hT3 HM1)
    | (go_at_call 28; refine (hentC _ w3.heap.size HK0.out HK1.out HK2.out).mono ?_; rintro e w6 ⟨rfl, hb6⟩; have HB6 : Hid _ := hb6; clear hb6)
    | (go_at_call 15; refine (hdoC _ w6 g gs _ _ _ tm1 (10 + (f0 : Int)) (f1 : Int) (f2 : Int) (by omega) (by omega) (Nat.le_of_ble_eq_true rfl) (Nat.le_of_ble_eq_true rfl) 0 HCO.out.1 ((HM3.out.below HBA.out).below HB6.out)).mono ?_; rintro e w7 ⟨rfl, ⟨ao7, cap7, lv7, hM7⟩, hb7⟩
       have hM8 := hM7.below ((Below.refl _ w7).alloc (Nat.le_refl _) (dnBox ⟨0, 0, 10 + (f0 : Int), 0⟩))
       have hstor := astore_any _ _ _ _ _ _ _ _ hM8
       have hgetz := sget_any _ gs _ (10 + (f0 : Int)) ⟨#[122]⟩ (by decide) (Nat.le_trans hM8.few (by decide)) _ hM8.sto
       rw [HCO.out.2] at hgetz
       have HB7 : Hid (Below w.heap.size w w7) := (below_next (below_next HB3.out (Nat.le_refl _) HBA.out) (Nat.le_refl _) HB6.out).trans hb7
       have HD : Hid ((w7.alloc (dnBox ⟨0, 0, 10 + (f0 : Int), 0⟩)).heap[w7.heap.size]? = some (dnBox ⟨0, 0, 10 + (f0 : Int), 0⟩)) := heap_new w7 _
       clear hM7 hM8 hb7 k0 k1 k2 k3 k4 k5 k6 k7 k8 k9 k10 k11 k12)
    | (go_at_call 20; refine hstor.mono ?_; rintro e wn ⟨rfl, hq⟩; have hq2 := hq.symm; clear hq; subst hq2)
    | (go_at_call 30; refine hgetz.mono ?_; rintro e w9 ⟨rfl, hb9⟩; have dc := box_cell (below_box hb9 HD.out) 3 _ rfl; have HB9 : Hid _ := hb9; clear hb9)
    | (go_at_call 10; refine (awake14 _).mono ?_; rintro e w10 ⟨rfl, hb10⟩))
  go_ret
  exact ⟨rfl, below_next (below_next (HB7.out.alloc HB7.out.size _) (Nat.le_refl _) HB9.out) (Nat.le_refl _) hb10⟩
theorem times_yes_a14 (f0 : Nat) (hf0 : f0 < 256) (f1 : Nat) (hf1 : f1 < 256) (f2 : Nat) (hf2 : f2 < 256) (p : Nat) (hp : f0 % 3 = p) (hp3 : p < 3) (k : ByteArray) (hix : [Value.string ⟨#[97]⟩, .string ⟨#[98]⟩, .string ⟨#[98, 98]⟩][p]'hp3 = .string k) (hk : k = ⟨#[97]⟩ ∨ k = ⟨#[98]⟩ ∨ k = ⟨#[98, 98]⟩) (hks : k.size ≤ 10) (hd : (f1 : Int) ≠ 0 ∧ (f1 : Int) < 10 + (f0 : Int)) (w : World) :
    Calls Tryz.prog 7 #[.int .u8 (f0 : Int), .int .u8 (f1 : Int), .int .u8 (f2 : Int), .bool true] w fun e w' => e = .returned (.bool true) ∧ Below w.heap.size w w' := by
  have hnew := anew_yes 500 (by decide) (by decide) w
  have hentA : ∀ W n, W.heap[n]? = some (bxW ⟨#[97]⟩ ⟨#[49]⟩) → Calls Tryz.prog 28 #[.int .i64 3, cmV (csW n) tmA] W fun e w' => e = .returned (enV 3 (bytesC tmA)) ∧ Below W.heap.size W w' := fun W n h => entry_any 3 (csW n) tmA tmA_ok.1 (one_in _ _ _ _ _ _ _ _) tmA_ok.2 W (liesA h)
  have hentC : ∀ W n, W.heap[n]? = some exK → W.heap[n + 1]? = some (bxQ ⟨#[98]⟩ ⟨#[99]⟩) → W.heap[n + 1 + 1]? = some (bxW ⟨#[122]⟩ ⟨#[57]⟩) → Calls Tryz.prog 28 #[.int .i64 (10 + (f0 : Int)), cmV (csC n) (tmC (f1 : Int) (f2 : Int))] W fun e w' => e = .returned (enV (10 + (f0 : Int)) (bytesC (tmC (f1 : Int) (f2 : Int)))) ∧ Below W.heap.size W w' := fun W n h0 h1 h2 => entry_any (10 + (f0 : Int)) (csC n) _ (tmC_ok (by omega) (by omega)).1 (one_in _ _ _ _ _ _ _ _) (tmC_ok (by omega) (by omega)).2 W (liesC' h0 h1 h2)
  have hentB : ∀ W n, W.heap[n]? = some (bxW k ⟨#[50]⟩) → Calls Tryz.prog 28 #[.int .i64 5, cmV (csW n) (tmB k)] W fun e w' => e = .returned (enV 5 (bytesC (tmB k))) ∧ Below W.heap.size W w' := fun W n h => entry_any 5 (csW n) (tmB k) (tmB_ok hks).1 (one_in _ _ _ _ _ _ _ _) (tmB_ok hks).2 W (liesB h)
  have HCO : Hid ((doneV (tm2 k) (10 + (f0 : Int)) (tmC (f1 : Int) (f2 : Int)) 0).code = 14 ∧ lookB (getV (nextM (tm2 k) (10 + (f0 : Int)) (tmC (f1 : Int) (f2 : Int)) 0).st.vs ⟨#[122]⟩ (10 + (f0 : Int))) = decide ((14 : Int) = 0)) := tm_last (tm2 k) (10 + (f0 : Int)) (f1 : Int) (f2 : Int) true (by omega) ((tm2_facts k hk)).1 ((tm2_facts k hk)).2.1 ((tm2_facts k hk)).2.2 14 (if_pos hd).symm
  have z1 : ((f1 : Int) != 0) = true := bne_iff_ne.2 hd.1
  have z2 : decide ((f1 : Int) < 10 + (f0 : Int)) = true := decide_eq_true hd.2
  have hpi : (f0 : Int) % 3 = (p : Int) := by omega
  clear hd hk hp
  go_enter Tryz.func7, Tryz.ntmps7
  go_wp2_with (first
    | (go_at_call 11; refine hnew.mono ?_; rintro e w1 ⟨g, gs, rfl, hM1, hb1⟩
       have HA : Hid ((w1.alloc (bxW ⟨#[97]⟩ ⟨#[49]⟩)).heap[w1.heap.size]? = some (bxW ⟨#[97]⟩ ⟨#[49]⟩)) := heap_new w1 _
       have HM1 : Hid _ := hM1
       clear hM1 hnew)
    | (go_at_call 13; refine (num_any14 _ _).mono ?_; rintro e wn ⟨rfl, hq⟩; have hq2 := hq.symm; clear hq; subst hq2)
    | (go_at_call 28; refine (hentA _ w1.heap.size HA.out).mono ?_; rintro e w2 ⟨rfl, hb2⟩; have HB2 : Hid (Below w1.heap.size w1 w2) := below_box0 hb2; clear hb2 HA hentA)
    | (go_at_call 15; refine (hdoA _ w2 g gs (HM1.out.below HB2.out)).mono ?_; rintro e w3 ⟨⟨v3, rfl⟩, ⟨ao3, cap3, lv3, hM3⟩, hT3⟩
       have HM3 : Hid _ := hM3
       have HB3 : Hid (Below w.heap.size w w3) := (below_next hb1 (Nat.le_refl _) HB2.out).trans hT3.below
       have HBA : Hid (Below w3.heap.size w3 ((((w3.alloc exK).alloc (bxQ ⟨#[98]⟩ ⟨#[99]⟩)).alloc (bxW ⟨#[122]⟩ ⟨#[57]⟩)).alloc (cmCells (csC w3.heap.size) (tmC (f1 : Int) (f2 : Int))))) := ((((Below.refl _ w3).alloc (Nat.le_refl _) _).alloc (by simp) _).alloc (by simp; omega) _).alloc (by simp; omega) _
       have HC0 : Hid (((((w3.alloc exK).alloc (bxQ ⟨#[98]⟩ ⟨#[99]⟩)).alloc (bxW ⟨#[122]⟩ ⟨#[57]⟩)).alloc (cmCells (csC w3.heap.size) (tmC (f1 : Int) (f2 : Int)))).heap[w3.heap.size]? = some exK) := alloc_box _ (alloc_box _ (alloc_box _ (heap_new w3 _)))
       have HC1 : Hid (((((w3.alloc exK).alloc (bxQ ⟨#[98]⟩ ⟨#[99]⟩)).alloc (bxW ⟨#[122]⟩ ⟨#[57]⟩)).alloc (cmCells (csC w3.heap.size) (tmC (f1 : Int) (f2 : Int)))).heap[w3.heap.size + 1]? = some (bxQ ⟨#[98]⟩ ⟨#[99]⟩)) := alloc_box _ (alloc_box _ (heap_newB _ _ _ (by simp)))
       have HC2 : Hid (((((w3.alloc exK).alloc (bxQ ⟨#[98]⟩ ⟨#[99]⟩)).alloc (bxW ⟨#[122]⟩ ⟨#[57]⟩)).alloc (cmCells (csC w3.heap.size) (tmC (f1 : Int) (f2 : Int)))).heap[w3.heap.size + 1 + 1]? = some (bxW ⟨#[122]⟩ ⟨#[57]⟩)) := alloc_box _ (heap_newB _ _ _ (by simp))
       have HC3 : Hid (((((w3.alloc exK).alloc (bxQ ⟨#[98]⟩ ⟨#[99]⟩)).alloc (bxW ⟨#[122]⟩ ⟨#[57]⟩)).alloc (cmCells (csC w3.heap.size) (tmC (f1 : Int) (f2 : Int)))).heap[w3.heap.size + 1 + 1 + 1]? = some (cmCells (csC w3.heap.size) (tmC (f1 : Int) (f2 : Int)))) := heap_newB _ _ _ (by simp)
       have HE : Hid (((((((w3.alloc exK).alloc (bxQ ⟨#[98]⟩ ⟨#[99]⟩)).alloc (bxW ⟨#[122]⟩ ⟨#[57]⟩)).alloc (cmCells (csC w3.heap.size) (tmC (f1 : Int) (f2 : Int)))).alloc (.cells #[.string ⟨#[97]⟩, .string ⟨#[98]⟩, .string ⟨#[98, 98]⟩] 9)).alloc (bxW k ⟨#[50]⟩)).heap[w3.heap.size + 1 + 1 + 1 + 1 + 1]? = some (bxW k ⟨#[50]⟩)) := heap_newB _ _ _ (by simp)
       have HB6 : Hid (Below w3.heap.size w3 ((((((w3.alloc exK).alloc (bxQ ⟨#[98]⟩ ⟨#[99]⟩)).alloc (bxW ⟨#[122]⟩ ⟨#[57]⟩)).alloc (cmCells (csC w3.heap.size) (tmC (f1 : Int) (f2 : Int)))).alloc (.cells #[.string ⟨#[97]⟩, .string ⟨#[98]⟩, .string ⟨#[98, 98]⟩] 9)).alloc (bxW k ⟨#[50]⟩))) := (HBA.out.alloc HBA.out.size _).alloc (by simp; omega) _
       have HL0 : Hid (((((((w3.alloc exK).alloc (bxQ ⟨#[98]⟩ ⟨#[99]⟩)).alloc (bxW ⟨#[122]⟩ ⟨#[57]⟩)).alloc (cmCells (csC w3.heap.size) (tmC (f1 : Int) (f2 : Int)))).alloc (.cells #[.string ⟨#[97]⟩, .string ⟨#[98]⟩, .string ⟨#[98, 98]⟩] 9)).alloc (bxW k ⟨#[50]⟩)).heap[w3.heap.size]? = some exK) := alloc_box _ (alloc_box _ HC0.out)
       have HL1 : Hid (((((((w3.alloc exK).alloc (bxQ ⟨#[98]⟩ ⟨#[99]⟩)).alloc (bxW ⟨#[122]⟩ ⟨#[57]⟩)).alloc (cmCells (csC w3.heap.size) (tmC (f1 : Int) (f2 : Int)))).alloc (.cells #[.string ⟨#[97]⟩, .string ⟨#[98]⟩, .string ⟨#[98, 98]⟩] 9)).alloc (bxW k ⟨#[50]⟩)).heap[w3.heap.size + 1]? = some (bxQ ⟨#[98]⟩ ⟨#[99]⟩)) := alloc_box _ (alloc_box _ HC1.out)
       have HL2 : Hid (((((((w3.alloc exK).alloc (bxQ ⟨#[98]⟩ ⟨#[99]⟩)).alloc (bxW ⟨#[122]⟩ ⟨#[57]⟩)).alloc (cmCells (csC w3.heap.size) (tmC (f1 : Int) (f2 : Int)))).alloc (.cells #[.string ⟨#[97]⟩, .string ⟨#[98]⟩, .string ⟨#[98, 98]⟩] 9)).alloc (bxW k ⟨#[50]⟩)).heap[w3.heap.size + 1 + 1]? = some (bxW ⟨#[122]⟩ ⟨#[57]⟩)) := alloc_box _ (alloc_box _ HC2.out)
       have HL3 : Hid (((((((w3.alloc exK).alloc (bxQ ⟨#[98]⟩ ⟨#[99]⟩)).alloc (bxW ⟨#[122]⟩ ⟨#[57]⟩)).alloc (cmCells (csC w3.heap.size) (tmC (f1 : Int) (f2 : Int)))).alloc (.cells #[.string ⟨#[97]⟩, .string ⟨#[98]⟩, .string ⟨#[98, 98]⟩] 9)).alloc (bxW k ⟨#[50]⟩)).heap[w3.heap.size + 1 + 1 + 1]? = some (cmCells (csC w3.heap.size) (tmC (f1 : Int) (f2 : Int)))) := alloc_box _ (alloc_box _ HC3.out)
       clear hM3 hT3 HM1)
    | (go_at_call 28; refine (hentB _ _ HE.out).mono ?_; rintro e w4 ⟨rfl, hb4⟩; have HB4 : Hid _ := hb4; clear hb4 HE hentB)
    | (go_at_call 15; refine (hdoB _ w4 g gs _ _ _ k hks ((HM3.out.below HB6.out).below HB4.out)).mono ?_; rintro e w5 ⟨⟨v5, rfl⟩, ⟨ao5, cap5, lv5, hM5⟩, hT5⟩
       have HM5 : Hid _ := hM5
       have HB5 : Hid (Below w.heap.size w w5) := (below_next (below_next HB3.out (Nat.le_refl _) HB6.out) (Nat.le_refl _) HB4.out).trans hT5.below
       have HK0 : Hid _ := hT5.keep _ _ (below_box HB4.out HL0.out) ⟨by decide, by decide, by decide, by decide⟩
       have HK1 : Hid _ := hT5.keep _ _ (below_box HB4.out HL1.out) ⟨by decide, by decide, by decide, by decide⟩
       have HK2 : Hid _ := hT5.keep _ _ (below_box HB4.out HL2.out) ⟨by decide, by decide, by decide, by decide⟩
       have hk3 := hT5.keep _ _ (below_box HB4.out HL3.out) ⟨by decide, by decide, by decide, by decide⟩
       obtain ⟨k0, k1, k2, k3, k4, k5, k6, k7, k8, k9, k10, k11, k12⟩ := cm_cells hk3
       clear hM5 hT5 hk3 HM3 HB6)
    | (go_at_call 28; refine (hentC _ w3.heap.size HK0.out HK1.out HK2.out).mono ?_; rintro e w6 ⟨rfl, hb6⟩; have HB6 : Hid _ := hb6; clear hb6)
    | (go_at_call 15; refine (hdoC _ w6 g gs _ _ _ (tm2 k) (10 + (f0 : Int)) (f1 : Int) (f2 : Int) (by omega) (by omega) (Nat.le_of_ble_eq_true rfl) (Nat.le_of_ble_eq_true rfl) 14 HCO.out.1 (HM5.out.below HB6.out)).mono ?_; rintro e w7 ⟨rfl, ⟨ao7, cap7, lv7, hM7⟩, hb7⟩
       have hM8 := hM7.below ((Below.refl _ w7).alloc (Nat.le_refl _) (dnBox ⟨0, 0, 10 + (f0 : Int), 14⟩))
       have hstor := astore_any _ _ _ _ _ _ _ _ hM8
       have hgetz := sget_any _ gs _ (10 + (f0 : Int)) ⟨#[122]⟩ (by decide) (Nat.le_trans hM8.few (by decide)) _ hM8.sto
       rw [HCO.out.2] at hgetz
       have HB7 : Hid (Below w.heap.size w w7) := (below_next (HB5.out) (Nat.le_refl _) HB6.out).trans hb7
       have HD : Hid ((w7.alloc (dnBox ⟨0, 0, 10 + (f0 : Int), 14⟩)).heap[w7.heap.size]? = some (dnBox ⟨0, 0, 10 + (f0 : Int), 14⟩)) := heap_new w7 _
       clear hM7 hM8 hb7 k0 k1 k2 k3 k4 k5 k6 k7 k8 k9 k10 k11 k12)
    | (go_at_call 20; refine hstor.mono ?_; rintro e wn ⟨rfl, hq⟩; have hq2 := hq.symm; clear hq; subst hq2)
    | (go_at_call 30; refine hgetz.mono ?_; rintro e w9 ⟨rfl, hb9⟩; have dc := box_cell (below_box hb9 HD.out) 3 _ rfl; have HB9 : Hid _ := hb9; clear hb9)
    | (go_at_call 10; refine (awake14 _).mono ?_; rintro e w10 ⟨rfl, hb10⟩))
  go_ret
  exact ⟨rfl, below_next (below_next (HB7.out.alloc HB7.out.size _) (Nat.le_refl _) HB9.out) (Nat.le_refl _) hb10⟩
theorem times_yes_b15 (f0 : Nat) (hf0 : f0 < 256) (f1 : Nat) (hf1 : f1 < 256) (f2 : Nat) (hf2 : f2 < 256) (p : Nat) (hp : f0 % 3 = p) (hp3 : p < 3) (k : ByteArray) (hix : [Value.string ⟨#[97]⟩, .string ⟨#[98]⟩, .string ⟨#[98, 98]⟩][p]'hp3 = .string k) (hk : k = ⟨#[97]⟩ ∨ k = ⟨#[98]⟩ ∨ k = ⟨#[98, 98]⟩) (hks : k.size ≤ 10) (hd : (f1 : Int) = 0) (ha : 10 + (f0 : Int) < (f2 : Int)) (w : World) :
    Calls Tryz.prog 7 #[.int .u8 (f0 : Int), .int .u8 (f1 : Int), .int .u8 (f2 : Int), .bool true] w fun e w' => e = .returned (.bool true) ∧ Below w.heap.size w w' := by
  have hnew := anew_yes 500 (by decide) (by decide) w
  have hentA : ∀ W n, W.heap[n]? = some (bxW ⟨#[97]⟩ ⟨#[49]⟩) → Calls Tryz.prog 28 #[.int .i64 3, cmV (csW n) tmA] W fun e w' => e = .returned (enV 3 (bytesC tmA)) ∧ Below W.heap.size W w' := fun W n h => entry_any 3 (csW n) tmA tmA_ok.1 (one_in _ _ _ _ _ _ _ _) tmA_ok.2 W (liesA h)
  have hentC : ∀ W n, W.heap[n]? = some exK → W.heap[n + 1]? = some (bxQ ⟨#[98]⟩ ⟨#[99]⟩) → W.heap[n + 1 + 1]? = some (bxW ⟨#[122]⟩ ⟨#[57]⟩) → Calls Tryz.prog 28 #[.int .i64 (10 + (f0 : Int)), cmV (csC n) (tmC (f1 : Int) (f2 : Int))] W fun e w' => e = .returned (enV (10 + (f0 : Int)) (bytesC (tmC (f1 : Int) (f2 : Int)))) ∧ Below W.heap.size W w' := fun W n h0 h1 h2 => entry_any (10 + (f0 : Int)) (csC n) _ (tmC_ok (by omega) (by omega)).1 (one_in _ _ _ _ _ _ _ _) (tmC_ok (by omega) (by omega)).2 W (liesC' h0 h1 h2)
  have hentB : ∀ W n, W.heap[n]? = some (bxW k ⟨#[50]⟩) → Calls Tryz.prog 28 #[.int .i64 5, cmV (csW n) (tmB k)] W fun e w' => e = .returned (enV 5 (bytesC (tmB k))) ∧ Below W.heap.size W w' := fun W n h => entry_any 5 (csW n) (tmB k) (tmB_ok hks).1 (one_in _ _ _ _ _ _ _ _) (tmB_ok hks).2 W (liesB h)
  have HCO : Hid ((doneV (tm2 k) (10 + (f0 : Int)) (tmC (f1 : Int) (f2 : Int)) 0).code = 15 ∧ lookB (getV (nextM (tm2 k) (10 + (f0 : Int)) (tmC (f1 : Int) (f2 : Int)) 0).st.vs ⟨#[122]⟩ (10 + (f0 : Int))) = decide ((15 : Int) = 0)) := tm_last (tm2 k) (10 + (f0 : Int)) (f1 : Int) (f2 : Int) true (by omega) ((tm2_facts k hk)).1 ((tm2_facts k hk)).2.1 ((tm2_facts k hk)).2.2 15 ((if_neg (fun h => h.1 hd)).trans (if_pos ha)).symm
  have z1 : ((f1 : Int) != 0) = false := by simp [hd]
  have z3 : decide (10 + (f0 : Int) < (f2 : Int)) = true := decide_eq_true ha
  have hpi : (f0 : Int) % 3 = (p : Int) := by omega
  clear hd hk hp ha
  go_enter Tryz.func7, Tryz.ntmps7
  go_wp2_with (first
    | (go_at_call 11; refine hnew.mono ?_; rintro e w1 ⟨g, gs, rfl, hM1, hb1⟩
       have HA : Hid ((w1.alloc (bxW ⟨#[97]⟩ ⟨#[49]⟩)).heap[w1.heap.size]? = some (bxW ⟨#[97]⟩ ⟨#[49]⟩)) := heap_new w1 _
       have HM1 : Hid _ := hM1
       clear hM1 hnew)
    | (go_at_call 13; refine (num_any14 _ _).mono ?_; rintro e wn ⟨rfl, hq⟩; have hq2 := hq.symm; clear hq; subst hq2)
    | (go_at_call 28; refine (hentA _ w1.heap.size HA.out).mono ?_; rintro e w2 ⟨rfl, hb2⟩; have HB2 : Hid (Below w1.heap.size w1 w2) := below_box0 hb2; clear hb2 HA hentA)
    | (go_at_call 15; refine (hdoA _ w2 g gs (HM1.out.below HB2.out)).mono ?_; rintro e w3 ⟨⟨v3, rfl⟩, ⟨ao3, cap3, lv3, hM3⟩, hT3⟩
       have HM3 : Hid _ := hM3
       have HB3 : Hid (Below w.heap.size w w3) := (below_next hb1 (Nat.le_refl _) HB2.out).trans hT3.below
       have HBA : Hid (Below w3.heap.size w3 ((((w3.alloc exK).alloc (bxQ ⟨#[98]⟩ ⟨#[99]⟩)).alloc (bxW ⟨#[122]⟩ ⟨#[57]⟩)).alloc (cmCells (csC w3.heap.size) (tmC (f1 : Int) (f2 : Int))))) := ((((Below.refl _ w3).alloc (Nat.le_refl _) _).alloc (by simp) _).alloc (by simp; omega) _).alloc (by simp; omega) _
       have HC0 : Hid (((((w3.alloc exK).alloc (bxQ ⟨#[98]⟩ ⟨#[99]⟩)).alloc (bxW ⟨#[122]⟩ ⟨#[57]⟩)).alloc (cmCells (csC w3.heap.size) (tmC (f1 : Int) (f2 : Int)))).heap[w3.heap.size]? = some exK) := alloc_box _ (alloc_box _ (alloc_box _ (heap_new w3 _)))
       have HC1 : Hid (((((w3.alloc exK).alloc (bxQ ⟨#[98]⟩ ⟨#[99]⟩)).alloc (bxW ⟨#[122]⟩ ⟨#[57]⟩)).alloc (cmCells (csC w3.heap.size) (tmC (f1 : Int) (f2 : Int)))).heap[w3.heap.size + 1]? = some (bxQ ⟨#[98]⟩ ⟨#[99]⟩)) := alloc_box _ (alloc_box _ (heap_newB _ _ _ (by simp)))
       have HC2 : Hid (((((w3.alloc exK).alloc (bxQ ⟨#[98]⟩ ⟨#[99]⟩)).alloc (bxW ⟨#[122]⟩ ⟨#[57]⟩)).alloc (cmCells (csC w3.heap.size) (tmC (f1 : Int) (f2 : Int)))).heap[w3.heap.size + 1 + 1]? = some (bxW ⟨#[122]⟩ ⟨#[57]⟩)) := alloc_box _ (heap_newB _ _ _ (by simp))
       have HC3 : Hid (((((w3.alloc exK).alloc (bxQ ⟨#[98]⟩ ⟨#[99]⟩)).alloc (bxW ⟨#[122]⟩ ⟨#[57]⟩)).alloc (cmCells (csC w3.heap.size) (tmC (f1 : Int) (f2 : Int)))).heap[w3.heap.size + 1 + 1 + 1]? = some (cmCells (csC w3.heap.size) (tmC (f1 : Int) (f2 : Int)))) := heap_newB _ _ _ (by simp)
       have HE : Hid (((((((w3.alloc exK).alloc (bxQ ⟨#[98]⟩ ⟨#[99]⟩)).alloc (bxW ⟨#[122]⟩ ⟨#[57]⟩)).alloc (cmCells (csC w3.heap.size) (tmC (f1 : Int) (f2 : Int)))).alloc (.cells #[.string ⟨#[97]⟩, .string ⟨#[98]⟩, .string ⟨#[98, 98]⟩] 9)).alloc (bxW k ⟨#[50]⟩)).heap[w3.heap.size + 1 + 1 + 1 + 1 + 1]? = some (bxW k ⟨#[50]⟩)) := heap_newB _ _ _ (by simp)
       have HB6 : Hid (Below w3.heap.size w3 ((((((w3.alloc exK).alloc (bxQ ⟨#[98]⟩ ⟨#[99]⟩)).alloc (bxW ⟨#[122]⟩ ⟨#[57]⟩)).alloc (cmCells (csC w3.heap.size) (tmC (f1 : Int) (f2 : Int)))).alloc (.cells #[.string ⟨#[97]⟩, .string ⟨#[98]⟩, .string ⟨#[98, 98]⟩] 9)).alloc (bxW k ⟨#[50]⟩))) := (HBA.out.alloc HBA.out.size _).alloc (by simp; omega) _
       have HL0 : Hid (((((((w3.alloc exK).alloc (bxQ ⟨#[98]⟩ ⟨#[99]⟩)).alloc (bxW ⟨#[122]⟩ ⟨#[57]⟩)).alloc (cmCells (csC w3.heap.size) (tmC (f1 : Int) (f2 : Int)))).alloc (.cells #[.string ⟨#[97]⟩, .string ⟨#[98]⟩, .string ⟨#[98, 98]⟩] 9)).alloc (bxW k ⟨#[50]⟩)).heap[w3.heap.size]? = some exK) := alloc_box _ (alloc_box _ HC0.out)
       have HL1 : Hid (((((((w3.alloc exK).alloc (bxQ ⟨#[98]⟩ ⟨#[99]⟩)).alloc (bxW ⟨#[122]⟩ ⟨#[57]⟩)).alloc (cmCells (csC w3.heap.size) (tmC (f1 : Int) (f2 : Int)))).alloc (.cells #[.string ⟨#[97]⟩, .string ⟨#[98]⟩, .string ⟨#[98, 98]⟩] 9)).alloc (bxW k ⟨#[50]⟩)).heap[w3.heap.size + 1]? = some (bxQ ⟨#[98]⟩ ⟨#[99]⟩)) := alloc_box _ (alloc_box _ HC1.out)
       have HL2 : Hid (((((((w3.alloc exK).alloc (bxQ ⟨#[98]⟩ ⟨#[99]⟩)).alloc (bxW ⟨#[122]⟩ ⟨#[57]⟩)).alloc (cmCells (csC w3.heap.size) (tmC (f1 : Int) (f2 : Int)))).alloc (.cells #[.string ⟨#[97]⟩, .string ⟨#[98]⟩, .string ⟨#[98, 98]⟩] 9)).alloc (bxW k ⟨#[50]⟩)).heap[w3.heap.size + 1 + 1]? = some (bxW ⟨#[122]⟩ ⟨#[57]⟩)) := alloc_box _ (alloc_box _ HC2.out)
       have HL3 : Hid (((((((w3.alloc exK).alloc (bxQ ⟨#[98]⟩ ⟨#[99]⟩)).alloc (bxW ⟨#[122]⟩ ⟨#[57]⟩)).alloc (cmCells (csC w3.heap.size) (tmC (f1 : Int) (f2 : Int)))).alloc (.cells #[.string ⟨#[97]⟩, .string ⟨#[98]⟩, .string ⟨#[98, 98]⟩] 9)).alloc (bxW k ⟨#[50]⟩)).heap[w3.heap.size + 1 + 1 + 1]? = some (cmCells (csC w3.heap.size) (tmC (f1 : Int) (f2 : Int)))) := alloc_box _ (alloc_box _ HC3.out)
       clear hM3 hT3 HM1)
    | (go_at_call 28; refine (hentB _ _ HE.out).mono ?_; rintro e w4 ⟨rfl, hb4⟩; have HB4 : Hid _ := hb4; clear hb4 HE hentB)
    | (go_at_call 15; refine (hdoB _ w4 g gs _ _ _ k hks ((HM3.out.below HB6.out).below HB4.out)).mono ?_; rintro e w5 ⟨⟨v5, rfl⟩, ⟨ao5, cap5, lv5, hM5⟩, hT5⟩
       have HM5 : Hid _ := hM5
       have HB5 : Hid (Below w.heap.size w w5) := (below_next (below_next HB3.out (Nat.le_refl _) HB6.out) (Nat.le_refl _) HB4.out).trans hT5.below
       have HK0 : Hid _ := hT5.keep _ _ (below_box HB4.out HL0.out) ⟨by decide, by decide, by decide, by decide⟩
       have HK1 : Hid _ := hT5.keep _ _ (below_box HB4.out HL1.out) ⟨by decide, by decide, by decide, by decide⟩
       have HK2 : Hid _ := hT5.keep _ _ (below_box HB4.out HL2.out) ⟨by decide, by decide, by decide, by decide⟩
       have hk3 := hT5.keep _ _ (below_box HB4.out HL3.out) ⟨by decide, by decide, by decide, by decide⟩
       obtain ⟨k0, k1, k2, k3, k4, k5, k6, k7, k8, k9, k10, k11, k12⟩ := cm_cells hk3
       clear hM5 hT5 hk3 HM3 HB6)
    | (go_at_call 28; refine (hentC _ w3.heap.size HK0.out HK1.out HK2.out).mono ?_; rintro e w6 ⟨rfl, hb6⟩; have HB6 : Hid _ := hb6; clear hb6)
    | (go_at_call 15; refine (hdoC _ w6 g gs _ _ _ (tm2 k) (10 + (f0 : Int)) (f1 : Int) (f2 : Int) (by omega) (by omega) (Nat.le_of_ble_eq_true rfl) (Nat.le_of_ble_eq_true rfl) 15 HCO.out.1 (HM5.out.below HB6.out)).mono ?_; rintro e w7 ⟨rfl, ⟨ao7, cap7, lv7, hM7⟩, hb7⟩
       have hM8 := hM7.below ((Below.refl _ w7).alloc (Nat.le_refl _) (dnBox ⟨0, 0, 10 + (f0 : Int), 15⟩))
       have hstor := astore_any _ _ _ _ _ _ _ _ hM8
       have hgetz := sget_any _ gs _ (10 + (f0 : Int)) ⟨#[122]⟩ (by decide) (Nat.le_trans hM8.few (by decide)) _ hM8.sto
       rw [HCO.out.2] at hgetz
       have HB7 : Hid (Below w.heap.size w w7) := (below_next (HB5.out) (Nat.le_refl _) HB6.out).trans hb7
       have HD : Hid ((w7.alloc (dnBox ⟨0, 0, 10 + (f0 : Int), 15⟩)).heap[w7.heap.size]? = some (dnBox ⟨0, 0, 10 + (f0 : Int), 15⟩)) := heap_new w7 _
       clear hM7 hM8 hb7 k0 k1 k2 k3 k4 k5 k6 k7 k8 k9 k10 k11 k12)
    | (go_at_call 20; refine hstor.mono ?_; rintro e wn ⟨rfl, hq⟩; have hq2 := hq.symm; clear hq; subst hq2)
    | (go_at_call 30; refine hgetz.mono ?_; rintro e w9 ⟨rfl, hb9⟩; have dc := box_cell (below_box hb9 HD.out) 3 _ rfl; have HB9 : Hid _ := hb9; clear hb9)
    | (go_at_call 10; refine (awake14 _).mono ?_; rintro e w10 ⟨rfl, hb10⟩))
  go_ret
  exact ⟨rfl, below_next (below_next (HB7.out.alloc HB7.out.size _) (Nat.le_refl _) HB9.out) (Nat.le_refl _) hb10⟩
theorem times_yes_c15 (f0 : Nat) (hf0 : f0 < 256) (f1 : Nat) (hf1 : f1 < 256) (f2 : Nat) (hf2 : f2 < 256) (p : Nat) (hp : f0 % 3 = p) (hp3 : p < 3) (k : ByteArray) (hix : [Value.string ⟨#[97]⟩, .string ⟨#[98]⟩, .string ⟨#[98, 98]⟩][p]'hp3 = .string k) (hk : k = ⟨#[97]⟩ ∨ k = ⟨#[98]⟩ ∨ k = ⟨#[98, 98]⟩) (hks : k.size ≤ 10) (hd : (f1 : Int) ≠ 0) (he : ¬ (f1 : Int) < 10 + (f0 : Int)) (ha : 10 + (f0 : Int) < (f2 : Int)) (w : World) :
    Calls Tryz.prog 7 #[.int .u8 (f0 : Int), .int .u8 (f1 : Int), .int .u8 (f2 : Int), .bool true] w fun e w' => e = .returned (.bool true) ∧ Below w.heap.size w w' := by
  have hnew := anew_yes 500 (by decide) (by decide) w
  have hentA : ∀ W n, W.heap[n]? = some (bxW ⟨#[97]⟩ ⟨#[49]⟩) → Calls Tryz.prog 28 #[.int .i64 3, cmV (csW n) tmA] W fun e w' => e = .returned (enV 3 (bytesC tmA)) ∧ Below W.heap.size W w' := fun W n h => entry_any 3 (csW n) tmA tmA_ok.1 (one_in _ _ _ _ _ _ _ _) tmA_ok.2 W (liesA h)
  have hentC : ∀ W n, W.heap[n]? = some exK → W.heap[n + 1]? = some (bxQ ⟨#[98]⟩ ⟨#[99]⟩) → W.heap[n + 1 + 1]? = some (bxW ⟨#[122]⟩ ⟨#[57]⟩) → Calls Tryz.prog 28 #[.int .i64 (10 + (f0 : Int)), cmV (csC n) (tmC (f1 : Int) (f2 : Int))] W fun e w' => e = .returned (enV (10 + (f0 : Int)) (bytesC (tmC (f1 : Int) (f2 : Int)))) ∧ Below W.heap.size W w' := fun W n h0 h1 h2 => entry_any (10 + (f0 : Int)) (csC n) _ (tmC_ok (by omega) (by omega)).1 (one_in _ _ _ _ _ _ _ _) (tmC_ok (by omega) (by omega)).2 W (liesC' h0 h1 h2)
  have hentB : ∀ W n, W.heap[n]? = some (bxW k ⟨#[50]⟩) → Calls Tryz.prog 28 #[.int .i64 5, cmV (csW n) (tmB k)] W fun e w' => e = .returned (enV 5 (bytesC (tmB k))) ∧ Below W.heap.size W w' := fun W n h => entry_any 5 (csW n) (tmB k) (tmB_ok hks).1 (one_in _ _ _ _ _ _ _ _) (tmB_ok hks).2 W (liesB h)
  have HCO : Hid ((doneV (tm2 k) (10 + (f0 : Int)) (tmC (f1 : Int) (f2 : Int)) 0).code = 15 ∧ lookB (getV (nextM (tm2 k) (10 + (f0 : Int)) (tmC (f1 : Int) (f2 : Int)) 0).st.vs ⟨#[122]⟩ (10 + (f0 : Int))) = decide ((15 : Int) = 0)) := tm_last (tm2 k) (10 + (f0 : Int)) (f1 : Int) (f2 : Int) true (by omega) ((tm2_facts k hk)).1 ((tm2_facts k hk)).2.1 ((tm2_facts k hk)).2.2 15 ((if_neg (fun h => he h.2)).trans (if_pos ha)).symm
  have z1 : ((f1 : Int) != 0) = true := bne_iff_ne.2 hd
  have z2 : decide ((f1 : Int) < 10 + (f0 : Int)) = false := decide_eq_false he
  have z3 : decide (10 + (f0 : Int) < (f2 : Int)) = true := decide_eq_true ha
  have hpi : (f0 : Int) % 3 = (p : Int) := by omega
  clear hd hk hp he ha
  go_enter Tryz.func7, Tryz.ntmps7
  go_wp2_with (first
    | (go_at_call 11; refine hnew.mono ?_; rintro e w1 ⟨g, gs, rfl, hM1, hb1⟩
       have HA : Hid ((w1.alloc (bxW ⟨#[97]⟩ ⟨#[49]⟩)).heap[w1.heap.size]? = some (bxW ⟨#[97]⟩ ⟨#[49]⟩)) := heap_new w1 _
       have HM1 : Hid _ := hM1
       clear hM1 hnew)
    | (go_at_call 13; refine (num_any14 _ _).mono ?_; rintro e wn ⟨rfl, hq⟩; have hq2 := hq.symm; clear hq; subst hq2)
    | (go_at_call 28; refine (hentA _ w1.heap.size HA.out).mono ?_; rintro e w2 ⟨rfl, hb2⟩; have HB2 : Hid (Below w1.heap.size w1 w2) := below_box0 hb2; clear hb2 HA hentA)
    | (go_at_call 15; refine (hdoA _ w2 g gs (HM1.out.below HB2.out)).mono ?_; rintro e w3 ⟨⟨v3, rfl⟩, ⟨ao3, cap3, lv3, hM3⟩, hT3⟩
       have HM3 : Hid _ := hM3
       have HB3 : Hid (Below w.heap.size w w3) := (below_next hb1 (Nat.le_refl _) HB2.out).trans hT3.below
       have HBA : Hid (Below w3.heap.size w3 ((((w3.alloc exK).alloc (bxQ ⟨#[98]⟩ ⟨#[99]⟩)).alloc (bxW ⟨#[122]⟩ ⟨#[57]⟩)).alloc (cmCells (csC w3.heap.size) (tmC (f1 : Int) (f2 : Int))))) := ((((Below.refl _ w3).alloc (Nat.le_refl _) _).alloc (by simp) _).alloc (by simp; omega) _).alloc (by simp; omega) _
       have HC0 : Hid (((((w3.alloc exK).alloc (bxQ ⟨#[98]⟩ ⟨#[99]⟩)).alloc (bxW ⟨#[122]⟩ ⟨#[57]⟩)).alloc (cmCells (csC w3.heap.size) (tmC (f1 : Int) (f2 : Int)))).heap[w3.heap.size]? = some exK) := alloc_box _ (alloc_box _ (alloc_box _ (heap_new w3 _)))
       have HC1 : Hid (((((w3.alloc exK).alloc (bxQ ⟨#[98]⟩ ⟨#[99]⟩)).alloc (bxW ⟨#[122]⟩ ⟨#[57]⟩)).alloc (cmCells (csC w3.heap.size) (tmC (f1 : Int) (f2 : Int)))).heap[w3.heap.size + 1]? = some (bxQ ⟨#[98]⟩ ⟨#[99]⟩)) := alloc_box _ (alloc_box _ (heap_newB _ _ _ (by simp)))
       have HC2 : Hid (((((w3.alloc exK).alloc (bxQ ⟨#[98]⟩ ⟨#[99]⟩)).alloc (bxW ⟨#[122]⟩ ⟨#[57]⟩)).alloc (cmCells (csC w3.heap.size) (tmC (f1 : Int) (f2 : Int)))).heap[w3.heap.size + 1 + 1]? = some (bxW ⟨#[122]⟩ ⟨#[57]⟩)) := alloc_box _ (heap_newB _ _ _ (by simp))
       have HC3 : Hid (((((w3.alloc exK).alloc (bxQ ⟨#[98]⟩ ⟨#[99]⟩)).alloc (bxW ⟨#[122]⟩ ⟨#[57]⟩)).alloc (cmCells (csC w3.heap.size) (tmC (f1 : Int) (f2 : Int)))).heap[w3.heap.size + 1 + 1 + 1]? = some (cmCells (csC w3.heap.size) (tmC (f1 : Int) (f2 : Int)))) := heap_newB _ _ _ (by simp)
       have HE : Hid (((((((w3.alloc exK).alloc (bxQ ⟨#[98]⟩ ⟨#[99]⟩)).alloc (bxW ⟨#[122]⟩ ⟨#[57]⟩)).alloc (cmCells (csC w3.heap.size) (tmC (f1 : Int) (f2 : Int)))).alloc (.cells #[.string ⟨#[97]⟩, .string ⟨#[98]⟩, .string ⟨#[98, 98]⟩] 9)).alloc (bxW k ⟨#[50]⟩)).heap[w3.heap.size + 1 + 1 + 1 + 1 + 1]? = some (bxW k ⟨#[50]⟩)) := heap_newB _ _ _ (by simp)
       have HB6 : Hid (Below w3.heap.size w3 ((((((w3.alloc exK).alloc (bxQ ⟨#[98]⟩ ⟨#[99]⟩)).alloc (bxW ⟨#[122]⟩ ⟨#[57]⟩)).alloc (cmCells (csC w3.heap.size) (tmC (f1 : Int) (f2 : Int)))).alloc (.cells #[.string ⟨#[97]⟩, .string ⟨#[98]⟩, .string ⟨#[98, 98]⟩] 9)).alloc (bxW k ⟨#[50]⟩))) := (HBA.out.alloc HBA.out.size _).alloc (by simp; omega) _
       have HL0 : Hid (((((((w3.alloc exK).alloc (bxQ ⟨#[98]⟩ ⟨#[99]⟩)).alloc (bxW ⟨#[122]⟩ ⟨#[57]⟩)).alloc (cmCells (csC w3.heap.size) (tmC (f1 : Int) (f2 : Int)))).alloc (.cells #[.string ⟨#[97]⟩, .string ⟨#[98]⟩, .string ⟨#[98, 98]⟩] 9)).alloc (bxW k ⟨#[50]⟩)).heap[w3.heap.size]? = some exK) := alloc_box _ (alloc_box _ HC0.out)
       have HL1 : Hid (((((((w3.alloc exK).alloc (bxQ ⟨#[98]⟩ ⟨#[99]⟩)).alloc (bxW ⟨#[122]⟩ ⟨#[57]⟩)).alloc (cmCells (csC w3.heap.size) (tmC (f1 : Int) (f2 : Int)))).alloc (.cells #[.string ⟨#[97]⟩, .string ⟨#[98]⟩, .string ⟨#[98, 98]⟩] 9)).alloc (bxW k ⟨#[50]⟩)).heap[w3.heap.size + 1]? = some (bxQ ⟨#[98]⟩ ⟨#[99]⟩)) := alloc_box _ (alloc_box _ HC1.out)
       have HL2 : Hid (((((((w3.alloc exK).alloc (bxQ ⟨#[98]⟩ ⟨#[99]⟩)).alloc (bxW ⟨#[122]⟩ ⟨#[57]⟩)).alloc (cmCells (csC w3.heap.size) (tmC (f1 : Int) (f2 : Int)))).alloc (.cells #[.string ⟨#[97]⟩, .string ⟨#[98]⟩, .string ⟨#[98, 98]⟩] 9)).alloc (bxW k ⟨#[50]⟩)).heap[w3.heap.size + 1 + 1]? = some (bxW ⟨#[122]⟩ ⟨#[57]⟩)) := alloc_box _ (alloc_box _ HC2.out)
       have HL3 : Hid (((((((w3.alloc exK).alloc (bxQ ⟨#[98]⟩ ⟨#[99]⟩)).alloc (bxW ⟨#[122]⟩ ⟨#[57]⟩)).alloc (cmCells (csC w3.heap.size) (tmC (f1 : Int) (f2 : Int)))).alloc (.cells #[.string ⟨#[97]⟩, .string ⟨#[98]⟩, .string ⟨#[98, 98]⟩] 9)).alloc (bxW k ⟨#[50]⟩)).heap[w3.heap.size + 1 + 1 + 1]? = some (cmCells (csC w3.heap.size) (tmC (f1 : Int) (f2 : Int)))) := alloc_box _ (alloc_box _ HC3.out)
       clear hM3 hT3 HM1)
    | (go_at_call 28; refine (hentB _ _ HE.out).mono ?_; rintro e w4 ⟨rfl, hb4⟩; have HB4 : Hid _ := hb4; clear hb4 HE hentB)
    | (go_at_call 15; refine (hdoB _ w4 g gs _ _ _ k hks ((HM3.out.below HB6.out).below HB4.out)).mono ?_; rintro e w5 ⟨⟨v5, rfl⟩, ⟨ao5, cap5, lv5, hM5⟩, hT5⟩
       have HM5 : Hid _ := hM5
       have HB5 : Hid (Below w.heap.size w w5) := (below_next (below_next HB3.out (Nat.le_refl _) HB6.out) (Nat.le_refl _) HB4.out).trans hT5.below
       have HK0 : Hid _ := hT5.keep _ _ (below_box HB4.out HL0.out) ⟨by decide, by decide, by decide, by decide⟩
       have HK1 : Hid _ := hT5.keep _ _ (below_box HB4.out HL1.out) ⟨by decide, by decide, by decide, by decide⟩
       have HK2 : Hid _ := hT5.keep _ _ (below_box HB4.out HL2.out) ⟨by decide, by decide, by decide, by decide⟩
       have hk3 := hT5.keep _ _ (below_box HB4.out HL3.out) ⟨by decide, by decide, by decide, by decide⟩
       obtain ⟨k0, k1, k2, k3, k4, k5, k6, k7, k8, k9, k10, k11, k12⟩ := cm_cells hk3
       clear hM5 hT5 hk3 HM3 HB6)
    | (go_at_call 28; refine (hentC _ w3.heap.size HK0.out HK1.out HK2.out).mono ?_; rintro e w6 ⟨rfl, hb6⟩; have HB6 : Hid _ := hb6; clear hb6)
    | (go_at_call 15; refine (hdoC _ w6 g gs _ _ _ (tm2 k) (10 + (f0 : Int)) (f1 : Int) (f2 : Int) (by omega) (by omega) (Nat.le_of_ble_eq_true rfl) (Nat.le_of_ble_eq_true rfl) 15 HCO.out.1 (HM5.out.below HB6.out)).mono ?_; rintro e w7 ⟨rfl, ⟨ao7, cap7, lv7, hM7⟩, hb7⟩
       have hM8 := hM7.below ((Below.refl _ w7).alloc (Nat.le_refl _) (dnBox ⟨0, 0, 10 + (f0 : Int), 15⟩))
       have hstor := astore_any _ _ _ _ _ _ _ _ hM8
       have hgetz := sget_any _ gs _ (10 + (f0 : Int)) ⟨#[122]⟩ (by decide) (Nat.le_trans hM8.few (by decide)) _ hM8.sto
       rw [HCO.out.2] at hgetz
       have HB7 : Hid (Below w.heap.size w w7) := (below_next (HB5.out) (Nat.le_refl _) HB6.out).trans hb7
       have HD : Hid ((w7.alloc (dnBox ⟨0, 0, 10 + (f0 : Int), 15⟩)).heap[w7.heap.size]? = some (dnBox ⟨0, 0, 10 + (f0 : Int), 15⟩)) := heap_new w7 _
       clear hM7 hM8 hb7 k0 k1 k2 k3 k4 k5 k6 k7 k8 k9 k10 k11 k12)
    | (go_at_call 20; refine hstor.mono ?_; rintro e wn ⟨rfl, hq⟩; have hq2 := hq.symm; clear hq; subst hq2)
    | (go_at_call 30; refine hgetz.mono ?_; rintro e w9 ⟨rfl, hb9⟩; have dc := box_cell (below_box hb9 HD.out) 3 _ rfl; have HB9 : Hid _ := hb9; clear hb9)
    | (go_at_call 10; refine (awake14 _).mono ?_; rintro e w10 ⟨rfl, hb10⟩))
  go_ret
  exact ⟨rfl, below_next (below_next (HB7.out.alloc HB7.out.size _) (Nat.le_refl _) HB9.out) (Nat.le_refl _) hb10⟩
theorem times_yes_d0 (f0 : Nat) (hf0 : f0 < 256) (f1 : Nat) (hf1 : f1 < 256) (f2 : Nat) (hf2 : f2 < 256) (p : Nat) (hp : f0 % 3 = p) (hp3 : p < 3) (k : ByteArray) (hix : [Value.string ⟨#[97]⟩, .string ⟨#[98]⟩, .string ⟨#[98, 98]⟩][p]'hp3 = .string k) (hk : k = ⟨#[97]⟩ ∨ k = ⟨#[98]⟩ ∨ k = ⟨#[98, 98]⟩) (hks : k.size ≤ 10) (hd : (f1 : Int) = 0) (ha : ¬ 10 + (f0 : Int) < (f2 : Int)) (w : World) :
    Calls Tryz.prog 7 #[.int .u8 (f0 : Int), .int .u8 (f1 : Int), .int .u8 (f2 : Int), .bool true] w fun e w' => e = .returned (.bool true) ∧ Below w.heap.size w w' := by
  have hnew := anew_yes 500 (by decide) (by decide) w
  have hentA : ∀ W n, W.heap[n]? = some (bxW ⟨#[97]⟩ ⟨#[49]⟩) → Calls Tryz.prog 28 #[.int .i64 3, cmV (csW n) tmA] W fun e w' => e = .returned (enV 3 (bytesC tmA)) ∧ Below W.heap.size W w' := fun W n h => entry_any 3 (csW n) tmA tmA_ok.1 (one_in _ _ _ _ _ _ _ _) tmA_ok.2 W (liesA h)
  have hentC : ∀ W n, W.heap[n]? = some exK → W.heap[n + 1]? = some (bxQ ⟨#[98]⟩ ⟨#[99]⟩) → W.heap[n + 1 + 1]? = some (bxW ⟨#[122]⟩ ⟨#[57]⟩) → Calls Tryz.prog 28 #[.int .i64 (10 + (f0 : Int)), cmV (csC n) (tmC (f1 : Int) (f2 : Int))] W fun e w' => e = .returned (enV (10 + (f0 : Int)) (bytesC (tmC (f1 : Int) (f2 : Int)))) ∧ Below W.heap.size W w' := fun W n h0 h1 h2 => entry_any (10 + (f0 : Int)) (csC n) _ (tmC_ok (by omega) (by omega)).1 (one_in _ _ _ _ _ _ _ _) (tmC_ok (by omega) (by omega)).2 W (liesC' h0 h1 h2)
  have hentB : ∀ W n, W.heap[n]? = some (bxW k ⟨#[50]⟩) → Calls Tryz.prog 28 #[.int .i64 5, cmV (csW n) (tmB k)] W fun e w' => e = .returned (enV 5 (bytesC (tmB k))) ∧ Below W.heap.size W w' := fun W n h => entry_any 5 (csW n) (tmB k) (tmB_ok hks).1 (one_in _ _ _ _ _ _ _ _) (tmB_ok hks).2 W (liesB h)
  have HCO : Hid ((doneV (tm2 k) (10 + (f0 : Int)) (tmC (f1 : Int) (f2 : Int)) 0).code = 13 ∧ lookB (getV (nextM (tm2 k) (10 + (f0 : Int)) (tmC (f1 : Int) (f2 : Int)) 0).st.vs ⟨#[122]⟩ (10 + (f0 : Int))) = decide ((13 : Int) = 0)) := tm_last (tm2 k) (10 + (f0 : Int)) (f1 : Int) (f2 : Int) true (by omega) ((tm2_facts k hk)).1 ((tm2_facts k hk)).2.1 ((tm2_facts k hk)).2.2 13 ((if_neg (fun h => h.1 hd)).trans (if_neg ha)).symm
  have z1 : ((f1 : Int) != 0) = false := by simp [hd]
  have z3 : decide (10 + (f0 : Int) < (f2 : Int)) = false := decide_eq_false ha
  have hpi : (f0 : Int) % 3 = (p : Int) := by omega
  clear hd hk hp ha
  go_enter Tryz.func7, Tryz.ntmps7
  go_wp2_with (first
    | (go_at_call 11; refine hnew.mono ?_; rintro e w1 ⟨g, gs, rfl, hM1, hb1⟩
       have HA : Hid ((w1.alloc (bxW ⟨#[97]⟩ ⟨#[49]⟩)).heap[w1.heap.size]? = some (bxW ⟨#[97]⟩ ⟨#[49]⟩)) := heap_new w1 _
       have HM1 : Hid _ := hM1
       clear hM1 hnew)
    | (go_at_call 13; refine (num_any14 _ _).mono ?_; rintro e wn ⟨rfl, hq⟩; have hq2 := hq.symm; clear hq; subst hq2)
    | (go_at_call 28; refine (hentA _ w1.heap.size HA.out).mono ?_; rintro e w2 ⟨rfl, hb2⟩; have HB2 : Hid (Below w1.heap.size w1 w2) := below_box0 hb2; clear hb2 HA hentA)
    | (go_at_call 15; refine (hdoA _ w2 g gs (HM1.out.below HB2.out)).mono ?_; rintro e w3 ⟨⟨v3, rfl⟩, ⟨ao3, cap3, lv3, hM3⟩, hT3⟩
       have HM3 : Hid _ := hM3
       have HB3 : Hid (Below w.heap.size w w3) := (below_next hb1 (Nat.le_refl _) HB2.out).trans hT3.below
       have HBA : Hid (Below w3.heap.size w3 ((((w3.alloc exK).alloc (bxQ ⟨#[98]⟩ ⟨#[99]⟩)).alloc (bxW ⟨#[122]⟩ ⟨#[57]⟩)).alloc (cmCells (csC w3.heap.size) (tmC (f1 : Int) (f2 : Int))))) := ((((Below.refl _ w3).alloc (Nat.le_refl _) _).alloc (by simp) _).alloc (by simp; omega) _).alloc (by simp; omega) _
       have HC0 : Hid (((((w3.alloc exK).alloc (bxQ ⟨#[98]⟩ ⟨#[99]⟩)).alloc (bxW ⟨#[122]⟩ ⟨#[57]⟩)).alloc (cmCells (csC w3.heap.size) (tmC (f1 : Int) (f2 : Int)))).heap[w3.heap.size]? = some exK) := alloc_box _ (alloc_box _ (alloc_box _ (heap_new w3 _)))
       have HC1 : Hid (((((w3.alloc exK).alloc (bxQ ⟨#[98]⟩ ⟨#[99]⟩)).alloc (bxW ⟨#[122]⟩ ⟨#[57]⟩)).alloc (cmCells (csC w3.heap.size) (tmC (f1 : Int) (f2 : Int)))).heap[w3.heap.size + 1]? = some (bxQ ⟨#[98]⟩ ⟨#[99]⟩)) := alloc_box _ (alloc_box _ (heap_newB _ _ _ (by simp)))
       have HC2 : Hid (((((w3.alloc exK).alloc (bxQ ⟨#[98]⟩ ⟨#[99]⟩)).alloc (bxW ⟨#[122]⟩ ⟨#[57]⟩)).alloc (cmCells (csC w3.heap.size) (tmC (f1 : Int) (f2 : Int)))).heap[w3.heap.size + 1 + 1]? = some (bxW ⟨#[122]⟩ ⟨#[57]⟩)) := alloc_box _ (heap_newB _ _ _ (by simp))
       have HC3 : Hid (((((w3.alloc exK).alloc (bxQ ⟨#[98]⟩ ⟨#[99]⟩)).alloc (bxW ⟨#[122]⟩ ⟨#[57]⟩)).alloc (cmCells (csC w3.heap.size) (tmC (f1 : Int) (f2 : Int)))).heap[w3.heap.size + 1 + 1 + 1]? = some (cmCells (csC w3.heap.size) (tmC (f1 : Int) (f2 : Int)))) := heap_newB _ _ _ (by simp)
       have HE : Hid (((((((w3.alloc exK).alloc (bxQ ⟨#[98]⟩ ⟨#[99]⟩)).alloc (bxW ⟨#[122]⟩ ⟨#[57]⟩)).alloc (cmCells (csC w3.heap.size) (tmC (f1 : Int) (f2 : Int)))).alloc (.cells #[.string ⟨#[97]⟩, .string ⟨#[98]⟩, .string ⟨#[98, 98]⟩] 9)).alloc (bxW k ⟨#[50]⟩)).heap[w3.heap.size + 1 + 1 + 1 + 1 + 1]? = some (bxW k ⟨#[50]⟩)) := heap_newB _ _ _ (by simp)
       have HB6 : Hid (Below w3.heap.size w3 ((((((w3.alloc exK).alloc (bxQ ⟨#[98]⟩ ⟨#[99]⟩)).alloc (bxW ⟨#[122]⟩ ⟨#[57]⟩)).alloc (cmCells (csC w3.heap.size) (tmC (f1 : Int) (f2 : Int)))).alloc (.cells #[.string ⟨#[97]⟩, .string ⟨#[98]⟩, .string ⟨#[98, 98]⟩] 9)).alloc (bxW k ⟨#[50]⟩))) := (HBA.out.alloc HBA.out.size _).alloc (by simp; omega) _
       have HL0 : Hid (((((((w3.alloc exK).alloc (bxQ ⟨#[98]⟩ ⟨#[99]⟩)).alloc (bxW ⟨#[122]⟩ ⟨#[57]⟩)).alloc (cmCells (csC w3.heap.size) (tmC (f1 : Int) (f2 : Int)))).alloc (.cells #[.string ⟨#[97]⟩, .string ⟨#[98]⟩, .string ⟨#[98, 98]⟩] 9)).alloc (bxW k ⟨#[50]⟩)).heap[w3.heap.size]? = some exK) := alloc_box _ (alloc_box _ HC0.out)
       have HL1 : Hid (((((((w3.alloc exK).alloc (bxQ ⟨#[98]⟩ ⟨#[99]⟩)).alloc (bxW ⟨#[122]⟩ ⟨#[57]⟩)).alloc (cmCells (csC w3.heap.size) (tmC (f1 : Int) (f2 : Int)))).alloc (.cells #[.string ⟨#[97]⟩, .string ⟨#[98]⟩, .string ⟨#[98, 98]⟩] 9)).alloc (bxW k ⟨#[50]⟩)).heap[w3.heap.size + 1]? = some (bxQ ⟨#[98]⟩ ⟨#[99]⟩)) := alloc_box _ (alloc_box _ HC1.out)
       have HL2 : Hid (((((((w3.alloc exK).alloc (bxQ ⟨#[98]⟩ ⟨#[99]⟩)).alloc (bxW ⟨#[122]⟩ ⟨#[57]⟩)).alloc (cmCells (csC w3.heap.size) (tmC (f1 : Int) (f2 : Int)))).alloc (.cells #[.string ⟨#[97]⟩, .string ⟨#[98]⟩, .string ⟨#[98, 98]⟩] 9)).alloc (bxW k ⟨#[50]⟩)).heap[w3.heap.size + 1 + 1]? = some (bxW ⟨#[122]⟩ ⟨#[57]⟩)) := alloc_box _ (alloc_box _ HC2.out)
       have HL3 : Hid (((((((w3.alloc exK).alloc (bxQ ⟨#[98]⟩ ⟨#[99]⟩)).alloc (bxW ⟨#[122]⟩ ⟨#[57]⟩)).alloc (cmCells (csC w3.heap.size) (tmC (f1 : Int) (f2 : Int)))).alloc (.cells #[.string ⟨#[97]⟩, .string ⟨#[98]⟩, .string ⟨#[98, 98]⟩] 9)).alloc (bxW k ⟨#[50]⟩)).heap[w3.heap.size + 1 + 1 + 1]? = some (cmCells (csC w3.heap.size) (tmC (f1 : Int) (f2 : Int)))) := alloc_box _ (alloc_box _ HC3.out)
       clear hM3 hT3 HM1)
    | (go_at_call 28; refine (hentB _ _ HE.out).mono ?_; rintro e w4 ⟨rfl, hb4⟩; have HB4 : Hid _ := hb4; clear hb4 HE hentB)
    | (go_at_call 15; refine (hdoB _ w4 g gs _ _ _ k hks ((HM3.out.below HB6.out).below HB4.out)).mono ?_; rintro e w5 ⟨⟨v5, rfl⟩, ⟨ao5, cap5, lv5, hM5⟩, hT5⟩
       have HM5 : Hid _ := hM5
       have HB5 : Hid (Below w.heap.size w w5) := (below_next (below_next HB3.out (Nat.le_refl _) HB6.out) (Nat.le_refl _) HB4.out).trans hT5.below
       have HK0 : Hid _ := hT5.keep _ _ (below_box HB4.out HL0.out) ⟨by decide, by decide, by decide, by decide⟩
       have HK1 : Hid _ := hT5.keep _ _ (below_box HB4.out HL1.out) ⟨by decide, by decide, by decide, by decide⟩
       have HK2 : Hid _ := hT5.keep _ _ (below_box HB4.out HL2.out) ⟨by decide, by decide, by decide, by decide⟩
       have hk3 := hT5.keep _ _ (below_box HB4.out HL3.out) ⟨by decide, by decide, by decide, by decide⟩
       obtain ⟨k0, k1, k2, k3, k4, k5, k6, k7, k8, k9, k10, k11, k12⟩ := cm_cells hk3
       clear hM5 hT5 hk3 HM3 HB6)
    | (go_at_call 28; refine (hentC _ w3.heap.size HK0.out HK1.out HK2.out).mono ?_; rintro e w6 ⟨rfl, hb6⟩; have HB6 : Hid _ := hb6; clear hb6)
    | (go_at_call 15; refine (hdoC _ w6 g gs _ _ _ (tm2 k) (10 + (f0 : Int)) (f1 : Int) (f2 : Int) (by omega) (by omega) (Nat.le_of_ble_eq_true rfl) (Nat.le_of_ble_eq_true rfl) 13 HCO.out.1 (HM5.out.below HB6.out)).mono ?_; rintro e w7 ⟨rfl, ⟨ao7, cap7, lv7, hM7⟩, hb7⟩
       have hM8 := hM7.below ((Below.refl _ w7).alloc (Nat.le_refl _) (dnBox ⟨0, 0, 10 + (f0 : Int), 13⟩))
       have hstor := astore_any _ _ _ _ _ _ _ _ hM8
       have hgetz := sget_any _ gs _ (10 + (f0 : Int)) ⟨#[122]⟩ (by decide) (Nat.le_trans hM8.few (by decide)) _ hM8.sto
       rw [HCO.out.2] at hgetz
       have HB7 : Hid (Below w.heap.size w w7) := (below_next (HB5.out) (Nat.le_refl _) HB6.out).trans hb7
       have HD : Hid ((w7.alloc (dnBox ⟨0, 0, 10 + (f0 : Int), 13⟩)).heap[w7.heap.size]? = some (dnBox ⟨0, 0, 10 + (f0 : Int), 13⟩)) := heap_new w7 _
       clear hM7 hM8 hb7 k0 k1 k2 k3 k4 k5 k6 k7 k8 k9 k10 k11 k12)
    | (go_at_call 20; refine hstor.mono ?_; rintro e wn ⟨rfl, hq⟩; have hq2 := hq.symm; clear hq; subst hq2)
    | (go_at_call 30; refine hgetz.mono ?_; rintro e w9 ⟨rfl, hb9⟩; have dc := box_cell (below_box hb9 HD.out) 3 _ rfl; have HB9 : Hid _ := hb9; clear hb9)
    | (go_at_call 10; refine (awake14 _).mono ?_; rintro e w10 ⟨rfl, hb10⟩))
  go_ret
  exact ⟨rfl, below_next (below_next (HB7.out.alloc HB7.out.size _) (Nat.le_refl _) HB9.out) (Nat.le_refl _) hb10⟩
theorem times_yes_e0 (f0 : Nat) (hf0 : f0 < 256) (f1 : Nat) (hf1 : f1 < 256) (f2 : Nat) (hf2 : f2 < 256) (p : Nat) (hp : f0 % 3 = p) (hp3 : p < 3) (k : ByteArray) (hix : [Value.string ⟨#[97]⟩, .string ⟨#[98]⟩, .string ⟨#[98, 98]⟩][p]'hp3 = .string k) (hk : k = ⟨#[97]⟩ ∨ k = ⟨#[98]⟩ ∨ k = ⟨#[98, 98]⟩) (hks : k.size ≤ 10) (hd : (f1 : Int) ≠ 0) (he : ¬ (f1 : Int) < 10 + (f0 : Int)) (ha : ¬ 10 + (f0 : Int) < (f2 : Int)) (w : World) :
    Calls Tryz.prog 7 #[.int .u8 (f0 : Int), .int .u8 (f1 : Int), .int .u8 (f2 : Int), .bool true] w fun e w' => e = .returned (.bool true) ∧ Below w.heap.size w w' := by
  have hnew := anew_yes 500 (by decide) (by decide) w
  have hentA : ∀ W n, W.heap[n]? = some (bxW ⟨#[97]⟩ ⟨#[49]⟩) → Calls Tryz.prog 28 #[.int .i64 3, cmV (csW n) tmA] W fun e w' => e = .returned (enV 3 (bytesC tmA)) ∧ Below W.heap.size W w' := fun W n h => entry_any 3 (csW n) tmA tmA_ok.1 (one_in _ _ _ _ _ _ _ _) tmA_ok.2 W (liesA h)
  have hentC : ∀ W n, W.heap[n]? = some exK → W.heap[n + 1]? = some (bxQ ⟨#[98]⟩ ⟨#[99]⟩) → W.heap[n + 1 + 1]? = some (bxW ⟨#[122]⟩ ⟨#[57]⟩) → Calls Tryz.prog 28 #[.int .i64 (10 + (f0 : Int)), cmV (csC n) (tmC (f1 : Int) (f2 : Int))] W fun e w' => e = .returned (enV (10 + (f0 : Int)) (bytesC (tmC (f1 : Int) (f2 : Int)))) ∧ Below W.heap.size W w' := fun W n h0 h1 h2 => entry_any (10 + (f0 : Int)) (csC n) _ (tmC_ok (by omega) (by omega)).1 (one_in _ _ _ _ _ _ _ _) (tmC_ok (by omega) (by omega)).2 W (liesC' h0 h1 h2)
  have hentB : ∀ W n, W.heap[n]? = some (bxW k ⟨#[50]⟩) → Calls Tryz.prog 28 #[.int .i64 5, cmV (csW n) (tmB k)] W fun e w' => e = .returned (enV 5 (bytesC (tmB k))) ∧ Below W.heap.size W w' := fun W n h => entry_any 5 (csW n) (tmB k) (tmB_ok hks).1 (one_in _ _ _ _ _ _ _ _) (tmB_ok hks).2 W (liesB h)
  have HCO : Hid ((doneV (tm2 k) (10 + (f0 : Int)) (tmC (f1 : Int) (f2 : Int)) 0).code = 13 ∧ lookB (getV (nextM (tm2 k) (10 + (f0 : Int)) (tmC (f1 : Int) (f2 : Int)) 0).st.vs ⟨#[122]⟩ (10 + (f0 : Int))) = decide ((13 : Int) = 0)) := tm_last (tm2 k) (10 + (f0 : Int)) (f1 : Int) (f2 : Int) true (by omega) ((tm2_facts k hk)).1 ((tm2_facts k hk)).2.1 ((tm2_facts k hk)).2.2 13 ((if_neg (fun h => he h.2)).trans (if_neg ha)).symm
  have z1 : ((f1 : Int) != 0) = true := bne_iff_ne.2 hd
  have z2 : decide ((f1 : Int) < 10 + (f0 : Int)) = false := decide_eq_false he
  have z3 : decide (10 + (f0 : Int) < (f2 : Int)) = false := decide_eq_false ha
  have hpi : (f0 : Int) % 3 = (p : Int) := by omega
  clear hd hk hp he ha
  go_enter Tryz.func7, Tryz.ntmps7
  go_wp2_with (first
    | (go_at_call 11; refine hnew.mono ?_; rintro e w1 ⟨g, gs, rfl, hM1, hb1⟩
       have HA : Hid ((w1.alloc (bxW ⟨#[97]⟩ ⟨#[49]⟩)).heap[w1.heap.size]? = some (bxW ⟨#[97]⟩ ⟨#[49]⟩)) := heap_new w1 _
       have HM1 : Hid _ := hM1
       clear hM1 hnew)
    | (go_at_call 13; refine (num_any14 _ _).mono ?_; rintro e wn ⟨rfl, hq⟩; have hq2 := hq.symm; clear hq; subst hq2)
    | (go_at_call 28; refine (hentA _ w1.heap.size HA.out).mono ?_; rintro e w2 ⟨rfl, hb2⟩; have HB2 : Hid (Below w1.heap.size w1 w2) := below_box0 hb2; clear hb2 HA hentA)
    | (go_at_call 15; refine (hdoA _ w2 g gs (HM1.out.below HB2.out)).mono ?_; rintro e w3 ⟨⟨v3, rfl⟩, ⟨ao3, cap3, lv3, hM3⟩, hT3⟩
       have HM3 : Hid _ := hM3
       have HB3 : Hid (Below w.heap.size w w3) := (below_next hb1 (Nat.le_refl _) HB2.out).trans hT3.below
       have HBA : Hid (Below w3.heap.size w3 ((((w3.alloc exK).alloc (bxQ ⟨#[98]⟩ ⟨#[99]⟩)).alloc (bxW ⟨#[122]⟩ ⟨#[57]⟩)).alloc (cmCells (csC w3.heap.size) (tmC (f1 : Int) (f2 : Int))))) := ((((Below.refl _ w3).alloc (Nat.le_refl _) _).alloc (by simp) _).alloc (by simp; omega) _).alloc (by simp; omega) _
       have HC0 : Hid (((((w3.alloc exK).alloc (bxQ ⟨#[98]⟩ ⟨#[99]⟩)).alloc (bxW ⟨#[122]⟩ ⟨#[57]⟩)).alloc (cmCells (csC w3.heap.size) (tmC (f1 : Int) (f2 : Int)))).heap[w3.heap.size]? = some exK) := alloc_box _ (alloc_box _ (alloc_box _ (heap_new w3 _)))
       have HC1 : Hid (((((w3.alloc exK).alloc (bxQ ⟨#[98]⟩ ⟨#[99]⟩)).alloc (bxW ⟨#[122]⟩ ⟨#[57]⟩)).alloc (cmCells (csC w3.heap.size) (tmC (f1 : Int) (f2 : Int)))).heap[w3.heap.size + 1]? = some (bxQ ⟨#[98]⟩ ⟨#[99]⟩)) := alloc_box _ (alloc_box _ (heap_newB _ _ _ (by simp)))
       have HC2 : Hid (((((w3.alloc exK).alloc (bxQ ⟨#[98]⟩ ⟨#[99]⟩)).alloc (bxW ⟨#[122]⟩ ⟨#[57]⟩)).alloc (cmCells (csC w3.heap.size) (tmC (f1 : Int) (f2 : Int)))).heap[w3.heap.size + 1 + 1]? = some (bxW ⟨#[122]⟩ ⟨#[57]⟩)) := alloc_box _ (heap_newB _ _ _ (by simp))
       have HC3 : Hid (((((w3.alloc exK).alloc (bxQ ⟨#[98]⟩ ⟨#[99]⟩)).alloc (bxW ⟨#[122]⟩ ⟨#[57]⟩)).alloc (cmCells (csC w3.heap.size) (tmC (f1 : Int) (f2 : Int)))).heap[w3.heap.size + 1 + 1 + 1]? = some (cmCells (csC w3.heap.size) (tmC (f1 : Int) (f2 : Int)))) := heap_newB _ _ _ (by simp)
       have HE : Hid (((((((w3.alloc exK).alloc (bxQ ⟨#[98]⟩ ⟨#[99]⟩)).alloc (bxW ⟨#[122]⟩ ⟨#[57]⟩)).alloc (cmCells (csC w3.heap.size) (tmC (f1 : Int) (f2 : Int)))).alloc (.cells #[.string ⟨#[97]⟩, .string ⟨#[98]⟩, .string ⟨#[98, 98]⟩] 9)).alloc (bxW k ⟨#[50]⟩)).heap[w3.heap.size + 1 + 1 + 1 + 1 + 1]? = some (bxW k ⟨#[50]⟩)) := heap_newB _ _ _ (by simp)
       have HB6 : Hid (Below w3.heap.size w3 ((((((w3.alloc exK).alloc (bxQ ⟨#[98]⟩ ⟨#[99]⟩)).alloc (bxW ⟨#[122]⟩ ⟨#[57]⟩)).alloc (cmCells (csC w3.heap.size) (tmC (f1 : Int) (f2 : Int)))).alloc (.cells #[.string ⟨#[97]⟩, .string ⟨#[98]⟩, .string ⟨#[98, 98]⟩] 9)).alloc (bxW k ⟨#[50]⟩))) := (HBA.out.alloc HBA.out.size _).alloc (by simp; omega) _
       have HL0 : Hid (((((((w3.alloc exK).alloc (bxQ ⟨#[98]⟩ ⟨#[99]⟩)).alloc (bxW ⟨#[122]⟩ ⟨#[57]⟩)).alloc (cmCells (csC w3.heap.size) (tmC (f1 : Int) (f2 : Int)))).alloc (.cells #[.string ⟨#[97]⟩, .string ⟨#[98]⟩, .string ⟨#[98, 98]⟩] 9)).alloc (bxW k ⟨#[50]⟩)).heap[w3.heap.size]? = some exK) := alloc_box _ (alloc_box _ HC0.out)
       have HL1 : Hid (((((((w3.alloc exK).alloc (bxQ ⟨#[98]⟩ ⟨#[99]⟩)).alloc (bxW ⟨#[122]⟩ ⟨#[57]⟩)).alloc (cmCells (csC w3.heap.size) (tmC (f1 : Int) (f2 : Int)))).alloc (.cells #[.string ⟨#[97]⟩, .string ⟨#[98]⟩, .string ⟨#[98, 98]⟩] 9)).alloc (bxW k ⟨#[50]⟩)).heap[w3.heap.size + 1]? = some (bxQ ⟨#[98]⟩ ⟨#[99]⟩)) := alloc_box _ (alloc_box _ HC1.out)
       have HL2 : Hid (((((((w3.alloc exK).alloc (bxQ ⟨#[98]⟩ ⟨#[99]⟩)).alloc (bxW ⟨#[122]⟩ ⟨#[57]⟩)).alloc (cmCells (csC w3.heap.size) (tmC (f1 : Int) (f2 : Int)))).alloc (.cells #[.string ⟨#[97]⟩, .string ⟨#[98]⟩, .string ⟨#[98, 98]⟩] 9)).alloc (bxW k ⟨#[50]⟩)).heap[w3.heap.size + 1 + 1]? = some (bxW ⟨#[122]⟩ ⟨#[57]⟩)) := alloc_box _ (alloc_box _ HC2.out)
       have HL3 : Hid (((((((w3.alloc exK).alloc (bxQ ⟨#[98]⟩ ⟨#[99]⟩)).alloc (bxW ⟨#[122]⟩ ⟨#[57]⟩)).alloc (cmCells (csC w3.heap.size) (tmC (f1 : Int) (f2 : Int)))).alloc (.cells #[.string ⟨#[97]⟩, .string ⟨#[98]⟩, .string ⟨#[98, 98]⟩] 9)).alloc (bxW k ⟨#[50]⟩)).heap[w3.heap.size + 1 + 1 + 1]? = some (cmCells (csC w3.heap.size) (tmC (f1 : Int) (f2 : Int)))) := alloc_box _ (alloc_box _ HC3.out)
       clear hM3 hT3 HM1)
    | (go_at_call 28; refine (hentB _ _ HE.out).mono ?_; rintro e w4 ⟨rfl, hb4⟩; have HB4 : Hid _ := hb4; clear hb4 HE hentB)
    | (go_at_call 15; refine (hdoB _ w4 g gs _ _ _ k hks ((HM3.out.below HB6.out).below HB4.out)).mono ?_; rintro e w5 ⟨⟨v5, rfl⟩, ⟨ao5, cap5, lv5, hM5⟩, hT5⟩
       have HM5 : Hid _ := hM5
       have HB5 : Hid (Below w.heap.size w w5) := (below_next (below_next HB3.out (Nat.le_refl _) HB6.out) (Nat.le_refl _) HB4.out).trans hT5.below
       have HK0 : Hid _ := hT5.keep _ _ (below_box HB4.out HL0.out) ⟨by decide, by decide, by decide, by decide⟩
       have HK1 : Hid _ := hT5.keep _ _ (below_box HB4.out HL1.out) ⟨by decide, by decide, by decide, by decide⟩
       have HK2 : Hid _ := hT5.keep _ _ (below_box HB4.out HL2.out) ⟨by decide, by decide, by decide, by decide⟩
       have hk3 := hT5.keep _ _ (below_box HB4.out HL3.out) ⟨by decide, by decide, by decide, by decide⟩
       obtain ⟨k0, k1, k2, k3, k4, k5, k6, k7, k8, k9, k10, k11, k12⟩ := cm_cells hk3
       clear hM5 hT5 hk3 HM3 HB6)
    | (go_at_call 28; refine (hentC _ w3.heap.size HK0.out HK1.out HK2.out).mono ?_; rintro e w6 ⟨rfl, hb6⟩; have HB6 : Hid _ := hb6; clear hb6)
    | (go_at_call 15; refine (hdoC _ w6 g gs _ _ _ (tm2 k) (10 + (f0 : Int)) (f1 : Int) (f2 : Int) (by omega) (by omega) (Nat.le_of_ble_eq_true rfl) (Nat.le_of_ble_eq_true rfl) 13 HCO.out.1 (HM5.out.below HB6.out)).mono ?_; rintro e w7 ⟨rfl, ⟨ao7, cap7, lv7, hM7⟩, hb7⟩
       have hM8 := hM7.below ((Below.refl _ w7).alloc (Nat.le_refl _) (dnBox ⟨0, 0, 10 + (f0 : Int), 13⟩))
       have hstor := astore_any _ _ _ _ _ _ _ _ hM8
       have hgetz := sget_any _ gs _ (10 + (f0 : Int)) ⟨#[122]⟩ (by decide) (Nat.le_trans hM8.few (by decide)) _ hM8.sto
       rw [HCO.out.2] at hgetz
       have HB7 : Hid (Below w.heap.size w w7) := (below_next (HB5.out) (Nat.le_refl _) HB6.out).trans hb7
       have HD : Hid ((w7.alloc (dnBox ⟨0, 0, 10 + (f0 : Int), 13⟩)).heap[w7.heap.size]? = some (dnBox ⟨0, 0, 10 + (f0 : Int), 13⟩)) := heap_new w7 _
       clear hM7 hM8 hb7 k0 k1 k2 k3 k4 k5 k6 k7 k8 k9 k10 k11 k12)
    | (go_at_call 20; refine hstor.mono ?_; rintro e wn ⟨rfl, hq⟩; have hq2 := hq.symm; clear hq; subst hq2)
    | (go_at_call 30; refine hgetz.mono ?_; rintro e w9 ⟨rfl, hb9⟩; have dc := box_cell (below_box hb9 HD.out) 3 _ rfl; have HB9 : Hid _ := hb9; clear hb9)
    | (go_at_call 10; refine (awake14 _).mono ?_; rintro e w10 ⟨rfl, hb10⟩))
  go_ret
  exact ⟨rfl, below_next (below_next (HB7.out.alloc HB7.out.size _) (Nat.le_refl _) HB9.out) (Nat.le_refl _) hb10⟩

theorem walk (f0 : Nat) (hf0 : f0 < 256) (f1 : Nat) (hf1 : f1 < 256) (f2 : Nat) (hf2 : f2 < 256) (b3 : Bool) (w : World) :
    Calls Tryz.prog 7 #[.int .u8 (f0 : Int), .int .u8 (f1 : Int), .int .u8 (f2 : Int), .bool b3] w fun e w' => e = .returned (.bool true) ∧ Below w.heap.size w w' := by
  cases b3 with
  | false =>
    by_cases hd : (f1 : Int) = 0
    · by_cases ha : 10 + (f0 : Int) < (f2 : Int)
      · exact times_no_b15 f0 hf0 f1 hf1 f2 hf2 hd ha w
      · exact times_no_d0 f0 hf0 f1 hf1 f2 hf2 hd ha w
    · by_cases he : (f1 : Int) < 10 + (f0 : Int)
      · exact times_no_a14 f0 hf0 f1 hf1 f2 hf2 ⟨hd, he⟩ w
      · by_cases ha : 10 + (f0 : Int) < (f2 : Int)
        · exact times_no_c15 f0 hf0 f1 hf1 f2 hf2 hd he ha w
        · exact times_no_e0 f0 hf0 f1 hf1 f2 hf2 hd he ha w
  | true =>
    have hgo : ∀ (p : Nat) (hp : f0 % 3 = p) (hp3 : p < 3) (k : ByteArray) (hix : [Value.string ⟨#[97]⟩, .string ⟨#[98]⟩, .string ⟨#[98, 98]⟩][p]'hp3 = .string k) (hk : k = ⟨#[97]⟩ ∨ k = ⟨#[98]⟩ ∨ k = ⟨#[98, 98]⟩) (hks : k.size ≤ 10), Calls Tryz.prog 7 #[.int .u8 (f0 : Int), .int .u8 (f1 : Int), .int .u8 (f2 : Int), .bool true] w fun e w' => e = .returned (.bool true) ∧ Below w.heap.size w w' := by
      intro p hp hp3 k hix hk hks
      by_cases hd : (f1 : Int) = 0
      · by_cases ha : 10 + (f0 : Int) < (f2 : Int)
        · exact times_yes_b15 f0 hf0 f1 hf1 f2 hf2 p hp hp3 k hix hk hks hd ha w
        · exact times_yes_d0 f0 hf0 f1 hf1 f2 hf2 p hp hp3 k hix hk hks hd ha w
      · by_cases he : (f1 : Int) < 10 + (f0 : Int)
        · exact times_yes_a14 f0 hf0 f1 hf1 f2 hf2 p hp hp3 k hix hk hks ⟨hd, he⟩ w
        · by_cases ha : 10 + (f0 : Int) < (f2 : Int)
          · exact times_yes_c15 f0 hf0 f1 hf1 f2 hf2 p hp hp3 k hix hk hks hd he ha w
          · exact times_yes_e0 f0 hf0 f1 hf1 f2 hf2 p hp hp3 k hix hk hks hd he ha w
    obtain h0 | h0 | h0 : f0 % 3 = 0 ∨ f0 % 3 = 1 ∨ f0 % 3 = 2 := by omega
    · exact hgo 0 h0 (by decide) ⟨#[97]⟩ rfl (.inl rfl) (by decide)
    · exact hgo 1 h0 (by decide) ⟨#[98]⟩ rfl (.inr (.inl rfl)) (by decide)
    · exact hgo 2 h0 (by decide) ⟨#[98, 98]⟩ rfl (.inr (.inr rfl)) (by decide)

set_option maxRecDepth 100000 in
theorem lifted (os : Os) (started : os.Started) (H : Type) (enc : TypeId × Value → H) :
    ReturnsInHanded {} Tryz.checked os 7 .any (Rows.applyTimesSpec.pre6 enc Tryz.prog Tryz.f7 Rows.applyTimesRow.domain false) (Rows.applyTimesSpec.post enc Tryz.prog Tryz.f7 false true false false) := by
  refine returnsInHanded_of_change (C := Tryz.checked) own started (by kernel_rfl) Tryz.func7
    (ChangeSpec.witness6 (enc := enc) (C := Tryz.checked) false ⟨#[], #[.int .u8 0, .int .u8 0, .int .u8 0, .bool false], []⟩ 8 (by kernel_rfl) (by kernel_rfl) (by kernel_rfl) (by kernel_rfl)) ?_
  intro W base args ds gs before hval0 hW hcnd _
  have hval : ∀ (j : Nat) t v, Tryz.f7.params[j]? = some t → args[j]? = some v → Value.okWide Tryz.prog W .any base t v := hval0
  have hW' := hW
  have hWk := hW
  obtain ⟨p, q, hA0, hV, rfl, hfz, hnd⟩ := hW
  have hA : DataW.TrodAll enc Tryz.prog W 0 (fun _ => true) true Tryz.f7.params.toList args.toList ds p := hA0
  rw [Tryz.params7] at hA hval
  obtain ⟨v0, vs0, d0, ds0, p0, q0, hargs, rfl, rfl, h0, rt0⟩ := trodAll_cons hA
  obtain ⟨v1, vs1, d1, ds1, p1, q1, rfl, rfl, rfl, h1, rt1⟩ := trodAll_cons rt0
  obtain ⟨v2, vs2, d2, ds2, p2, q2, rfl, rfl, rfl, h2, rt2⟩ := trodAll_cons rt1
  obtain ⟨v3, vs3, d3, ds3, p3, q3, rfl, rfl, rfl, h3, rt3⟩ := trodAll_cons rt2
  obtain ⟨rfl, rfl, rfl⟩ := trodAll_nil rt3
  obtain rfl : args = #[v0, v1, v2, v3] := by cases args; simp_all
  obtain ⟨rfl, rfl⟩ := trodVars_none hV
  obtain ⟨g0, rfl, rfl, rfl, wf0⟩ := open_int Tryz.underlying5 (hval 0 5 v0 rfl rfl) h0
  have bf0 := bounds_u8 wf0
  obtain ⟨f0, rfl⟩ := Int.eq_ofNat_of_zero_le bf0.1
  obtain ⟨g1, rfl, rfl, rfl, wf1⟩ := open_int Tryz.underlying5 (hval 1 5 v1 rfl rfl) h1
  have bf1 := bounds_u8 wf1
  obtain ⟨f1, rfl⟩ := Int.eq_ofNat_of_zero_le bf1.1
  obtain ⟨g2, rfl, rfl, rfl, wf2⟩ := open_int Tryz.underlying5 (hval 2 5 v2 rfl rfl) h2
  have bf2 := bounds_u8 wf2
  obtain ⟨f2, rfl⟩ := Int.eq_ofNat_of_zero_le bf2.1
  obtain ⟨b3, rfl, rfl, rfl⟩ := open_bool Tryz.underlying4 (hval 3 4 v3 rfl rfl) h3
  clear hA0 hval0
  simp only [List.append_nil] at hW'

  refine (walk f0 (by omega) f1 (by omega) f2 (by omega) b3 W).mono fun e W' ⟨he, hg⟩ => ?_
  subst he
  exact ⟨_, rfl, _, _, _, [], _, [], hW', trodAll_cons_mk (shut_bool Tryz.underlying4 _) trodAll_mk0, (trodAll_cons_mk (shut_int Tryz.underlying5 wf0) (trodAll_cons_mk (shut_int Tryz.underlying5 wf1) (trodAll_cons_mk (shut_int Tryz.underlying5 wf2) (trodAll_cons_mk (shut_bool Tryz.underlying4 b3) trodAll_mk0)))), rfl, hg.frame _, fun h => by cases h⟩

theorem over : Rows.applyTimesRow.holds Tryz.pinned (OpenSpec.ofChange Rows.applyTimesSpec) :=
  OpenClaim.holds_of_wide 7 Tryz.f7 rfl rfl rfl rfl rfl rfl rfl ⟨rfl, rfl, rfl, rfl, rfl⟩ rfl rfl rfl rfl rfl (by kernel_rfl) Tryz.func7 (by kernel_rfl)
    (of_decide_eq_true (by kernel_rfl)) (by unfold Func.isWrapper; first | (rw [if_pos (by decide +kernel)]; kernel_rfl) | (rw [if_neg (by decide +kernel)]; exact ⟨rfl, rfl⟩))
    (fun os started H enc _ => lifted os started H enc)

theorem proved : Rows.ApplyTimesSaid :=
  over
#print axioms proved
end Go.Proofs.YtclliljkmmpglaaGreat.applyTimes
