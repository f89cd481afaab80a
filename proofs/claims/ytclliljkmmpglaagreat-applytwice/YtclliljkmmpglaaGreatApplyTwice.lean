/-
  Proved: for every command and list of small numbers, the law ApplyTwice returns true: what a client says twice is done once, and answered alike; what it said ahead of that is refused (14.2); and the document's example holds; the arguments stay as they were.
-/
import Derived.Test.YtclliljkmmpglaaGreatRows
import Derived.Test.YtclliljkmmpglaaGreatApZ
import Derived.Test.YtclliljkmmpglaaGreatCGreat
import Derived.WalkKit
import Derived.ProofKit
import Derived.OpenShut
import Derived.ShutString
import Derived.Lib.SmallJoins
namespace Go.Proofs.YtclliljkmmpglaaGreat.applyTwice
open Go.ChangeShapes Go.WideShapes Go.ChangeAt Go.RowKit Go.Joins Num
open Go.ChangeMaps (open_string shut_string)
set_option linter.unusedVariables false
set_option maxRecDepth 100000

theorem own : ownKnob Tryz.prog.godebug = none := by kernel_rfl

open scoped Classical
open Go.Maps
set_option maxRecDepth 100000
set_option maxHeartbeats 2000000
theorem tw_a (c0 : Cmd) (hin0 : CmdIn c0) (s0 : Cs) (ao1 : Option Addr) (cap1 : Nat) (l1 : List Nat) (q : ¬ SmallC c0) (w : World) (hl0 : LiesC w w.heap.size s0 c0) (hl1 : LiesU w w.heap.size ao1 l1) :
    Calls Tryz.prog 6 #[cmV s0 c0, .slice ao1 l1.length cap1] w fun e w' => e = .returned (.bool true) ∧ Below w.heap.size w w' := by
  have hg : ∀ w, LiesC w w.heap.size s0 c0 → Calls Tryz.prog 26 #[cmV s0 c0] w fun e w' => e = .returned (.bool true) ∧ Below w.heap.size w w' := fun w h => by
    have := great_any c0 s0 w h
    rw [tru_yes q] at this
    exact this
  have hbx := heap_new w (cmCells s0 c0)
  have hla := liesC_alloc hl0 (cmCells s0 c0)
  obtain ⟨k0, k1, k2, k3, k4, k5, k6, k7, k8, k9, k10, k11, k12⟩ := cm_cells hbx
  go_enter Tryz.func6, Tryz.ntmps6
  go_wp2_with (first
    | (go_at_call 26; refine (hg _ hla).mono ?_; rintro e w1 ⟨rfl, hb1⟩; have b1 := below_box hb1 hbx; clear k0 k1 k2 k3 k4 k5 k6 k7 k8 k9 k10 k11 k12; obtain ⟨k0, k1, k2, k3, k4, k5, k6, k7, k8, k9, k10, k11, k12⟩ := cm_cells b1; have hla1 := liesC_next hla hb1)
    | (go_at_call 10; refine (awake14 _).mono ?_; rintro e w9 ⟨rfl, hb9⟩))
  go_ret
  exact ⟨rfl, below_next (below_box0 hb1) (Nat.le_refl _) hb9⟩
theorem tw_b (c0 : Cmd) (hin0 : CmdIn c0) (s0 : Cs) (ao1 : Option Addr) (cap1 : Nat) (l1 : List Nat) (q : SmallC c0) (hok : ¬ CmdOk c0) (w : World) (hl0 : LiesC w w.heap.size s0 c0) (hl1 : LiesU w w.heap.size ao1 l1) :
    Calls Tryz.prog 6 #[cmV s0 c0, .slice ao1 l1.length cap1] w fun e w' => e = .returned (.bool true) ∧ Below w.heap.size w w' := by
  have hg : ∀ w, LiesC w w.heap.size s0 c0 → Calls Tryz.prog 26 #[cmV s0 c0] w fun e w' => e = .returned (.bool false) ∧ Below w.heap.size w w' := fun w h => by
    have := great_any c0 s0 w h
    rw [tru_no (fun h => h q)] at this
    exact this
  have hm : ∀ w, LiesC w w.heap.size s0 c0 → Calls Tryz.prog 27 #[cmV s0 c0] w fun e w' => e = .returned (.bool false) ∧ Below w.heap.size w w' := fun w h => by
    have := refMay_cmd c0 hin0 s0 w h
    rw [tru_no hok] at this
    exact this
  have hbx := heap_new w (cmCells s0 c0)
  have hla := liesC_alloc hl0 (cmCells s0 c0)
  obtain ⟨k0, k1, k2, k3, k4, k5, k6, k7, k8, k9, k10, k11, k12⟩ := cm_cells hbx
  go_enter Tryz.func6, Tryz.ntmps6
  go_wp2_with (first
    | (go_at_call 26; refine (hg _ hla).mono ?_; rintro e w1 ⟨rfl, hb1⟩; have b1 := below_box hb1 hbx; clear k0 k1 k2 k3 k4 k5 k6 k7 k8 k9 k10 k11 k12; obtain ⟨k0, k1, k2, k3, k4, k5, k6, k7, k8, k9, k10, k11, k12⟩ := cm_cells b1; have hla1 := liesC_next hla hb1)
    | (go_at_call 27; refine (hm w1 hla1).mono ?_; rintro e w2 ⟨rfl, hb2⟩; have b2 := below_box hb2 b1; clear k0 k1 k2 k3 k4 k5 k6 k7 k8 k9 k10 k11 k12; obtain ⟨k0, k1, k2, k3, k4, k5, k6, k7, k8, k9, k10, k11, k12⟩ := cm_cells b2; have hla2 := liesC_next hla1 hb2)
    | (go_at_call 10; refine (awake14 _).mono ?_; rintro e w9 ⟨rfl, hb9⟩))
  go_ret
  exact ⟨rfl, below_next (below_next (below_box0 hb1) (Nat.le_refl _) hb2) (Nat.le_refl _) hb9⟩
theorem tw_c (c0 : Cmd) (hin0 : CmdIn c0) (s0 : Cs) (ao1 : Option Addr) (cap1 : Nat) (l1 : List Nat) (q : SmallC c0) (hok : CmdOk c0) (hx : c0.client < 1) (w : World) (hl0 : LiesC w w.heap.size s0 c0) (hl1 : LiesU w w.heap.size ao1 l1) :
    Calls Tryz.prog 6 #[cmV s0 c0, .slice ao1 l1.length cap1] w fun e w' => e = .returned (.bool true) ∧ Below w.heap.size w w' := by
  have hg : ∀ w, LiesC w w.heap.size s0 c0 → Calls Tryz.prog 26 #[cmV s0 c0] w fun e w' => e = .returned (.bool false) ∧ Below w.heap.size w w' := fun w h => by
    have := great_any c0 s0 w h
    rw [tru_no (fun h => h q)] at this
    exact this
  have hm : ∀ w, LiesC w w.heap.size s0 c0 → Calls Tryz.prog 27 #[cmV s0 c0] w fun e w' => e = .returned (.bool true) ∧ Below w.heap.size w w' := fun w h => by
    have := refMay_cmd c0 hin0 s0 w h
    rw [tru_yes hok] at this
    exact this
  have hbx := heap_new w (cmCells s0 c0)
  have hla := liesC_alloc hl0 (cmCells s0 c0)
  obtain ⟨k0, k1, k2, k3, k4, k5, k6, k7, k8, k9, k10, k11, k12⟩ := cm_cells hbx
  have z1 : decide (c0.client < 1) = true := decide_eq_true hx
  go_enter Tryz.func6, Tryz.ntmps6
  go_wp2_with (first
    | (go_at_call 26; refine (hg _ hla).mono ?_; rintro e w1 ⟨rfl, hb1⟩; have b1 := below_box hb1 hbx; clear k0 k1 k2 k3 k4 k5 k6 k7 k8 k9 k10 k11 k12; obtain ⟨k0, k1, k2, k3, k4, k5, k6, k7, k8, k9, k10, k11, k12⟩ := cm_cells b1; have hla1 := liesC_next hla hb1)
    | (go_at_call 27; refine (hm w1 hla1).mono ?_; rintro e w2 ⟨rfl, hb2⟩; have b2 := below_box hb2 b1; clear k0 k1 k2 k3 k4 k5 k6 k7 k8 k9 k10 k11 k12; obtain ⟨k0, k1, k2, k3, k4, k5, k6, k7, k8, k9, k10, k11, k12⟩ := cm_cells b2; have hla2 := liesC_next hla1 hb2)
    | (go_at_call 10; refine (awake14 _).mono ?_; rintro e w9 ⟨rfl, hb9⟩))
  go_ret
  exact ⟨rfl, below_next (below_next (below_box0 hb1) (Nat.le_refl _) hb2) (Nat.le_refl _) hb9⟩
theorem tw_d (c0 : Cmd) (hin0 : CmdIn c0) (s0 : Cs) (ao1 : Option Addr) (cap1 : Nat) (l1 : List Nat) (q : SmallC c0) (hok : CmdOk c0) (hy : ¬ c0.client < 1) (hx : c0.kind = 0) (w : World) (hl0 : LiesC w w.heap.size s0 c0) (hl1 : LiesU w w.heap.size ao1 l1) :
    Calls Tryz.prog 6 #[cmV s0 c0, .slice ao1 l1.length cap1] w fun e w' => e = .returned (.bool true) ∧ Below w.heap.size w w' := by
  have hg : ∀ w, LiesC w w.heap.size s0 c0 → Calls Tryz.prog 26 #[cmV s0 c0] w fun e w' => e = .returned (.bool false) ∧ Below w.heap.size w w' := fun w h => by
    have := great_any c0 s0 w h
    rw [tru_no (fun h => h q)] at this
    exact this
  have hm : ∀ w, LiesC w w.heap.size s0 c0 → Calls Tryz.prog 27 #[cmV s0 c0] w fun e w' => e = .returned (.bool true) ∧ Below w.heap.size w w' := fun w h => by
    have := refMay_cmd c0 hin0 s0 w h
    rw [tru_yes hok] at this
    exact this
  have hbx := heap_new w (cmCells s0 c0)
  have hla := liesC_alloc hl0 (cmCells s0 c0)
  obtain ⟨k0, k1, k2, k3, k4, k5, k6, k7, k8, k9, k10, k11, k12⟩ := cm_cells hbx
  have z1 : decide (c0.client < 1) = false := decide_eq_false hy
  have z2 : (c0.kind == 0) = true := by simp [hx]
  clear hx
  go_enter Tryz.func6, Tryz.ntmps6
  go_wp2_with (first
    | (go_at_call 26; refine (hg _ hla).mono ?_; rintro e w1 ⟨rfl, hb1⟩; have b1 := below_box hb1 hbx; clear k0 k1 k2 k3 k4 k5 k6 k7 k8 k9 k10 k11 k12; obtain ⟨k0, k1, k2, k3, k4, k5, k6, k7, k8, k9, k10, k11, k12⟩ := cm_cells b1; have hla1 := liesC_next hla hb1)
    | (go_at_call 27; refine (hm w1 hla1).mono ?_; rintro e w2 ⟨rfl, hb2⟩; have b2 := below_box hb2 b1; clear k0 k1 k2 k3 k4 k5 k6 k7 k8 k9 k10 k11 k12; obtain ⟨k0, k1, k2, k3, k4, k5, k6, k7, k8, k9, k10, k11, k12⟩ := cm_cells b2; have hla2 := liesC_next hla1 hb2)
    | (go_at_call 10; refine (awake14 _).mono ?_; rintro e w9 ⟨rfl, hb9⟩))
  go_ret
  exact ⟨rfl, below_next (below_next (below_box0 hb1) (Nat.le_refl _) hb2) (Nat.le_refl _) hb9⟩
theorem tw_e (c0 : Cmd) (hin0 : CmdIn c0) (s0 : Cs) (ao1 : Option Addr) (cap1 : Nat) (l1 : List Nat) (q : SmallC c0) (hok : CmdOk c0) (hy : ¬ c0.client < 1) (hz : ¬ c0.kind = 0) (hx : c0.seq < 1) (w : World) (hl0 : LiesC w w.heap.size s0 c0) (hl1 : LiesU w w.heap.size ao1 l1) :
    Calls Tryz.prog 6 #[cmV s0 c0, .slice ao1 l1.length cap1] w fun e w' => e = .returned (.bool true) ∧ Below w.heap.size w w' := by
  have hg : ∀ w, LiesC w w.heap.size s0 c0 → Calls Tryz.prog 26 #[cmV s0 c0] w fun e w' => e = .returned (.bool false) ∧ Below w.heap.size w w' := fun w h => by
    have := great_any c0 s0 w h
    rw [tru_no (fun h => h q)] at this
    exact this
  have hm : ∀ w, LiesC w w.heap.size s0 c0 → Calls Tryz.prog 27 #[cmV s0 c0] w fun e w' => e = .returned (.bool true) ∧ Below w.heap.size w w' := fun w h => by
    have := refMay_cmd c0 hin0 s0 w h
    rw [tru_yes hok] at this
    exact this
  have hbx := heap_new w (cmCells s0 c0)
  have hla := liesC_alloc hl0 (cmCells s0 c0)
  obtain ⟨k0, k1, k2, k3, k4, k5, k6, k7, k8, k9, k10, k11, k12⟩ := cm_cells hbx
  have z1 : decide (c0.client < 1) = false := decide_eq_false hy
  have z2 : (c0.kind == 0) = false := by simp [hz]
  have z3 : decide (c0.seq < 1) = true := decide_eq_true hx
  go_enter Tryz.func6, Tryz.ntmps6
  go_wp2_with (first
    | (go_at_call 26; refine (hg _ hla).mono ?_; rintro e w1 ⟨rfl, hb1⟩; have b1 := below_box hb1 hbx; clear k0 k1 k2 k3 k4 k5 k6 k7 k8 k9 k10 k11 k12; obtain ⟨k0, k1, k2, k3, k4, k5, k6, k7, k8, k9, k10, k11, k12⟩ := cm_cells b1; have hla1 := liesC_next hla hb1)
    | (go_at_call 27; refine (hm w1 hla1).mono ?_; rintro e w2 ⟨rfl, hb2⟩; have b2 := below_box hb2 b1; clear k0 k1 k2 k3 k4 k5 k6 k7 k8 k9 k10 k11 k12; obtain ⟨k0, k1, k2, k3, k4, k5, k6, k7, k8, k9, k10, k11, k12⟩ := cm_cells b2; have hla2 := liesC_next hla1 hb2)
    | (go_at_call 10; refine (awake14 _).mono ?_; rintro e w9 ⟨rfl, hb9⟩))
  go_ret
  exact ⟨rfl, below_next (below_next (below_box0 hb1) (Nat.le_refl _) hb2) (Nat.le_refl _) hb9⟩
theorem tw_f (c0 : Cmd) (hin0 : CmdIn c0) (s0 : Cs) (ao1 : Option Addr) (cap1 : Nat) (l1 : List Nat) (q : SmallC c0) (hok : CmdOk c0) (hy : ¬ c0.client < 1) (hz : ¬ c0.kind = 0) (hs : ¬ c0.seq < 1) (hx : 20 < (l1.length : Int)) (w : World) (hl0 : LiesC w w.heap.size s0 c0) (hl1 : LiesU w w.heap.size ao1 l1) :
    Calls Tryz.prog 6 #[cmV s0 c0, .slice ao1 l1.length cap1] w fun e w' => e = .returned (.bool true) ∧ Below w.heap.size w w' := by
  have hg : ∀ w, LiesC w w.heap.size s0 c0 → Calls Tryz.prog 26 #[cmV s0 c0] w fun e w' => e = .returned (.bool false) ∧ Below w.heap.size w w' := fun w h => by
    have := great_any c0 s0 w h
    rw [tru_no (fun h => h q)] at this
    exact this
  have hm : ∀ w, LiesC w w.heap.size s0 c0 → Calls Tryz.prog 27 #[cmV s0 c0] w fun e w' => e = .returned (.bool true) ∧ Below w.heap.size w w' := fun w h => by
    have := refMay_cmd c0 hin0 s0 w h
    rw [tru_yes hok] at this
    exact this
  have hbx := heap_new w (cmCells s0 c0)
  have hla := liesC_alloc hl0 (cmCells s0 c0)
  obtain ⟨k0, k1, k2, k3, k4, k5, k6, k7, k8, k9, k10, k11, k12⟩ := cm_cells hbx
  have z1 : decide (c0.client < 1) = false := decide_eq_false hy
  have z2 : (c0.kind == 0) = false := by simp [hz]
  have z3 : decide (c0.seq < 1) = false := decide_eq_false hs
  have z4 : decide (20 < (l1.length : Int)) = true := decide_eq_true hx
  go_enter Tryz.func6, Tryz.ntmps6
  go_wp2_with (first
    | (go_at_call 26; refine (hg _ hla).mono ?_; rintro e w1 ⟨rfl, hb1⟩; have b1 := below_box hb1 hbx; clear k0 k1 k2 k3 k4 k5 k6 k7 k8 k9 k10 k11 k12; obtain ⟨k0, k1, k2, k3, k4, k5, k6, k7, k8, k9, k10, k11, k12⟩ := cm_cells b1; have hla1 := liesC_next hla hb1)
    | (go_at_call 27; refine (hm w1 hla1).mono ?_; rintro e w2 ⟨rfl, hb2⟩; have b2 := below_box hb2 b1; clear k0 k1 k2 k3 k4 k5 k6 k7 k8 k9 k10 k11 k12; obtain ⟨k0, k1, k2, k3, k4, k5, k6, k7, k8, k9, k10, k11, k12⟩ := cm_cells b2; have hla2 := liesC_next hla1 hb2)
    | (go_at_call 10; refine (awake14 _).mono ?_; rintro e w9 ⟨rfl, hb9⟩))
  go_ret
  exact ⟨rfl, below_next (below_next (below_box0 hb1) (Nat.le_refl _) hb2) (Nat.le_refl _) hb9⟩
theorem tw_g (c0 : Cmd) (hin0 : CmdIn c0) (s0 : Cs) (ao1 : Option Addr) (cap1 : Nat) (l1 : List Nat) (q : SmallC c0) (hok : CmdOk c0) (hy : ¬ c0.client < 1) (hz : ¬ c0.kind = 0) (hs : ¬ c0.seq < 1) (hx : ¬ 20 < (l1.length : Int)) (hlen : ¬ (cmdB c0).length ≤ 19996) (w : World) (hl0 : LiesC w w.heap.size s0 c0) (hl1 : LiesU w w.heap.size ao1 l1) :
    Calls Tryz.prog 6 #[cmV s0 c0, .slice ao1 l1.length cap1] w fun e w' => e = .returned (.bool true) ∧ Below w.heap.size w w' := by
  have hg : ∀ w, LiesC w w.heap.size s0 c0 → Calls Tryz.prog 26 #[cmV s0 c0] w fun e w' => e = .returned (.bool false) ∧ Below w.heap.size w w' := fun w h => by
    have := great_any c0 s0 w h
    rw [tru_no (fun h => h q)] at this
    exact this
  have hm : ∀ w, LiesC w w.heap.size s0 c0 → Calls Tryz.prog 27 #[cmV s0 c0] w fun e w' => e = .returned (.bool true) ∧ Below w.heap.size w w' := fun w h => by
    have := refMay_cmd c0 hin0 s0 w h
    rw [tru_yes hok] at this
    exact this
  have hbx := heap_new w (cmCells s0 c0)
  have hla := liesC_alloc hl0 (cmCells s0 c0)
  obtain ⟨k0, k1, k2, k3, k4, k5, k6, k7, k8, k9, k10, k11, k12⟩ := cm_cells hbx
  have z1 : decide (c0.client < 1) = false := decide_eq_false hy
  have z2 : (c0.kind == 0) = false := by simp [hz]
  have z3 : decide (c0.seq < 1) = false := decide_eq_false hs
  have z4 : decide (20 < (l1.length : Int)) = false := decide_eq_false hx
  have hput : ∀ w, LiesC w w.heap.size s0 c0 → Calls Tryz.prog 29 #[cmV s0 c0] w fun e w' => e = .returned (.tuple #[.string ⟨#[]⟩, .int .i64 2]) ∧ Below w.heap.size w w' := fun w h => by
    have h9 := cmd_len hok q
    have := refPut_yes c0 hok hin0 (by omega) s0 w h
    rw [show putR c0 = _ from if_neg hlen] at this
    exact this
  go_enter Tryz.func6, Tryz.ntmps6
  go_wp2_with (first
    | (go_at_call 26; refine (hg _ hla).mono ?_; rintro e w1 ⟨rfl, hb1⟩; have b1 := below_box hb1 hbx; clear k0 k1 k2 k3 k4 k5 k6 k7 k8 k9 k10 k11 k12; obtain ⟨k0, k1, k2, k3, k4, k5, k6, k7, k8, k9, k10, k11, k12⟩ := cm_cells b1; have hla1 := liesC_next hla hb1)
    | (go_at_call 27; refine (hm w1 hla1).mono ?_; rintro e w2 ⟨rfl, hb2⟩; have b2 := below_box hb2 b1; clear k0 k1 k2 k3 k4 k5 k6 k7 k8 k9 k10 k11 k12; obtain ⟨k0, k1, k2, k3, k4, k5, k6, k7, k8, k9, k10, k11, k12⟩ := cm_cells b2; have hla2 := liesC_next hla1 hb2)
    | (go_at_call 29; refine (hput w2 hla2).mono ?_; rintro e w3 ⟨rfl, hb3⟩; have b3 := below_box hb3 b2; have hla3 := liesC_next hla2 hb3)
    | (go_at_call 10; refine (awake14 _).mono ?_; rintro e w9 ⟨rfl, hb9⟩))
  go_ret
  exact ⟨rfl, below_next (below_next (below_next (below_box0 hb1) (Nat.le_refl _) hb2) (Nat.le_refl _) hb3) (Nat.le_refl _) hb9⟩
theorem tw_h (c0 : Cmd) (hin0 : CmdIn c0) (s0 : Cs) (ao1 : Option Addr) (cap1 : Nat) (l1 : List Nat) (q : SmallC c0) (hok : CmdOk c0) (hy : ¬ c0.client < 1) (hz : ¬ c0.kind = 0) (hs : ¬ c0.seq < 1) (hx : ¬ 20 < (l1.length : Int)) (hlen : (cmdB c0).length ≤ 19996) (w : World) (hl0 : LiesC w w.heap.size s0 c0) (hl1 : LiesU w w.heap.size ao1 l1) :
    Calls Tryz.prog 6 #[cmV s0 c0, .slice ao1 l1.length cap1] w fun e w' => e = .returned (.bool true) ∧ Below w.heap.size w w' := by
  have hg : ∀ w, LiesC w w.heap.size s0 c0 → Calls Tryz.prog 26 #[cmV s0 c0] w fun e w' => e = .returned (.bool false) ∧ Below w.heap.size w w' := fun w h => by
    have := great_any c0 s0 w h
    rw [tru_no (fun h => h q)] at this
    exact this
  have hm : ∀ w, LiesC w w.heap.size s0 c0 → Calls Tryz.prog 27 #[cmV s0 c0] w fun e w' => e = .returned (.bool true) ∧ Below w.heap.size w w' := fun w h => by
    have := refMay_cmd c0 hin0 s0 w h
    rw [tru_yes hok] at this
    exact this
  have hbx := heap_new w (cmCells s0 c0)
  have hla := liesC_alloc hl0 (cmCells s0 c0)
  obtain ⟨k0, k1, k2, k3, k4, k5, k6, k7, k8, k9, k10, k11, k12⟩ := cm_cells hbx
  have z1 : decide (c0.client < 1) = false := decide_eq_false hy
  have z2 : (c0.kind == 0) = false := by simp [hz]
  have z3 : decide (c0.seq < 1) = false := decide_eq_false hs
  have z4 : decide (20 < (l1.length : Int)) = false := decide_eq_false hx
  have hput : ∀ w, LiesC w w.heap.size s0 c0 → Calls Tryz.prog 29 #[cmV s0 c0] w fun e w' => e = .returned (.tuple #[.string (bytesC c0), .int .i64 0]) ∧ Below w.heap.size w w' := fun w h => by
    have := refPut_yes c0 hok hin0 (by omega) s0 w h
    rw [show putR c0 = _ from if_pos hlen] at this
    exact this
  have hne : (bytesC c0).toList.isEmpty = false := by
    rw [Lib.toList_data]
    show (sealL (cmdB c0)).isEmpty = false
    cases h : sealL (cmdB c0) with
    | nil =>
      have h2 : (sealL (cmdB c0)).length = (cmdB c0).length + 4 := by simp [sealL, be4]
      rw [h] at h2
      simp at h2
    | cons a l => rfl
  obtain ⟨T1, hlast, hlim1, hd1⟩ := tw_begin (c := c0) (by omega) hz
  obtain ⟨m1, hm1⟩ : ∃ m, nextM (newM 500) 5 c0 0 = m := ⟨_, rfl⟩
  obtain ⟨P, hP⟩ : ∃ P, codeV (newM 500) 5 c0 = P := ⟨_, rfl⟩
  have hP6 : P ≠ 6 := by rw [← hP]; exact code_six _ _ _
  rw [hm1] at T1 hlast hlim1
  rw [hP] at T1 hlast hd1
  have hdo1 : ∀ B W g gs, HoldM B W g (newM 500) gs none 0 (.map none) → Calls Tryz.prog 15 #[.pointer (some ⟨g, 0, none⟩), enV 5 (bytesC c0)] W fun e w' => e = .returned (.agg #[.int .i64 c0.client, .int .i64 c0.seq, .int .i64 5, .int .i64 P]) ∧ (∃ ao' cap' lv', HoldM B w' g m1 gs ao' cap' lv') ∧ TurnA B none W w' := fun B W g gs h => by
    have := do_any B g gs 0 (newM 500) none (.map none) 5 (bytesC c0) c0 0 (one_get hok hin0 hlen) (by simp [newM]) (by simp [newM]) W h
    rw [hd1, hm1] at this
    refine this.mono ?_
    rintro e w' ⟨h1, ⟨ao', cap', lv', h2, _⟩, h3⟩
    exact ⟨h1, ⟨ao', cap', lv', h2⟩, h3⟩
  have HT1 : Hid _ := T1
  have HLA : Hid _ := hlast
  have HLI : Hid _ := hlim1
  clear T1 hlast hlim1 hd1 hm1 hP
  go_enter Tryz.func6, Tryz.ntmps6
  go_wp2_with (first
    | (go_at_call 26; refine (hg _ hla).mono ?_; rintro e w1 ⟨rfl, hb1⟩; have b1 := below_box hb1 hbx; clear k0 k1 k2 k3 k4 k5 k6 k7 k8 k9 k10 k11 k12; obtain ⟨k0, k1, k2, k3, k4, k5, k6, k7, k8, k9, k10, k11, k12⟩ := cm_cells b1; have hla1 := liesC_next hla hb1)
    | (go_at_call 27; refine (hm w1 hla1).mono ?_; rintro e w2 ⟨rfl, hb2⟩; have b2 := below_box hb2 b1; clear k0 k1 k2 k3 k4 k5 k6 k7 k8 k9 k10 k11 k12; obtain ⟨k0, k1, k2, k3, k4, k5, k6, k7, k8, k9, k10, k11, k12⟩ := cm_cells b2; have hla2 := liesC_next hla1 hb2)
    | (go_at_call 29; refine (hput w2 hla2).mono ?_; rintro e w3 ⟨rfl, hb3⟩; have b3 := below_box hb3 b2; have HB3 : Hid (Below w.heap.size w w3) := below_next (below_next (below_box0 hb1) (Nat.le_refl _) hb2) (Nat.le_refl _) hb3)
    | (go_at_call 11; refine (anew_yes 500 (by decide) (by decide) _).mono ?_; rintro e w4 ⟨g, gs, rfl, hM4, hb4⟩; have HM4 : Hid _ := hM4; clear hM4)
    | (go_at_call 13; refine (num_any14 _ _).mono ?_; rintro e wn ⟨rfl, hq⟩; have hq2 := hq.symm; clear hq; subst hq2)
    | (go_at_call 15; refine (hdo1 _ w4 g gs HM4.out).mono ?_; rintro e w5 ⟨rfl, ⟨ao5, cap5, lv5, hM5⟩, hT5⟩
       have hb5 : Below w.heap.size w w5 := (below_next HB3.out (Nat.le_refl _) hb4).trans (hT5.below.mono HB3.out.size)
       have HB5 : Hid _ := hb5.alloc hb5.size (dnBox ⟨c0.client, c0.seq, 5, P⟩)
       have HC5 : Hid _ := alloc_box (dnBox ⟨c0.client, c0.seq, 5, P⟩) (hT5.keep _ _ (below_box hb4 b3) ⟨by decide, by decide, by decide, by decide⟩)
       have HA5 : Hid _ := heap_new w5 (dnBox ⟨c0.client, c0.seq, 5, P⟩)
       have HR5 : Hid (some w5.heap.size ≠ (Value.slice ao5 m1.dones.length cap5).ownBlock) := own_old hM5 (Nat.le_refl _)
       have hM5' := hM5.below ((Below.refl _ w5).alloc (Nat.le_refl _) (dnBox ⟨c0.client, c0.seq, 5, P⟩))
       have hstor := astore_any _ _ _ _ _ _ _ _ hM5'
       obtain ⟨r, hr⟩ := scan_ex hM5'.sto 5 ⟨#[]⟩ ⟨#[]⟩
       have hscan := sscan_any _ gs _ 5 ⟨#[]⟩ ⟨#[]⟩ 1000 (Nat.le_trans hM5'.few (by decide)) _ hM5'.sto r hr
       have HM5 : Hid _ := hM5'
       have HR : Hid _ := hr
       clear hM5 hM5' hT5 hb5 hr HM4 b3 hdo1)
    | (go_at_call 20; refine hstor.mono ?_; rintro e wn ⟨rfl, hq⟩; have hq2 := hq.symm; clear hq; subst hq2)
    | (go_at_call 22; refine hscan.mono ?_; rintro e w6 ⟨ao6, cap6, rfl, hO6, hb6⟩; have HO6 : Hid _ := hO6; have HB6 : Hid _ := hb6; clear hO6 hb6 hstor hscan))
  have hs1 : c0.seq ≤ 1099511627776 := hok.nums.seq.2
  have hs0 : 1 ≤ c0.seq := by omega
  have HV5 : Hid (∀ v ∈ m1.st.vs, v.time ≤ 5) := fun v hv => by
    have h1 := (HM5.out.sto.inv.2.1 v hv).2
    have h2 := HM5.out.time.1
    have h3 := HT1.out.time
    omega
  have HBS : Hid (w.heap.size ≤ w3.heap.size) := HB3.out.size
  obtain ⟨R, hRR⟩ : ∃ R, r.take (Int.toNat 1000) = R := ⟨_, rfl⟩
  rw [hRR] at HO6
  have hRL : min 1000 r.length = R.length := by rw [← hRR]; simp
  simp only [hRL]
  go_loopw [9, 12] (fun tv iv wr => ∃ (k : Nat) (T : Int) (m : Mac) (ao : Option Addr) (cap : Nat) (lv : Value), k ≤ l1.length ∧ iv = .int .i64 (k : Int) ∧ tv = .int .i64 T ∧ Hid ((5 ≤ T ∧ T ≤ 5 + 300 * (k : Int)) ∧ TwM m m1 T ⟨c0.client, c0.seq, 5, P⟩ (1 + 2 * k)) ∧ Hid (HoldM w3.heap.size wr g m gs ao cap lv ∧ some w5.heap.size ≠ (Value.slice ao m.dones.length cap).ownBlock) ∧ Hid (wr.heap[w5.heap.size]? = some (dnBox ⟨c0.client, c0.seq, 5, P⟩)) ∧ Hid (wr.heap[w.heap.size]? = some (cmCells s0 c0)) ∧ Hid (∃ C, wr.ownsRow C 124 2 (.slice ao6 R.length cap6) R.length (prCells R)) ∧ Hid (Below w.heap.size w wr)) (fun _ i _ => l1.length - (intOf i).toNat)
  case atStart => exact ⟨0, 5, m1, ao5, cap5, lv5, by omega, rfl, rfl, ⟨⟨by omega, by simp⟩, HT1.out⟩, ⟨HM5.out.below HB6.out, HR5.out⟩, below_box HB6.out HA5.out, below_box HB6.out HC5.out, ⟨_, HO6.out⟩, below_next HB5.out (Nat.le_refl _) HB6.out⟩
  case round =>
    clear hg hm hbx hla hput hb1 hb2 hb3 b1 b2 hla1 hla2 HB3 HB5 HC5 HA5 HR5 HM5 HO6 HB6 hb4 HT1 k0 k1 k2 k3 k4 k5 k6 k7 k8 k9 k10 k11 k12
    obtain ⟨k, T, m, ao, cap, lv, hk, rfl, rfl, HT, HM, HA, HC, HO, HB⟩ := hrel
    by_cases hkl : k < l1.length
    · have HX : Hid (l1[k]? = some (l1[k]'hkl)) := List.getElem?_eq_getElem hkl
      obtain ⟨a, rfl, hblk, e9⟩ := (hl1.below U8At.fast HB.out) k _ HX.out
      rw [Nat.mul_one] at e9
      have e0 : wr.cell? (a.add k) = some (.int .u8 ((l1[k]'hkl : Nat) : Int)) := e9.1
      have hx8 := e9.2
      clear e9
      generalize (l1[k]'hkl) = x at *
      have hT5 := HT.out.1
      have hkk : (k : Int) ≤ 20 := by omega
      have hA5lt := (Array.getElem?_eq_some_iff.1 HA.out).1
      have hdoB := twDo w3.heap.size g gs cap m m1 ao lv T (T + 1 + (x : Int)) _ _ c0 c0.seq P P HT.out.2 (by omega) HLI.out ⟨by omega, by omega⟩ HLA.out (tw_same _ _) hok hin0 hlen wr HM.out.1
      have hentX : ∀ W, Below w.heap.size w W → Calls Tryz.prog 28 #[.int .i64 (T + 1 + (x : Int) + 1), cmV s0 (lessC c0)] W fun e w' => e = .returned (enV (T + 1 + (x : Int) + 1) (bytesC (lessC c0))) ∧ Below W.heap.size W w' := fun W hW => entry_any _ s0 (lessC c0) (less_ok hok hs0) hin0 (by rw [less_len]; exact hlen) W (let h := liesC_next hl0 hW; ⟨h.keys, h.rngs, h.wrts, h.rows⟩)
      have z9 : (T + 1 + (x : Int) != T + 1 + (x : Int) + 1 - 1) = false := by simp
      go_wp2_with (first
        | (go_at_call 15; refine hdoB.mono ?_; rintro e w7 ⟨rfl, ⟨m7, ao7, cap7, lv7, tw7, hM7, hno7⟩, hT7⟩
           have c7 := hT7.keep _ _ HC.out ⟨by decide, by decide, by decide, by decide⟩
           have c8 := alloc_box (dnBox ⟨c0.client, c0.seq, T + 1 + (x : Int), P⟩) c7
           obtain ⟨k0, k1, k2, k3, k4, k5, k6, k7, k8, k9, k10, k11, k12⟩ := cm_cells c8
           have j2 := box_cell (alloc_box (cmCells s0 c0) c8) 2 _ rfl
           have HB7 : Hid (Below w.heap.size w w7) := HB.out.trans (hT7.below.mono HBS.out)
           have HB8 : Hid _ := HB7.out.alloc HB7.out.size (dnBox ⟨c0.client, c0.seq, T + 1 + (x : Int), P⟩)
           have HB9 : Hid _ := HB8.out.alloc HB8.out.size (cmCells s0 (lessC c0))
           have HC9 : Hid _ := alloc_box (cmCells s0 (lessC c0)) c8
           have HA9 : Hid _ := alloc_box (cmCells s0 (lessC c0)) (alloc_box (dnBox ⟨c0.client, c0.seq, T + 1 + (x : Int), P⟩) (hT7.row _ _ _ HA.out HM.out.2))
           have HD9 : Hid _ := alloc_box (cmCells s0 (lessC c0)) (heap_new w7 (dnBox ⟨c0.client, c0.seq, T + 1 + (x : Int), P⟩))
           have HRA : Hid _ := hno7 _ hA5lt HM.out.2
           have HRD : Hid (some w7.heap.size ≠ (Value.slice ao7 m7.dones.length cap7).ownBlock) := own_old hM7 (Nat.le_refl _)
           have HO7 : Hid (∃ C, w7.ownsRow C 124 2 (.slice ao6 R.length cap6) R.length (prCells R)) := HO.out.elim fun C h => ⟨C, ownPr_A h hT7⟩
           have HTW7 : Hid _ := tw7
           have HM7 : Hid _ := hM7
           have HLT : Hid (w5.heap.size < w7.heap.size) := Nat.lt_of_lt_of_le hA5lt hT7.below.size
           have hentx := hentX _ HB9.out
           clear c7 c8 tw7 hM7 hno7 hT7 hdoB hentX HT HM HA HC HO HB)
        | (go_at_call 28; refine hentx.mono ?_; rintro e w10 ⟨rfl, hb10⟩
           have HB10 : Hid _ := hb10
           have HM10 : Hid _ := (HM7.out.below (((Below.refl _ w7).alloc (Nat.le_refl _) (dnBox ⟨c0.client, c0.seq, T + 1 + (x : Int), P⟩)).alloc (by simp) (cmCells s0 (lessC c0)))).below hb10
           have hdoX := twDo w3.heap.size g gs cap7 m7 m1 ao7 lv7 (T + 1 + (x : Int)) (T + 1 + (x : Int) + 1) _ _ (lessC c0) c0.seq P 6 HTW7.out (by omega) HLI.out ⟨by omega, by omega⟩ HLA.out (tw_less _ _) (less_ok hok hs0) hin0 (by rw [less_len]; exact hlen) w10 HM10.out
           clear hb10 k0 k1 k2 k3 k4 k5 k6 k7 k8 k9 k10 k11 k12 j2 hentx)
        | (go_at_call 15; refine hdoX.mono ?_; rintro e w11 ⟨rfl, ⟨m11, ao11, cap11, lv11, tw11, hM11, hno11⟩, hT11⟩
           have hsz10 := HB10.out.size
           have u2 := alloc_box (dnBox ⟨(lessC c0).client, (lessC c0).seq, T + 1 + (x : Int) + 1, 6⟩) (hT11.row _ _ _ (below_box HB10.out HD9.out) HRD.out)
           have u3 := alloc_box (dnBox ⟨(lessC c0).client, (lessC c0).seq, T + 1 + (x : Int) + 1, 6⟩) (hT11.row _ _ _ (below_box HB10.out HA9.out) HRA.out)
           have bc := box_cell u2 3 _ rfl
           have bt := box_cell u2 2 _ rfl
           have ac := box_cell u3 3 _ rfl
           have HBE : Hid (Below w.heap.size w w11) := (below_next HB9.out (Nat.le_refl _) HB10.out).trans (hT11.below.mono HBS.out)
           have HRE : Hid _ := hno11 w5.heap.size (by have := HLT.out; simp at hsz10; omega) HRA.out
           have HAE : Hid _ := u3
           have HCE : Hid _ := alloc_box (dnBox ⟨(lessC c0).client, (lessC c0).seq, T + 1 + (x : Int) + 1, 6⟩) (hT11.keep _ _ (below_box HB10.out HC9.out) ⟨by decide, by decide, by decide, by decide⟩)
           have HOE : Hid (∃ C, (w11.alloc (dnBox ⟨(lessC c0).client, (lessC c0).seq, T + 1 + (x : Int) + 1, 6⟩)).ownsRow C 124 2 (.slice ao6 R.length cap6) R.length (prCells R)) := HO7.out.elim fun C h => ⟨C, own_same (ownPr_A (own_same h (fun i cur _ e => below_box HB10.out (alloc_box _ (alloc_box _ e)))) hT11) (fun i cur _ e => alloc_box _ e)⟩
           have HME : Hid _ := hM11.below ((Below.refl _ w11).alloc (Nat.le_refl _) (dnBox ⟨(lessC c0).client, (lessC c0).seq, T + 1 + (x : Int) + 1, 6⟩))
           have HTE : Hid _ := tw11
           clear u2 u3 tw11 hM11 hno11 hT11 hdoX))
      go_roundw
      case rel => exact ⟨k + 1, T + 1 + (x : Int) + 1, m11, ao11, cap11, lv11, by omega, by go_num, rfl, ⟨⟨by omega, by push_cast; omega⟩, HTE.out⟩, ⟨HME.out, HRE.out⟩, HAE.out, HCE.out, HOE.out, HBE.out.alloc HBE.out.size _⟩
      case measure => simp [intOf]; omega
    · obtain ⟨rest, hrest⟩ := HT.out.2.dones
      have hans := answer_first _ g gs cap m ao lv ⟨c0.client, c0.seq, 5, P⟩ rest hrest (by show 1 ≤ c0.client; omega) hP6 wr HM.out.1
      have hT5 := HT.out.1
      have hr2 : ScanIs m.st.vs T ⟨#[]⟩ ⟨#[]⟩ r := by
        rw [HT.out.2.st]
        exact ⟨HR.out.1, fun y => by rw [get_late HV5.out hT5.1]; exact HR.out.2 y⟩
      have HR2 : Hid _ := hr2
      obtain ⟨k0, k1, k2, k3, k4, k5, k6, k7, k8, k9, k10, k11, k12⟩ := cm_cells HC.out
      clear hrest hr2
      go_wp2_with (first
        | (go_at_call 31; refine hans.mono ?_; rintro e w20 ⟨rfl, hb20⟩
           have hA := alloc_box (dnBox ⟨c0.client, c0.seq, 5, P⟩) (below_box hb20 HA.out)
           have x0 := box_cell hA 0 _ rfl
           have x1 := box_cell hA 1 _ rfl
           have x2 := box_cell hA 2 _ rfl
           have x3 := box_cell hA 3 _ rfl
           have hM21 := (HM.out.1.below hb20).below ((Below.refl _ w20).alloc (Nat.le_refl _) (dnBox ⟨c0.client, c0.seq, 5, P⟩))
           have hstor := astore_any _ _ _ _ _ _ _ _ hM21
           have hscan := sscan_any _ gs _ T ⟨#[]⟩ ⟨#[]⟩ 1000 (Nat.le_trans hM21.few (by decide)) _ hM21.sto r HR2.out
           rw [hRR] at hscan
           have HB21 : Hid (Below w.heap.size w (w20.alloc (dnBox ⟨c0.client, c0.seq, 5, P⟩))) := (below_next HB.out (Nat.le_refl _) hb20).alloc (below_next HB.out (Nat.le_refl _) hb20).size _
           have HO21 : Hid (∃ C, (w20.alloc (dnBox ⟨c0.client, c0.seq, 5, P⟩)).ownsRow C 124 2 (.slice ao6 R.length cap6) R.length (prCells R)) := HO.out.elim fun C h => ⟨C, own_same h (fun i cur _ e => alloc_box _ (below_box hb20 e))⟩
           clear hA hM21 hb20 hans k0 k1 k2 k3 k4 k5 k6 k7 k8 k9 k10 k11 k12)
        | (go_at_call 20; refine hstor.mono ?_; rintro e wn ⟨rfl, hq⟩; have hq2 := hq.symm; clear hq; subst hq2)
        | (go_at_call 22; refine hscan.mono ?_; rintro e w22 ⟨ao22, cap22, rfl, hO22, hb22⟩
           have hlen9 : R.length ≤ 1000000 := by rw [← hRL]; omega
           have hla9 : LiesPr w22 w22.heap.size ao6 R := by
             obtain ⟨C, h9⟩ := HO21.out
             obtain ⟨ao', cap', e9, hl9, _⟩ := own_lies (own_same h9 (fun i cur _ e => below_box hb22 e))
             cases e9
             exact hl9
           have hlb9 : LiesPr w22 w22.heap.size ao22 R := by
             obtain ⟨ao', cap', e9, hl9, _⟩ := own_lies hO22
             cases e9
             exact hl9
           have hpairs := pairs_same ao6 ao22 cap6 cap22 R hlen9 w22 hla9 hlb9
           have HB22 : Hid _ := below_next HB21.out (Nat.le_refl _) hb22
           clear hO22 hb22 hla9 hlb9 hscan)
        | (go_at_call 25; refine hpairs.mono ?_; rintro e w23 ⟨rfl, hb23⟩)
        | (go_at_call 10; refine (awake14 _).mono ?_; rintro e w9 ⟨rfl, hb9⟩))
      go_ret
      exact ⟨rfl, below_next (below_next HB22.out (Nat.le_refl _) hb23) (Nat.le_refl _) hb9⟩

theorem walk (c0 : Cmd) (hin0 : CmdIn c0) (s0 : Cs) (ao1 : Option Addr) (cap1 : Nat) (l1 : List Nat) (w : World) (hl0 : LiesC w w.heap.size s0 c0) (hl1 : LiesU w w.heap.size ao1 l1) :
    Calls Tryz.prog 6 #[.agg #[.int .i64 c0.kind, .int .i64 c0.client, .int .i64 c0.seq, .int .i64 c0.snap, .slice s0.ko c0.keys.length s0.kc, .slice s0.ro c0.rngs.length s0.rc, .slice s0.wo c0.wrts.length s0.wc, .int .i64 c0.dead, .int .i64 c0.aft, .int .i64 c0.held, .string c0.text, .int .i64 c0.code, .slice s0.xo c0.rows.length s0.xc], .slice ao1 l1.length cap1] w fun e w' => e = .returned (.bool true) ∧ Below w.heap.size w w' := by
  by_cases q : ¬ SmallC c0
  · exact tw_a c0 hin0 s0 ao1 cap1 l1 q w hl0 hl1
  · have q := Classical.not_not.1 q
    by_cases hok : CmdOk c0
    · by_cases h1 : c0.client < 1
      · exact tw_c c0 hin0 s0 ao1 cap1 l1 q hok h1 w hl0 hl1
      · by_cases h2 : c0.kind = 0
        · exact tw_d c0 hin0 s0 ao1 cap1 l1 q hok h1 h2 w hl0 hl1
        · by_cases h3 : c0.seq < 1
          · exact tw_e c0 hin0 s0 ao1 cap1 l1 q hok h1 h2 h3 w hl0 hl1
          · by_cases h4 : 20 < (l1.length : Int)
            · exact tw_f c0 hin0 s0 ao1 cap1 l1 q hok h1 h2 h3 h4 w hl0 hl1
            · by_cases h5 : (cmdB c0).length ≤ 19996
              · exact tw_h c0 hin0 s0 ao1 cap1 l1 q hok h1 h2 h3 h4 h5 w hl0 hl1
              · exact tw_g c0 hin0 s0 ao1 cap1 l1 q hok h1 h2 h3 h4 h5 w hl0 hl1
    · exact tw_b c0 hin0 s0 ao1 cap1 l1 q hok w hl0 hl1

set_option maxRecDepth 100000 in
theorem lifted (os : Os) (started : os.Started) (H : Type) (enc : TypeId × Value → H) :
    ReturnsInHanded {} Tryz.checked os 6 .any (Rows.applyTwiceSpec.pre6 enc Tryz.prog Tryz.f6 Rows.applyTwiceRow.domain false) (Rows.applyTwiceSpec.post enc Tryz.prog Tryz.f6 false true false false) := by
  refine returnsInHanded_of_change (C := Tryz.checked) own started (by kernel_rfl) Tryz.func6
    (ChangeSpec.witness6 (enc := enc) (C := Tryz.checked) false ⟨#[], #[.agg #[.int .i64 0, .int .i64 0, .int .i64 0, .int .i64 0, .slice none 0 0, .slice none 0 0, .slice none 0 0, .int .i64 0, .int .i64 0, .int .i64 0, .string ⟨#[]⟩, .int .i64 0, .slice none 0 0], .slice none 0 0], []⟩ 8 (by kernel_rfl) (by kernel_rfl) (by kernel_rfl) (by kernel_rfl)) ?_
  intro W base args ds gs before hval0 hW hcnd _
  have hval : ∀ (j : Nat) t v, Tryz.f6.params[j]? = some t → args[j]? = some v → Value.okWide Tryz.prog W .any base t v := hval0
  have hW' := hW
  have hWk := hW
  obtain ⟨p, q, hA0, hV, rfl, hfz, hnd⟩ := hW
  have hA : DataW.TrodAll enc Tryz.prog W 0 (fun _ => true) true Tryz.f6.params.toList args.toList ds p := hA0
  rw [Tryz.params6] at hA hval
  obtain ⟨v0, vs0, d0, ds0, p0, q0, hargs, rfl, rfl, h0, rt0⟩ := trodAll_cons hA
  obtain ⟨v1, vs1, d1, ds1, p1, q1, rfl, rfl, rfl, h1, rt1⟩ := trodAll_cons rt0
  obtain ⟨rfl, rfl, rfl⟩ := trodAll_nil rt1
  obtain rfl : args = #[v0, v1] := by cases args; simp_all
  obtain ⟨rfl, rfl⟩ := trodVars_none hV
  have hk0 := h0
  obtain ⟨c0, s0, rfl, hin0, hlies0⟩ := open_cmd (hval 0 41 v0 rfl rfl) h0
  have hlt0 : ∀ x ∈ p0, x.block < W.heap.size := fun x hx => by simpa using hWk.lt x (by simp [hx])
  have hk1 := h1
  obtain ⟨ao1, cap1, l1, rfl, hlies1⟩ := open_u8s (hval 1 78 v1 rfl rfl) h1
  have hlt1 : ∀ x ∈ p1, x.block < W.heap.size := fun x hx => by simpa using hWk.lt x (by simp [hx])
  clear hA0 hval0
  simp only [List.append_nil] at hW'

  refine (walk c0 hin0 s0 ao1 cap1 l1 W hlies0 hlies1).mono fun e W' ⟨he, hg⟩ => ?_
  subst he
  exact ⟨_, rfl, _, _, _, [], _, [], hW', trodAll_cons_mk (shut_bool Tryz.underlying4 _) trodAll_mk0, (trodAll_cons_mk (Below.trod Tryz.laidOut (by kernel_rfl) (of_decide_eq_true (by kernel_rfl)) hk0 hg hlt0) (trodAll_cons_mk (Below.trod Tryz.laidOut (by kernel_rfl) (of_decide_eq_true (by kernel_rfl)) hk1 hg hlt1) trodAll_mk0)), rfl, hg.frame _, fun h => by cases h⟩

theorem over : Rows.applyTwiceRow.holds Tryz.pinned (OpenSpec.ofChange Rows.applyTwiceSpec) :=
  OpenClaim.holds_of_wide 6 Tryz.f6 rfl rfl rfl rfl rfl rfl rfl ⟨rfl, rfl, rfl, rfl, rfl⟩ rfl rfl rfl rfl rfl (by kernel_rfl) Tryz.func6 (by kernel_rfl)
    (of_decide_eq_true (by kernel_rfl)) (by unfold Func.isWrapper; first | (rw [if_pos (by decide +kernel)]; kernel_rfl) | (rw [if_neg (by decide +kernel)]; exact ⟨rfl, rfl⟩))
    (fun os started H enc _ => lifted os started H enc)

theorem proved : Rows.ApplyTwiceSaid :=
  over
#print axioms proved
end Go.Proofs.YtclliljkmmpglaaGreat.applyTwice
