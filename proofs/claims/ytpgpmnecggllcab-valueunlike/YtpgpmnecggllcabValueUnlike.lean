/-
  Proved: for every two values the law ValueUnlike returns true: values that may be and are unlike have bytes of which none is a beginning of the other's; those that are alike have the same (2.5); the values read behind the call as before. No condition.
-/
import Derived.Test.YtpgpmnecggllcabRows
import Derived.Test.YtpgpmnecggllcabVLow
import Derived.Test.YtpgpmnecggllcabVBackM
import Derived.WalkKit
import Derived.ProofKit
import Derived.OpenShut
import Derived.ShutString
import Derived.Lib.SmallJoins
import Derived.Lib.Strings
namespace Go.Proofs.Ytpgpmnecggllcab.valueUnlike
open Go.ChangeShapes Go.WideShapes Go.ChangeAt Go.RowKit Go.Joins Num
open Go.ChangeMaps (open_string shut_string)
set_option linter.unusedVariables false

theorem own : ownKnob Try.prog.godebug = none := by kernel_rfl
theorem cellsV : Try.prog.cellsOf 24 = 4 := by kernel_rfl

theorem box_cells2 {w w' : World} {o : Obj} {c0 c1 c2 c3 : Value} {t : TypeId} (h : Below ((w.alloc o).alloc (.cells #[c0, c1, c2, c3] t)).heap.size ((w.alloc o).alloc (.cells #[c0, c1, c2, c3] t)) w') :
    w'.cell? ⟨w.heap.size + 1, 0, none⟩ = some c0 ∧ w'.cell? ⟨w.heap.size + 1, 1, none⟩ = some c1 ∧ w'.cell? ⟨w.heap.size + 1, 2, none⟩ = some c2 ∧ w'.cell? ⟨w.heap.size + 1, 3, none⟩ = some c3 := by
  have := box_cells h
  simpa using this
theorem box_cells1 {w w' : World} {o : Obj} {c0 c1 c2 c3 : Value} {t : TypeId} (h : Below ((w.alloc (.cells #[c0, c1, c2, c3] t)).alloc o).heap.size ((w.alloc (.cells #[c0, c1, c2, c3] t)).alloc o) w') :
    w'.cell? ⟨w.heap.size, 0, none⟩ = some c0 ∧ w'.cell? ⟨w.heap.size, 1, none⟩ = some c1 ∧ w'.cell? ⟨w.heap.size, 2, none⟩ = some c2 ∧ w'.cell? ⟨w.heap.size, 3, none⟩ = some c3 :=
  box_cells (((Below.refl _ _).alloc (Nat.le_refl _) o).trans (h.mono (by simp)))
theorem below_box2 {w w' : World} {o o2 : Obj} (h : Below ((w.alloc o).alloc o2).heap.size ((w.alloc o).alloc o2) w') : Below w.heap.size w w' :=
  below_box0 (o := o) (below_box0 h)
theorem cells_next {w1 w2 : World} {b : Nat} {x0 x1 x2 x3 : Value} (hb : Below w1.heap.size w1 w2) (hlt : b < w1.heap.size) (h0 : w1.cell? ⟨b, 0, none⟩ = some x0) (h1 : w1.cell? ⟨b, 1, none⟩ = some x1) (h2 : w1.cell? ⟨b, 2, none⟩ = some x2) (h3 : w1.cell? ⟨b, 3, none⟩ = some x3) :
    w2.cell? ⟨b, 0, none⟩ = some x0 ∧ w2.cell? ⟨b, 1, none⟩ = some x1 ∧ w2.cell? ⟨b, 2, none⟩ = some x2 ∧ w2.cell? ⟨b, 3, none⟩ = some x3 :=
  ⟨(hb.cell hlt).trans h0, (hb.cell hlt).trans h1, (hb.cell hlt).trans h2, (hb.cell hlt).trans h3⟩
theorem lt_box2 {w w' : World} {o o2 : Obj} (h : Below ((w.alloc o).alloc o2).heap.size ((w.alloc o).alloc o2) w') : w.heap.size + 1 < w'.heap.size := by
  have := h.size
  simp at this
  omega

theorem low_cells {w2 : World} {b : Nat} {x0 x1 x2 x3 : Value} (hlt : b < w2.heap.size) (h0 : w2.cell? ⟨b, 0, none⟩ = some x0) (h1 : w2.cell? ⟨b, 1, none⟩ = some x1) (h2 : w2.cell? ⟨b, 2, none⟩ = some x2) (h3 : w2.cell? ⟨b, 3, none⟩ = some x3) :
    (∀ x : Low w2, x.wd.cell? ⟨b, 0, none⟩ = some x0) ∧ (∀ x : Low w2, x.wd.cell? ⟨b, 1, none⟩ = some x1) ∧ (∀ x : Low w2, x.wd.cell? ⟨b, 2, none⟩ = some x2) ∧ (∀ x : Low w2, x.wd.cell? ⟨b, 3, none⟩ = some x3) :=
  ⟨fun x => (x.cell hlt).trans h0, fun x => (x.cell hlt).trans h1, fun x => (x.cell hlt).trans h2, fun x => (x.cell hlt).trans h3⟩

theorem core_eq (k0 n0 : Int) (f0 : Nat) (s0 T0 : ByteArray) (hl0 : ¬ 5000 < (s0.size : Int)) (ht0 : T0.size ≤ 83)
    (hp0 : ∀ w, Calls Try.prog 6 #[.agg #[.int .i64 k0, .int .i64 n0, .int .u64 (f0 : Int), .string s0]] w fun e w' => e = .returned (.tuple #[.string T0, .int .i64 0]) ∧ Below w.heap.size w w')
    (hp1 : ∀ w, Calls Try.prog 6 #[.agg #[.int .i64 k0, .int .i64 n0, .int .u64 (f0 : Int), .string s0]] w fun e w' => e = .returned (.tuple #[.string T0, .int .i64 0]) ∧ Below w.heap.size w w') (w : World) :
    Calls Try.prog 3 #[.agg #[.int .i64 k0, .int .i64 n0, .int .u64 (f0 : Int), .string s0], .agg #[.int .i64 k0, .int .i64 n0, .int .u64 (f0 : Int), .string s0]] w fun e w' => e = .returned (.bool true) ∧ Below w.heap.size w w' := by
  go_enter Try.func3, Try.ntmps3
  go_wp2_with (first
    | (go_at_call 4; refine (long_any _ _).mono ?_; rintro e w0 ⟨rfl, rfl⟩)
    | (go_at_call 6; refine (hp0 _).mono ?_; rintro e w1 ⟨rfl, hb1⟩; obtain ⟨a0, a1, a2, a3⟩ := box_cells1 hb1; obtain ⟨b0, b1, b2, b3⟩ := box_cells2 hb1; have hlt1 := lt_box2 hb1; clear hp0)
    | (go_at_call 6; refine (hp1 _).mono ?_; rintro e w2 ⟨rfl, hb2⟩; obtain ⟨c0, c1, c2, c3⟩ := cells_next hb2 (Nat.lt_of_succ_lt hlt1) a0 a1 a2 a3; obtain ⟨d0, d1, d2, d3⟩ := cells_next hb2 hlt1 b0 b1 b2 b3)
    | (go_at_call 7; refine (num_any _ _).mono ?_; rintro e w4 ⟨rfl, rfl⟩))
  have hlt2 := Nat.lt_of_lt_of_le hlt1 hb2.size
  obtain ⟨g0, g1, g2, g3⟩ := low_cells (Nat.lt_of_succ_lt hlt2) c0 c1 c2 c3
  obtain ⟨j0, j1, j2, j3⟩ := low_cells hlt2 d0 d1 d2 d3
  clear a0 a1 a2 a3 b0 b1 b2 b3 c0 c1 c2 c3 d0 d1 d2 d3
  refine wp_region_low (by kernel_rfl) (by kernel_rfl) fun hsome => ?_
  repeat (go_big_quiet_step (first
    | (go_at_call 5; exact Calls.low_of (awake_any _))))
  refine wpQuiet_nil ?_
  rintro _ ⟨x, rfl⟩
  go_wp2
  go_ret
  exact ⟨rfl, below_next (below_next (below_box2 hb1) (Nat.le_refl _) hb2) (Nat.le_refl _) x.low⟩

theorem core_le1 (k0 n0 : Int) (f0 : Nat) (s0 : ByteArray) (k1 : Int) (n1 : Int) (f1 : Nat) (s1 T0 T1 : ByteArray) (hl0 : ¬ 5000 < (s0.size : Int)) (hl1 : ¬ 5000 < (s1.size : Int)) (ht0 : T0.size ≤ 83) (ht1 : T1.size ≤ 83) (hle : T0.size ≤ T1.size) (hE : (T0.toList == (T1.extract 0 T0.size).toList) = false) (e1 : ¬ k0 = k1)
    (hp0 : ∀ w, Calls Try.prog 6 #[.agg #[.int .i64 k0, .int .i64 n0, .int .u64 (f0 : Int), .string s0]] w fun e w' => e = .returned (.tuple #[.string T0, .int .i64 0]) ∧ Below w.heap.size w w')
    (hp1 : ∀ w, Calls Try.prog 6 #[.agg #[.int .i64 k1, .int .i64 n1, .int .u64 (f1 : Int), .string s1]] w fun e w' => e = .returned (.tuple #[.string T1, .int .i64 0]) ∧ Below w.heap.size w w') (w : World) :
    Calls Try.prog 3 #[.agg #[.int .i64 k0, .int .i64 n0, .int .u64 (f0 : Int), .string s0], .agg #[.int .i64 k1, .int .i64 n1, .int .u64 (f1 : Int), .string s1]] w fun e w' => e = .returned (.bool true) ∧ Below w.heap.size w w' := by
  go_enter Try.func3, Try.ntmps3
  go_wp2_with (first
    | (go_at_call 4; refine (long_any _ _).mono ?_; rintro e w0 ⟨rfl, rfl⟩)
    | (go_at_call 6; refine (hp0 _).mono ?_; rintro e w1 ⟨rfl, hb1⟩; obtain ⟨a0, a1, a2, a3⟩ := box_cells1 hb1; obtain ⟨b0, b1, b2, b3⟩ := box_cells2 hb1; have hlt1 := lt_box2 hb1; clear hp0)
    | (go_at_call 6; refine (hp1 _).mono ?_; rintro e w2 ⟨rfl, hb2⟩; obtain ⟨c0, c1, c2, c3⟩ := cells_next hb2 (Nat.lt_of_succ_lt hlt1) a0 a1 a2 a3; obtain ⟨d0, d1, d2, d3⟩ := cells_next hb2 hlt1 b0 b1 b2 b3)
    | (go_at_call 7; refine (num_any _ _).mono ?_; rintro e w4 ⟨rfl, rfl⟩))
  have hlt2 := Nat.lt_of_lt_of_le hlt1 hb2.size
  obtain ⟨g0, g1, g2, g3⟩ := low_cells (Nat.lt_of_succ_lt hlt2) c0 c1 c2 c3
  obtain ⟨j0, j1, j2, j3⟩ := low_cells hlt2 d0 d1 d2 d3
  clear a0 a1 a2 a3 b0 b1 b2 b3 c0 c1 c2 c3 d0 d1 d2 d3
  refine wp_region_low (by kernel_rfl) (by kernel_rfl) fun hsome => ?_
  repeat (go_big_quiet_step (first
    | (go_at_call 5; exact Calls.low_of (awake_any _))))
  refine wpQuiet_nil ?_
  rintro _ ⟨x, rfl⟩
  go_wp2
  go_ret
  exact ⟨rfl, below_next (below_next (below_box2 hb1) (Nat.le_refl _) hb2) (Nat.le_refl _) x.low⟩
theorem core_le2 (k0 n0 : Int) (f0 : Nat) (s0 : ByteArray) (n1 : Int) (f1 : Nat) (s1 T0 T1 : ByteArray) (hl0 : ¬ 5000 < (s0.size : Int)) (hl1 : ¬ 5000 < (s1.size : Int)) (ht0 : T0.size ≤ 83) (ht1 : T1.size ≤ 83) (hle : T0.size ≤ T1.size) (hE : (T0.toList == (T1.extract 0 T0.size).toList) = false) (e2 : ¬ n0 = n1)
    (hp0 : ∀ w, Calls Try.prog 6 #[.agg #[.int .i64 k0, .int .i64 n0, .int .u64 (f0 : Int), .string s0]] w fun e w' => e = .returned (.tuple #[.string T0, .int .i64 0]) ∧ Below w.heap.size w w')
    (hp1 : ∀ w, Calls Try.prog 6 #[.agg #[.int .i64 k0, .int .i64 n1, .int .u64 (f1 : Int), .string s1]] w fun e w' => e = .returned (.tuple #[.string T1, .int .i64 0]) ∧ Below w.heap.size w w') (w : World) :
    Calls Try.prog 3 #[.agg #[.int .i64 k0, .int .i64 n0, .int .u64 (f0 : Int), .string s0], .agg #[.int .i64 k0, .int .i64 n1, .int .u64 (f1 : Int), .string s1]] w fun e w' => e = .returned (.bool true) ∧ Below w.heap.size w w' := by
  go_enter Try.func3, Try.ntmps3
  go_wp2_with (first
    | (go_at_call 4; refine (long_any _ _).mono ?_; rintro e w0 ⟨rfl, rfl⟩)
    | (go_at_call 6; refine (hp0 _).mono ?_; rintro e w1 ⟨rfl, hb1⟩; obtain ⟨a0, a1, a2, a3⟩ := box_cells1 hb1; obtain ⟨b0, b1, b2, b3⟩ := box_cells2 hb1; have hlt1 := lt_box2 hb1; clear hp0)
    | (go_at_call 6; refine (hp1 _).mono ?_; rintro e w2 ⟨rfl, hb2⟩; obtain ⟨c0, c1, c2, c3⟩ := cells_next hb2 (Nat.lt_of_succ_lt hlt1) a0 a1 a2 a3; obtain ⟨d0, d1, d2, d3⟩ := cells_next hb2 hlt1 b0 b1 b2 b3)
    | (go_at_call 7; refine (num_any _ _).mono ?_; rintro e w4 ⟨rfl, rfl⟩))
  have hlt2 := Nat.lt_of_lt_of_le hlt1 hb2.size
  obtain ⟨g0, g1, g2, g3⟩ := low_cells (Nat.lt_of_succ_lt hlt2) c0 c1 c2 c3
  obtain ⟨j0, j1, j2, j3⟩ := low_cells hlt2 d0 d1 d2 d3
  clear a0 a1 a2 a3 b0 b1 b2 b3 c0 c1 c2 c3 d0 d1 d2 d3
  refine wp_region_low (by kernel_rfl) (by kernel_rfl) fun hsome => ?_
  repeat (go_big_quiet_step (first
    | (go_at_call 5; exact Calls.low_of (awake_any _))))
  refine wpQuiet_nil ?_
  rintro _ ⟨x, rfl⟩
  go_wp2
  go_ret
  exact ⟨rfl, below_next (below_next (below_box2 hb1) (Nat.le_refl _) hb2) (Nat.le_refl _) x.low⟩
theorem core_le3 (k0 n0 : Int) (f0 : Nat) (s0 : ByteArray) (f1 : Nat) (s1 T0 T1 : ByteArray) (hl0 : ¬ 5000 < (s0.size : Int)) (hl1 : ¬ 5000 < (s1.size : Int)) (ht0 : T0.size ≤ 83) (ht1 : T1.size ≤ 83) (hle : T0.size ≤ T1.size) (hE : (T0.toList == (T1.extract 0 T0.size).toList) = false) (e3 : ¬ (f0 : Int) = (f1 : Int))
    (hp0 : ∀ w, Calls Try.prog 6 #[.agg #[.int .i64 k0, .int .i64 n0, .int .u64 (f0 : Int), .string s0]] w fun e w' => e = .returned (.tuple #[.string T0, .int .i64 0]) ∧ Below w.heap.size w w')
    (hp1 : ∀ w, Calls Try.prog 6 #[.agg #[.int .i64 k0, .int .i64 n0, .int .u64 (f1 : Int), .string s1]] w fun e w' => e = .returned (.tuple #[.string T1, .int .i64 0]) ∧ Below w.heap.size w w') (w : World) :
    Calls Try.prog 3 #[.agg #[.int .i64 k0, .int .i64 n0, .int .u64 (f0 : Int), .string s0], .agg #[.int .i64 k0, .int .i64 n0, .int .u64 (f1 : Int), .string s1]] w fun e w' => e = .returned (.bool true) ∧ Below w.heap.size w w' := by
  go_enter Try.func3, Try.ntmps3
  go_wp2_with (first
    | (go_at_call 4; refine (long_any _ _).mono ?_; rintro e w0 ⟨rfl, rfl⟩)
    | (go_at_call 6; refine (hp0 _).mono ?_; rintro e w1 ⟨rfl, hb1⟩; obtain ⟨a0, a1, a2, a3⟩ := box_cells1 hb1; obtain ⟨b0, b1, b2, b3⟩ := box_cells2 hb1; have hlt1 := lt_box2 hb1; clear hp0)
    | (go_at_call 6; refine (hp1 _).mono ?_; rintro e w2 ⟨rfl, hb2⟩; obtain ⟨c0, c1, c2, c3⟩ := cells_next hb2 (Nat.lt_of_succ_lt hlt1) a0 a1 a2 a3; obtain ⟨d0, d1, d2, d3⟩ := cells_next hb2 hlt1 b0 b1 b2 b3)
    | (go_at_call 7; refine (num_any _ _).mono ?_; rintro e w4 ⟨rfl, rfl⟩))
  have hlt2 := Nat.lt_of_lt_of_le hlt1 hb2.size
  obtain ⟨g0, g1, g2, g3⟩ := low_cells (Nat.lt_of_succ_lt hlt2) c0 c1 c2 c3
  obtain ⟨j0, j1, j2, j3⟩ := low_cells hlt2 d0 d1 d2 d3
  clear a0 a1 a2 a3 b0 b1 b2 b3 c0 c1 c2 c3 d0 d1 d2 d3
  refine wp_region_low (by kernel_rfl) (by kernel_rfl) fun hsome => ?_
  repeat (go_big_quiet_step (first
    | (go_at_call 5; exact Calls.low_of (awake_any _))))
  refine wpQuiet_nil ?_
  rintro _ ⟨x, rfl⟩
  go_wp2
  go_ret
  exact ⟨rfl, below_next (below_next (below_box2 hb1) (Nat.le_refl _) hb2) (Nat.le_refl _) x.low⟩
theorem core_le4 (k0 n0 : Int) (f0 : Nat) (s0 : ByteArray) (s1 T0 T1 : ByteArray) (hl0 : ¬ 5000 < (s0.size : Int)) (hl1 : ¬ 5000 < (s1.size : Int)) (ht0 : T0.size ≤ 83) (ht1 : T1.size ≤ 83) (hle : T0.size ≤ T1.size) (hE : (T0.toList == (T1.extract 0 T0.size).toList) = false) (e4 : ¬ s0.toList = s1.toList)
    (hp0 : ∀ w, Calls Try.prog 6 #[.agg #[.int .i64 k0, .int .i64 n0, .int .u64 (f0 : Int), .string s0]] w fun e w' => e = .returned (.tuple #[.string T0, .int .i64 0]) ∧ Below w.heap.size w w')
    (hp1 : ∀ w, Calls Try.prog 6 #[.agg #[.int .i64 k0, .int .i64 n0, .int .u64 (f0 : Int), .string s1]] w fun e w' => e = .returned (.tuple #[.string T1, .int .i64 0]) ∧ Below w.heap.size w w') (w : World) :
    Calls Try.prog 3 #[.agg #[.int .i64 k0, .int .i64 n0, .int .u64 (f0 : Int), .string s0], .agg #[.int .i64 k0, .int .i64 n0, .int .u64 (f0 : Int), .string s1]] w fun e w' => e = .returned (.bool true) ∧ Below w.heap.size w w' := by
  go_enter Try.func3, Try.ntmps3
  go_wp2_with (first
    | (go_at_call 4; refine (long_any _ _).mono ?_; rintro e w0 ⟨rfl, rfl⟩)
    | (go_at_call 6; refine (hp0 _).mono ?_; rintro e w1 ⟨rfl, hb1⟩; obtain ⟨a0, a1, a2, a3⟩ := box_cells1 hb1; obtain ⟨b0, b1, b2, b3⟩ := box_cells2 hb1; have hlt1 := lt_box2 hb1; clear hp0)
    | (go_at_call 6; refine (hp1 _).mono ?_; rintro e w2 ⟨rfl, hb2⟩; obtain ⟨c0, c1, c2, c3⟩ := cells_next hb2 (Nat.lt_of_succ_lt hlt1) a0 a1 a2 a3; obtain ⟨d0, d1, d2, d3⟩ := cells_next hb2 hlt1 b0 b1 b2 b3)
    | (go_at_call 7; refine (num_any _ _).mono ?_; rintro e w4 ⟨rfl, rfl⟩))
  have hlt2 := Nat.lt_of_lt_of_le hlt1 hb2.size
  obtain ⟨g0, g1, g2, g3⟩ := low_cells (Nat.lt_of_succ_lt hlt2) c0 c1 c2 c3
  obtain ⟨j0, j1, j2, j3⟩ := low_cells hlt2 d0 d1 d2 d3
  clear a0 a1 a2 a3 b0 b1 b2 b3 c0 c1 c2 c3 d0 d1 d2 d3
  refine wp_region_low (by kernel_rfl) (by kernel_rfl) fun hsome => ?_
  repeat (go_big_quiet_step (first
    | (go_at_call 5; exact Calls.low_of (awake_any _))))
  refine wpQuiet_nil ?_
  rintro _ ⟨x, rfl⟩
  go_wp2
  go_ret
  exact ⟨rfl, below_next (below_next (below_box2 hb1) (Nat.le_refl _) hb2) (Nat.le_refl _) x.low⟩
theorem core_gt1 (k0 n0 : Int) (f0 : Nat) (s0 : ByteArray) (k1 : Int) (n1 : Int) (f1 : Nat) (s1 T0 T1 : ByteArray) (hl0 : ¬ 5000 < (s0.size : Int)) (hl1 : ¬ 5000 < (s1.size : Int)) (ht0 : T0.size ≤ 83) (ht1 : T1.size ≤ 83) (hgt : T1.size < T0.size) (hE : ((T0.extract 0 T1.size).toList == T1.toList) = false) (e1 : ¬ k0 = k1)
    (hp0 : ∀ w, Calls Try.prog 6 #[.agg #[.int .i64 k0, .int .i64 n0, .int .u64 (f0 : Int), .string s0]] w fun e w' => e = .returned (.tuple #[.string T0, .int .i64 0]) ∧ Below w.heap.size w w')
    (hp1 : ∀ w, Calls Try.prog 6 #[.agg #[.int .i64 k1, .int .i64 n1, .int .u64 (f1 : Int), .string s1]] w fun e w' => e = .returned (.tuple #[.string T1, .int .i64 0]) ∧ Below w.heap.size w w') (w : World) :
    Calls Try.prog 3 #[.agg #[.int .i64 k0, .int .i64 n0, .int .u64 (f0 : Int), .string s0], .agg #[.int .i64 k1, .int .i64 n1, .int .u64 (f1 : Int), .string s1]] w fun e w' => e = .returned (.bool true) ∧ Below w.heap.size w w' := by
  go_enter Try.func3, Try.ntmps3
  go_wp2_with (first
    | (go_at_call 4; refine (long_any _ _).mono ?_; rintro e w0 ⟨rfl, rfl⟩)
    | (go_at_call 6; refine (hp0 _).mono ?_; rintro e w1 ⟨rfl, hb1⟩; obtain ⟨a0, a1, a2, a3⟩ := box_cells1 hb1; obtain ⟨b0, b1, b2, b3⟩ := box_cells2 hb1; have hlt1 := lt_box2 hb1; clear hp0)
    | (go_at_call 6; refine (hp1 _).mono ?_; rintro e w2 ⟨rfl, hb2⟩; obtain ⟨c0, c1, c2, c3⟩ := cells_next hb2 (Nat.lt_of_succ_lt hlt1) a0 a1 a2 a3; obtain ⟨d0, d1, d2, d3⟩ := cells_next hb2 hlt1 b0 b1 b2 b3)
    | (go_at_call 7; refine (num_any _ _).mono ?_; rintro e w4 ⟨rfl, rfl⟩))
  have hlt2 := Nat.lt_of_lt_of_le hlt1 hb2.size
  obtain ⟨g0, g1, g2, g3⟩ := low_cells (Nat.lt_of_succ_lt hlt2) c0 c1 c2 c3
  obtain ⟨j0, j1, j2, j3⟩ := low_cells hlt2 d0 d1 d2 d3
  clear a0 a1 a2 a3 b0 b1 b2 b3 c0 c1 c2 c3 d0 d1 d2 d3
  refine wp_region_low (by kernel_rfl) (by kernel_rfl) fun hsome => ?_
  repeat (go_big_quiet_step (first
    | (go_at_call 5; exact Calls.low_of (awake_any _))))
  refine wpQuiet_nil ?_
  rintro _ ⟨x, rfl⟩
  go_wp2
  go_ret
  exact ⟨rfl, below_next (below_next (below_box2 hb1) (Nat.le_refl _) hb2) (Nat.le_refl _) x.low⟩
theorem core_gt2 (k0 n0 : Int) (f0 : Nat) (s0 : ByteArray) (n1 : Int) (f1 : Nat) (s1 T0 T1 : ByteArray) (hl0 : ¬ 5000 < (s0.size : Int)) (hl1 : ¬ 5000 < (s1.size : Int)) (ht0 : T0.size ≤ 83) (ht1 : T1.size ≤ 83) (hgt : T1.size < T0.size) (hE : ((T0.extract 0 T1.size).toList == T1.toList) = false) (e2 : ¬ n0 = n1)
    (hp0 : ∀ w, Calls Try.prog 6 #[.agg #[.int .i64 k0, .int .i64 n0, .int .u64 (f0 : Int), .string s0]] w fun e w' => e = .returned (.tuple #[.string T0, .int .i64 0]) ∧ Below w.heap.size w w')
    (hp1 : ∀ w, Calls Try.prog 6 #[.agg #[.int .i64 k0, .int .i64 n1, .int .u64 (f1 : Int), .string s1]] w fun e w' => e = .returned (.tuple #[.string T1, .int .i64 0]) ∧ Below w.heap.size w w') (w : World) :
    Calls Try.prog 3 #[.agg #[.int .i64 k0, .int .i64 n0, .int .u64 (f0 : Int), .string s0], .agg #[.int .i64 k0, .int .i64 n1, .int .u64 (f1 : Int), .string s1]] w fun e w' => e = .returned (.bool true) ∧ Below w.heap.size w w' := by
  go_enter Try.func3, Try.ntmps3
  go_wp2_with (first
    | (go_at_call 4; refine (long_any _ _).mono ?_; rintro e w0 ⟨rfl, rfl⟩)
    | (go_at_call 6; refine (hp0 _).mono ?_; rintro e w1 ⟨rfl, hb1⟩; obtain ⟨a0, a1, a2, a3⟩ := box_cells1 hb1; obtain ⟨b0, b1, b2, b3⟩ := box_cells2 hb1; have hlt1 := lt_box2 hb1; clear hp0)
    | (go_at_call 6; refine (hp1 _).mono ?_; rintro e w2 ⟨rfl, hb2⟩; obtain ⟨c0, c1, c2, c3⟩ := cells_next hb2 (Nat.lt_of_succ_lt hlt1) a0 a1 a2 a3; obtain ⟨d0, d1, d2, d3⟩ := cells_next hb2 hlt1 b0 b1 b2 b3)
    | (go_at_call 7; refine (num_any _ _).mono ?_; rintro e w4 ⟨rfl, rfl⟩))
  have hlt2 := Nat.lt_of_lt_of_le hlt1 hb2.size
  obtain ⟨g0, g1, g2, g3⟩ := low_cells (Nat.lt_of_succ_lt hlt2) c0 c1 c2 c3
  obtain ⟨j0, j1, j2, j3⟩ := low_cells hlt2 d0 d1 d2 d3
  clear a0 a1 a2 a3 b0 b1 b2 b3 c0 c1 c2 c3 d0 d1 d2 d3
  refine wp_region_low (by kernel_rfl) (by kernel_rfl) fun hsome => ?_
  repeat (go_big_quiet_step (first
    | (go_at_call 5; exact Calls.low_of (awake_any _))))
  refine wpQuiet_nil ?_
  rintro _ ⟨x, rfl⟩
  go_wp2
  go_ret
  exact ⟨rfl, below_next (below_next (below_box2 hb1) (Nat.le_refl _) hb2) (Nat.le_refl _) x.low⟩
theorem core_gt3 (k0 n0 : Int) (f0 : Nat) (s0 : ByteArray) (f1 : Nat) (s1 T0 T1 : ByteArray) (hl0 : ¬ 5000 < (s0.size : Int)) (hl1 : ¬ 5000 < (s1.size : Int)) (ht0 : T0.size ≤ 83) (ht1 : T1.size ≤ 83) (hgt : T1.size < T0.size) (hE : ((T0.extract 0 T1.size).toList == T1.toList) = false) (e3 : ¬ (f0 : Int) = (f1 : Int))
    (hp0 : ∀ w, Calls Try.prog 6 #[.agg #[.int .i64 k0, .int .i64 n0, .int .u64 (f0 : Int), .string s0]] w fun e w' => e = .returned (.tuple #[.string T0, .int .i64 0]) ∧ Below w.heap.size w w')
    (hp1 : ∀ w, Calls Try.prog 6 #[.agg #[.int .i64 k0, .int .i64 n0, .int .u64 (f1 : Int), .string s1]] w fun e w' => e = .returned (.tuple #[.string T1, .int .i64 0]) ∧ Below w.heap.size w w') (w : World) :
    Calls Try.prog 3 #[.agg #[.int .i64 k0, .int .i64 n0, .int .u64 (f0 : Int), .string s0], .agg #[.int .i64 k0, .int .i64 n0, .int .u64 (f1 : Int), .string s1]] w fun e w' => e = .returned (.bool true) ∧ Below w.heap.size w w' := by
  go_enter Try.func3, Try.ntmps3
  go_wp2_with (first
    | (go_at_call 4; refine (long_any _ _).mono ?_; rintro e w0 ⟨rfl, rfl⟩)
    | (go_at_call 6; refine (hp0 _).mono ?_; rintro e w1 ⟨rfl, hb1⟩; obtain ⟨a0, a1, a2, a3⟩ := box_cells1 hb1; obtain ⟨b0, b1, b2, b3⟩ := box_cells2 hb1; have hlt1 := lt_box2 hb1; clear hp0)
    | (go_at_call 6; refine (hp1 _).mono ?_; rintro e w2 ⟨rfl, hb2⟩; obtain ⟨c0, c1, c2, c3⟩ := cells_next hb2 (Nat.lt_of_succ_lt hlt1) a0 a1 a2 a3; obtain ⟨d0, d1, d2, d3⟩ := cells_next hb2 hlt1 b0 b1 b2 b3)
    | (go_at_call 7; refine (num_any _ _).mono ?_; rintro e w4 ⟨rfl, rfl⟩))
  have hlt2 := Nat.lt_of_lt_of_le hlt1 hb2.size
  obtain ⟨g0, g1, g2, g3⟩ := low_cells (Nat.lt_of_succ_lt hlt2) c0 c1 c2 c3
  obtain ⟨j0, j1, j2, j3⟩ := low_cells hlt2 d0 d1 d2 d3
  clear a0 a1 a2 a3 b0 b1 b2 b3 c0 c1 c2 c3 d0 d1 d2 d3
  refine wp_region_low (by kernel_rfl) (by kernel_rfl) fun hsome => ?_
  repeat (go_big_quiet_step (first
    | (go_at_call 5; exact Calls.low_of (awake_any _))))
  refine wpQuiet_nil ?_
  rintro _ ⟨x, rfl⟩
  go_wp2
  go_ret
  exact ⟨rfl, below_next (below_next (below_box2 hb1) (Nat.le_refl _) hb2) (Nat.le_refl _) x.low⟩
theorem core_gt4 (k0 n0 : Int) (f0 : Nat) (s0 : ByteArray) (s1 T0 T1 : ByteArray) (hl0 : ¬ 5000 < (s0.size : Int)) (hl1 : ¬ 5000 < (s1.size : Int)) (ht0 : T0.size ≤ 83) (ht1 : T1.size ≤ 83) (hgt : T1.size < T0.size) (hE : ((T0.extract 0 T1.size).toList == T1.toList) = false) (e4 : ¬ s0.toList = s1.toList)
    (hp0 : ∀ w, Calls Try.prog 6 #[.agg #[.int .i64 k0, .int .i64 n0, .int .u64 (f0 : Int), .string s0]] w fun e w' => e = .returned (.tuple #[.string T0, .int .i64 0]) ∧ Below w.heap.size w w')
    (hp1 : ∀ w, Calls Try.prog 6 #[.agg #[.int .i64 k0, .int .i64 n0, .int .u64 (f0 : Int), .string s1]] w fun e w' => e = .returned (.tuple #[.string T1, .int .i64 0]) ∧ Below w.heap.size w w') (w : World) :
    Calls Try.prog 3 #[.agg #[.int .i64 k0, .int .i64 n0, .int .u64 (f0 : Int), .string s0], .agg #[.int .i64 k0, .int .i64 n0, .int .u64 (f0 : Int), .string s1]] w fun e w' => e = .returned (.bool true) ∧ Below w.heap.size w w' := by
  go_enter Try.func3, Try.ntmps3
  go_wp2_with (first
    | (go_at_call 4; refine (long_any _ _).mono ?_; rintro e w0 ⟨rfl, rfl⟩)
    | (go_at_call 6; refine (hp0 _).mono ?_; rintro e w1 ⟨rfl, hb1⟩; obtain ⟨a0, a1, a2, a3⟩ := box_cells1 hb1; obtain ⟨b0, b1, b2, b3⟩ := box_cells2 hb1; have hlt1 := lt_box2 hb1; clear hp0)
    | (go_at_call 6; refine (hp1 _).mono ?_; rintro e w2 ⟨rfl, hb2⟩; obtain ⟨c0, c1, c2, c3⟩ := cells_next hb2 (Nat.lt_of_succ_lt hlt1) a0 a1 a2 a3; obtain ⟨d0, d1, d2, d3⟩ := cells_next hb2 hlt1 b0 b1 b2 b3)
    | (go_at_call 7; refine (num_any _ _).mono ?_; rintro e w4 ⟨rfl, rfl⟩))
  have hlt2 := Nat.lt_of_lt_of_le hlt1 hb2.size
  obtain ⟨g0, g1, g2, g3⟩ := low_cells (Nat.lt_of_succ_lt hlt2) c0 c1 c2 c3
  obtain ⟨j0, j1, j2, j3⟩ := low_cells hlt2 d0 d1 d2 d3
  clear a0 a1 a2 a3 b0 b1 b2 b3 c0 c1 c2 c3 d0 d1 d2 d3
  refine wp_region_low (by kernel_rfl) (by kernel_rfl) fun hsome => ?_
  repeat (go_big_quiet_step (first
    | (go_at_call 5; exact Calls.low_of (awake_any _))))
  refine wpQuiet_nil ?_
  rintro _ ⟨x, rfl⟩
  go_wp2
  go_ret
  exact ⟨rfl, below_next (below_next (below_box2 hb1) (Nat.le_refl _) hb2) (Nat.le_refl _) x.low⟩
theorem core_bad0 (k0 n0 : Int) (f0 : Nat) (s0 : ByteArray) (k1 n1 : Int) (f1 : Nat) (s1 T0 T1 : ByteArray) (E1 : Int) (hl0 : ¬ 5000 < (s0.size : Int)) (hl1 : ¬ 5000 < (s1.size : Int))
    (hp0 : ∀ w, Calls Try.prog 6 #[.agg #[.int .i64 k0, .int .i64 n0, .int .u64 (f0 : Int), .string s0]] w fun e w' => e = .returned (.tuple #[.string T0, .int .i64 1]) ∧ Below w.heap.size w w')
    (hp1 : ∀ w, Calls Try.prog 6 #[.agg #[.int .i64 k1, .int .i64 n1, .int .u64 (f1 : Int), .string s1]] w fun e w' => e = .returned (.tuple #[.string T1, .int .i64 E1]) ∧ Below w.heap.size w w') (w : World) :
    Calls Try.prog 3 #[.agg #[.int .i64 k0, .int .i64 n0, .int .u64 (f0 : Int), .string s0], .agg #[.int .i64 k1, .int .i64 n1, .int .u64 (f1 : Int), .string s1]] w fun e w' => e = .returned (.bool true) ∧ Below w.heap.size w w' := by
  go_enter Try.func3, Try.ntmps3
  go_wp2_with (first
    | (go_at_call 4; refine (long_any _ _).mono ?_; rintro e w0 ⟨rfl, rfl⟩)
    | (go_at_call 6; refine (hp0 _).mono ?_; rintro e w1 ⟨rfl, hb1⟩; obtain ⟨b0, b1, b2, b3⟩ := box_cells2 hb1; clear hp0)
    | (go_at_call 6; refine (hp1 _).mono ?_; rintro e w2 ⟨rfl, hb2⟩)
    | (go_at_call 7; refine (num_any _ _).mono ?_; rintro e w4 ⟨rfl, rfl⟩)
    | (go_at_call 5; refine (awake_any _).mono ?_; rintro e w3 ⟨rfl, hb3⟩))
  go_ret
  exact ⟨rfl, below_next (below_next (below_box2 hb1) (Nat.le_refl _) hb2) (Nat.le_refl _) hb3⟩
theorem core_bad1 (k0 n0 : Int) (f0 : Nat) (s0 : ByteArray) (k1 n1 : Int) (f1 : Nat) (s1 T0 T1 : ByteArray) (hl0 : ¬ 5000 < (s0.size : Int)) (hl1 : ¬ 5000 < (s1.size : Int))
    (hp0 : ∀ w, Calls Try.prog 6 #[.agg #[.int .i64 k0, .int .i64 n0, .int .u64 (f0 : Int), .string s0]] w fun e w' => e = .returned (.tuple #[.string T0, .int .i64 0]) ∧ Below w.heap.size w w')
    (hp1 : ∀ w, Calls Try.prog 6 #[.agg #[.int .i64 k1, .int .i64 n1, .int .u64 (f1 : Int), .string s1]] w fun e w' => e = .returned (.tuple #[.string T1, .int .i64 1]) ∧ Below w.heap.size w w') (w : World) :
    Calls Try.prog 3 #[.agg #[.int .i64 k0, .int .i64 n0, .int .u64 (f0 : Int), .string s0], .agg #[.int .i64 k1, .int .i64 n1, .int .u64 (f1 : Int), .string s1]] w fun e w' => e = .returned (.bool true) ∧ Below w.heap.size w w' := by
  go_enter Try.func3, Try.ntmps3
  go_wp2_with (first
    | (go_at_call 4; refine (long_any _ _).mono ?_; rintro e w0 ⟨rfl, rfl⟩)
    | (go_at_call 6; refine (hp0 _).mono ?_; rintro e w1 ⟨rfl, hb1⟩; obtain ⟨b0, b1, b2, b3⟩ := box_cells2 hb1; clear hp0)
    | (go_at_call 6; refine (hp1 _).mono ?_; rintro e w2 ⟨rfl, hb2⟩)
    | (go_at_call 7; refine (num_any _ _).mono ?_; rintro e w4 ⟨rfl, rfl⟩)
    | (go_at_call 5; refine (awake_any _).mono ?_; rintro e w3 ⟨rfl, hb3⟩))
  go_ret
  exact ⟨rfl, below_next (below_next (below_box2 hb1) (Nat.le_refl _) hb2) (Nat.le_refl _) hb3⟩

/-- Of two values that may be, if the bytes of the one begin those of the other, they are one. -/
theorem begins {k0 n0 : Int} (hn0 : -9223372036854775808 ≤ n0 ∧ n0 ≤ 9223372036854775807) {f0 : Nat} (hf0 : f0 < 18446744073709551616) {s0 : ByteArray} {k1 n1 : Int} (hn1 : -9223372036854775808 ≤ n1 ∧ n1 ≤ 9223372036854775807) {f1 : Nat} (hf1 : f1 < 18446744073709551616) {s1 : ByteArray}
    (m0 : may k0 n0 f0 s0 = true) (m1 : may k1 n1 f1 s1 = true) {r : List UInt8} (h : putL k1 n1 f1 s1 = putL k0 n0 f0 s0 ++ r) : k0 = k1 ∧ n0 = n1 ∧ f0 = f1 ∧ s0.toList = s1.toList := by
  have g0 := getL_put k0 n0 hn0 f0 hf0 s0 m0 r
  have g1 := getL_put k1 n1 hn1 f1 hf1 s1 m1 []
  rw [List.append_nil, h, g0] at g1
  simp only [Res.mk.injEq] at g1
  rw [ByteArray.toList_eq, ByteArray.toList_eq]
  exact ⟨g1.1, g1.2.1, g1.2.2.1, g1.2.2.2.1⟩
theorem part_of {P Q : List UInt8} (h : P = Q.take P.length) : ∃ r, Q = P ++ r := ⟨Q.drop P.length, by rw [← List.take_append_drop P.length Q, ← h]; simp⟩
theorem ext_str (Q : List UInt8) (n : Nat) : ((str Q).extract 0 n).toList = Q.take n := by
  rw [Go.Lib.extract_toList]
  simp [str]
theorem str_toList (Q : List UInt8) : (str Q).toList = Q := by
  rw [ByteArray.toList_eq]
  rfl

theorem walk (k0 n0 : Int) (hn0 : -9223372036854775808 ≤ n0 ∧ n0 ≤ 9223372036854775807) (f0 : Nat) (hf0 : f0 < 18446744073709551616) (s0 : ByteArray) (k1 n1 : Int) (hn1 : -9223372036854775808 ≤ n1 ∧ n1 ≤ 9223372036854775807) (f1 : Nat) (hf1 : f1 < 18446744073709551616) (s1 : ByteArray) (w : World) :
    Calls Try.prog 3 #[.agg #[.int .i64 k0, .int .i64 n0, .int .u64 (f0 : Int), .string s0], .agg #[.int .i64 k1, .int .i64 n1, .int .u64 (f1 : Int), .string s1]] w fun e w' => e = .returned (.bool true) ∧ Below w.heap.size w w' := by
  have hp0 := put_any k0 n0 hn0 f0 hf0 s0
  have hp1 := put_any k1 n1 hn1 f1 hf1 s1
  by_cases hl0 : 5000 < (s0.size : Int)
  · go_enter Try.func3, Try.ntmps3
    go_wp2_with (first
      | (go_at_call 4; refine (long_any _ _).mono ?_; rintro e w1 ⟨rfl, rfl⟩)
      | (go_at_call 5; refine (awake_any _).mono ?_; rintro e w3 ⟨rfl, hb3⟩))
    go_ret
    exact ⟨rfl, below_box2 hb3⟩
  · by_cases hl1 : 5000 < (s1.size : Int)
    · go_enter Try.func3, Try.ntmps3
      go_wp2_with (first
        | (go_at_call 4; refine (long_any _ _).mono ?_; rintro e w1 ⟨rfl, rfl⟩)
        | (go_at_call 5; refine (awake_any _).mono ?_; rintro e w3 ⟨rfl, hb3⟩))
      go_ret
      exact ⟨rfl, below_box2 hb3⟩
    · cases m0 : may k0 n0 f0 s0 with
      | false =>
        rw [show putE k0 n0 f0 s0 = 1 by simp [putE, m0]] at hp0
        exact core_bad0 k0 n0 f0 s0 k1 n1 f1 s1 _ _ _ hl0 hl1 hp0 hp1 w
      | true =>
        cases m1 : may k1 n1 f1 s1 with
        | false =>
          rw [show putE k0 n0 f0 s0 = 0 by simp [putE, m0]] at hp0
          rw [show putE k1 n1 f1 s1 = 1 by simp [putE, m1]] at hp1
          exact core_bad1 k0 n0 f0 s0 k1 n1 f1 s1 _ _ hl0 hl1 hp0 hp1 w
        | true =>
          rw [show putT k0 n0 f0 s0 = putL k0 n0 f0 s0 by simp [putT, m0], show putE k0 n0 f0 s0 = 0 by simp [putE, m0]] at hp0
          rw [show putT k1 n1 f1 s1 = putL k1 n1 f1 s1 by simp [putT, m1], show putE k1 n1 f1 s1 = 0 by simp [putE, m1]] at hp1
          have z0 : (str (putL k0 n0 f0 s0)).size = (putL k0 n0 f0 s0).length := rfl
          have z1 : (str (putL k1 n1 f1 s1)).size = (putL k1 n1 f1 s1).length := rfl
          have y0 := length_putL k0 n0 f0 s0 m0
          have y1 := length_putL k1 n1 f1 s1 m1
          by_cases hall : k0 = k1 ∧ n0 = n1 ∧ f0 = f1 ∧ s0.toList = s1.toList
          · obtain ⟨rfl, rfl, rfl, hss⟩ := hall
            have : s0 = s1 := by
              rw [ByteArray.toList_eq, ByteArray.toList_eq] at hss
              apply ByteArray.ext
              exact Array.toList_inj.1 hss
            subst this
            exact core_eq k0 n0 f0 s0 _ hl0 (by omega) hp0 hp1 w
          · by_cases hle : (str (putL k0 n0 f0 s0)).size ≤ (str (putL k1 n1 f1 s1)).size
            · have hE : ((str (putL k0 n0 f0 s0)).toList == ((str (putL k1 n1 f1 s1)).extract 0 (str (putL k0 n0 f0 s0)).size).toList) = false := by
                rw [str_toList, ext_str, z0]
                refine beq_eq_false_iff_ne.2 (fun h => ?_)
                obtain ⟨r, hr⟩ := part_of h
                exact hall (begins hn0 hf0 hn1 hf1 m0 m1 hr)
              by_cases e1 : k0 = k1
              · subst e1
                by_cases e2 : n0 = n1
                · subst e2
                  by_cases e3 : f0 = f1
                  · subst e3
                    exact core_le4 k0 n0 f0 s0 s1 _ _ hl0 hl1 (by omega) (by omega) hle hE (fun h => hall ⟨rfl, rfl, rfl, h⟩) hp0 hp1 w
                  · exact core_le3 k0 n0 f0 s0 f1 s1 _ _ hl0 hl1 (by omega) (by omega) hle hE (by omega) hp0 hp1 w
                · exact core_le2 k0 n0 f0 s0 n1 f1 s1 _ _ hl0 hl1 (by omega) (by omega) hle hE e2 hp0 hp1 w
              · exact core_le1 k0 n0 f0 s0 k1 n1 f1 s1 _ _ hl0 hl1 (by omega) (by omega) hle hE e1 hp0 hp1 w
            · have hE : (((str (putL k0 n0 f0 s0)).extract 0 (str (putL k1 n1 f1 s1)).size).toList == (str (putL k1 n1 f1 s1)).toList) = false := by
                rw [str_toList, ext_str, z1]
                refine beq_eq_false_iff_ne.2 (fun h => ?_)
                obtain ⟨r, hr⟩ := part_of h.symm
                obtain ⟨p1, p2, p3, p4⟩ := begins hn1 hf1 hn0 hf0 m1 m0 hr
                exact hall ⟨p1.symm, p2.symm, p3.symm, p4.symm⟩
              by_cases e1 : k0 = k1
              · subst e1
                by_cases e2 : n0 = n1
                · subst e2
                  by_cases e3 : f0 = f1
                  · subst e3
                    exact core_gt4 k0 n0 f0 s0 s1 _ _ hl0 hl1 (by omega) (by omega) (by omega) hE (fun h => hall ⟨rfl, rfl, rfl, h⟩) hp0 hp1 w
                  · exact core_gt3 k0 n0 f0 s0 f1 s1 _ _ hl0 hl1 (by omega) (by omega) (by omega) hE (by omega) hp0 hp1 w
                · exact core_gt2 k0 n0 f0 s0 n1 f1 s1 _ _ hl0 hl1 (by omega) (by omega) (by omega) hE e2 hp0 hp1 w
              · exact core_gt1 k0 n0 f0 s0 k1 n1 f1 s1 _ _ hl0 hl1 (by omega) (by omega) (by omega) hE e1 hp0 hp1 w

set_option maxRecDepth 100000 in
theorem lifted (os : Os) (started : os.Started) (H : Type) (enc : TypeId × Value → H) :
    ReturnsInHanded {} Try.checked os 3 .any (Rows.valueUnlikeSpec.pre6 enc Try.prog Try.f3 Rows.valueUnlikeRow.domain false) (Rows.valueUnlikeSpec.post enc Try.prog Try.f3 false true false false) := by
  refine returnsInHanded_of_change (C := Try.checked) own started (by kernel_rfl) Try.func3
    (ChangeSpec.witness6 (enc := enc) (C := Try.checked) false ⟨#[], #[.agg #[.int .i64 0, .int .i64 0, .int .u64 0, .string ByteArray.empty], .agg #[.int .i64 0, .int .i64 0, .int .u64 0, .string ByteArray.empty]], []⟩ 8 (by kernel_rfl) (by kernel_rfl) (by kernel_rfl) (by kernel_rfl)) ?_
  intro W base args ds gs before hval0 hW hcnd _
  have hval : ∀ (j : Nat) t v, Try.f3.params[j]? = some t → args[j]? = some v → Value.okWide Try.prog W .any base t v := hval0
  have hW' := hW
  obtain ⟨p, q, hA0, hV, rfl, hfz, hnd⟩ := hW
  have hA : DataW.TrodAll enc Try.prog W 0 (fun _ => true) true Try.f3.params.toList args.toList ds p := hA0
  rw [Try.params3] at hA hval
  obtain ⟨v0, vs0, d0, ds0, p0, q0, hargs, rfl, rfl, h0, r0⟩ := trodAll_cons hA
  obtain ⟨v1, vs1, d1, ds1, p1, q1, rfl, rfl, rfl, h1, r1⟩ := trodAll_cons r0
  obtain ⟨rfl, rfl, rfl⟩ := trodAll_nil r1
  obtain rfl : args = #[v0, v1] := by cases args; simp_all
  obtain ⟨rfl, rfl⟩ := trodVars_none hV
  obtain ⟨ca0, cb0, cc0, cd0, ya0, yb0, yc0, yd0, m0, rfl, rfl, rfl, hya0, hyb0, hyc0, hyd0⟩ := open_agg4 Try.underlying24 (by kernel_rfl) cellsV (hval 0 24 v0 rfl rfl) h0
  obtain ⟨k0, ea0, rfl, wk0⟩ := DataW.trod_int Try.underlying3 hya0
  obtain ⟨n0, eb0, rfl, wn0⟩ := DataW.trod_int Try.underlying2 hyb0
  obtain ⟨g0, ec0, rfl, wf0⟩ := DataW.trod_int Try.underlying22 hyc0
  obtain ⟨s0, ed0, rfl, ws0⟩ := DataW.trod_string Try.underlying9 hyd0
  simp at ea0 eb0 ec0 ed0
  subst ea0 eb0 ec0 ed0
  have bn0 := bounds_i64 wn0
  have bf0 := bounds_u64 wf0
  obtain ⟨f0, rfl⟩ := Int.eq_ofNat_of_zero_le bf0.1
  obtain ⟨ca1, cb1, cc1, cd1, ya1, yb1, yc1, yd1, m1, rfl, rfl, rfl, hya1, hyb1, hyc1, hyd1⟩ := open_agg4 Try.underlying24 (by kernel_rfl) cellsV (hval 1 24 v1 rfl rfl) h1
  obtain ⟨k1, ea1, rfl, wk1⟩ := DataW.trod_int Try.underlying3 hya1
  obtain ⟨n1, eb1, rfl, wn1⟩ := DataW.trod_int Try.underlying2 hyb1
  obtain ⟨g1, ec1, rfl, wf1⟩ := DataW.trod_int Try.underlying22 hyc1
  obtain ⟨s1, ed1, rfl, ws1⟩ := DataW.trod_string Try.underlying9 hyd1
  simp at ea1 eb1 ec1 ed1
  subst ea1 eb1 ec1 ed1
  have bn1 := bounds_i64 wn1
  have bf1 := bounds_u64 wf1
  obtain ⟨f1, rfl⟩ := Int.eq_ofNat_of_zero_le bf1.1
  clear hA0 hval0
  simp only [List.append_nil] at hW'
  have rd0 : ∀ (W' : World) (sp : Nat → Bool), DataW.Trod enc Try.prog W' 0 sp true 24 (.agg #[.int .i64 k0, .int .i64 n0, .int .u64 (f0 : Int), .string s0]) (.agg [.lit (.int .i64 k0), .lit (.int .i64 n0), .lit (.int .u64 (f0 : Int)), .lit (.string s0.data.toList)]) [] := fun W' sp =>
    shut_agg4 (y0 := (.lit (.int .i64 k0), [])) (y1 := (.lit (.int .i64 n0), [])) (y2 := (.lit (.int .u64 (f0 : Int)), [])) (y3 := (.lit (.string s0.data.toList), [])) Try.underlying24 (by kernel_rfl) cellsV
      ⟨1, by simp [DataW.trod, Try.underlying3, wk0]⟩ ⟨1, by simp [DataW.trod, Try.underlying2, wn0]⟩ ⟨1, by simp [DataW.trod, Try.underlying22, wf0]⟩ ⟨1, by simp [DataW.trod, Try.underlying9, ws0]⟩
  have rd1 : ∀ (W' : World) (sp : Nat → Bool), DataW.Trod enc Try.prog W' 0 sp true 24 (.agg #[.int .i64 k1, .int .i64 n1, .int .u64 (f1 : Int), .string s1]) (.agg [.lit (.int .i64 k1), .lit (.int .i64 n1), .lit (.int .u64 (f1 : Int)), .lit (.string s1.data.toList)]) [] := fun W' sp =>
    shut_agg4 (y0 := (.lit (.int .i64 k1), [])) (y1 := (.lit (.int .i64 n1), [])) (y2 := (.lit (.int .u64 (f1 : Int)), [])) (y3 := (.lit (.string s1.data.toList), [])) Try.underlying24 (by kernel_rfl) cellsV
      ⟨1, by simp [DataW.trod, Try.underlying3, wk1]⟩ ⟨1, by simp [DataW.trod, Try.underlying2, wn1]⟩ ⟨1, by simp [DataW.trod, Try.underlying22, wf1]⟩ ⟨1, by simp [DataW.trod, Try.underlying9, ws1]⟩
  refine (walk k0 n0 (by omega) f0 (by omega) s0 k1 n1 (by omega) f1 (by omega) s1 W).mono fun e W' ⟨he, hg⟩ => ?_
  subst he
  exact ⟨_, rfl, _, _, _, [], [], [], hW', trodAll_cons_mk (shut_bool Try.underlying4 _) trodAll_mk0, (trodAll_cons_mk (rd0 _ _) (trodAll_cons_mk (rd1 _ _) trodAll_mk0)), rfl, hg.frame _, fun h => by cases h⟩

theorem over : Rows.valueUnlikeRow.holds Try.pinned (OpenSpec.ofChange Rows.valueUnlikeSpec) :=
  OpenClaim.holds_of_wide 3 Try.f3 rfl rfl rfl rfl rfl rfl rfl ⟨rfl, rfl, rfl, rfl, rfl⟩ rfl rfl rfl rfl rfl (by kernel_rfl) Try.func3 (by kernel_rfl)
    (of_decide_eq_true (by kernel_rfl)) (by unfold Func.isWrapper; first | (rw [if_pos (by decide +kernel)]; kernel_rfl) | (rw [if_neg (by decide +kernel)]; exact ⟨rfl, rfl⟩))
    (fun os started H enc _ => lifted os started H enc)

theorem proved : Rows.ValueUnlikeSaid :=
  over
#print axioms proved
end Go.Proofs.Ytpgpmnecggllcab.valueUnlike
