/-
  Joined:
  Contracts of a machine's nine checks.
  Contracts of a machine's checks that ask the store.
-/
import Derived.Test.YtclliljkmmpglaaGreatApA
import Derived.BigRegion
import Derived.Deep.RegionHeldLaw
namespace Go.Proofs.YtclliljkmmpglaaGreat
open Go.RowKit Go.Maps Num
open scoped Classical
set_option linter.unusedVariables false
set_option maxRecDepth 100000

/-- A result's box, written behind a call. -/
theorem res_box {w X w1 : World} (hX : w.alloc (.cells #[.int .i64 0, .int .i64 0] 96) = X) (hb : Below X.heap.size X w1) (p : Int × Int) :
    w1.cell? ⟨w.heap.size, 0, none⟩ = some (.int .i64 0) ∧ w1.cell? ⟨w.heap.size, 1, none⟩ = some (.int .i64 0) ∧ w1.frozen? ⟨w.heap.size, 0, none⟩ = false ∧ w1.frozen? ⟨w.heap.size, 1, none⟩ = false ∧
    ((w1.setCell ⟨w.heap.size, 0, none⟩ (.int .i64 p.1)).setCell ⟨w.heap.size, 1, none⟩ (.int .i64 p.2)).cell? ⟨w.heap.size, 0, none⟩ = some (.int .i64 p.1) ∧
    ((w1.setCell ⟨w.heap.size, 0, none⟩ (.int .i64 p.1)).setCell ⟨w.heap.size, 1, none⟩ (.int .i64 p.2)).cell? ⟨w.heap.size, 1, none⟩ = some (.int .i64 p.2) ∧
    Below w.heap.size w ((w1.setCell ⟨w.heap.size, 0, none⟩ (.int .i64 p.1)).setCell ⟨w.heap.size, 1, none⟩ (.int .i64 p.2)) := by
  subst hX
  have b1 := below_box hb (heap_new w (.cells #[.int .i64 0, .int .i64 0] 96))
  have s1 := set_heap (i := 0) b1 (.int .i64 p.1)
  have s2 := set_heap (i := 1) s1 (.int .i64 p.2)
  have hbw : Below w.heap.size w w1 := below_next ((Below.refl _ w).alloc (Nat.le_refl _) _) (Nat.le_refl _) hb
  exact ⟨box_cell b1 0 _ rfl, box_cell b1 1 _ rfl, box_open b1 0, box_open b1 1, box_cell s2 0 _ rfl, box_cell s2 1 _ rfl, (hbw.trans (below_grown (grown_set _ _ 0 _) (Nat.le_refl _) hbw.size)).trans (below_grown (grown_set _ _ 1 _) (Nat.le_refl _) (by simpa using hbw.size))⟩
/-- What the checks have caught. -/
structure Num.Env (W : World) (nm nt nc nf g : Nat) (t : Int) (s : Cs) (c : Cmd) (form : Int) : Prop where
  m : W.heap[nm]? = some (ptr1 g)
  t : W.heap[nt]? = some (.cells #[.int .i64 t] 3)
  c : W.heap[nc]? = some (cmCells s c)
  f : W.heap[nf]? = some (.cells #[.int .i64 form] 26)
theorem Num.Env.below {W V : World} {nm nt nc nf g : Nat} {t : Int} {s : Cs} {c : Cmd} {form : Int} (h : Env W nm nt nc nf g t s c form) (hb : Below W.heap.size W V) : Env V nm nt nc nf g t s c form := ⟨below_box hb h.m, below_box hb h.t, below_box hb h.c, below_box hb h.f⟩
theorem cm_cells {W : World} {nc : Nat} {s : Cs} {c : Cmd} (h : W.heap[nc]? = some (cmCells s c)) : W.cell? ⟨nc, 0, none⟩ = some (.int .i64 c.kind) ∧ W.cell? ⟨nc, 1, none⟩ = some (.int .i64 c.client) ∧ W.cell? ⟨nc, 2, none⟩ = some (.int .i64 c.seq) ∧ W.cell? ⟨nc, 3, none⟩ = some (.int .i64 c.snap) ∧ W.cell? ⟨nc, 4, none⟩ = some (.slice s.ko c.keys.length s.kc) ∧ W.cell? ⟨nc, 5, none⟩ = some (.slice s.ro c.rngs.length s.rc) ∧ W.cell? ⟨nc, 6, none⟩ = some (.slice s.wo c.wrts.length s.wc) ∧ W.cell? ⟨nc, 7, none⟩ = some (.int .i64 c.dead) ∧ W.cell? ⟨nc, 8, none⟩ = some (.int .i64 c.aft) ∧ W.cell? ⟨nc, 9, none⟩ = some (.int .i64 c.held) ∧ W.cell? ⟨nc, 10, none⟩ = some (.string c.text) ∧ W.cell? ⟨nc, 11, none⟩ = some (.int .i64 c.code) ∧ W.cell? ⟨nc, 12, none⟩ = some (.slice s.xo c.rows.length s.xc) :=
  ⟨box_cell h 0 _ rfl, box_cell h 1 _ rfl, box_cell h 2 _ rfl, box_cell h 3 _ rfl, box_cell h 4 _ rfl, box_cell h 5 _ rfl, box_cell h 6 _ rfl, box_cell h 7 _ rfl, box_cell h 8 _ rfl, box_cell h 9 _ rfl, box_cell h 10 _ rfl, box_cell h 11 _ rfl, box_cell h 12 _ rfl⟩
set_option maxRecDepth 100000 in
set_option maxHeartbeats 2000000 in
theorem chk1_any (B g gs cap nm nt nc nf : Nat) (m : Mac) (ao : Option Addr) (lv : Value) (t : Int) (s : Cs) (c : Cmd) (form : Int) (w : World) (h : HoldM B w g m gs ao cap lv) (he : Env w nm nt nc nf g t s c form) :
    Calls Tryz.prog 70 #[.pointer (some ⟨nt, 0, none⟩), .pointer (some ⟨nm, 0, none⟩)] w fun e w' => e = .returned (verdV (checkV m t c form 0)) ∧ Below w.heap.size w w' := by
  obtain ⟨X, hX⟩ : ∃ X, w.alloc (.cells #[.int .i64 0, .int .i64 0] 96) = X := ⟨_, rfl⟩
  have hb : Below w.heap.size w X := by rw [← hX]; exact (Below.refl _ w).alloc (Nat.le_refl _) _
  have h := h.below hb
  have he := he.below hb
  obtain ⟨m0, m1, m2, m3, m4⟩ := mac_cells h
  have p0 := box_cell he.m 0 _ rfl
  have t0 := box_cell he.t 0 _ rfl
  have f0 := box_cell he.f 0 _ rfl
  obtain ⟨c0, c1, c2, c3, c4, c5, c6, c7, c8, c9, c10, c11, c12⟩ := cm_cells he.c
  clear h he
  clear m0 m2 m3 m4 f0 c0 c1 c2 c3 c4 c5 c6 c7 c8 c9 c10 c11 c12
  show Calls _ _ _ _ fun e w' => e = .returned (verdV (whenV (decide (t ≤ m.time) || decide (1099511627776 ≤ t)) 1 1)) ∧ _
  cases hA : decide (t ≤ m.time) with
  | true =>
    go_enter Tryz.func70, Tryz.ntmps70
    go_wp2_with fail
    try rw [hX]
    go_region_with (first | (go_at_call 71; refine (when_any true 1 1 _).mono ?_; rintro e w1 ⟨rfl, hb1⟩; obtain ⟨z0, z1, g0, g1, y0, y1, hy⟩ := res_box hX (below_next ((Below.refl _ X).drew) (Nat.le_refl _) hb1) (whenV true 1 1)))
    all_goals go_wp2
    all_goals refine bodyPost_ret (v := verdV (whenV true 1 1)) (by simp [results, Tryz.results70, go_sem, y0, y1]) rfl ⟨rfl, hy⟩
  | false =>
    cases hB : decide (1099511627776 ≤ t) with
    | true =>
      go_enter Tryz.func70, Tryz.ntmps70
      go_wp2_with fail
      try rw [hX]
      go_region_with (first | (go_at_call 71; refine (when_any true 1 1 _).mono ?_; rintro e w1 ⟨rfl, hb1⟩; obtain ⟨z0, z1, g0, g1, y0, y1, hy⟩ := res_box hX (below_next ((Below.refl _ X).drew) (Nat.le_refl _) hb1) (whenV true 1 1)))
      all_goals go_wp2
      all_goals refine bodyPost_ret (v := verdV (whenV true 1 1)) (by simp [results, Tryz.results70, go_sem, y0, y1]) rfl ⟨rfl, hy⟩
    | false =>
      go_enter Tryz.func70, Tryz.ntmps70
      go_wp2_with fail
      try rw [hX]
      go_region_with (first | (go_at_call 71; refine (when_any false 1 1 _).mono ?_; rintro e w1 ⟨rfl, hb1⟩; obtain ⟨z0, z1, g0, g1, y0, y1, hy⟩ := res_box hX (below_next ((Below.refl _ X).drew) (Nat.le_refl _) hb1) (whenV false 1 1)))
      all_goals go_wp2
      all_goals refine bodyPost_ret (v := verdV (whenV false 1 1)) (by simp [results, Tryz.results70, go_sem, y0, y1]) rfl ⟨rfl, hy⟩
set_option maxRecDepth 100000 in
set_option maxHeartbeats 2000000 in
theorem chk2_any (B g gs cap nm nt nc nf : Nat) (m : Mac) (ao : Option Addr) (lv : Value) (t : Int) (s : Cs) (c : Cmd) (form : Int) (w : World) (h : HoldM B w g m gs ao cap lv) (he : Env w nm nt nc nf g t s c form) :
    Calls Tryz.prog 72 #[.pointer (some ⟨nf, 0, none⟩)] w fun e w' => e = .returned (verdV (checkV m t c form 1)) ∧ Below w.heap.size w w' := by
  obtain ⟨X, hX⟩ : ∃ X, w.alloc (.cells #[.int .i64 0, .int .i64 0] 96) = X := ⟨_, rfl⟩
  have hb : Below w.heap.size w X := by rw [← hX]; exact (Below.refl _ w).alloc (Nat.le_refl _) _
  have h := h.below hb
  have he := he.below hb
  obtain ⟨m0, m1, m2, m3, m4⟩ := mac_cells h
  have p0 := box_cell he.m 0 _ rfl
  have t0 := box_cell he.t 0 _ rfl
  have f0 := box_cell he.f 0 _ rfl
  obtain ⟨c0, c1, c2, c3, c4, c5, c6, c7, c8, c9, c10, c11, c12⟩ := cm_cells he.c
  clear h he
  clear m0 m1 m2 m3 m4 p0 t0 c0 c1 c2 c3 c4 c5 c6 c7 c8 c9 c10 c11 c12
  show Calls _ _ _ _ fun e w' => e = .returned (verdV (whenV (decide (form ≠ 0)) 2 3)) ∧ _
  by_cases hA : form = 0
  · rw [decide_eq_false (by simpa using hA)]
    have hB : (form != 0) = false := by simp [hA]
    clear hA
    go_enter Tryz.func72, Tryz.ntmps72
    go_wp2_with (first | (go_at_call 71; refine (when_any false 2 3 _).mono ?_; rintro e w1 ⟨rfl, hb1⟩; obtain ⟨z0, z1, g0, g1, y0, y1, hy⟩ := res_box hX hb1 (whenV false 2 3)))
    refine bodyPost_ret (v := verdV (whenV false 2 3)) (by simp [results, Tryz.results72, go_sem, y0, y1]) rfl ⟨rfl, hy⟩
  · rw [decide_eq_true (by simpa using hA)]
    have hB : (form != 0) = true := by simp [hA]
    go_enter Tryz.func72, Tryz.ntmps72
    go_wp2_with (first | (go_at_call 71; refine (when_any true 2 3 _).mono ?_; rintro e w1 ⟨rfl, hb1⟩; obtain ⟨z0, z1, g0, g1, y0, y1, hy⟩ := res_box hX hb1 (whenV true 2 3)))
    refine bodyPost_ret (v := verdV (whenV true 2 3)) (by simp [results, Tryz.results72, go_sem, y0, y1]) rfl ⟨rfl, hy⟩
set_option maxRecDepth 100000 in
set_option maxHeartbeats 2000000 in
theorem chk4_any (B g gs cap nm nt nc nf : Nat) (m : Mac) (ao : Option Addr) (lv : Value) (t : Int) (s : Cs) (c : Cmd) (form : Int) (w : World) (h : HoldM B w g m gs ao cap lv) (he : Env w nm nt nc nf g t s c form) :
    Calls Tryz.prog 75 #[.pointer (some ⟨nc, 0, none⟩)] w fun e w' => e = .returned (verdV (checkV m t c form 3)) ∧ Below w.heap.size w w' := by
  obtain ⟨X, hX⟩ : ∃ X, w.alloc (.cells #[.int .i64 0, .int .i64 0] 96) = X := ⟨_, rfl⟩
  have hb : Below w.heap.size w X := by rw [← hX]; exact (Below.refl _ w).alloc (Nat.le_refl _) _
  have h := h.below hb
  have he := he.below hb
  obtain ⟨m0, m1, m2, m3, m4⟩ := mac_cells h
  have p0 := box_cell he.m 0 _ rfl
  have t0 := box_cell he.t 0 _ rfl
  have f0 := box_cell he.f 0 _ rfl
  obtain ⟨c0, c1, c2, c3, c4, c5, c6, c7, c8, c9, c10, c11, c12⟩ := cm_cells he.c
  clear h he
  clear m0 m1 m2 m3 m4 p0 t0 f0 c1 c2 c3 c4 c5 c6 c7 c8 c9 c10 c11 c12
  show Calls _ _ _ _ fun e w' => e = .returned (verdV (whenV (decide (c.kind = 0)) 2 0)) ∧ _
  by_cases hA : c.kind = 0
  · rw [decide_eq_true hA]
    have hB : (c.kind == 0) = true := by simp [hA]
    clear hA
    go_enter Tryz.func75, Tryz.ntmps75
    go_wp2_with (first | (go_at_call 71; refine (when_any true 2 0 _).mono ?_; rintro e w1 ⟨rfl, hb1⟩; obtain ⟨z0, z1, g0, g1, y0, y1, hy⟩ := res_box hX hb1 (whenV true 2 0)))
    refine bodyPost_ret (v := verdV (whenV true 2 0)) (by simp [results, Tryz.results75, go_sem, y0, y1]) rfl ⟨rfl, hy⟩
  · rw [decide_eq_false hA]
    have hB : (c.kind == 0) = false := by simp [hA]
    go_enter Tryz.func75, Tryz.ntmps75
    go_wp2_with (first | (go_at_call 71; refine (when_any false 2 0 _).mono ?_; rintro e w1 ⟨rfl, hb1⟩; obtain ⟨z0, z1, g0, g1, y0, y1, hy⟩ := res_box hX hb1 (whenV false 2 0)))
    refine bodyPost_ret (v := verdV (whenV false 2 0)) (by simp [results, Tryz.results75, go_sem, y0, y1]) rfl ⟨rfl, hy⟩
set_option maxRecDepth 100000 in
set_option maxHeartbeats 2000000 in
theorem chk5_any (B g gs cap nm nt nc nf : Nat) (m : Mac) (ao : Option Addr) (lv : Value) (t : Int) (s : Cs) (c : Cmd) (form : Int) (w : World) (h : HoldM B w g m gs ao cap lv) (he : Env w nm nt nc nf g t s c form) :
    Calls Tryz.prog 76 #[.pointer (some ⟨nc, 0, none⟩), .pointer (some ⟨nt, 0, none⟩)] w fun e w' => e = .returned (verdV (checkV m t c form 4)) ∧ Below w.heap.size w w' := by
  obtain ⟨X, hX⟩ : ∃ X, w.alloc (.cells #[.int .i64 0, .int .i64 0] 96) = X := ⟨_, rfl⟩
  have hb : Below w.heap.size w X := by rw [← hX]; exact (Below.refl _ w).alloc (Nat.le_refl _) _
  have h := h.below hb
  have he := he.below hb
  obtain ⟨m0, m1, m2, m3, m4⟩ := mac_cells h
  have p0 := box_cell he.m 0 _ rfl
  have t0 := box_cell he.t 0 _ rfl
  have f0 := box_cell he.f 0 _ rfl
  obtain ⟨c0, c1, c2, c3, c4, c5, c6, c7, c8, c9, c10, c11, c12⟩ := cm_cells he.c
  clear h he
  clear m0 m1 m2 m3 m4 p0 f0 c0 c1 c2 c4 c5 c6 c7 c8 c9 c10 c11 c12
  show Calls _ _ _ _ fun e w' => e = .returned (verdV (whenV (decide (t ≤ c.snap)) 3 1)) ∧ _
  cases hA : decide (t ≤ c.snap) with
  | true =>
    go_enter Tryz.func76, Tryz.ntmps76
    go_wp2_with (first | (go_at_call 71; refine (when_any true 3 1 _).mono ?_; rintro e w1 ⟨rfl, hb1⟩; obtain ⟨z0, z1, g0, g1, y0, y1, hy⟩ := res_box hX hb1 (whenV true 3 1)))
    refine bodyPost_ret (v := verdV (whenV true 3 1)) (by simp [results, Tryz.results76, go_sem, y0, y1]) rfl ⟨rfl, hy⟩
  | false =>
    go_enter Tryz.func76, Tryz.ntmps76
    go_wp2_with (first | (go_at_call 71; refine (when_any false 3 1 _).mono ?_; rintro e w1 ⟨rfl, hb1⟩; obtain ⟨z0, z1, g0, g1, y0, y1, hy⟩ := res_box hX hb1 (whenV false 3 1)))
    refine bodyPost_ret (v := verdV (whenV false 3 1)) (by simp [results, Tryz.results76, go_sem, y0, y1]) rfl ⟨rfl, hy⟩
set_option maxRecDepth 100000 in
set_option maxHeartbeats 2000000 in
theorem chk7_any (B g gs cap nm nt nc nf : Nat) (m : Mac) (ao : Option Addr) (lv : Value) (t : Int) (s : Cs) (c : Cmd) (form : Int) (w : World) (h : HoldM B w g m gs ao cap lv) (he : Env w nm nt nc nf g t s c form) :
    Calls Tryz.prog 78 #[.pointer (some ⟨nt, 0, none⟩), .pointer (some ⟨nc, 0, none⟩)] w fun e w' => e = .returned (verdV (checkV m t c form 6)) ∧ Below w.heap.size w w' := by
  obtain ⟨X, hX⟩ : ∃ X, w.alloc (.cells #[.int .i64 0, .int .i64 0] 96) = X := ⟨_, rfl⟩
  have hb : Below w.heap.size w X := by rw [← hX]; exact (Below.refl _ w).alloc (Nat.le_refl _) _
  have h := h.below hb
  have he := he.below hb
  obtain ⟨m0, m1, m2, m3, m4⟩ := mac_cells h
  have p0 := box_cell he.m 0 _ rfl
  have t0 := box_cell he.t 0 _ rfl
  have f0 := box_cell he.f 0 _ rfl
  obtain ⟨c0, c1, c2, c3, c4, c5, c6, c7, c8, c9, c10, c11, c12⟩ := cm_cells he.c
  clear h he
  clear m0 m1 m2 m3 m4 p0 f0 c0 c1 c2 c3 c4 c5 c6 c7 c9 c10 c11 c12
  show Calls _ _ _ _ fun e w' => e = .returned (verdV (whenV (decide (t < c.aft)) 3 15)) ∧ _
  cases hA : decide (t < c.aft) with
  | true =>
    go_enter Tryz.func78, Tryz.ntmps78
    go_wp2_with (first | (go_at_call 71; refine (when_any true 3 15 _).mono ?_; rintro e w1 ⟨rfl, hb1⟩; obtain ⟨z0, z1, g0, g1, y0, y1, hy⟩ := res_box hX hb1 (whenV true 3 15)))
    refine bodyPost_ret (v := verdV (whenV true 3 15)) (by simp [results, Tryz.results78, go_sem, y0, y1]) rfl ⟨rfl, hy⟩
  | false =>
    go_enter Tryz.func78, Tryz.ntmps78
    go_wp2_with (first | (go_at_call 71; refine (when_any false 3 15 _).mono ?_; rintro e w1 ⟨rfl, hb1⟩; obtain ⟨z0, z1, g0, g1, y0, y1, hy⟩ := res_box hX hb1 (whenV false 3 15)))
    refine bodyPost_ret (v := verdV (whenV false 3 15)) (by simp [results, Tryz.results78, go_sem, y0, y1]) rfl ⟨rfl, hy⟩
set_option maxRecDepth 100000 in
set_option maxHeartbeats 2000000 in
theorem chk6_any (B g gs cap nm nt nc nf : Nat) (m : Mac) (ao : Option Addr) (lv : Value) (t : Int) (s : Cs) (c : Cmd) (form : Int) (w : World) (h : HoldM B w g m gs ao cap lv) (he : Env w nm nt nc nf g t s c form) :
    Calls Tryz.prog 77 #[.pointer (some ⟨nc, 0, none⟩), .pointer (some ⟨nt, 0, none⟩)] w fun e w' => e = .returned (verdV (checkV m t c form 5)) ∧ Below w.heap.size w w' := by
  obtain ⟨X, hX⟩ : ∃ X, w.alloc (.cells #[.int .i64 0, .int .i64 0] 96) = X := ⟨_, rfl⟩
  have hb : Below w.heap.size w X := by rw [← hX]; exact (Below.refl _ w).alloc (Nat.le_refl _) _
  have h := h.below hb
  have he := he.below hb
  obtain ⟨m0, m1, m2, m3, m4⟩ := mac_cells h
  have p0 := box_cell he.m 0 _ rfl
  have t0 := box_cell he.t 0 _ rfl
  have f0 := box_cell he.f 0 _ rfl
  obtain ⟨c0, c1, c2, c3, c4, c5, c6, c7, c8, c9, c10, c11, c12⟩ := cm_cells he.c
  clear h he
  clear m0 m1 m2 m3 m4 p0 f0 c0 c1 c2 c3 c4 c5 c6 c8 c9 c10 c11 c12
  show Calls _ _ _ _ fun e w' => e = .returned (verdV (whenV (decide (c.dead ≠ 0) && decide (c.dead < t)) 3 14)) ∧ _
  by_cases hA : c.dead = 0
  · rw [decide_eq_false (by simpa using hA), Bool.false_and]
    have hB : (c.dead != 0) = false := by simp [hA]
    clear hA
    go_enter Tryz.func77, Tryz.ntmps77
    go_wp2_with (first | (go_at_call 71; refine (when_any false 3 14 _).mono ?_; rintro e w1 ⟨rfl, hb1⟩; obtain ⟨z0, z1, g0, g1, y0, y1, hy⟩ := res_box hX hb1 (whenV false 3 14)))
    refine bodyPost_ret (v := verdV (whenV false 3 14)) (by simp [results, Tryz.results77, go_sem, y0, y1]) rfl ⟨rfl, hy⟩
  · rw [decide_eq_true (by simpa using hA), Bool.true_and]
    have hB : (c.dead != 0) = true := by simp [hA]
    cases hC : decide (c.dead < t) with
    | true =>
      go_enter Tryz.func77, Tryz.ntmps77
      go_wp2_with (first | (go_at_call 71; refine (when_any true 3 14 _).mono ?_; rintro e w1 ⟨rfl, hb1⟩; obtain ⟨z0, z1, g0, g1, y0, y1, hy⟩ := res_box hX hb1 (whenV true 3 14)))
      refine bodyPost_ret (v := verdV (whenV true 3 14)) (by simp [results, Tryz.results77, go_sem, y0, y1]) rfl ⟨rfl, hy⟩
    | false =>
      go_enter Tryz.func77, Tryz.ntmps77
      go_wp2_with (first | (go_at_call 71; refine (when_any false 3 14 _).mono ?_; rintro e w1 ⟨rfl, hb1⟩; obtain ⟨z0, z1, g0, g1, y0, y1, hy⟩ := res_box hX hb1 (whenV false 3 14)))
      refine bodyPost_ret (v := verdV (whenV false 3 14)) (by simp [results, Tryz.results77, go_sem, y0, y1]) rfl ⟨rfl, hy⟩
end Go.Proofs.YtclliljkmmpglaaGreat
namespace Go.Proofs.YtclliljkmmpglaaGreat
open Go.RowKit Go.Maps Num
open scoped Classical
set_option linter.unusedVariables false
set_option maxRecDepth 100000

set_option maxRecDepth 100000 in
set_option maxHeartbeats 2000000 in
theorem chk3_any (B g gs cap nm nt nc nf : Nat) (m : Mac) (ao : Option Addr) (lv : Value) (t : Int) (s : Cs) (c : Cmd) (form : Int) (hc : 0 ≤ c.client ∧ c.client ≤ 100) (w : World) (h : HoldM B w g m gs ao cap lv) (he : Env w nm nt nc nf g t s c form) :
    Calls Tryz.prog 73 #[.pointer (some ⟨nm, 0, none⟩), .pointer (some ⟨nc, 0, none⟩)] w fun e w' => e = .returned (verdV (checkV m t c form 2)) ∧ Below w.heap.size w w' := by
  obtain ⟨X, hX⟩ : ∃ X, w.alloc (.cells #[.int .i64 0, .int .i64 0] 96) = X := ⟨_, rfl⟩
  have hb : Below w.heap.size w X := by rw [← hX]; exact (Below.refl _ w).alloc (Nat.le_refl _) _
  have h := h.below hb
  have he := he.below hb
  have hag := again_any B g gs cap m ao lv s c hc X h
  obtain ⟨m0, m1, m2, m3, m4⟩ := mac_cells h
  have p0 := box_cell he.m 0 _ rfl
  have t0 := box_cell he.t 0 _ rfl
  have f0 := box_cell he.f 0 _ rfl
  obtain ⟨c0, c1, c2, c3, c4, c5, c6, c7, c8, c9, c10, c11, c12⟩ := cm_cells he.c
  clear h he
  show Calls _ _ _ _ fun e w' => e = .returned (verdV (againV (m.last c.client) c.seq)) ∧ _
  generalize againV (m.last c.client) c.seq = p at *
  go_enter Tryz.func73, Tryz.ntmps73
  go_wp2_with (first | (go_at_call 74; refine hag.mono ?_; rintro e w1 ⟨rfl, hb1⟩; obtain ⟨z0, z1, g0, g1, y0, y1, hy⟩ := res_box hX hb1 (p)))
  refine bodyPost_ret (v := verdV p) (by simp [results, Tryz.results73, go_sem, y0, y1]) rfl ⟨rfl, hy⟩
set_option maxRecDepth 100000 in
set_option maxHeartbeats 2000000 in
theorem chk8_any (B g gs cap nm nt nc nf : Nat) (m : Mac) (ao : Option Addr) (lv : Value) (t : Int) (s : Cs) (c : Cmd) (form : Int) (hks : ∀ k ∈ c.keys, k.size ≤ 1000) (hkl : c.keys.length ≤ 200) (hrl : c.rngs.length ≤ 200) (w : World) (h : HoldM B w g m gs ao cap lv) (he : Env w nm nt nc nf g t s c form) (hl : LiesC w w.heap.size s c) :
    Calls Tryz.prog 79 #[.pointer (some ⟨nm, 0, none⟩), .pointer (some ⟨nc, 0, none⟩)] w fun e w' => e = .returned (verdV (checkV m t c form 7)) ∧ Below w.heap.size w w' := by
  obtain ⟨X, hX⟩ : ∃ X, w.alloc (.cells #[.int .i64 0, .int .i64 0] 96) = X := ⟨_, rfl⟩
  have hb : Below w.heap.size w X := by rw [← hX]; exact (Below.refl _ w).alloc (Nat.le_refl _) _
  have h := h.below hb
  have he := he.below hb
  have htu := turned_any B g gs cap m ao lv s c hks hkl hrl X h (liesC_next hl hb)
  obtain ⟨m0, m1, m2, m3, m4⟩ := mac_cells h
  have p0 := box_cell he.m 0 _ rfl
  have t0 := box_cell he.t 0 _ rfl
  have f0 := box_cell he.f 0 _ rfl
  obtain ⟨c0, c1, c2, c3, c4, c5, c6, c7, c8, c9, c10, c11, c12⟩ := cm_cells he.c
  clear h he hl
  show Calls _ _ _ _ fun e w' => e = .returned (verdV (whenV (turnedB m.st.vs c.snap c.keys c.rngs) 3 13)) ∧ _
  generalize turnedB m.st.vs c.snap c.keys c.rngs = b at *
  go_enter Tryz.func79, Tryz.ntmps79
  go_wp2_with (first
    | (go_at_call 80; refine htu.mono ?_; rintro e w0 ⟨rfl, hb0⟩)
    | (go_at_call 71; refine (when_any b 3 13 _).mono ?_; rintro e w1 ⟨rfl, hb1⟩; obtain ⟨z0, z1, g0, g1, y0, y1, hy⟩ := res_box hX (below_next hb0 (Nat.le_refl _) hb1) (whenV b 3 13)))
  refine bodyPost_ret (v := verdV (whenV b 3 13)) (by simp [results, Tryz.results79, go_sem, y0, y1]) rfl ⟨rfl, hy⟩
theorem heap_lt {w : World} {i : Nat} {o : Obj} (h : w.heap[i]? = some o) : i < w.heap.size := (Array.getElem?_eq_some_iff.1 h).1
theorem set_other {w : World} {b c i j : Nat} {v : Value} (h : c ≠ b) : (w.setCell ⟨b, i, none⟩ v).cell? ⟨c, j, none⟩ = w.cell? ⟨c, j, none⟩ := by
  unfold World.cell?
  rw [Below.heap_setCell _ _ _ _ h]
set_option maxRecDepth 100000 in
set_option maxHeartbeats 2000000 in
theorem chk9_any (B g gs cap nm nt nc nf : Nat) (m : Mac) (ao : Option Addr) (lv : Value) (t : Int) (s : Cs) (c : Cmd) (form : Int) (hws : ∀ x ∈ c.wrts, x.key.size ≤ 1000) (hwl : c.wrts.length ≤ 200) (w : World) (h : HoldM B w g m gs ao cap lv) (he : Env w nm nt nc nf g t s c form) (hl : LiesC w w.heap.size s c) :
    Calls Tryz.prog 81 #[.pointer (some ⟨nm, 0, none⟩), .pointer (some ⟨nt, 0, none⟩), .pointer (some ⟨nc, 0, none⟩)] w fun e w' => e = .returned (verdV (checkV m t c form 8)) ∧ Below w.heap.size w w' := by
  have h0 := h
  have he0 := he
  obtain ⟨X, hX⟩ : ∃ X, w.alloc (.cells #[.int .i64 0, .int .i64 0] 96) = X := ⟨_, rfl⟩
  have hb : Below w.heap.size w X := by rw [← hX]; exact (Below.refl _ w).alloc (Nat.le_refl _) _
  have h := h.below hb
  have he := he.below hb
  have hdiff : nm ≠ w.heap.size ∧ nt ≠ w.heap.size ∧ nc ≠ w.heap.size ∧ g ≠ w.heap.size := ⟨Nat.ne_of_lt (heap_lt he0.m), Nat.ne_of_lt (heap_lt he0.t), Nat.ne_of_lt (heap_lt he0.c), Nat.ne_of_lt h0.lt.2⟩
  have hl := liesC_next hl hb
  have hS : ∀ V, Below X.heap.size X V → V.cell? ⟨nm, 0, none⟩ = some (.pointer (some ⟨g, 0, none⟩)) ∧ V.cell? ⟨nt, 0, none⟩ = some (.int .i64 t) ∧ V.cell? ⟨nc, 6, none⟩ = some (.slice s.wo c.wrts.length s.wc) ∧ V.cell? ⟨g, 0, none⟩ = some (.int .i64 m.room) ∧ V.cell? ⟨g, 2, none⟩ = some (.pointer (some ⟨gs, 0, none⟩)) := fun V hV => ⟨box_cell (he.below hV).m 0 _ rfl, box_cell (he.below hV).t 0 _ rfl, box_cell (he.below hV).c 6 _ rfl, (mac_cells (h.below hV)).1, (mac_cells (h.below hV)).2.2.1⟩
  have hne := fun V (hV : Below X.heap.size X V) => needs_any B g gs cap m ao lv t c.wrts s.wo s.wc hws hwl V (h.below hV) (liesC_next hl hV).wrts
  have hsi := fun V (hV : Below X.heap.size X V) => ssize_any B gs m.st V (h.below hV).sto
  have hfew := h.few
  have hnle := needs_le m.st.vs t c.wrts
  have hroom := h.room.2
  have hbd : Below X.heap.size X X.drew := (Below.refl _ X).drew
  have hS0 := hS X.drew hbd
  have hnb : w.heap.size < X.heap.size := by rw [← hX]; simp
  have hfar : ∀ V (p : Int × Int), Below X.heap.size X V → ((V.setCell ⟨w.heap.size, 0, none⟩ (.int .i64 p.1)).cell? ⟨nm, 0, none⟩ = some (.pointer (some ⟨g, 0, none⟩)) ∧ (V.setCell ⟨w.heap.size, 0, none⟩ (.int .i64 p.1)).cell? ⟨nt, 0, none⟩ = some (.int .i64 t) ∧ (V.setCell ⟨w.heap.size, 0, none⟩ (.int .i64 p.1)).cell? ⟨nc, 6, none⟩ = some (.slice s.wo c.wrts.length s.wc) ∧ (V.setCell ⟨w.heap.size, 0, none⟩ (.int .i64 p.1)).cell? ⟨g, 0, none⟩ = some (.int .i64 m.room) ∧ (V.setCell ⟨w.heap.size, 0, none⟩ (.int .i64 p.1)).cell? ⟨g, 2, none⟩ = some (.pointer (some ⟨gs, 0, none⟩))) ∧ (((V.setCell ⟨w.heap.size, 0, none⟩ (.int .i64 p.1)).setCell ⟨w.heap.size, 1, none⟩ (.int .i64 p.2)).cell? ⟨nm, 0, none⟩ = some (.pointer (some ⟨g, 0, none⟩)) ∧ ((V.setCell ⟨w.heap.size, 0, none⟩ (.int .i64 p.1)).setCell ⟨w.heap.size, 1, none⟩ (.int .i64 p.2)).cell? ⟨nt, 0, none⟩ = some (.int .i64 t) ∧ ((V.setCell ⟨w.heap.size, 0, none⟩ (.int .i64 p.1)).setCell ⟨w.heap.size, 1, none⟩ (.int .i64 p.2)).cell? ⟨nc, 6, none⟩ = some (.slice s.wo c.wrts.length s.wc) ∧ ((V.setCell ⟨w.heap.size, 0, none⟩ (.int .i64 p.1)).setCell ⟨w.heap.size, 1, none⟩ (.int .i64 p.2)).cell? ⟨g, 0, none⟩ = some (.int .i64 m.room) ∧ ((V.setCell ⟨w.heap.size, 0, none⟩ (.int .i64 p.1)).setCell ⟨w.heap.size, 1, none⟩ (.int .i64 p.2)).cell? ⟨g, 2, none⟩ = some (.pointer (some ⟨gs, 0, none⟩))) := fun V p hV => by
    obtain ⟨a1, a2, a3, a4, a5⟩ := hS V hV
    obtain ⟨b1, b2, b3, b4⟩ := hdiff
    refine ⟨⟨?_, ?_, ?_, ?_, ?_⟩, ⟨?_, ?_, ?_, ?_, ?_⟩⟩ <;> (repeat rw [set_other (by assumption)]) <;> assumption
  clear h he hl h0 he0 hdiff
  show Calls _ _ _ _ fun e w' => e = .returned (verdV (whenV (decide (m.room - (m.st.vs.length : Int) < (needsN m.st.vs t c.wrts : Int))) 3 4)) ∧ _
  generalize needsN m.st.vs t c.wrts = n at *
  generalize m.st.vs.length = L at *
  have i1 : IntKind.i64.wrap (m.room - (L : Int)) = m.room - (L : Int) := by rw [IntKind.wrap_i64]; omega
  go_enter Tryz.func81, Tryz.ntmps81
  go_wp2_with fail
  try rw [hX]
  go_region_held_law (fun w' : World => w'.cell? ⟨nm, 0, none⟩ = some (.pointer (some ⟨g, 0, none⟩)) ∧ w'.cell? ⟨nt, 0, none⟩ = some (.int .i64 t) ∧ w'.cell? ⟨nc, 6, none⟩ = some (.slice s.wo c.wrts.length s.wc) ∧ w'.cell? ⟨g, 0, none⟩ = some (.int .i64 m.room) ∧ w'.cell? ⟨g, 2, none⟩ = some (.pointer (some ⟨gs, 0, none⟩))) (first | with_reducible exact hS0 | with_reducible exact hS1 | with_reducible exact hS2 | with_reducible exact hS3 | with_reducible exact hS4 | fail) (first
    | (go_at_call 82; refine (hne X.drew hbd).mono ?_; rintro e w1 ⟨rfl, hb1⟩; have hbn := below_next hbd (Nat.le_refl _) hb1; have hS1 := hS w1 hbn)
    | (go_at_call 43; refine (hsi X.drew hbd).mono ?_; rintro e wn ⟨rfl, hq⟩; have hq2 := hq.symm; clear hq; subst hq2)
    | (go_at_call 43; refine (hsi w1 hbn).mono ?_; rintro e wn ⟨rfl, hq⟩; have hq2 := hq.symm; clear hq; subst hq2)
    | (go_at_call 71; refine (when_any _ 3 4 _).mono ?_; rintro e w2 ⟨rfl, hb2⟩; have hbm := below_next hbn (Nat.le_refl _) hb2; have hS2 := hS w2 hbm; obtain ⟨z0, z1, g0, g1, y0, y1, hy⟩ := res_box hX hbm (whenV (decide (m.room - (L : Int) < (n : Int))) 3 4); obtain ⟨hS3, hS4⟩ := hfar w2 (whenV (decide (m.room - (L : Int) < (n : Int))) 3 4) hbm))
  all_goals go_wp2
  all_goals refine bodyPost_ret (v := verdV (whenV (decide (m.room - (L : Int) < (n : Int))) 3 4)) (by simp [results, Tryz.results81, go_sem, y0, y1]) rfl ⟨rfl, hy⟩
end Go.Proofs.YtclliljkmmpglaaGreat
