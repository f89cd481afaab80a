/-
  Contracts of the document's own replica: what it makes of a view.
-/
import Derived.Test.YtgdehjdajjhjpaaGreatRpG17
import Derived.Deep.CutRange
import Derived.Deep.RegionHeldLaw
import Derived.BigQuiet
import Derived.WalkSmall
import Derived.Deep.RegionWith
namespace Go.Proofs.YtgdehjdajjhjpaaGreat
open Go.RowKit Num
open scoped Classical
set_option linter.unusedVariables false
set_option maxRecDepth 100000
theorem Num.TurnR.drewN {B : Nat} {w : World} {g : Nat} {r : Rep} (h : TurnR B w g r) (n : Nat) : TurnR B (w.drewN n) g r := h.below (below_drewN (Below.refl _ w) n)
theorem keepM_drewN {B : Nat} {w : World} (n : Nat) (hB : B ≤ w.heap.size) : KeepM B w (w.drewN n) := KeepM.of_below (below_drewN (Below.refl _ w) n) hB
theorem ms_at {B : Nat} {w w' : World} {k : Nat} {cs : Array Value} {fr : Nat × Nat} (h : w.heap[k]? = some (.cells cs 27 fr)) (hk : KeepM B w w') : w'.heap[k]? = some (.cells cs 27 fr) := (hk.ms k cs fr h).trans h
theorem msg_cellsS {w : World} {k : Nat} {m : Msg} {bo : Option Addr} {c : Nat} (h : w.heap[k]? = some (.cells #[.int .i64 m.a0, .int .i64 m.a1, .int .i64 m.a2, .int .i64 m.a3, .int .i64 m.a4, .int .i64 m.a5, .int .i64 m.a6, .slice bo m.log.length c] 27 (0, 0))) : w.cell? ⟨k, 0, none⟩ = some (.int .i64 m.a0) ∧ w.cell? ⟨k, 1, none⟩ = some (.int .i64 m.a1) ∧ w.cell? ⟨k, 2, none⟩ = some (.int .i64 m.a2) ∧ w.cell? ⟨k, 3, none⟩ = some (.int .i64 m.a3) ∧ w.cell? ⟨k, 4, none⟩ = some (.int .i64 m.a4) ∧ w.cell? ⟨k, 5, none⟩ = some (.int .i64 m.a5) ∧ w.cell? ⟨k, 6, none⟩ = some (.int .i64 m.a6) ∧ w.cell? ⟨k, 7, none⟩ = some (.slice bo m.log.length c) :=
  ⟨box_cell h 0 _ rfl, box_cell h 1 _ rfl, box_cell h 2 _ rfl, box_cell h 3 _ rfl, box_cell h 4 _ rfl, box_cell h 5 _ rfl, box_cell h 6 _ rfl, box_cell h 7 _ rfl⟩
set_option maxRecDepth 100000 in
set_option maxHeartbeats 1000000 in
theorem rview_a (B g : Nat) (r : Rep) (m : Msg) (bo : Option Addr) (c : Nat) (hv : 0 ≤ m.a3 ∧ m.a3 < 1099511627776) (hml : m.log.length ≤ 1000) (h1 : m.a3 < r.view) (w : World) (h : TurnR B w g r) (hs : SrcE B w bo c m.log) :
    Calls Tryz.prog 26 #[.pointer (some ⟨g, 0, none⟩), msV m bo c] w fun e w' => ∃ v, e = .returned v ∧ OwnO B w' v (viewH r m).2 ∧ TurnR B w' g (viewH r m).1 ∧ Below B w w' := by
  have e1 : viewH r m = (r, []) := by
    unfold viewH
    rw [if_pos (.inl h1)]
  rw [e1]
  clear e1
  have hn := one_bounds h.one
  have hne : ¬ r.n = 0 := by omega
  have he : Int.tmod m.a3 r.n = m.a3 % r.n := Int.tmod_eq_emod_of_nonneg hv.1
  have d1 : decide (m.a3 < r.view) = true := decide_eq_true h1
  clear h1
  have hlow : Below w.heap.size w (w.alloc (.cells #[.int .i64 m.a0, .int .i64 m.a1, .int .i64 m.a2, .int .i64 m.a3, .int .i64 m.a4, .int .i64 m.a5, .int .i64 m.a6, .slice bo m.log.length c] 27)) := (Below.refl _ w).alloc (Nat.le_refl _) _
  have hT := h.below hlow
  have hK := KeepM.of_below hlow h.base
  have hs := hs.keep hK.toKeep
  have hB := h.base
  have hmb : (w.alloc (.cells #[.int .i64 m.a0, .int .i64 m.a1, .int .i64 m.a2, .int .i64 m.a3, .int .i64 m.a4, .int .i64 m.a5, .int .i64 m.a6, .slice bo m.log.length c] 27)).heap[w.heap.size]? = some (.cells #[.int .i64 m.a0, .int .i64 m.a1, .int .i64 m.a2, .int .i64 m.a3, .int .i64 m.a4, .int .i64 m.a5, .int .i64 m.a6, .slice bo m.log.length c] 27 (0, 0)) := heap_new w _
  have hgw : w.heap.size ≠ g := by
    obtain ⟨_, _, _, _, hH⟩ := h.cells
    exact Nat.ne_of_gt hH.box.lt
  go_enter Tryz.func26, Tryz.ntmps26
  go_wp2_with fail
  clear h
  generalize (w.alloc (.cells #[.int .i64 m.a0, .int .i64 m.a1, .int .i64 m.a2, .int .i64 m.a3, .int .i64 m.a4, .int .i64 m.a5, .int .i64 m.a6, .slice bo m.log.length c] 27)) = W at *
  obtain ⟨sk, ⟨k0, k1, k2, k3, k4, k5, k6, k7, k8, k9, k10, k11, k12⟩, kz, kL, kH⟩ := hT.cells
  obtain ⟨c0, c1, c2, c3, c4, c5, c6, c7⟩ := msg_cellsS hmb
  go_quiet (fail)
  go_wp2
  go_ret
  exact ⟨_, rfl, OwnS.nil _ _ _ _ _, hT.drewN nq, (hK.trans (keepM_drewN nq hT.base)).low⟩
set_option maxRecDepth 100000 in
set_option maxHeartbeats 1000000 in
theorem rview_b (B g : Nat) (r : Rep) (m : Msg) (bo : Option Addr) (c : Nat) (hv : 0 ≤ m.a3 ∧ m.a3 < 1099511627776) (hml : m.log.length ≤ 1000) (h1 : ¬ m.a3 < r.view) (h2 : ¬ m.a3 % r.n = m.a1) (w : World) (h : TurnR B w g r) (hs : SrcE B w bo c m.log) :
    Calls Tryz.prog 26 #[.pointer (some ⟨g, 0, none⟩), msV m bo c] w fun e w' => ∃ v, e = .returned v ∧ OwnO B w' v (viewH r m).2 ∧ TurnR B w' g (viewH r m).1 ∧ Below B w w' := by
  have e1 : viewH r m = (r, []) := by
    unfold viewH
    rw [if_pos (.inr (.inl h2))]
  rw [e1]
  clear e1
  have hn := one_bounds h.one
  have hne : ¬ r.n = 0 := by omega
  have he : Int.tmod m.a3 r.n = m.a3 % r.n := Int.tmod_eq_emod_of_nonneg hv.1
  have d1 : decide (m.a3 < r.view) = false := decide_eq_false h1
  have d2 : decide (m.a3 % r.n = m.a1) = false := decide_eq_false h2
  have d3 : (m.a3 % r.n != m.a1) = true := by simp [h2]
  clear h1 h2
  have hlow : Below w.heap.size w (w.alloc (.cells #[.int .i64 m.a0, .int .i64 m.a1, .int .i64 m.a2, .int .i64 m.a3, .int .i64 m.a4, .int .i64 m.a5, .int .i64 m.a6, .slice bo m.log.length c] 27)) := (Below.refl _ w).alloc (Nat.le_refl _) _
  have hT := h.below hlow
  have hK := KeepM.of_below hlow h.base
  have hs := hs.keep hK.toKeep
  have hB := h.base
  have hmb : (w.alloc (.cells #[.int .i64 m.a0, .int .i64 m.a1, .int .i64 m.a2, .int .i64 m.a3, .int .i64 m.a4, .int .i64 m.a5, .int .i64 m.a6, .slice bo m.log.length c] 27)).heap[w.heap.size]? = some (.cells #[.int .i64 m.a0, .int .i64 m.a1, .int .i64 m.a2, .int .i64 m.a3, .int .i64 m.a4, .int .i64 m.a5, .int .i64 m.a6, .slice bo m.log.length c] 27 (0, 0)) := heap_new w _
  have hgw : w.heap.size ≠ g := by
    obtain ⟨_, _, _, _, hH⟩ := h.cells
    exact Nat.ne_of_gt hH.box.lt
  go_enter Tryz.func26, Tryz.ntmps26
  go_wp2_with fail
  clear h
  generalize (w.alloc (.cells #[.int .i64 m.a0, .int .i64 m.a1, .int .i64 m.a2, .int .i64 m.a3, .int .i64 m.a4, .int .i64 m.a5, .int .i64 m.a6, .slice bo m.log.length c] 27)) = W at *
  obtain ⟨sk, ⟨k0, k1, k2, k3, k4, k5, k6, k7, k8, k9, k10, k11, k12⟩, kz, kL, kH⟩ := hT.cells
  obtain ⟨c0, c1, c2, c3, c4, c5, c6, c7⟩ := msg_cellsS hmb
  go_quiet (fail)
  go_wp2
  go_ret
  exact ⟨_, rfl, OwnS.nil _ _ _ _ _, hT.drewN nq, (hK.trans (keepM_drewN nq hT.base)).low⟩
set_option maxRecDepth 100000 in
set_option maxHeartbeats 1000000 in
theorem rview_c (B g : Nat) (r : Rep) (m : Msg) (bo : Option Addr) (c : Nat) (hv : 0 ≤ m.a3 ∧ m.a3 < 1099511627776) (hml : m.log.length ≤ 1000) (h1 : ¬ m.a3 < r.view) (h2 : m.a3 % r.n = m.a1) (h3 : m.a3 = r.view) (h4 : r.how = 0) (w : World) (h : TurnR B w g r) (hs : SrcE B w bo c m.log) :
    Calls Tryz.prog 26 #[.pointer (some ⟨g, 0, none⟩), msV m bo c] w fun e w' => ∃ v, e = .returned v ∧ OwnO B w' v (viewH r m).2 ∧ TurnR B w' g (viewH r m).1 ∧ Below B w w' := by
  have e1 : viewH r m = (r, []) := by
    unfold viewH
    rw [if_pos (.inr (.inr ⟨h3, h4⟩))]
  rw [e1]
  clear e1
  have hn := one_bounds h.one
  have hne : ¬ r.n = 0 := by omega
  have he : Int.tmod m.a3 r.n = m.a3 % r.n := Int.tmod_eq_emod_of_nonneg hv.1
  rw [h2] at he
  have d1 : decide (m.a3 < r.view) = false := decide_eq_false h1
  have d4 : (m.a3 == r.view) = true := by simp [h3]
  have d5 : decide (m.a3 = r.view) = true := decide_eq_true h3
  clear h1 h2 h3
  have hlow : Below w.heap.size w (w.alloc (.cells #[.int .i64 m.a0, .int .i64 m.a1, .int .i64 m.a2, .int .i64 m.a3, .int .i64 m.a4, .int .i64 m.a5, .int .i64 m.a6, .slice bo m.log.length c] 27)) := (Below.refl _ w).alloc (Nat.le_refl _) _
  have hT := h.below hlow
  have hK := KeepM.of_below hlow h.base
  have hs := hs.keep hK.toKeep
  have hB := h.base
  have hmb : (w.alloc (.cells #[.int .i64 m.a0, .int .i64 m.a1, .int .i64 m.a2, .int .i64 m.a3, .int .i64 m.a4, .int .i64 m.a5, .int .i64 m.a6, .slice bo m.log.length c] 27)).heap[w.heap.size]? = some (.cells #[.int .i64 m.a0, .int .i64 m.a1, .int .i64 m.a2, .int .i64 m.a3, .int .i64 m.a4, .int .i64 m.a5, .int .i64 m.a6, .slice bo m.log.length c] 27 (0, 0)) := heap_new w _
  have hgw : w.heap.size ≠ g := by
    obtain ⟨_, _, _, _, hH⟩ := h.cells
    exact Nat.ne_of_gt hH.box.lt
  go_enter Tryz.func26, Tryz.ntmps26
  go_wp2_with fail
  clear h
  generalize (w.alloc (.cells #[.int .i64 m.a0, .int .i64 m.a1, .int .i64 m.a2, .int .i64 m.a3, .int .i64 m.a4, .int .i64 m.a5, .int .i64 m.a6, .slice bo m.log.length c] 27)) = W at *
  obtain ⟨sk, ⟨k0, k1, k2, k3, k4, k5, k6, k7, k8, k9, k10, k11, k12⟩, kz, kL, kH⟩ := hT.cells
  obtain ⟨c0, c1, c2, c3, c4, c5, c6, c7⟩ := msg_cellsS hmb
  rw [h4] at k4
  go_quiet (fail)
  go_wp2
  go_ret
  exact ⟨_, rfl, OwnS.nil _ _ _ _ _, hT.drewN nq, (hK.trans (keepM_drewN nq hT.base)).low⟩
set_option maxRecDepth 100000 in
set_option maxHeartbeats 1000000 in
theorem rview_d (B g : Nat) (r : Rep) (m : Msg) (bo : Option Addr) (c : Nat) (hv : 0 ≤ m.a3 ∧ m.a3 < 1099511627776) (hml : m.log.length ≤ 1000) (h1 : ¬ m.a3 < r.view) (h2 : m.a3 % r.n = m.a1) (h3 : ¬ m.a3 = r.view) (w : World) (h : TurnR B w g r) (hs : SrcE B w bo c m.log) :
    Calls Tryz.prog 26 #[.pointer (some ⟨g, 0, none⟩), msV m bo c] w fun e w' => ∃ v, e = .returned v ∧ OwnO B w' v (viewH r m).2 ∧ TurnR B w' g (viewH r m).1 ∧ Below B w w' := by
  have e1 : viewH r m = (normalR r m.log m.a3 m.a5, preM (normalR r m.log m.a3 m.a5) m.a1) := by
    unfold viewH
    rw [if_neg (fun h => by rcases h with h | h | h; exact h1 h; exact h h2; exact h3 h.1)]
  rw [e1]
  clear e1
  have hn := one_bounds h.one
  have hne : ¬ r.n = 0 := by omega
  have he : Int.tmod m.a3 r.n = m.a3 % r.n := Int.tmod_eq_emod_of_nonneg hv.1
  rw [h2] at he
  have d1 : decide (m.a3 < r.view) = false := decide_eq_false h1
  have d4 : (m.a3 == r.view) = false := by simp [h3]
  have d5 : decide (m.a3 = r.view) = false := decide_eq_false h3
  clear h1 h2 h3
  have hlow : Below w.heap.size w (w.alloc (.cells #[.int .i64 m.a0, .int .i64 m.a1, .int .i64 m.a2, .int .i64 m.a3, .int .i64 m.a4, .int .i64 m.a5, .int .i64 m.a6, .slice bo m.log.length c] 27)) := (Below.refl _ w).alloc (Nat.le_refl _) _
  have hT := h.below hlow
  have hK := KeepM.of_below hlow h.base
  have hs := hs.keep hK.toKeep
  have hB := h.base
  have hmb : (w.alloc (.cells #[.int .i64 m.a0, .int .i64 m.a1, .int .i64 m.a2, .int .i64 m.a3, .int .i64 m.a4, .int .i64 m.a5, .int .i64 m.a6, .slice bo m.log.length c] 27)).heap[w.heap.size]? = some (.cells #[.int .i64 m.a0, .int .i64 m.a1, .int .i64 m.a2, .int .i64 m.a3, .int .i64 m.a4, .int .i64 m.a5, .int .i64 m.a6, .slice bo m.log.length c] 27 (0, 0)) := heap_new w _
  have hgw : w.heap.size ≠ g := by
    obtain ⟨_, _, _, _, hH⟩ := h.cells
    exact Nat.ne_of_gt hH.box.lt
  go_enter Tryz.func26, Tryz.ntmps26
  go_wp2_with fail
  clear h
  generalize (w.alloc (.cells #[.int .i64 m.a0, .int .i64 m.a1, .int .i64 m.a2, .int .i64 m.a3, .int .i64 m.a4, .int .i64 m.a5, .int .i64 m.a6, .slice bo m.log.length c] 27)) = W at *
  obtain ⟨sk, ⟨k0, k1, k2, k3, k4, k5, k6, k7, k8, k9, k10, k11, k12⟩, kz, kL, kH⟩ := hT.cells
  obtain ⟨c0, c1, c2, c3, c4, c5, c6, c7⟩ := msg_cellsS hmb
  go_quiet (fail)
  have hnor := fun n => rnormalS_any B g r m.log bo c m.a3 m.a5 (W.drewN n) (hT.drewN n) (hs.keep (keepM_drewN n hT.base).toKeep) hml
  clear d1 d4 d5 he
  go_wp2_with (first
    | (go_at_call 53; refine (hnor _).mono ?_; rintro e w2 ⟨rfl, hT2, hK2⟩))
  have hKA := ((hK.trans (keepM_drewN _ hT.base)).trans hK2).trans (KeepM.refl _ _).drew
  have hm2 := ms_at hmb ((keepM_drewN _ hT.base).trans hK2)
  obtain ⟨q, hq⟩ : ∃ q, q = normalR r m.log m.a3 m.a5 := ⟨_, rfl⟩
  rw [← hq] at hT2
  have HQ : Hid (q = normalR r m.log m.a3 m.a5) := hq
  clear hq hnor
  obtain ⟨s2, ⟨_, _, _, _, _, n5, _⟩, _, _, _⟩ := hT2.cells
  obtain ⟨_, y1, _⟩ := msg_cellsS hm2
  have hone := rone_any B g q (msg 2 (q.log.length : Int) 0 0 []) none 0 m.a1 w2.drew hT2.drew (srcE_nil _ _) (by simp)
  go_wp2_with fail
  go_region_with (go_at_call 29; refine hone.mono ?_; rintro e w9 ⟨v9, rfl, hO9, hT9, hK9⟩)
  all_goals
    go_wp2
    go_ret
    rw [HQ.out] at hO9 hT9
    exact ⟨_, rfl, hO9, hT9, (hKA.trans hK9).low⟩
set_option maxRecDepth 100000 in
set_option maxHeartbeats 1000000 in
theorem rview_e (B g : Nat) (r : Rep) (m : Msg) (bo : Option Addr) (c : Nat) (hv : 0 ≤ m.a3 ∧ m.a3 < 1099511627776) (hml : m.log.length ≤ 1000) (h1 : ¬ m.a3 < r.view) (h2 : m.a3 % r.n = m.a1) (h3 : m.a3 = r.view) (h4 : ¬ r.how = 0) (w : World) (h : TurnR B w g r) (hs : SrcE B w bo c m.log) :
    Calls Tryz.prog 26 #[.pointer (some ⟨g, 0, none⟩), msV m bo c] w fun e w' => ∃ v, e = .returned v ∧ OwnO B w' v (viewH r m).2 ∧ TurnR B w' g (viewH r m).1 ∧ Below B w w' := by
  have e1 : viewH r m = (normalR r m.log m.a3 m.a5, preM (normalR r m.log m.a3 m.a5) m.a1) := by
    unfold viewH
    rw [if_neg (fun h => by rcases h with h | h | h; exact h1 h; exact h h2; exact h4 h.2)]
  rw [e1]
  clear e1
  have hn := one_bounds h.one
  have hne : ¬ r.n = 0 := by omega
  have he : Int.tmod m.a3 r.n = m.a3 % r.n := Int.tmod_eq_emod_of_nonneg hv.1
  rw [h2] at he
  have d1 : decide (m.a3 < r.view) = false := decide_eq_false h1
  have d4 : (m.a3 == r.view) = true := by simp [h3]
  have d5 : decide (m.a3 = r.view) = true := decide_eq_true h3
  have d6 : (r.how == 0) = false := by simp [h4]
  have d7 : decide (r.how = 0) = false := decide_eq_false h4
  clear h1 h2 h3 h4
  have hlow : Below w.heap.size w (w.alloc (.cells #[.int .i64 m.a0, .int .i64 m.a1, .int .i64 m.a2, .int .i64 m.a3, .int .i64 m.a4, .int .i64 m.a5, .int .i64 m.a6, .slice bo m.log.length c] 27)) := (Below.refl _ w).alloc (Nat.le_refl _) _
  have hT := h.below hlow
  have hK := KeepM.of_below hlow h.base
  have hs := hs.keep hK.toKeep
  have hB := h.base
  have hmb : (w.alloc (.cells #[.int .i64 m.a0, .int .i64 m.a1, .int .i64 m.a2, .int .i64 m.a3, .int .i64 m.a4, .int .i64 m.a5, .int .i64 m.a6, .slice bo m.log.length c] 27)).heap[w.heap.size]? = some (.cells #[.int .i64 m.a0, .int .i64 m.a1, .int .i64 m.a2, .int .i64 m.a3, .int .i64 m.a4, .int .i64 m.a5, .int .i64 m.a6, .slice bo m.log.length c] 27 (0, 0)) := heap_new w _
  have hgw : w.heap.size ≠ g := by
    obtain ⟨_, _, _, _, hH⟩ := h.cells
    exact Nat.ne_of_gt hH.box.lt
  go_enter Tryz.func26, Tryz.ntmps26
  go_wp2_with fail
  clear h
  generalize (w.alloc (.cells #[.int .i64 m.a0, .int .i64 m.a1, .int .i64 m.a2, .int .i64 m.a3, .int .i64 m.a4, .int .i64 m.a5, .int .i64 m.a6, .slice bo m.log.length c] 27)) = W at *
  obtain ⟨sk, ⟨k0, k1, k2, k3, k4, k5, k6, k7, k8, k9, k10, k11, k12⟩, kz, kL, kH⟩ := hT.cells
  obtain ⟨c0, c1, c2, c3, c4, c5, c6, c7⟩ := msg_cellsS hmb
  go_quiet (fail)
  have hnor := fun n => rnormalS_any B g r m.log bo c m.a3 m.a5 (W.drewN n) (hT.drewN n) (hs.keep (keepM_drewN n hT.base).toKeep) hml
  clear d1 d4 d5 d6 d7 he
  go_wp2_with (first
    | (go_at_call 53; refine (hnor _).mono ?_; rintro e w2 ⟨rfl, hT2, hK2⟩))
  have hKA := ((hK.trans (keepM_drewN _ hT.base)).trans hK2).trans (KeepM.refl _ _).drew
  have hm2 := ms_at hmb ((keepM_drewN _ hT.base).trans hK2)
  obtain ⟨q, hq⟩ : ∃ q, q = normalR r m.log m.a3 m.a5 := ⟨_, rfl⟩
  rw [← hq] at hT2
  have HQ : Hid (q = normalR r m.log m.a3 m.a5) := hq
  clear hq hnor
  obtain ⟨s2, ⟨_, _, _, _, _, n5, _⟩, _, _, _⟩ := hT2.cells
  obtain ⟨_, y1, _⟩ := msg_cellsS hm2
  have hone := rone_any B g q (msg 2 (q.log.length : Int) 0 0 []) none 0 m.a1 w2.drew hT2.drew (srcE_nil _ _) (by simp)
  go_wp2_with fail
  go_region_with (go_at_call 29; refine hone.mono ?_; rintro e w9 ⟨v9, rfl, hO9, hT9, hK9⟩)
  all_goals
    go_wp2
    go_ret
    rw [HQ.out] at hO9 hT9
    exact ⟨_, rfl, hO9, hT9, (hKA.trans hK9).low⟩
theorem rview_any (B g : Nat) (r : Rep) (m : Msg) (bo : Option Addr) (c : Nat) (hv : 0 ≤ m.a3 ∧ m.a3 < 1099511627776) (hml : m.log.length ≤ 1000) (w : World) (h : TurnR B w g r) (hs : SrcE B w bo c m.log) :
    Calls Tryz.prog 26 #[.pointer (some ⟨g, 0, none⟩), msV m bo c] w fun e w' => ∃ v, e = .returned v ∧ OwnO B w' v (viewH r m).2 ∧ TurnR B w' g (viewH r m).1 ∧ Below B w w' := by
  by_cases h1 : m.a3 < r.view
  · exact rview_a B g r m bo c hv hml h1 w h hs
  · by_cases h2 : m.a3 % r.n = m.a1
    · by_cases h3 : m.a3 = r.view
      · by_cases h4 : r.how = 0
        · exact rview_c B g r m bo c hv hml h1 h2 h3 h4 w h hs
        · exact rview_e B g r m bo c hv hml h1 h2 h3 h4 w h hs
      · exact rview_d B g r m bo c hv hml h1 h2 h3 w h hs
    · exact rview_b B g r m bo c hv hml h1 h2 w h hs
end Go.Proofs.YtgdehjdajjhjpaaGreat
