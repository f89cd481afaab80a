/-
  Contracts of the document's own replica: what it makes of a change of the view.
-/
import Derived.Test.YtgdehjdajjhjpabGreatRpSl
import Derived.Deep.CutRange
import Derived.Deep.RegionHeldLaw
import Derived.BigQuiet
import Derived.WalkSmall
import Derived.Deep.RegionWith
namespace Go.Proofs.YtgdehjdajjhjpabGreat
open Go.RowKit Num
open scoped Classical
set_option linter.unusedVariables false
set_option maxRecDepth 100000
set_option maxRecDepth 100000 in
set_option maxHeartbeats 1000000 in
theorem rchange_a (B g : Nat) (r : Rep) (m : Msg) (bo : Option Addr) (c : Nat) (hv : 0 ≤ m.a3 ∧ m.a3 < 1099511627776) (hrv : 0 ≤ r.view ∧ r.view < 1099511627776) (hvt : r.votes.length ≤ 20) (hvl : r.voters.length ≤ 20) (h1 : m.a3 < r.view) (w : World) (h : TurnR B w g r) (hs : SrcE B w bo c m.log) :
    Calls Tryz.prog 28 #[.pointer (some ⟨g, 0, none⟩), msV m bo c] w fun e w' => ∃ v, e = .returned v ∧ OwnO B w' v ((r, ([] : Msgs))).2 ∧ TurnR B w' g ((r, ([] : Msgs))).1 ∧ Below B w w' := by
  have hn := one_bounds h.one
  have hne : ¬ r.n = 0 := by omega
  have d1 : decide (m.a3 < r.view) = true := decide_eq_true (by omega)
  clear h1
  have hlow : Below w.heap.size w (w.alloc (.cells #[.int .i64 m.a0, .int .i64 m.a1, .int .i64 m.a2, .int .i64 m.a3, .int .i64 m.a4, .int .i64 m.a5, .int .i64 m.a6, .slice bo m.log.length c] 27)) := (Below.refl _ w).alloc (Nat.le_refl _) _
  have hT := h.below hlow
  have hK := KeepM.of_below hlow h.base
  have hs := hs.keep hK.toKeep
  have hB := h.base
  have hmb : (w.alloc (.cells #[.int .i64 m.a0, .int .i64 m.a1, .int .i64 m.a2, .int .i64 m.a3, .int .i64 m.a4, .int .i64 m.a5, .int .i64 m.a6, .slice bo m.log.length c] 27)).heap[w.heap.size]? = some (.cells #[.int .i64 m.a0, .int .i64 m.a1, .int .i64 m.a2, .int .i64 m.a3, .int .i64 m.a4, .int .i64 m.a5, .int .i64 m.a6, .slice bo m.log.length c] 27 (0, 0)) := heap_new w _
  have hgw : w.heap.size ≠ g := by
    obtain ⟨_, _, _, _, hH⟩ := h.cells
    exact Nat.ne_of_gt hH.box.lt
  go_enter Tryz.func28, Tryz.ntmps28
  go_wp2_with fail
  clear h
  generalize (w.alloc (.cells #[.int .i64 m.a0, .int .i64 m.a1, .int .i64 m.a2, .int .i64 m.a3, .int .i64 m.a4, .int .i64 m.a5, .int .i64 m.a6, .slice bo m.log.length c] 27)) = W at *
  obtain ⟨sk, ⟨k0, k1, k2, k3, k4, k5, k6, k7, k8, k9, k10, k11, k12⟩, kz, kL, kH⟩ := hT.cells
  obtain ⟨ca0, ca1, ca2, ca3, ca4, ca5, ca6, ca7⟩ := msg_cellsS hmb
  go_quiet (fail)
  go_wp2
  go_ret
  exact ⟨_, rfl, OwnS.nil _ _ _ _ _, hT.drewN nq, (hK.trans (keepM_drewN nq hT.base)).low⟩
set_option maxRecDepth 100000 in
set_option maxHeartbeats 1000000 in
theorem rchange_b (B g : Nat) (r : Rep) (m : Msg) (bo : Option Addr) (c : Nat) (hv : 0 ≤ m.a3 ∧ m.a3 < 1099511627776) (hrv : 0 ≤ r.view ∧ r.view < 1099511627776) (hvt : r.votes.length ≤ 20) (hvl : r.voters.length ≤ 20) (h1 : ¬ m.a3 < r.view) (h3 : m.a3 = r.view) (h4 : ¬ r.how = 1) (w : World) (h : TurnR B w g r) (hs : SrcE B w bo c m.log) :
    Calls Tryz.prog 28 #[.pointer (some ⟨g, 0, none⟩), msV m bo c] w fun e w' => ∃ v, e = .returned v ∧ OwnO B w' v ((r, ([] : Msgs))).2 ∧ TurnR B w' g ((r, ([] : Msgs))).1 ∧ Below B w w' := by
  have hn := one_bounds h.one
  have hne : ¬ r.n = 0 := by omega
  have d1 : decide (m.a3 < r.view) = false := decide_eq_false (by omega)
  have d4 : decide (r.view < m.a3) = false := decide_eq_false (by omega)
  have d5 : (r.how != 1) = true := by simp [h4]
  have d6 : decide (r.how = 1) = false := decide_eq_false h4
  clear h1 h3 h4
  have hlow : Below w.heap.size w (w.alloc (.cells #[.int .i64 m.a0, .int .i64 m.a1, .int .i64 m.a2, .int .i64 m.a3, .int .i64 m.a4, .int .i64 m.a5, .int .i64 m.a6, .slice bo m.log.length c] 27)) := (Below.refl _ w).alloc (Nat.le_refl _) _
  have hT := h.below hlow
  have hK := KeepM.of_below hlow h.base
  have hs := hs.keep hK.toKeep
  have hB := h.base
  have hmb : (w.alloc (.cells #[.int .i64 m.a0, .int .i64 m.a1, .int .i64 m.a2, .int .i64 m.a3, .int .i64 m.a4, .int .i64 m.a5, .int .i64 m.a6, .slice bo m.log.length c] 27)).heap[w.heap.size]? = some (.cells #[.int .i64 m.a0, .int .i64 m.a1, .int .i64 m.a2, .int .i64 m.a3, .int .i64 m.a4, .int .i64 m.a5, .int .i64 m.a6, .slice bo m.log.length c] 27 (0, 0)) := heap_new w _
  have hgw : w.heap.size ≠ g := by
    obtain ⟨_, _, _, _, hH⟩ := h.cells
    exact Nat.ne_of_gt hH.box.lt
  go_enter Tryz.func28, Tryz.ntmps28
  go_wp2_with fail
  clear h
  generalize (w.alloc (.cells #[.int .i64 m.a0, .int .i64 m.a1, .int .i64 m.a2, .int .i64 m.a3, .int .i64 m.a4, .int .i64 m.a5, .int .i64 m.a6, .slice bo m.log.length c] 27)) = W at *
  obtain ⟨sk, ⟨k0, k1, k2, k3, k4, k5, k6, k7, k8, k9, k10, k11, k12⟩, kz, kL, kH⟩ := hT.cells
  obtain ⟨ca0, ca1, ca2, ca3, ca4, ca5, ca6, ca7⟩ := msg_cellsS hmb
  have hT0 := hT
  have hK0 := hK
  have hm0 := hmb
  have hs0 := hs
  clear hT hK hmb hs
  go_quiet (fail)
  go_wp2_with fail
  have hT1 := hT0.drewN nq
  have hK1 := hK0.trans (keepM_drewN nq hT0.base)
  have hm1 := ms_at hm0 (keepM_drewN nq hT0.base)
  have hs1 := hs0.keep (keepM_drewN nq hT0.base).toKeep
  clear k0 k1 k2 k3 k4 k5 k6 k7 k8 k9 k10 k11 k12 kz kL kH ca0 ca1 ca2 ca3 ca4 ca5 ca6 ca7 hT0 hs0 hm0 hK0
  generalize W.drewN nq = V at *
  obtain ⟨sl, ⟨l0, l1, l2, l3, l4, l5, l6, l7, l8, l9, l10, l11, l12⟩, lz, lL, lH⟩ := hT1.cells
  obtain ⟨cb0, cb1, cb2, cb3, cb4, cb5, cb6, cb7⟩ := msg_cellsS hm1
  clear d1
  go_quiet (fail)
  have hTX := hT1.drewN nq
  have hKX := hK1.trans (keepM_drewN nq hT1.base)
  go_wp2
  go_ret
  exact ⟨_, rfl, OwnS.nil _ _ _ _ _, hTX, hKX.low⟩
set_option maxRecDepth 100000 in
set_option maxHeartbeats 1000000 in
theorem rchange_c (B g : Nat) (r : Rep) (m : Msg) (bo : Option Addr) (c : Nat) (hv : 0 ≤ m.a3 ∧ m.a3 < 1099511627776) (hrv : 0 ≤ r.view ∧ r.view < 1099511627776) (hvt : r.votes.length ≤ 20) (hvl : r.voters.length ≤ 20) (h1 : ¬ m.a3 < r.view) (h3 : m.a3 = r.view) (h4 : r.how = 1) (h5 : m.a1 ∈ r.votes) (w : World) (h : TurnR B w g r) (hs : SrcE B w bo c m.log) :
    Calls Tryz.prog 28 #[.pointer (some ⟨g, 0, none⟩), msV m bo c] w fun e w' => ∃ v, e = .returned v ∧ OwnO B w' v ((r, ([] : Msgs))).2 ∧ TurnR B w' g ((r, ([] : Msgs))).1 ∧ Below B w w' := by
  have hn := one_bounds h.one
  have hne : ¬ r.n = 0 := by omega
  have HNV : Hid (m.a1 ∈ r.votes) := h5
  clear h5
  have d1 : decide (m.a3 < r.view) = false := decide_eq_false (by omega)
  have d4 : decide (r.view < m.a3) = false := decide_eq_false (by omega)
  have HH : Hid (r.how = 1) := h4
  clear h1 h3 h4
  have hlow : Below w.heap.size w (w.alloc (.cells #[.int .i64 m.a0, .int .i64 m.a1, .int .i64 m.a2, .int .i64 m.a3, .int .i64 m.a4, .int .i64 m.a5, .int .i64 m.a6, .slice bo m.log.length c] 27)) := (Below.refl _ w).alloc (Nat.le_refl _) _
  have hT := h.below hlow
  have hK := KeepM.of_below hlow h.base
  have hs := hs.keep hK.toKeep
  have hB := h.base
  have hmb : (w.alloc (.cells #[.int .i64 m.a0, .int .i64 m.a1, .int .i64 m.a2, .int .i64 m.a3, .int .i64 m.a4, .int .i64 m.a5, .int .i64 m.a6, .slice bo m.log.length c] 27)).heap[w.heap.size]? = some (.cells #[.int .i64 m.a0, .int .i64 m.a1, .int .i64 m.a2, .int .i64 m.a3, .int .i64 m.a4, .int .i64 m.a5, .int .i64 m.a6, .slice bo m.log.length c] 27 (0, 0)) := heap_new w _
  have hgw : w.heap.size ≠ g := by
    obtain ⟨_, _, _, _, hH⟩ := h.cells
    exact Nat.ne_of_gt hH.box.lt
  go_enter Tryz.func28, Tryz.ntmps28
  go_wp2_with fail
  clear h
  generalize (w.alloc (.cells #[.int .i64 m.a0, .int .i64 m.a1, .int .i64 m.a2, .int .i64 m.a3, .int .i64 m.a4, .int .i64 m.a5, .int .i64 m.a6, .slice bo m.log.length c] 27)) = W at *
  obtain ⟨sk, ⟨k0, k1, k2, k3, k4, k5, k6, k7, k8, k9, k10, k11, k12⟩, kz, kL, kH⟩ := hT.cells
  obtain ⟨ca0, ca1, ca2, ca3, ca4, ca5, ca6, ca7⟩ := msg_cellsS hmb
  have hT0 := hT
  have hK0 := hK
  have hm0 := hmb
  have hs0 := hs
  clear hT hK hmb hs
  go_quiet (fail)
  go_wp2_with fail
  have hT1 := hT0.drewN nq
  have hK1 := hK0.trans (keepM_drewN nq hT0.base)
  have hm1 := ms_at hm0 (keepM_drewN nq hT0.base)
  have hs1 := hs0.keep (keepM_drewN nq hT0.base).toKeep
  clear k0 k1 k2 k3 k4 k5 k6 k7 k8 k9 k10 k11 k12 kz kL kH ca0 ca1 ca2 ca3 ca4 ca5 ca6 ca7 hT0 hs0 hm0 hK0
  generalize W.drewN nq = V at *
  obtain ⟨sl, ⟨l0, l1, l2, l3, l4, l5, l6, l7, l8, l9, l10, l11, l12⟩, lz, lL, lH⟩ := hT1.cells
  obtain ⟨cb0, cb1, cb2, cb3, cb4, cb5, cb6, cb7⟩ := msg_cellsS hm1
  clear d1
  rw [HH.out] at l4
  go_quiet (fail)
  clear d4
  go_wp2_with fail
  have hTX := hT1.drewN nq
  have hKX := hK1.trans (keepM_drewN nq hT1.base)
  have hmX := ms_at hm1 (keepM_drewN nq hT1.base)
  have hsX := hs1.keep (keepM_drewN nq hT1.base).toKeep
  clear l0 l1 l2 l3 l4 l5 l6 l7 l8 l9 l10 l11 l12 lz lL lH cb0 cb1 cb2 cb3 cb4 cb5 cb6 cb7 hT1 hs1 hm1 hK1
  generalize V.drewN nq = X at *
  obtain ⟨sa, ⟨a0, a1, a2, a3, a4, a5, a6, a7, a8, a9, a10, a11, a12⟩, az, aL, aH⟩ := hTX.cells
  obtain ⟨cc0, cc1, cc2, cc3, cc4, cc5, cc6, cc7⟩ := msg_cellsS hmX
  have hOX := OwnS.nil MsO 27 8 B X
  have hl0 : ([] : Msgs).length ≤ 5 := by simp
  have hadd := radd_yes r.votes m.a1 HNV.out sa.vo sa.vc (by omega) X.drew (liesN_wide aL.votes (Below.refl _ X).drew (Nat.le_refl _))
  clear a0 a1 a2 a3 a4 a5 a6 a7 a9 a10 a11 a12 aL cc0 cc2 cc3 cc4 cc5 cc6 cc7
  go_cut [6, 7, 32] from 33 to 41 (fun v6 v7 _ wx => v6 = .slice sa.vo r.votes.length sa.vc ∧ v7 = .bool false ∧ Below X.heap.size X wx)
  case first =>
    go_region_with (go_at_call 53; refine hadd.mono ?_; rintro e w5 ⟨rfl, hb5⟩)
    all_goals
      go_wp2_with fail
      go_meet
      case rel => exact ⟨rfl, rfl, (Below.refl _ X).drew.trans hb5⟩
  case rest =>
    obtain ⟨rfl, rfl, hb6⟩ := hcut
    have hH6 := aH.below hb6
    have hT6 : TurnR B (wc.setCell ⟨g, 8, none⟩ (.slice sa.vo r.votes.length sa.vc)) g r := ⟨⟨_, _, _, _, _, hold_sets hH6 (by omega) (by decide) (by decide) [(8, .slice sa.vo r.votes.length sa.vc)] (r' := r) (x' := undef) hH6.rows (fun f f' e e' => by subst e e'; exact ⟨rfl, rfl, rfl, rfl, rfl, rfl, rfl, rfl, rfl, rfl, rfl, rfl, rfl, rfl⟩)⟩, Nat.le_trans (Nat.le_trans hTX.base hb6.size) (by simp [World.setCell]), hTX.one, hTX.ll, hTX.bl, hTX.al⟩
    have hK6 := (KeepM.of_below hb6 hTX.base).trans (sets_keepM hH6.base hH6.box (by decide) (by decide) [(8, .slice sa.vo r.votes.length sa.vc)])
    obtain ⟨_, ⟨_, _, _, _, _, _, _, _, y8, _⟩, y8z, _⟩ := (hTX.below hb6).cells
    clear hadd a8 cc1 az aH hH6
    go_wp2
    go_ret
    exact ⟨_, rfl, OwnS.nil _ _ _ _ _, hT6, (hKX.trans hK6).low⟩
set_option maxRecDepth 100000 in
set_option maxHeartbeats 1000000 in
theorem rchange_dN (B g : Nat) (r : Rep) (m : Msg) (bo : Option Addr) (c : Nat) (hv : 0 ≤ m.a3 ∧ m.a3 < 1099511627776) (hrv : 0 ≤ r.view ∧ r.view < 1099511627776) (hvt : r.votes.length ≤ 20) (hvl : r.voters.length ≤ 20) (h1 : ¬ m.a3 < r.view) (h3 : m.a3 = r.view) (h4 : r.how = 1) (h5 : m.a1 ∉ r.votes) (h6 : ¬ ((addI r.votes m.a1).length : Int) = mostN r.n) (w : World) (h : TurnR B w g r) (hs : SrcE B w bo c m.log) :
    Calls Tryz.prog 28 #[.pointer (some ⟨g, 0, none⟩), msV m bo c] w fun e w' => ∃ v, e = .returned v ∧ OwnO B w' v (({ r with votes := addI r.votes m.a1 }, ([] : Msgs))).2 ∧ TurnR B w' g (({ r with votes := addI r.votes m.a1 }, ([] : Msgs))).1 ∧ Below B w w' := by
  have hn := one_bounds h.one
  have hne : ¬ r.n = 0 := by omega
  have HNV : Hid (m.a1 ∉ r.votes) := h5
  have HVT : Hid (r.votes.length ≤ 20) := hvt
  have HM : Hid (((addI r.votes m.a1).length : Int) ≠ mostN r.n) := h6
  clear h5 h6
  have d1 : decide (m.a3 < r.view) = false := decide_eq_false (by omega)
  have d4 : decide (r.view < m.a3) = false := decide_eq_false (by omega)
  have HH : Hid (r.how = 1) := h4
  clear h1 h3 h4
  have hlow : Below w.heap.size w (w.alloc (.cells #[.int .i64 m.a0, .int .i64 m.a1, .int .i64 m.a2, .int .i64 m.a3, .int .i64 m.a4, .int .i64 m.a5, .int .i64 m.a6, .slice bo m.log.length c] 27)) := (Below.refl _ w).alloc (Nat.le_refl _) _
  have hT := h.below hlow
  have hK := KeepM.of_below hlow h.base
  have hs := hs.keep hK.toKeep
  have hB := h.base
  have hmb : (w.alloc (.cells #[.int .i64 m.a0, .int .i64 m.a1, .int .i64 m.a2, .int .i64 m.a3, .int .i64 m.a4, .int .i64 m.a5, .int .i64 m.a6, .slice bo m.log.length c] 27)).heap[w.heap.size]? = some (.cells #[.int .i64 m.a0, .int .i64 m.a1, .int .i64 m.a2, .int .i64 m.a3, .int .i64 m.a4, .int .i64 m.a5, .int .i64 m.a6, .slice bo m.log.length c] 27 (0, 0)) := heap_new w _
  have hgw : w.heap.size ≠ g := by
    obtain ⟨_, _, _, _, hH⟩ := h.cells
    exact Nat.ne_of_gt hH.box.lt
  go_enter Tryz.func28, Tryz.ntmps28
  go_wp2_with fail
  clear h
  generalize (w.alloc (.cells #[.int .i64 m.a0, .int .i64 m.a1, .int .i64 m.a2, .int .i64 m.a3, .int .i64 m.a4, .int .i64 m.a5, .int .i64 m.a6, .slice bo m.log.length c] 27)) = W at *
  obtain ⟨sk, ⟨k0, k1, k2, k3, k4, k5, k6, k7, k8, k9, k10, k11, k12⟩, kz, kL, kH⟩ := hT.cells
  obtain ⟨ca0, ca1, ca2, ca3, ca4, ca5, ca6, ca7⟩ := msg_cellsS hmb
  have hT0 := hT
  have hK0 := hK
  have hm0 := hmb
  have hs0 := hs
  clear hT hK hmb hs
  go_quiet (fail)
  go_wp2_with fail
  have hT1 := hT0.drewN nq
  have hK1 := hK0.trans (keepM_drewN nq hT0.base)
  have hm1 := ms_at hm0 (keepM_drewN nq hT0.base)
  have hs1 := hs0.keep (keepM_drewN nq hT0.base).toKeep
  clear k0 k1 k2 k3 k4 k5 k6 k7 k8 k9 k10 k11 k12 kz kL kH ca0 ca1 ca2 ca3 ca4 ca5 ca6 ca7 hT0 hs0 hm0 hK0
  generalize W.drewN nq = V at *
  obtain ⟨sl, ⟨l0, l1, l2, l3, l4, l5, l6, l7, l8, l9, l10, l11, l12⟩, lz, lL, lH⟩ := hT1.cells
  obtain ⟨cb0, cb1, cb2, cb3, cb4, cb5, cb6, cb7⟩ := msg_cellsS hm1
  clear d1
  rw [HH.out] at l4
  go_quiet (fail)
  clear d4
  go_wp2_with fail
  have hTX := hT1.drewN nq
  have hKX := hK1.trans (keepM_drewN nq hT1.base)
  have hmX := ms_at hm1 (keepM_drewN nq hT1.base)
  have hsX := hs1.keep (keepM_drewN nq hT1.base).toKeep
  clear l0 l1 l2 l3 l4 l5 l6 l7 l8 l9 l10 l11 l12 lz lL lH cb0 cb1 cb2 cb3 cb4 cb5 cb6 cb7 hT1 hs1 hm1 hK1
  generalize V.drewN nq = X at *
  obtain ⟨sa, ⟨a0, a1, a2, a3, a4, a5, a6, a7, a8, a9, a10, a11, a12⟩, az, aL, aH⟩ := hTX.cells
  obtain ⟨cc0, cc1, cc2, cc3, cc4, cc5, cc6, cc7⟩ := msg_cellsS hmX
  have hOX := OwnS.nil MsO 27 8 B X
  have hl0 : ([] : Msgs).length ≤ 5 := by simp
  have hadd := radd_no r.votes m.a1 HNV.out sa.vo sa.vc (by have := HVT.out; omega) X.drew (liesN_wide aL.votes (Below.refl _ X).drew (Nat.le_refl _))
  clear a0 a1 a2 a3 a4 a5 a6 a7 a9 a10 a11 a12 aL aH az cc0 cc2 cc3 cc4 cc5 cc6 cc7
  obtain ⟨nv, hnv⟩ : ∃ nv, nv = addI r.votes m.a1 := ⟨_, rfl⟩
  rw [← hnv] at hadd
  have HNW : Hid (nv = addI r.votes m.a1) := hnv
  clear hnv
  go_cut [6, 7, 32] from 33 to 41 (fun v6 v7 _ wx => ∃ ao cap, v6 = .slice ao nv.length cap ∧ v7 = .bool true ∧ wx.ownsRow X.heap.size 3 1 (.slice ao nv.length cap) nv.length (inCells nv) ∧ Below X.heap.size X wx)
  case first =>
    go_region_with (go_at_call 53; refine hadd.mono ?_; rintro e w5 ⟨ao5, cap5, rfl, hown5, hb5⟩)
    all_goals
      go_wp2_with fail
      go_meet
      case rel => exact ⟨ao5, cap5, rfl, rfl, hown5, (Below.refl _ X).drew.trans hb5⟩
  case rest =>
    obtain ⟨ao6, cap6, rfl, rfl, hown6, hb6⟩ := hcut
    clear hadd a8 cc1
    obtain ⟨⟨hTY, hKY⟩, ⟨u8, y8⟩, z8⟩ := turnS_votes hTX hb6 nv hown6
    have hKXY := hKX.trans hKY
    have hOY := ownO_keep hOX hKY
    have hmo := fun W => rmost_any r.n ⟨by omega, by omega⟩ W
    obtain ⟨sy, ⟨_, b1, _⟩, bz, _, bH⟩ := hTY.cells
    have b1' : (wc.setCell ⟨g, 8, none⟩ (.slice ao6 nv.length cap6)).cell? ⟨g, 1, none⟩ = some (.int .i64 r.n) := by exact b1
    clear b1
    have dm : decide ((nv.length : Int) = mostN r.n) = false := decide_eq_false (by rw [HNW.out]; exact HM.out)
    have dm2 : ((nv.length : Int) != mostN r.n) = true := by have := HM.out; rw [← HNW.out] at this; simp [this]
    have dm3 : ((nv.length : Int) == mostN r.n) = false := by have := HM.out; rw [← HNW.out] at this; simp [this]
    go_wp2_with (first
      | (go_at_call 54; refine (hmo _).mono ?_; rintro e wn ⟨rfl, hq⟩; have hq' := hq.symm; clear hq; subst hq'))
    go_ret
    have hTZ : TurnR B (wc.setCell ⟨g, 8, none⟩ (.slice ao6 nv.length cap6)) g { r with votes := addI r.votes m.a1 } := by rw [← HNW.out]; exact hTY
    exact ⟨_, rfl, hOY, hTZ, hKXY.low⟩
set_option maxRecDepth 100000 in
set_option maxHeartbeats 1000000 in
theorem rchange_dU (B g : Nat) (r : Rep) (m : Msg) (bo : Option Addr) (c : Nat) (hv : 0 ≤ m.a3 ∧ m.a3 < 1099511627776) (hrv : 0 ≤ r.view ∧ r.view < 1099511627776) (hvt : r.votes.length ≤ 20) (hvl : r.voters.length ≤ 20) (h1 : ¬ m.a3 < r.view) (h3 : ¬ m.a3 = r.view) (h5 : m.a1 ∉ (changeR r m.a3).votes) (h6 : ¬ ((addI (changeR r m.a3).votes m.a1).length : Int) = mostN r.n) (w : World) (h : TurnR B w g r) (hs : SrcE B w bo c m.log) :
    Calls Tryz.prog 28 #[.pointer (some ⟨g, 0, none⟩), msV m bo c] w fun e w' => ∃ v, e = .returned v ∧ OwnO B w' v (({ (changeR r m.a3) with votes := addI (changeR r m.a3).votes m.a1 }, allM (changeR r m.a3) (msg 4 0 0 0 []))).2 ∧ TurnR B w' g (({ (changeR r m.a3) with votes := addI (changeR r m.a3).votes m.a1 }, allM (changeR r m.a3) (msg 4 0 0 0 []))).1 ∧ Below B w w' := by
  have hn := one_bounds h.one
  have hne : ¬ r.n = 0 := by omega
  have HNV : Hid (m.a1 ∉ (changeR r m.a3).votes) := h5
  have HVT : Hid ((changeR r m.a3).votes.length ≤ 20) := by show [r.id].length ≤ 20; simp
  have HM : Hid (((addI (changeR r m.a3).votes m.a1).length : Int) ≠ mostN r.n) := h6
  clear h5 h6
  have d1 : decide (m.a3 < r.view) = false := decide_eq_false (by omega)
  have d4 : decide (r.view < m.a3) = true := decide_eq_true (by omega)
  clear h1 h3
  have hlow : Below w.heap.size w (w.alloc (.cells #[.int .i64 m.a0, .int .i64 m.a1, .int .i64 m.a2, .int .i64 m.a3, .int .i64 m.a4, .int .i64 m.a5, .int .i64 m.a6, .slice bo m.log.length c] 27)) := (Below.refl _ w).alloc (Nat.le_refl _) _
  have hT := h.below hlow
  have hK := KeepM.of_below hlow h.base
  have hs := hs.keep hK.toKeep
  have hB := h.base
  have hmb : (w.alloc (.cells #[.int .i64 m.a0, .int .i64 m.a1, .int .i64 m.a2, .int .i64 m.a3, .int .i64 m.a4, .int .i64 m.a5, .int .i64 m.a6, .slice bo m.log.length c] 27)).heap[w.heap.size]? = some (.cells #[.int .i64 m.a0, .int .i64 m.a1, .int .i64 m.a2, .int .i64 m.a3, .int .i64 m.a4, .int .i64 m.a5, .int .i64 m.a6, .slice bo m.log.length c] 27 (0, 0)) := heap_new w _
  have hgw : w.heap.size ≠ g := by
    obtain ⟨_, _, _, _, hH⟩ := h.cells
    exact Nat.ne_of_gt hH.box.lt
  go_enter Tryz.func28, Tryz.ntmps28
  go_wp2_with fail
  clear h
  generalize (w.alloc (.cells #[.int .i64 m.a0, .int .i64 m.a1, .int .i64 m.a2, .int .i64 m.a3, .int .i64 m.a4, .int .i64 m.a5, .int .i64 m.a6, .slice bo m.log.length c] 27)) = W at *
  obtain ⟨sk, ⟨k0, k1, k2, k3, k4, k5, k6, k7, k8, k9, k10, k11, k12⟩, kz, kL, kH⟩ := hT.cells
  obtain ⟨ca0, ca1, ca2, ca3, ca4, ca5, ca6, ca7⟩ := msg_cellsS hmb
  have hT0 := hT
  have hK0 := hK
  have hm0 := hmb
  have hs0 := hs
  clear hT hK hmb hs
  go_quiet (fail)
  go_wp2_with fail
  have hT1 := hT0.drewN nq
  have hK1 := hK0.trans (keepM_drewN nq hT0.base)
  have hm1 := ms_at hm0 (keepM_drewN nq hT0.base)
  have hs1 := hs0.keep (keepM_drewN nq hT0.base).toKeep
  clear k0 k1 k2 k3 k4 k5 k6 k7 k8 k9 k10 k11 k12 kz kL kH ca0 ca1 ca2 ca3 ca4 ca5 ca6 ca7 hT0 hs0 hm0 hK0
  generalize W.drewN nq = V at *
  obtain ⟨sl, ⟨l0, l1, l2, l3, l4, l5, l6, l7, l8, l9, l10, l11, l12⟩, lz, lL, lH⟩ := hT1.cells
  obtain ⟨cb0, cb1, cb2, cb3, cb4, cb5, cb6, cb7⟩ := msg_cellsS hm1
  clear d1
  go_quiet (fail)
  clear d4
  have hT2 := hT1.drewN nq
  have hK2 := hK1.trans (keepM_drewN nq hT1.base)
  have hm2 := ms_at hm1 (keepM_drewN nq hT1.base)
  have hs2 := hs1.keep (keepM_drewN nq hT1.base).toKeep
  have hch := rchangesS_any B g r m.a3 (V.drewN nq) hT2
  have hl0 := allM_len5 (show OneOf (changeR r m.a3).id (changeR r m.a3).n from hT1.one) (msg 4 0 0 0 [])
  have hh2 : (changeR r m.a3).how = 1 := rfl
  obtain ⟨p, hp⟩ : ∃ p, p = changeR r m.a3 := ⟨_, rfl⟩
  rw [← hp] at hch hl0 hh2
  obtain ⟨lm, hl1⟩ : ∃ lm, lm = allM p (msg 4 0 0 0 []) := ⟨_, rfl⟩
  rw [← hl1] at hch hl0
  have HL : Hid (lm = allM p (msg 4 0 0 0 [])) := hl1
  have HP : Hid (p = changeR r m.a3) := hp
  clear hp hl1
  go_wp2_with (first
    | (go_at_call 52; refine hch.mono ?_; rintro e X ⟨v1, rfl, hOX, hTX, hKX'⟩; obtain ⟨ao1, c1, rfl⟩ := hOX.shape
       have n4 := hTX.cells.choose_spec.1.2.2.2.2.1
       rw [hh2] at n4
       clear hh2))
  have hKX := hK2.trans hKX'
  have hmX := ms_at hm2 hKX'
  clear n4 hch hT2 hs2 hK2 hm2 hT1 hm1 hs1 hK1
  clear l0 l1 l2 l3 l4 l5 l6 l7 l8 l9 l10 l11 l12 lz lL lH cb0 cb1 cb2 cb3 cb4 cb5 cb6 cb7
  obtain ⟨sa, ⟨a0, a1, a2, a3, a4, a5, a6, a7, a8, a9, a10, a11, a12⟩, az, aL, aH⟩ := hTX.cells
  obtain ⟨cc0, cc1, cc2, cc3, cc4, cc5, cc6, cc7⟩ := msg_cellsS hmX
  rw [← HP.out] at HNV HVT HM
  have hadd := radd_no p.votes m.a1 HNV.out sa.vo sa.vc (by have := HVT.out; omega) X.drew (liesN_wide aL.votes (Below.refl _ X).drew (Nat.le_refl _))
  clear a0 a1 a2 a3 a4 a5 a6 a7 a9 a10 a11 a12 aL aH az cc0 cc2 cc3 cc4 cc5 cc6 cc7
  obtain ⟨nv, hnv⟩ : ∃ nv, nv = addI p.votes m.a1 := ⟨_, rfl⟩
  rw [← hnv] at hadd
  have HNW : Hid (nv = addI p.votes m.a1) := hnv
  clear hnv
  go_cut [6, 7, 32] from 33 to 41 (fun v6 v7 _ wx => ∃ ao cap, v6 = .slice ao nv.length cap ∧ v7 = .bool true ∧ wx.ownsRow X.heap.size 3 1 (.slice ao nv.length cap) nv.length (inCells nv) ∧ Below X.heap.size X wx)
  case first =>
    go_region_with (go_at_call 53; refine hadd.mono ?_; rintro e w5 ⟨ao5, cap5, rfl, hown5, hb5⟩)
    all_goals
      go_wp2_with fail
      go_meet
      case rel => exact ⟨ao5, cap5, rfl, rfl, hown5, (Below.refl _ X).drew.trans hb5⟩
  case rest =>
    obtain ⟨ao6, cap6, rfl, rfl, hown6, hb6⟩ := hcut
    clear hadd a8 cc1
    obtain ⟨⟨hTY, hKY⟩, ⟨u8, y8⟩, z8⟩ := turnS_votes hTX hb6 nv hown6
    have hKXY := hKX.trans hKY
    have hOY := ownO_keep hOX hKY
    have hmo := fun W => rmost_any r.n ⟨by omega, by omega⟩ W
    obtain ⟨sy, ⟨_, b1, _⟩, bz, _, bH⟩ := hTY.cells
    have b1' : (wc.setCell ⟨g, 8, none⟩ (.slice ao6 nv.length cap6)).cell? ⟨g, 1, none⟩ = some (.int .i64 r.n) := by have b1q := b1; rw [show ({ p with votes := nv } : Rep).n = r.n by rw [HP.out]; rfl] at b1q; exact b1q
    clear b1
    have dm : decide ((nv.length : Int) = mostN r.n) = false := decide_eq_false (by rw [HNW.out]; exact HM.out)
    have dm2 : ((nv.length : Int) != mostN r.n) = true := by have := HM.out; rw [← HNW.out] at this; simp [this]
    have dm3 : ((nv.length : Int) == mostN r.n) = false := by have := HM.out; rw [← HNW.out] at this; simp [this]
    go_wp2_with (first
      | (go_at_call 54; refine (hmo _).mono ?_; rintro e wn ⟨rfl, hq⟩; have hq' := hq.symm; clear hq; subst hq'))
    go_ret
    have hTZ : TurnR B (wc.setCell ⟨g, 8, none⟩ (.slice ao6 nv.length cap6)) g { (changeR r m.a3) with votes := addI (changeR r m.a3).votes m.a1 } := by rw [← HP.out, ← HNW.out]; exact hTY
    have hOY : OwnO B (wc.setCell ⟨g, 8, none⟩ (.slice ao6 nv.length cap6)) (.slice ao1 lm.length c1) (allM (changeR r m.a3) (msg 4 0 0 0 [])) := by rw [← HP.out, ← HL.out]; exact hOY
    exact ⟨_, rfl, hOY, hTZ, hKXY.low⟩
end Go.Proofs.YtgdehjdajjhjpabGreat
