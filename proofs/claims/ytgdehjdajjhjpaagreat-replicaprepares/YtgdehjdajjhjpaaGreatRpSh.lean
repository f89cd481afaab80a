/-
  Contracts of the document's own replica: what it makes of a new entry, or of what is committed: nothing, or it is behind.
-/
import Derived.Test.YtgdehjdajjhjpaaGreatRpSg
import Derived.Test.YtgdehjdajjhjpaaGreatRpG9
import Derived.Deep.CutRange
import Derived.Deep.RegionHeldLaw
import Derived.BigQuiet
import Derived.WalkSmall
import Derived.Deep.RegionWith
namespace Go.Proofs.YtgdehjdajjhjpaaGreat
open Go.RowKit Num
open scoped Classical
set_option linter.unusedVariables false
set_option maxRecDepth 100000
theorem cell_drewS (w : World) (n : Nat) (a : Addr) : (w.drewN n).cell? a = w.cell? a := by
  induction n generalizing w with
  | zero => rfl
  | succ n ih => exact (ih w.drew).trans rfl
theorem msg_stayS {k : Nat} {cs : Array Value} {fr : Nat × Nat} {w w' : World} (h : w.heap[k]? = some (.cells cs 27 fr)) {e : TypeId} (hs : Stay (fun _ => False) e w w') (he : e ≠ 27) : w'.heap[k]? = some (.cells cs 27 fr) :=
  (hs.keep k (Array.getElem?_eq_some_iff.1 h).1 id (fun cs' fr' h' => by rw [h] at h'; cases h'; exact he rfl)).trans h
/-- A log is put behind the replica's own. -/
theorem turnS_app {B : Nat} {W : World} {g : Nat} {r : Rep} (h : TurnR B W g r) (more : List Ent) (hm : more.length ≤ 1000) (hl : r.log.length + more.length ≤ 1000) {bo : Option Addr} {c : Nat} (hheld : Held W bo more.length 2 (enCells more)) {lo : Option Addr} {lc : Nat} (hc : W.cell? ⟨g, 5, none⟩ = some (.slice lo r.log.length lc)) :
    ∃ (v' : Value) (w' : World), (Builtin.append_ #[22, 22] 22 #[.slice lo r.log.length lc, .slice bo more.length c]).run Tryz.prog W = .ok v' w' ∧
      (∃ ao cap, v' = .slice ao (r.log ++ more).length cap) ∧ w'.cell? ⟨g, 5, none⟩ = some (.slice lo r.log.length lc) ∧ (∀ k, w'.frozen? ⟨g, k, none⟩ = false) ∧ TurnR B (w'.setCell ⟨g, 5, none⟩ v') g { r with log := r.log ++ more } ∧ Below B W (w'.setCell ⟨g, 5, none⟩ v') ∧ (∀ (k : Nat) (cs : Array Value) (fr : Nat × Nat), W.heap[k]? = some (.cells cs 27 fr) → (w'.setCell ⟨g, 5, none⟩ v').heap[k]? = some (.cells cs 27 fr)) := by
  obtain ⟨⟨vl, va, vv, vw, vb, hH⟩, hB, h1, hl0, hb, ha⟩ := h
  have hvl : vl = .slice lo r.log.length lc := by
    have := (hH.box.cell 5 (by omega)).symm.trans hc
    simpa [repF] using this
  subst hvl
  obtain ⟨v', w', hr, ⟨ao, cap, rfl⟩, bx, hH', hst, hbel, hoff⟩ := app_en hH (by omega) (by decide) (by decide) hB hl0 more hm bo c hheld 22
  have hcell := bx.cell 5 (by omega)
  have hS2 := bx.stays 5 (.slice ao (r.log ++ more).length cap)
  have hbel2 : Below B W (w'.setCell ⟨g, 5, none⟩ (.slice ao (r.log ++ more).length cap)) := hbel.setCell (p := ⟨g, 5, none⟩) hH.base _
  exact ⟨_, w', hr, ⟨ao, cap, rfl⟩, hcell, bx.unfrozen, ⟨⟨_, _, _, _, _, hH'⟩, Nat.le_trans hB hbel2.size, h1, by rw [List.length_append]; exact hl, hb, ha⟩, hbel2, fun k cs fr hk => msg_stayS (msg_stayS hk hst (by decide)) hS2 (by decide)⟩
set_option maxRecDepth 100000 in
set_option maxHeartbeats 1000000 in
theorem rprep_a (B g : Nat) (r : Rep) (m : Msg) (bo : Option Addr) (c : Nat) (hv : 0 ≤ m.a3 ∧ m.a3 < 1099511627776) (h1 : m.a3 < r.view) (w : World) (h : TurnR B w g r) (hs : SrcE B w bo c m.log) :
    Calls Tryz.prog 27 #[.pointer (some ⟨g, 0, none⟩), msV m bo c] w fun e w' => ∃ v, e = .returned v ∧ OwnO B w' v ((r, ([] : Msgs))).2 ∧ TurnR B w' g ((r, ([] : Msgs))).1 ∧ Below B w w' := by
  have hn := one_bounds h.one
  have hne : ¬ r.n = 0 := by omega
  have he : Int.tmod m.a3 r.n = m.a3 % r.n := Int.tmod_eq_emod_of_nonneg hv.1
  have d1 : decide (m.a3 < r.view) = true := decide_eq_true h1
  clear h1
  have hlow : Below w.heap.size w (w.alloc (.cells #[.int .i64 m.a0, .int .i64 m.a1, .int .i64 m.a2, .int .i64 m.a3, .int .i64 m.a4, .int .i64 m.a5, .int .i64 m.a6, .slice bo m.log.length c] 27)) := (Below.refl _ w).alloc (Nat.le_refl _) _
  have hT := h.below hlow
  have hK := KeepM.of_below hlow h.base
  have hs := hs.keep hK.toKeep
  have hB := h.base
  have hmb : (w.alloc (.cells #[.int .i64 m.a0, .int .i64 m.a1, .int .i64 m.a2, .int .i64 m.a3, .int .i64 m.a4, .int .i64 m.a5, .int .i64 m.a6, .slice bo m.log.length c] 27)).heap[w.heap.size]? = some (.cells #[.int .i64 m.a0, .int .i64 m.a1, .int .i64 m.a2, .int .i64 m.a3, .int .i64 m.a4, .int .i64 m.a5, .int .i64 m.a6, .slice bo m.log.length c] 27 (0, 0)) := heap_new w _
  have hgw : w.heap.size ≠ g := by
    obtain ⟨_, _, _, _, hH⟩ := h.cells
    exact Nat.ne_of_gt hH.box.lt
  go_enter Tryz.func27, Tryz.ntmps27
  go_wp2_with fail
  clear h
  generalize (w.alloc (.cells #[.int .i64 m.a0, .int .i64 m.a1, .int .i64 m.a2, .int .i64 m.a3, .int .i64 m.a4, .int .i64 m.a5, .int .i64 m.a6, .slice bo m.log.length c] 27)) = W at *
  obtain ⟨sk, ⟨k0, k1, k2, k3, k4, k5, k6, k7, k8, k9, k10, k11, k12⟩, kz, kL, kH⟩ := hT.cells
  obtain ⟨c0, c1, c2, c3, c4, c5, c6, c7⟩ := msg_cellsS hmb
  go_quiet (fail)
  go_wp2
  go_ret
  exact ⟨_, rfl, OwnS.nil _ _ _ _ _, hT.drewN nq, (hK.trans (keepM_drewN nq hT.base)).low⟩
set_option maxRecDepth 100000 in
set_option maxHeartbeats 1000000 in
theorem rprep_b (B g : Nat) (r : Rep) (m : Msg) (bo : Option Addr) (c : Nat) (hv : 0 ≤ m.a3 ∧ m.a3 < 1099511627776) (h1 : ¬ m.a3 < r.view) (h2 : ¬ m.a3 % r.n = m.a1) (w : World) (h : TurnR B w g r) (hs : SrcE B w bo c m.log) :
    Calls Tryz.prog 27 #[.pointer (some ⟨g, 0, none⟩), msV m bo c] w fun e w' => ∃ v, e = .returned v ∧ OwnO B w' v ((r, ([] : Msgs))).2 ∧ TurnR B w' g ((r, ([] : Msgs))).1 ∧ Below B w w' := by
  have hn := one_bounds h.one
  have hne : ¬ r.n = 0 := by omega
  have he : Int.tmod m.a3 r.n = m.a3 % r.n := Int.tmod_eq_emod_of_nonneg hv.1
  have d1 : decide (m.a3 < r.view) = false := decide_eq_false h1
  have d2 : decide (m.a3 % r.n = m.a1) = false := decide_eq_false h2
  have d3 : (m.a3 % r.n != m.a1) = true := by simp [h2]
  clear h1 h2
  have hlow : Below w.heap.size w (w.alloc (.cells #[.int .i64 m.a0, .int .i64 m.a1, .int .i64 m.a2, .int .i64 m.a3, .int .i64 m.a4, .int .i64 m.a5, .int .i64 m.a6, .slice bo m.log.length c] 27)) := (Below.refl _ w).alloc (Nat.le_refl _) _
  have hT := h.below hlow
  have hK := KeepM.of_below hlow h.base
  have hs := hs.keep hK.toKeep
  have hB := h.base
  have hmb : (w.alloc (.cells #[.int .i64 m.a0, .int .i64 m.a1, .int .i64 m.a2, .int .i64 m.a3, .int .i64 m.a4, .int .i64 m.a5, .int .i64 m.a6, .slice bo m.log.length c] 27)).heap[w.heap.size]? = some (.cells #[.int .i64 m.a0, .int .i64 m.a1, .int .i64 m.a2, .int .i64 m.a3, .int .i64 m.a4, .int .i64 m.a5, .int .i64 m.a6, .slice bo m.log.length c] 27 (0, 0)) := heap_new w _
  have hgw : w.heap.size ≠ g := by
    obtain ⟨_, _, _, _, hH⟩ := h.cells
    exact Nat.ne_of_gt hH.box.lt
  go_enter Tryz.func27, Tryz.ntmps27
  go_wp2_with fail
  clear h
  generalize (w.alloc (.cells #[.int .i64 m.a0, .int .i64 m.a1, .int .i64 m.a2, .int .i64 m.a3, .int .i64 m.a4, .int .i64 m.a5, .int .i64 m.a6, .slice bo m.log.length c] 27)) = W at *
  obtain ⟨sk, ⟨k0, k1, k2, k3, k4, k5, k6, k7, k8, k9, k10, k11, k12⟩, kz, kL, kH⟩ := hT.cells
  obtain ⟨c0, c1, c2, c3, c4, c5, c6, c7⟩ := msg_cellsS hmb
  go_quiet (fail)
  go_wp2
  go_ret
  exact ⟨_, rfl, OwnS.nil _ _ _ _ _, hT.drewN nq, (hK.trans (keepM_drewN nq hT.base)).low⟩
set_option maxRecDepth 100000 in
set_option maxHeartbeats 1000000 in
theorem rprep_c (B g : Nat) (r : Rep) (m : Msg) (bo : Option Addr) (c : Nat) (hv : 0 ≤ m.a3 ∧ m.a3 < 1099511627776) (h1 : ¬ m.a3 < r.view) (h2 : m.a3 % r.n = m.a1) (h3 : ¬ m.a3 = r.view) (w : World) (h : TurnR B w g r) (hs : SrcE B w bo c m.log) :
    Calls Tryz.prog 27 #[.pointer (some ⟨g, 0, none⟩), msV m bo c] w fun e w' => ∃ v, e = .returned v ∧ OwnO B w' v ((behindR r m.a3, askM (behindR r m.a3) m.a1 r.commit)).2 ∧ TurnR B w' g ((behindR r m.a3, askM (behindR r m.a3) m.a1 r.commit)).1 ∧ Below B w w' := by
  have hn := one_bounds h.one
  have hne : ¬ r.n = 0 := by omega
  have he : Int.tmod m.a3 r.n = m.a3 % r.n := Int.tmod_eq_emod_of_nonneg hv.1
  have d1 : decide (m.a3 < r.view) = false := decide_eq_false h1
  rw [h2] at he
  have d4 : decide (r.view < m.a3) = true := decide_eq_true (by omega)
  clear h1 h2 h3
  have hlow : Below w.heap.size w (w.alloc (.cells #[.int .i64 m.a0, .int .i64 m.a1, .int .i64 m.a2, .int .i64 m.a3, .int .i64 m.a4, .int .i64 m.a5, .int .i64 m.a6, .slice bo m.log.length c] 27)) := (Below.refl _ w).alloc (Nat.le_refl _) _
  have hT := h.below hlow
  have hK := KeepM.of_below hlow h.base
  have hs := hs.keep hK.toKeep
  have hB := h.base
  have hmb : (w.alloc (.cells #[.int .i64 m.a0, .int .i64 m.a1, .int .i64 m.a2, .int .i64 m.a3, .int .i64 m.a4, .int .i64 m.a5, .int .i64 m.a6, .slice bo m.log.length c] 27)).heap[w.heap.size]? = some (.cells #[.int .i64 m.a0, .int .i64 m.a1, .int .i64 m.a2, .int .i64 m.a3, .int .i64 m.a4, .int .i64 m.a5, .int .i64 m.a6, .slice bo m.log.length c] 27 (0, 0)) := heap_new w _
  have hgw : w.heap.size ≠ g := by
    obtain ⟨_, _, _, _, hH⟩ := h.cells
    exact Nat.ne_of_gt hH.box.lt
  go_enter Tryz.func27, Tryz.ntmps27
  go_wp2_with fail
  clear h
  generalize (w.alloc (.cells #[.int .i64 m.a0, .int .i64 m.a1, .int .i64 m.a2, .int .i64 m.a3, .int .i64 m.a4, .int .i64 m.a5, .int .i64 m.a6, .slice bo m.log.length c] 27)) = W at *
  obtain ⟨sk, ⟨k0, k1, k2, k3, k4, k5, k6, k7, k8, k9, k10, k11, k12⟩, kz, kL, kH⟩ := hT.cells
  obtain ⟨c0, c1, c2, c3, c4, c5, c6, c7⟩ := msg_cellsS hmb
  go_quiet (fail)
  go_wp2_with fail
  have hTV := hT.drewN nq
  have hKV := hK.trans (keepM_drewN nq hT.base)
  have hbV := ms_at hmb (keepM_drewN nq hT.base)
  clear k0 k1 k2 k3 k4 k5 k6 k7 k8 k9 k10 k11 k12 kz kL kH c0 c1 c2 c3 c4 c5 c6 c7 hT hs hmb hK d1 he
  generalize W.drewN nq = V at *
  obtain ⟨sl, ⟨l0, l1, l2, l3, l4, l5, l6, l7, l8, l9, l10, l11, l12⟩, lz, lL, lH⟩ := hTV.cells
  obtain ⟨d0, d1, d2, d3, d4, d5, d6, d7⟩ := msg_cellsS hbV
  go_quiet (fail)
  have hTX := hTV.drewN nq
  have hKX := hKV.trans (keepM_drewN nq hTV.base)
  have hbX := ms_at hbV (keepM_drewN nq hTV.base)
  obtain ⟨hTY, hKY⟩ := turnS_sets hTX [(2, .int .i64 m.a3), (4, .int .i64 2)] { r with view := m.a3, how := 2 } (fun _ _ _ _ _ f f' e e' => by subst e e'; exact ⟨rfl, rfl, rfl, rfl, rfl, rfl, rfl, rfl, rfl, rfl, rfl, rfl, rfl, rfl⟩) rfl rfl rfl rfl rfl rfl rfl
  simp only [sets] at hTY hKY
  have hcl := rclearS_any B g _ _ hTY
  go_wp2_with (first
    | (go_at_call 54; refine hcl.mono ?_; rintro e w2 ⟨rfl, hT2, hK2⟩))
  have hKA := ((hKX.trans hKY).trans hK2).trans (KeepM.refl _ _).drew
  have hm2 := ms_at hbX (hKY.trans hK2)
  have hT3 : TurnR B w2 g (behindR r m.a3) := hT2
  obtain ⟨q, hq⟩ : ∃ q, q = behindR r m.a3 := ⟨_, rfl⟩
  have hqc : q.commit = r.commit := by rw [hq]; rfl
  rw [← hq] at hT3
  have HQ : Hid (q = behindR r m.a3) := hq
  clear hq hT2
  obtain ⟨s2, ⟨_, _, _, _, _, _, n6, _⟩, _, _, _⟩ := hT3.cells
  rw [hqc] at n6
  clear hqc
  obtain ⟨_, y1, _⟩ := msg_cellsS hm2
  have hone := rone_any B g q (msg 7 r.commit 0 0 []) none 0 m.a1 w2.drew hT3.drew (srcE_nil _ _) (by simp)
  go_wp2_with fail
  go_region_with (go_at_call 29; refine hone.mono ?_; rintro e w9 ⟨v9, rfl, hO9, hT9, hK9⟩)
  all_goals
    go_wp2
    go_ret
    rw [HQ.out] at hO9 hT9
    exact ⟨_, rfl, hO9, hT9, (hKA.trans hK9).low⟩
set_option maxRecDepth 100000 in
set_option maxHeartbeats 1000000 in
theorem rprep_d (B g : Nat) (r : Rep) (m : Msg) (bo : Option Addr) (c : Nat) (hv : 0 ≤ m.a3 ∧ m.a3 < 1099511627776) (h1 : ¬ m.a3 < r.view) (h2 : m.a3 % r.n = m.a1) (h3 : m.a3 = r.view) (h4 : ¬ r.how = 0) (w : World) (h : TurnR B w g r) (hs : SrcE B w bo c m.log) :
    Calls Tryz.prog 27 #[.pointer (some ⟨g, 0, none⟩), msV m bo c] w fun e w' => ∃ v, e = .returned v ∧ OwnO B w' v ((behindR r m.a3, askM (behindR r m.a3) m.a1 r.commit)).2 ∧ TurnR B w' g ((behindR r m.a3, askM (behindR r m.a3) m.a1 r.commit)).1 ∧ Below B w w' := by
  have hn := one_bounds h.one
  have hne : ¬ r.n = 0 := by omega
  have he : Int.tmod m.a3 r.n = m.a3 % r.n := Int.tmod_eq_emod_of_nonneg hv.1
  have d1 : decide (m.a3 < r.view) = false := decide_eq_false h1
  rw [h2] at he
  have d4 : decide (r.view < m.a3) = false := decide_eq_false (by omega)
  have d6 : (r.how != 0) = true := by simp [h4]
  have d7 : decide (r.how = 0) = false := decide_eq_false h4
  clear h1 h2 h3 h4
  have hlow : Below w.heap.size w (w.alloc (.cells #[.int .i64 m.a0, .int .i64 m.a1, .int .i64 m.a2, .int .i64 m.a3, .int .i64 m.a4, .int .i64 m.a5, .int .i64 m.a6, .slice bo m.log.length c] 27)) := (Below.refl _ w).alloc (Nat.le_refl _) _
  have hT := h.below hlow
  have hK := KeepM.of_below hlow h.base
  have hs := hs.keep hK.toKeep
  have hB := h.base
  have hmb : (w.alloc (.cells #[.int .i64 m.a0, .int .i64 m.a1, .int .i64 m.a2, .int .i64 m.a3, .int .i64 m.a4, .int .i64 m.a5, .int .i64 m.a6, .slice bo m.log.length c] 27)).heap[w.heap.size]? = some (.cells #[.int .i64 m.a0, .int .i64 m.a1, .int .i64 m.a2, .int .i64 m.a3, .int .i64 m.a4, .int .i64 m.a5, .int .i64 m.a6, .slice bo m.log.length c] 27 (0, 0)) := heap_new w _
  have hgw : w.heap.size ≠ g := by
    obtain ⟨_, _, _, _, hH⟩ := h.cells
    exact Nat.ne_of_gt hH.box.lt
  go_enter Tryz.func27, Tryz.ntmps27
  go_wp2_with fail
  clear h
  generalize (w.alloc (.cells #[.int .i64 m.a0, .int .i64 m.a1, .int .i64 m.a2, .int .i64 m.a3, .int .i64 m.a4, .int .i64 m.a5, .int .i64 m.a6, .slice bo m.log.length c] 27)) = W at *
  obtain ⟨sk, ⟨k0, k1, k2, k3, k4, k5, k6, k7, k8, k9, k10, k11, k12⟩, kz, kL, kH⟩ := hT.cells
  obtain ⟨c0, c1, c2, c3, c4, c5, c6, c7⟩ := msg_cellsS hmb
  go_quiet (fail)
  go_wp2_with fail
  have hTV := hT.drewN nq
  have hKV := hK.trans (keepM_drewN nq hT.base)
  have hbV := ms_at hmb (keepM_drewN nq hT.base)
  clear k0 k1 k2 k3 k4 k5 k6 k7 k8 k9 k10 k11 k12 kz kL kH c0 c1 c2 c3 c4 c5 c6 c7 hT hs hmb hK d1 he
  generalize W.drewN nq = V at *
  obtain ⟨sl, ⟨l0, l1, l2, l3, l4, l5, l6, l7, l8, l9, l10, l11, l12⟩, lz, lL, lH⟩ := hTV.cells
  obtain ⟨d0, d1, d2, d3, d4, d5, d6, d7⟩ := msg_cellsS hbV
  go_quiet (fail)
  have hTX := hTV.drewN nq
  have hKX := hKV.trans (keepM_drewN nq hTV.base)
  have hbX := ms_at hbV (keepM_drewN nq hTV.base)
  obtain ⟨hTY, hKY⟩ := turnS_sets hTX [(2, .int .i64 m.a3), (4, .int .i64 2)] { r with view := m.a3, how := 2 } (fun _ _ _ _ _ f f' e e' => by subst e e'; exact ⟨rfl, rfl, rfl, rfl, rfl, rfl, rfl, rfl, rfl, rfl, rfl, rfl, rfl, rfl⟩) rfl rfl rfl rfl rfl rfl rfl
  simp only [sets] at hTY hKY
  have hcl := rclearS_any B g _ _ hTY
  go_wp2_with (first
    | (go_at_call 54; refine hcl.mono ?_; rintro e w2 ⟨rfl, hT2, hK2⟩))
  have hKA := ((hKX.trans hKY).trans hK2).trans (KeepM.refl _ _).drew
  have hm2 := ms_at hbX (hKY.trans hK2)
  have hT3 : TurnR B w2 g (behindR r m.a3) := hT2
  obtain ⟨q, hq⟩ : ∃ q, q = behindR r m.a3 := ⟨_, rfl⟩
  have hqc : q.commit = r.commit := by rw [hq]; rfl
  rw [← hq] at hT3
  have HQ : Hid (q = behindR r m.a3) := hq
  clear hq hT2
  obtain ⟨s2, ⟨_, _, _, _, _, _, n6, _⟩, _, _, _⟩ := hT3.cells
  rw [hqc] at n6
  clear hqc
  obtain ⟨_, y1, _⟩ := msg_cellsS hm2
  have hone := rone_any B g q (msg 7 r.commit 0 0 []) none 0 m.a1 w2.drew hT3.drew (srcE_nil _ _) (by simp)
  go_wp2_with fail
  go_region_with (go_at_call 29; refine hone.mono ?_; rintro e w9 ⟨v9, rfl, hO9, hT9, hK9⟩)
  all_goals
    go_wp2
    go_ret
    rw [HQ.out] at hO9 hT9
    exact ⟨_, rfl, hO9, hT9, (hKA.trans hK9).low⟩
end Go.Proofs.YtgdehjdajjhjpaaGreat
