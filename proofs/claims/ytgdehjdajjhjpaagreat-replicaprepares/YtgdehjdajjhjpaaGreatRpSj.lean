/-
  Contracts of the document's own replica: what it makes of a new entry, or of what is committed: it follows.
-/
import Derived.Test.YtgdehjdajjhjpaaGreatRpSh
import Derived.Deep.CutRange
import Derived.Deep.RegionHeldLaw
import Derived.BigQuiet
import Derived.WalkSmall
import Derived.Deep.RegionWith
namespace Go.Proofs.YtgdehjdajjhjpaaGreat
open Go.RowKit Num
open scoped Classical
set_option linter.unusedVariables false
set_option maxRecDepth 100000
set_option maxRecDepth 100000 in
set_option maxHeartbeats 1000000 in
theorem rprep_k1n1e_ask (B g : Nat) (r : Rep) (m : Msg) (bo : Option Addr) (c : Nat) (hv : 0 ≤ m.a3 ∧ m.a3 < 1099511627776) (h1 : ¬ m.a3 < r.view) (h2 : m.a3 % r.n = m.a1) (h3 : m.a3 = r.view) (h4 : r.how = 0) (h5 : m.a0 = 1) (hp1 : m.log.length = 1) (hl0 : r.log = []) (h6 : ¬ m.a4 = (r.log.length : Int) + 1) (h9 : (r.log.length : Int) < m.a4) (w : World) (h : TurnR B w g r) (hs : SrcE B w bo c m.log) :
    Calls Tryz.prog 27 #[.pointer (some ⟨g, 0, none⟩), msV m bo c] w fun e w' => ∃ v, e = .returned v ∧ OwnO B w' v (((raiseR r m.a5), askM (raiseR r m.a5) m.a1 ((raiseR r m.a5).log.length : Int))).2 ∧ TurnR B w' g (((raiseR r m.a5), askM (raiseR r m.a5) m.a1 ((raiseR r m.a5).log.length : Int))).1 ∧ Below B w w' := by
  have hn := one_bounds h.one
  have hne : ¬ r.n = 0 := by omega
  have he : Int.tmod m.a3 r.n = m.a3 % r.n := Int.tmod_eq_emod_of_nonneg hv.1
  have d1 : decide (m.a3 < r.view) = false := decide_eq_false h1
  rw [h2] at he
  have d4 : decide (r.view < m.a3) = false := decide_eq_false (by omega)
  obtain ⟨N, hN⟩ : ∃ N, r.log.length = N := ⟨_, rfl⟩
  have hN0 : N ≤ 1000 := by rw [← hN]; exact h.ll
  have i5 : IntKind.i64.wrap ((N : Int) + 1) = (N : Int) + 1 := by rw [IntKind.wrap_i64]; omega
  have q0 : (m.a0 == 1) = true := by simp [h5]
  have q1 : decide (m.a0 = 1) = true := decide_eq_true h5
  have q2 : (m.a4 == (N : Int) + 1) = false := by rw [← hN]; simp [h6]
  have q3 : decide (m.a4 = (N : Int) + 1) = false := decide_eq_false (by rw [← hN]; exact h6)
  obtain ⟨x, hx⟩ : ∃ x, m.log = [x] := by
    match hm : m.log, hp1 with
    | [x], _ => exact ⟨x, rfl⟩
  have hlx : lastT m.log = x.time := by rw [hx]; rfl
  have hle0 : lastT r.log = 0 := by rw [hl0]; rfl
  have q5 : ¬ 0 < N := by rw [← hN, hl0]; simp
  have q8 : ¬ 0 < (N : Int) := by omega
  have HR : Hid ((r.log.length : Int) < m.a4) := h9
  have HN : Hid (r.log.length = N) := hN
  have HH : Hid (r.how = 0) := h4
  have HX : Hid (m.log = [x]) := hx
  clear h1 h2 h3 h4 h5 hN hp1 hx hlx h6 h9 hle0 hl0
  have hlow : Below w.heap.size w (w.alloc (.cells #[.int .i64 m.a0, .int .i64 m.a1, .int .i64 m.a2, .int .i64 m.a3, .int .i64 m.a4, .int .i64 m.a5, .int .i64 m.a6, .slice bo m.log.length c] 27)) := (Below.refl _ w).alloc (Nat.le_refl _) _
  have hT := h.below hlow
  have hK := KeepM.of_below hlow h.base
  have hs := hs.keep hK.toKeep
  have hB := h.base
  have hmb : (w.alloc (.cells #[.int .i64 m.a0, .int .i64 m.a1, .int .i64 m.a2, .int .i64 m.a3, .int .i64 m.a4, .int .i64 m.a5, .int .i64 m.a6, .slice bo m.log.length c] 27)).heap[w.heap.size]? = some (.cells #[.int .i64 m.a0, .int .i64 m.a1, .int .i64 m.a2, .int .i64 m.a3, .int .i64 m.a4, .int .i64 m.a5, .int .i64 m.a6, .slice bo m.log.length c] 27 (0, 0)) := heap_new w _
  have hgw : w.heap.size ≠ g := by
    obtain ⟨_, _, _, _, hH⟩ := h.cells
    exact Nat.ne_of_gt hH.box.lt
  go_enter Tryz.func27, Tryz.ntmps27
  go_wp2_with fail
  clear h
  generalize (w.alloc (.cells #[.int .i64 m.a0, .int .i64 m.a1, .int .i64 m.a2, .int .i64 m.a3, .int .i64 m.a4, .int .i64 m.a5, .int .i64 m.a6, .slice bo m.log.length c] 27)) = W at *
  obtain ⟨sk, ⟨k0, k1, k2, k3, k4, k5, k6, k7, k8, k9, k10, k11, k12⟩, kz, kL, kH⟩ := hT.cells
  obtain ⟨ca0, ca1, ca2, ca3, ca4, ca5, ca6, ca7⟩ := msg_cellsS hmb
  have hT0 := hT
  have hK0 := hK
  have hm0 := hmb
  have hs0 := hs
  clear hT hK hmb hs
  go_quiet (fail)
  go_wp2_with fail
  have hT1 := hT0.drewN nq
  have hK1 := hK0.trans (keepM_drewN nq hT0.base)
  have hm1 := ms_at hm0 (keepM_drewN nq hT0.base)
  have hs1 := hs0.keep (keepM_drewN nq hT0.base).toKeep
  clear k0 k1 k2 k3 k4 k5 k6 k7 k8 k9 k10 k11 k12 kz kL kH ca0 ca1 ca2 ca3 ca4 ca5 ca6 ca7 hT0 hs0 hm0 hK0
  generalize W.drewN nq = V at *
  obtain ⟨sl, ⟨l0, l1, l2, l3, l4, l5, l6, l7, l8, l9, l10, l11, l12⟩, lz, lL, lH⟩ := hT1.cells
  obtain ⟨cb0, cb1, cb2, cb3, cb4, cb5, cb6, cb7⟩ := msg_cellsS hm1
  rw [HN.out] at l5
  rw [HH.out] at l4
  clear d1 he
  go_quiet (fail)
  go_wp2_with fail
  have hT2 := hT1.drewN nq
  have hK2 := hK1.trans (keepM_drewN nq hT1.base)
  have hm2 := ms_at hm1 (keepM_drewN nq hT1.base)
  have hs2 := hs1.keep (keepM_drewN nq hT1.base).toKeep
  clear l0 l1 l2 l3 l4 l5 l6 l7 l8 l9 l10 l11 l12 lz lL lH cb0 cb1 cb2 cb3 cb4 cb5 cb6 cb7 hT1 hs1 hm1 hK1
  generalize V.drewN nq = X at *
  obtain ⟨sa, ⟨a0, a1, a2, a3, a4, a5, a6, a7, a8, a9, a10, a11, a12⟩, az, aL, aH⟩ := hT2.cells
  obtain ⟨cc0, cc1, cc2, cc3, cc4, cc5, cc6, cc7⟩ := msg_cellsS hm2
  rw [HN.out] at a5
  obtain ⟨bd, hbd, _, xa, xb⟩ := (hs2.lies hT2.base) 0 x (by rw [HX.out]; rfl)
  rw [Nat.zero_mul] at xa xb
  have xa' : X.cell? bd = some (.int .i64 x.time) := by simpa [Addr.add] using xa
  have xb' : X.cell? ⟨bd.block, bd.off + 1, none⟩ = some (.string x.data) := by simpa [Addr.add] using xb
  rw [HX.out, hbd] at cc7
  go_quiet (fail)
  go_wp2_with fail
  have hT7 := hT2.drewN nq
  have hK7 := hK2.trans (keepM_drewN nq hT2.base)
  have hm7 := ms_at hm2 (keepM_drewN nq hT2.base)
  have hs7 := hs2.keep (keepM_drewN nq hT2.base).toKeep
  clear a0 a1 a2 a3 a4 a5 a6 a7 a8 a9 a10 a11 a12 az aL aH cc0 cc1 cc2 cc3 cc4 cc5 cc6 cc7 hT2 hs2 hm2 hK2
  generalize X.drewN nq = Z at *
  obtain ⟨sp, ⟨p0, p1, p2, p3, p4, p5, p6, p7, p8, p9, p10, p11, p12⟩, pz, pL, pH⟩ := hT7.cells
  obtain ⟨ce0, ce1, ce2, ce3, ce4, ce5, ce6, ce7⟩ := msg_cellsS hm7
  have p5' : Z.cell? ⟨g, 5, none⟩ = some (.slice sp.lo r.log.length sp.lc) := p5
  have p6' : Z.cell? ⟨g, 6, none⟩ = some (.int .i64 r.commit) := p6
  obtain ⟨hT8, hK8⟩ := turnS_sets hT7 [(6, .int .i64 (min (max r.commit m.a5) (r.log.length : Int)))] (raiseR r m.a5) (fun _ _ _ _ _ f f' e e' => by subst e e'; exact ⟨rfl, rfl, rfl, rfl, rfl, rfl, rfl, rfl, rfl, rfl, rfl, rfl, rfl, rfl⟩) rfl rfl rfl rfl rfl rfl rfl
  have hm8 := ms_at (ms_at hm7 hK8) (KeepM.refl B _).drew
  have hT8 := hT8.drew
  have hlow8 := hK7.low.trans (hK8.drew).low
  simp only [sets] at hT8 hlow8 hm8
  clear p0 p1 p2 p3 p4 p5 p6 p7 p8 p9 p10 p11 p12 pL pH
  go_region
  clear p5' p6' pz ce0 ce1 ce2 ce3 ce4 ce5 ce6 ce7
  generalize (Z.setCell ⟨g, 6, none⟩ (.int .i64 (min (max r.commit m.a5) (r.log.length : Int)))).drew = Z8 at *
  obtain ⟨q, hq⟩ : ∃ q, q = raiseR r m.a5 := ⟨_, rfl⟩
  have hql : q.log.length = r.log.length := by rw [hq]; rfl
  rw [← hq] at hT8
  have HQ : Hid (q = raiseR r m.a5) := hq
  clear hq
  obtain ⟨su, ⟨u0, u1, u2, u3, u4, u5, u6, u7, u8, u9, u10, u11, u12⟩, uz, uL, uH⟩ := hT8.cells
  obtain ⟨cf0, cf1, cf2, cf3, cf4, cf5, cf6, cf7⟩ := msg_cellsS hm8
  clear uL uH
  have hrd : decide ((q.log.length : Int) < m.a4) = true := decide_eq_true (by have := HR.out; rw [hql]; omega)
  clear hql
  have hone := rone_any B g q (msg 7 (q.log.length : Int) 0 0 []) none 0 m.a1 Z8.drew hT8.drew (srcE_nil _ _) (by simp)
  go_wp2_with fail
  go_region_with (go_at_call 29; refine hone.mono ?_; rintro e w9 ⟨v9, rfl, hO9, hT9, hK9⟩)
  all_goals
    go_wp2
    go_ret
    rw [HQ.out] at hO9 hT9
    exact ⟨_, rfl, hO9, hT9, (hlow8.trans (KeepM.refl B _).drew.low).trans hK9.low⟩
set_option maxRecDepth 100000 in
set_option maxHeartbeats 1000000 in
theorem rprep_k1n1s_ask (B g : Nat) (r : Rep) (m : Msg) (bo : Option Addr) (c : Nat) (hv : 0 ≤ m.a3 ∧ m.a3 < 1099511627776) (h1 : ¬ m.a3 < r.view) (h2 : m.a3 % r.n = m.a1) (h3 : m.a3 = r.view) (h4 : r.how = 0) (h5 : m.a0 = 1) (hp1 : m.log.length = 1) (hl0 : ¬ r.log = []) (h6 : ¬ m.a4 = (r.log.length : Int) + 1) (h9 : (r.log.length : Int) < m.a4) (w : World) (h : TurnR B w g r) (hs : SrcE B w bo c m.log) :
    Calls Tryz.prog 27 #[.pointer (some ⟨g, 0, none⟩), msV m bo c] w fun e w' => ∃ v, e = .returned v ∧ OwnO B w' v (((raiseR r m.a5), askM (raiseR r m.a5) m.a1 ((raiseR r m.a5).log.length : Int))).2 ∧ TurnR B w' g (((raiseR r m.a5), askM (raiseR r m.a5) m.a1 ((raiseR r m.a5).log.length : Int))).1 ∧ Below B w w' := by
  have hn := one_bounds h.one
  have hne : ¬ r.n = 0 := by omega
  have he : Int.tmod m.a3 r.n = m.a3 % r.n := Int.tmod_eq_emod_of_nonneg hv.1
  have d1 : decide (m.a3 < r.view) = false := decide_eq_false h1
  rw [h2] at he
  have d4 : decide (r.view < m.a3) = false := decide_eq_false (by omega)
  obtain ⟨N, hN⟩ : ∃ N, r.log.length = N := ⟨_, rfl⟩
  have hN0 : N ≤ 1000 := by rw [← hN]; exact h.ll
  have i5 : IntKind.i64.wrap ((N : Int) + 1) = (N : Int) + 1 := by rw [IntKind.wrap_i64]; omega
  have q0 : (m.a0 == 1) = true := by simp [h5]
  have q1 : decide (m.a0 = 1) = true := decide_eq_true h5
  have q2 : (m.a4 == (N : Int) + 1) = false := by rw [← hN]; simp [h6]
  have q3 : decide (m.a4 = (N : Int) + 1) = false := decide_eq_false (by rw [← hN]; exact h6)
  obtain ⟨x, hx⟩ : ∃ x, m.log = [x] := by
    match hm : m.log, hp1 with
    | [x], _ => exact ⟨x, rfl⟩
  have hlx : lastT m.log = x.time := by rw [hx]; rfl
  obtain ⟨y, hy, hle0⟩ := lastT_some hl0
  have hpos : 0 < N := by
    rw [← hN]
    exact List.length_pos_iff.2 hl0
  have q8 : 0 < (N : Int) := by omega
  obtain ⟨L, hL⟩ : ∃ L, N = L + 1 := ⟨N - 1, by omega⟩
  have i1 : IntKind.i64.wrap ((N : Int) - 1) = (L : Int) := by rw [IntKind.wrap_i64]; omega
  have i2 : (L : Int) < (N : Int) := by omega
  have HR : Hid ((r.log.length : Int) < m.a4) := h9
  have HN : Hid (r.log.length = N) := hN
  have HH : Hid (r.how = 0) := h4
  have HX : Hid (m.log = [x]) := hx
  have HY : Hid (r.log[r.log.length - 1]? = some y ∧ N = L + 1) := ⟨hy, hL⟩
  clear h1 h2 h3 h4 h5 hN hp1 hx hlx h6 h9 hy hL hle0 hl0
  have hlow : Below w.heap.size w (w.alloc (.cells #[.int .i64 m.a0, .int .i64 m.a1, .int .i64 m.a2, .int .i64 m.a3, .int .i64 m.a4, .int .i64 m.a5, .int .i64 m.a6, .slice bo m.log.length c] 27)) := (Below.refl _ w).alloc (Nat.le_refl _) _
  have hT := h.below hlow
  have hK := KeepM.of_below hlow h.base
  have hs := hs.keep hK.toKeep
  have hB := h.base
  have hmb : (w.alloc (.cells #[.int .i64 m.a0, .int .i64 m.a1, .int .i64 m.a2, .int .i64 m.a3, .int .i64 m.a4, .int .i64 m.a5, .int .i64 m.a6, .slice bo m.log.length c] 27)).heap[w.heap.size]? = some (.cells #[.int .i64 m.a0, .int .i64 m.a1, .int .i64 m.a2, .int .i64 m.a3, .int .i64 m.a4, .int .i64 m.a5, .int .i64 m.a6, .slice bo m.log.length c] 27 (0, 0)) := heap_new w _
  have hgw : w.heap.size ≠ g := by
    obtain ⟨_, _, _, _, hH⟩ := h.cells
    exact Nat.ne_of_gt hH.box.lt
  go_enter Tryz.func27, Tryz.ntmps27
  go_wp2_with fail
  clear h
  generalize (w.alloc (.cells #[.int .i64 m.a0, .int .i64 m.a1, .int .i64 m.a2, .int .i64 m.a3, .int .i64 m.a4, .int .i64 m.a5, .int .i64 m.a6, .slice bo m.log.length c] 27)) = W at *
  obtain ⟨sk, ⟨k0, k1, k2, k3, k4, k5, k6, k7, k8, k9, k10, k11, k12⟩, kz, kL, kH⟩ := hT.cells
  obtain ⟨ca0, ca1, ca2, ca3, ca4, ca5, ca6, ca7⟩ := msg_cellsS hmb
  have hT0 := hT
  have hK0 := hK
  have hm0 := hmb
  have hs0 := hs
  clear hT hK hmb hs
  go_quiet (fail)
  go_wp2_with fail
  have hT1 := hT0.drewN nq
  have hK1 := hK0.trans (keepM_drewN nq hT0.base)
  have hm1 := ms_at hm0 (keepM_drewN nq hT0.base)
  have hs1 := hs0.keep (keepM_drewN nq hT0.base).toKeep
  clear k0 k1 k2 k3 k4 k5 k6 k7 k8 k9 k10 k11 k12 kz kL kH ca0 ca1 ca2 ca3 ca4 ca5 ca6 ca7 hT0 hs0 hm0 hK0
  generalize W.drewN nq = V at *
  obtain ⟨sl, ⟨l0, l1, l2, l3, l4, l5, l6, l7, l8, l9, l10, l11, l12⟩, lz, lL, lH⟩ := hT1.cells
  obtain ⟨cb0, cb1, cb2, cb3, cb4, cb5, cb6, cb7⟩ := msg_cellsS hm1
  rw [HN.out] at l5
  rw [HH.out] at l4
  clear d1 he
  go_quiet (fail)
  go_wp2_with fail
  have hT2 := hT1.drewN nq
  have hK2 := hK1.trans (keepM_drewN nq hT1.base)
  have hm2 := ms_at hm1 (keepM_drewN nq hT1.base)
  have hs2 := hs1.keep (keepM_drewN nq hT1.base).toKeep
  clear l0 l1 l2 l3 l4 l5 l6 l7 l8 l9 l10 l11 l12 lz lL lH cb0 cb1 cb2 cb3 cb4 cb5 cb6 cb7 hT1 hs1 hm1 hK1
  generalize V.drewN nq = X at *
  obtain ⟨sa, ⟨a0, a1, a2, a3, a4, a5, a6, a7, a8, a9, a10, a11, a12⟩, az, aL, aH⟩ := hT2.cells
  obtain ⟨cc0, cc1, cc2, cc3, cc4, cc5, cc6, cc7⟩ := msg_cellsS hm2
  rw [HN.out] at a5
  obtain ⟨ad, had, _, ya, _⟩ := aL.log _ y HY.out.1
  rw [HN.out, HY.out.2, Nat.add_sub_cancel] at ya
  rw [had] at a5
  go_quiet (fail)
  go_wp2_with fail
  have hT3 := hT2.drewN nq
  have hK3 := hK2.trans (keepM_drewN nq hT2.base)
  have hm3 := ms_at hm2 (keepM_drewN nq hT2.base)
  have hs3 := hs2.keep (keepM_drewN nq hT2.base).toKeep
  clear a0 a1 a2 a3 a4 a5 a6 a7 a8 a9 a10 a11 a12 az aL aH cc0 cc1 cc2 cc3 cc4 cc5 cc6 cc7 hT2 hs2 hm2 hK2
  generalize X.drewN nq = Y at *
  obtain ⟨sf, ⟨f0, f1, f2, f3, f4, f5, f6, f7, f8, f9, f10, f11, f12⟩, fz, fL, fH⟩ := hT3.cells
  obtain ⟨cd0, cd1, cd2, cd3, cd4, cd5, cd6, cd7⟩ := msg_cellsS hm3
  rw [HN.out] at f5
  obtain ⟨bd, hbd, _, xa, xb⟩ := (hs3.lies hT3.base) 0 x (by rw [HX.out]; rfl)
  rw [Nat.zero_mul] at xa xb
  have xa' : Y.cell? bd = some (.int .i64 x.time) := by simpa [Addr.add] using xa
  have xb' : Y.cell? ⟨bd.block, bd.off + 1, none⟩ = some (.string x.data) := by simpa [Addr.add] using xb
  rw [HX.out, hbd] at cd7
  go_quiet (fail)
  go_wp2_with fail
  have hT7 := hT3.drewN nq
  have hK7 := hK3.trans (keepM_drewN nq hT3.base)
  have hm7 := ms_at hm3 (keepM_drewN nq hT3.base)
  have hs7 := hs3.keep (keepM_drewN nq hT3.base).toKeep
  clear f0 f1 f2 f3 f4 f5 f6 f7 f8 f9 f10 f11 f12 fz fL fH cd0 cd1 cd2 cd3 cd4 cd5 cd6 cd7 hT3 hs3 hm3 hK3
  generalize Y.drewN nq = Z at *
  obtain ⟨sp, ⟨p0, p1, p2, p3, p4, p5, p6, p7, p8, p9, p10, p11, p12⟩, pz, pL, pH⟩ := hT7.cells
  obtain ⟨ce0, ce1, ce2, ce3, ce4, ce5, ce6, ce7⟩ := msg_cellsS hm7
  have p5' : Z.cell? ⟨g, 5, none⟩ = some (.slice sp.lo r.log.length sp.lc) := p5
  have p6' : Z.cell? ⟨g, 6, none⟩ = some (.int .i64 r.commit) := p6
  obtain ⟨hT8, hK8⟩ := turnS_sets hT7 [(6, .int .i64 (min (max r.commit m.a5) (r.log.length : Int)))] (raiseR r m.a5) (fun _ _ _ _ _ f f' e e' => by subst e e'; exact ⟨rfl, rfl, rfl, rfl, rfl, rfl, rfl, rfl, rfl, rfl, rfl, rfl, rfl, rfl⟩) rfl rfl rfl rfl rfl rfl rfl
  have hm8 := ms_at (ms_at hm7 hK8) (KeepM.refl B _).drew
  have hT8 := hT8.drew
  have hlow8 := hK7.low.trans (hK8.drew).low
  simp only [sets] at hT8 hlow8 hm8
  clear p0 p1 p2 p3 p4 p5 p6 p7 p8 p9 p10 p11 p12 pL pH
  go_region
  clear p5' p6' pz ce0 ce1 ce2 ce3 ce4 ce5 ce6 ce7
  generalize (Z.setCell ⟨g, 6, none⟩ (.int .i64 (min (max r.commit m.a5) (r.log.length : Int)))).drew = Z8 at *
  obtain ⟨q, hq⟩ : ∃ q, q = raiseR r m.a5 := ⟨_, rfl⟩
  have hql : q.log.length = r.log.length := by rw [hq]; rfl
  rw [← hq] at hT8
  have HQ : Hid (q = raiseR r m.a5) := hq
  clear hq
  obtain ⟨su, ⟨u0, u1, u2, u3, u4, u5, u6, u7, u8, u9, u10, u11, u12⟩, uz, uL, uH⟩ := hT8.cells
  obtain ⟨cf0, cf1, cf2, cf3, cf4, cf5, cf6, cf7⟩ := msg_cellsS hm8
  clear uL uH
  have hrd : decide ((q.log.length : Int) < m.a4) = true := decide_eq_true (by have := HR.out; rw [hql]; omega)
  clear hql
  have hone := rone_any B g q (msg 7 (q.log.length : Int) 0 0 []) none 0 m.a1 Z8.drew hT8.drew (srcE_nil _ _) (by simp)
  go_wp2_with fail
  go_region_with (go_at_call 29; refine hone.mono ?_; rintro e w9 ⟨v9, rfl, hO9, hT9, hK9⟩)
  all_goals
    go_wp2
    go_ret
    rw [HQ.out] at hO9 hT9
    exact ⟨_, rfl, hO9, hT9, (hlow8.trans (KeepM.refl B _).drew.low).trans hK9.low⟩
set_option maxRecDepth 100000 in
set_option maxHeartbeats 1000000 in
theorem rprep_k1n1e_pre (B g : Nat) (r : Rep) (m : Msg) (bo : Option Addr) (c : Nat) (hv : 0 ≤ m.a3 ∧ m.a3 < 1099511627776) (h1 : ¬ m.a3 < r.view) (h2 : m.a3 % r.n = m.a1) (h3 : m.a3 = r.view) (h4 : r.how = 0) (h5 : m.a0 = 1) (hp1 : m.log.length = 1) (hl0 : r.log = []) (h6 : ¬ m.a4 = (r.log.length : Int) + 1) (h9 : ¬ (r.log.length : Int) < m.a4) (w : World) (h : TurnR B w g r) (hs : SrcE B w bo c m.log) :
    Calls Tryz.prog 27 #[.pointer (some ⟨g, 0, none⟩), msV m bo c] w fun e w' => ∃ v, e = .returned v ∧ OwnO B w' v (((raiseR r m.a5), preM (raiseR r m.a5) m.a1)).2 ∧ TurnR B w' g (((raiseR r m.a5), preM (raiseR r m.a5) m.a1)).1 ∧ Below B w w' := by
  have hn := one_bounds h.one
  have hne : ¬ r.n = 0 := by omega
  have he : Int.tmod m.a3 r.n = m.a3 % r.n := Int.tmod_eq_emod_of_nonneg hv.1
  have d1 : decide (m.a3 < r.view) = false := decide_eq_false h1
  rw [h2] at he
  have d4 : decide (r.view < m.a3) = false := decide_eq_false (by omega)
  obtain ⟨N, hN⟩ : ∃ N, r.log.length = N := ⟨_, rfl⟩
  have hN0 : N ≤ 1000 := by rw [← hN]; exact h.ll
  have i5 : IntKind.i64.wrap ((N : Int) + 1) = (N : Int) + 1 := by rw [IntKind.wrap_i64]; omega
  have q0 : (m.a0 == 1) = true := by simp [h5]
  have q1 : decide (m.a0 = 1) = true := decide_eq_true h5
  have q2 : (m.a4 == (N : Int) + 1) = false := by rw [← hN]; simp [h6]
  have q3 : decide (m.a4 = (N : Int) + 1) = false := decide_eq_false (by rw [← hN]; exact h6)
  obtain ⟨x, hx⟩ : ∃ x, m.log = [x] := by
    match hm : m.log, hp1 with
    | [x], _ => exact ⟨x, rfl⟩
  have hlx : lastT m.log = x.time := by rw [hx]; rfl
  have hle0 : lastT r.log = 0 := by rw [hl0]; rfl
  have q5 : ¬ 0 < N := by rw [← hN, hl0]; simp
  have q8 : ¬ 0 < (N : Int) := by omega
  have HR : Hid (¬ (r.log.length : Int) < m.a4) := h9
  have HN : Hid (r.log.length = N) := hN
  have HH : Hid (r.how = 0) := h4
  have HX : Hid (m.log = [x]) := hx
  clear h1 h2 h3 h4 h5 hN hp1 hx hlx h6 h9 hle0 hl0
  have hlow : Below w.heap.size w (w.alloc (.cells #[.int .i64 m.a0, .int .i64 m.a1, .int .i64 m.a2, .int .i64 m.a3, .int .i64 m.a4, .int .i64 m.a5, .int .i64 m.a6, .slice bo m.log.length c] 27)) := (Below.refl _ w).alloc (Nat.le_refl _) _
  have hT := h.below hlow
  have hK := KeepM.of_below hlow h.base
  have hs := hs.keep hK.toKeep
  have hB := h.base
  have hmb : (w.alloc (.cells #[.int .i64 m.a0, .int .i64 m.a1, .int .i64 m.a2, .int .i64 m.a3, .int .i64 m.a4, .int .i64 m.a5, .int .i64 m.a6, .slice bo m.log.length c] 27)).heap[w.heap.size]? = some (.cells #[.int .i64 m.a0, .int .i64 m.a1, .int .i64 m.a2, .int .i64 m.a3, .int .i64 m.a4, .int .i64 m.a5, .int .i64 m.a6, .slice bo m.log.length c] 27 (0, 0)) := heap_new w _
  have hgw : w.heap.size ≠ g := by
    obtain ⟨_, _, _, _, hH⟩ := h.cells
    exact Nat.ne_of_gt hH.box.lt
  go_enter Tryz.func27, Tryz.ntmps27
  go_wp2_with fail
  clear h
  generalize (w.alloc (.cells #[.int .i64 m.a0, .int .i64 m.a1, .int .i64 m.a2, .int .i64 m.a3, .int .i64 m.a4, .int .i64 m.a5, .int .i64 m.a6, .slice bo m.log.length c] 27)) = W at *
  obtain ⟨sk, ⟨k0, k1, k2, k3, k4, k5, k6, k7, k8, k9, k10, k11, k12⟩, kz, kL, kH⟩ := hT.cells
  obtain ⟨ca0, ca1, ca2, ca3, ca4, ca5, ca6, ca7⟩ := msg_cellsS hmb
  have hT0 := hT
  have hK0 := hK
  have hm0 := hmb
  have hs0 := hs
  clear hT hK hmb hs
  go_quiet (fail)
  go_wp2_with fail
  have hT1 := hT0.drewN nq
  have hK1 := hK0.trans (keepM_drewN nq hT0.base)
  have hm1 := ms_at hm0 (keepM_drewN nq hT0.base)
  have hs1 := hs0.keep (keepM_drewN nq hT0.base).toKeep
  clear k0 k1 k2 k3 k4 k5 k6 k7 k8 k9 k10 k11 k12 kz kL kH ca0 ca1 ca2 ca3 ca4 ca5 ca6 ca7 hT0 hs0 hm0 hK0
  generalize W.drewN nq = V at *
  obtain ⟨sl, ⟨l0, l1, l2, l3, l4, l5, l6, l7, l8, l9, l10, l11, l12⟩, lz, lL, lH⟩ := hT1.cells
  obtain ⟨cb0, cb1, cb2, cb3, cb4, cb5, cb6, cb7⟩ := msg_cellsS hm1
  rw [HN.out] at l5
  rw [HH.out] at l4
  clear d1 he
  go_quiet (fail)
  go_wp2_with fail
  have hT2 := hT1.drewN nq
  have hK2 := hK1.trans (keepM_drewN nq hT1.base)
  have hm2 := ms_at hm1 (keepM_drewN nq hT1.base)
  have hs2 := hs1.keep (keepM_drewN nq hT1.base).toKeep
  clear l0 l1 l2 l3 l4 l5 l6 l7 l8 l9 l10 l11 l12 lz lL lH cb0 cb1 cb2 cb3 cb4 cb5 cb6 cb7 hT1 hs1 hm1 hK1
  generalize V.drewN nq = X at *
  obtain ⟨sa, ⟨a0, a1, a2, a3, a4, a5, a6, a7, a8, a9, a10, a11, a12⟩, az, aL, aH⟩ := hT2.cells
  obtain ⟨cc0, cc1, cc2, cc3, cc4, cc5, cc6, cc7⟩ := msg_cellsS hm2
  rw [HN.out] at a5
  obtain ⟨bd, hbd, _, xa, xb⟩ := (hs2.lies hT2.base) 0 x (by rw [HX.out]; rfl)
  rw [Nat.zero_mul] at xa xb
  have xa' : X.cell? bd = some (.int .i64 x.time) := by simpa [Addr.add] using xa
  have xb' : X.cell? ⟨bd.block, bd.off + 1, none⟩ = some (.string x.data) := by simpa [Addr.add] using xb
  rw [HX.out, hbd] at cc7
  go_quiet (fail)
  go_wp2_with fail
  have hT7 := hT2.drewN nq
  have hK7 := hK2.trans (keepM_drewN nq hT2.base)
  have hm7 := ms_at hm2 (keepM_drewN nq hT2.base)
  have hs7 := hs2.keep (keepM_drewN nq hT2.base).toKeep
  clear a0 a1 a2 a3 a4 a5 a6 a7 a8 a9 a10 a11 a12 az aL aH cc0 cc1 cc2 cc3 cc4 cc5 cc6 cc7 hT2 hs2 hm2 hK2
  generalize X.drewN nq = Z at *
  obtain ⟨sp, ⟨p0, p1, p2, p3, p4, p5, p6, p7, p8, p9, p10, p11, p12⟩, pz, pL, pH⟩ := hT7.cells
  obtain ⟨ce0, ce1, ce2, ce3, ce4, ce5, ce6, ce7⟩ := msg_cellsS hm7
  have p5' : Z.cell? ⟨g, 5, none⟩ = some (.slice sp.lo r.log.length sp.lc) := p5
  have p6' : Z.cell? ⟨g, 6, none⟩ = some (.int .i64 r.commit) := p6
  obtain ⟨hT8, hK8⟩ := turnS_sets hT7 [(6, .int .i64 (min (max r.commit m.a5) (r.log.length : Int)))] (raiseR r m.a5) (fun _ _ _ _ _ f f' e e' => by subst e e'; exact ⟨rfl, rfl, rfl, rfl, rfl, rfl, rfl, rfl, rfl, rfl, rfl, rfl, rfl, rfl⟩) rfl rfl rfl rfl rfl rfl rfl
  have hm8 := ms_at (ms_at hm7 hK8) (KeepM.refl B _).drew
  have hT8 := hT8.drew
  have hlow8 := hK7.low.trans (hK8.drew).low
  simp only [sets] at hT8 hlow8 hm8
  clear p0 p1 p2 p3 p4 p5 p6 p7 p8 p9 p10 p11 p12 pL pH
  go_region
  clear p5' p6' pz ce0 ce1 ce2 ce3 ce4 ce5 ce6 ce7
  generalize (Z.setCell ⟨g, 6, none⟩ (.int .i64 (min (max r.commit m.a5) (r.log.length : Int)))).drew = Z8 at *
  obtain ⟨q, hq⟩ : ∃ q, q = raiseR r m.a5 := ⟨_, rfl⟩
  have hql : q.log.length = r.log.length := by rw [hq]; rfl
  rw [← hq] at hT8
  have HQ : Hid (q = raiseR r m.a5) := hq
  clear hq
  obtain ⟨su, ⟨u0, u1, u2, u3, u4, u5, u6, u7, u8, u9, u10, u11, u12⟩, uz, uL, uH⟩ := hT8.cells
  obtain ⟨cf0, cf1, cf2, cf3, cf4, cf5, cf6, cf7⟩ := msg_cellsS hm8
  clear uL uH
  have hrd : decide ((q.log.length : Int) < m.a4) = false := decide_eq_false (by have := HR.out; rw [hql]; omega)
  clear hql
  have hone := rone_any B g q (msg 2 (q.log.length : Int) 0 0 []) none 0 m.a1 Z8.drew hT8.drew (srcE_nil _ _) (by simp)
  go_wp2_with fail
  go_region_with (go_at_call 29; refine hone.mono ?_; rintro e w9 ⟨v9, rfl, hO9, hT9, hK9⟩)
  all_goals
    go_wp2
    go_ret
    rw [HQ.out] at hO9 hT9
    exact ⟨_, rfl, hO9, hT9, (hlow8.trans (KeepM.refl B _).drew.low).trans hK9.low⟩
set_option maxRecDepth 100000 in
set_option maxHeartbeats 1000000 in
theorem rprep_k1n1s_pre (B g : Nat) (r : Rep) (m : Msg) (bo : Option Addr) (c : Nat) (hv : 0 ≤ m.a3 ∧ m.a3 < 1099511627776) (h1 : ¬ m.a3 < r.view) (h2 : m.a3 % r.n = m.a1) (h3 : m.a3 = r.view) (h4 : r.how = 0) (h5 : m.a0 = 1) (hp1 : m.log.length = 1) (hl0 : ¬ r.log = []) (h6 : ¬ m.a4 = (r.log.length : Int) + 1) (h9 : ¬ (r.log.length : Int) < m.a4) (w : World) (h : TurnR B w g r) (hs : SrcE B w bo c m.log) :
    Calls Tryz.prog 27 #[.pointer (some ⟨g, 0, none⟩), msV m bo c] w fun e w' => ∃ v, e = .returned v ∧ OwnO B w' v (((raiseR r m.a5), preM (raiseR r m.a5) m.a1)).2 ∧ TurnR B w' g (((raiseR r m.a5), preM (raiseR r m.a5) m.a1)).1 ∧ Below B w w' := by
  have hn := one_bounds h.one
  have hne : ¬ r.n = 0 := by omega
  have he : Int.tmod m.a3 r.n = m.a3 % r.n := Int.tmod_eq_emod_of_nonneg hv.1
  have d1 : decide (m.a3 < r.view) = false := decide_eq_false h1
  rw [h2] at he
  have d4 : decide (r.view < m.a3) = false := decide_eq_false (by omega)
  obtain ⟨N, hN⟩ : ∃ N, r.log.length = N := ⟨_, rfl⟩
  have hN0 : N ≤ 1000 := by rw [← hN]; exact h.ll
  have i5 : IntKind.i64.wrap ((N : Int) + 1) = (N : Int) + 1 := by rw [IntKind.wrap_i64]; omega
  have q0 : (m.a0 == 1) = true := by simp [h5]
  have q1 : decide (m.a0 = 1) = true := decide_eq_true h5
  have q2 : (m.a4 == (N : Int) + 1) = false := by rw [← hN]; simp [h6]
  have q3 : decide (m.a4 = (N : Int) + 1) = false := decide_eq_false (by rw [← hN]; exact h6)
  obtain ⟨x, hx⟩ : ∃ x, m.log = [x] := by
    match hm : m.log, hp1 with
    | [x], _ => exact ⟨x, rfl⟩
  have hlx : lastT m.log = x.time := by rw [hx]; rfl
  obtain ⟨y, hy, hle0⟩ := lastT_some hl0
  have hpos : 0 < N := by
    rw [← hN]
    exact List.length_pos_iff.2 hl0
  have q8 : 0 < (N : Int) := by omega
  obtain ⟨L, hL⟩ : ∃ L, N = L + 1 := ⟨N - 1, by omega⟩
  have i1 : IntKind.i64.wrap ((N : Int) - 1) = (L : Int) := by rw [IntKind.wrap_i64]; omega
  have i2 : (L : Int) < (N : Int) := by omega
  have HR : Hid (¬ (r.log.length : Int) < m.a4) := h9
  have HN : Hid (r.log.length = N) := hN
  have HH : Hid (r.how = 0) := h4
  have HX : Hid (m.log = [x]) := hx
  have HY : Hid (r.log[r.log.length - 1]? = some y ∧ N = L + 1) := ⟨hy, hL⟩
  clear h1 h2 h3 h4 h5 hN hp1 hx hlx h6 h9 hy hL hle0 hl0
  have hlow : Below w.heap.size w (w.alloc (.cells #[.int .i64 m.a0, .int .i64 m.a1, .int .i64 m.a2, .int .i64 m.a3, .int .i64 m.a4, .int .i64 m.a5, .int .i64 m.a6, .slice bo m.log.length c] 27)) := (Below.refl _ w).alloc (Nat.le_refl _) _
  have hT := h.below hlow
  have hK := KeepM.of_below hlow h.base
  have hs := hs.keep hK.toKeep
  have hB := h.base
  have hmb : (w.alloc (.cells #[.int .i64 m.a0, .int .i64 m.a1, .int .i64 m.a2, .int .i64 m.a3, .int .i64 m.a4, .int .i64 m.a5, .int .i64 m.a6, .slice bo m.log.length c] 27)).heap[w.heap.size]? = some (.cells #[.int .i64 m.a0, .int .i64 m.a1, .int .i64 m.a2, .int .i64 m.a3, .int .i64 m.a4, .int .i64 m.a5, .int .i64 m.a6, .slice bo m.log.length c] 27 (0, 0)) := heap_new w _
  have hgw : w.heap.size ≠ g := by
    obtain ⟨_, _, _, _, hH⟩ := h.cells
    exact Nat.ne_of_gt hH.box.lt
  go_enter Tryz.func27, Tryz.ntmps27
  go_wp2_with fail
  clear h
  generalize (w.alloc (.cells #[.int .i64 m.a0, .int .i64 m.a1, .int .i64 m.a2, .int .i64 m.a3, .int .i64 m.a4, .int .i64 m.a5, .int .i64 m.a6, .slice bo m.log.length c] 27)) = W at *
  obtain ⟨sk, ⟨k0, k1, k2, k3, k4, k5, k6, k7, k8, k9, k10, k11, k12⟩, kz, kL, kH⟩ := hT.cells
  obtain ⟨ca0, ca1, ca2, ca3, ca4, ca5, ca6, ca7⟩ := msg_cellsS hmb
  have hT0 := hT
  have hK0 := hK
  have hm0 := hmb
  have hs0 := hs
  clear hT hK hmb hs
  go_quiet (fail)
  go_wp2_with fail
  have hT1 := hT0.drewN nq
  have hK1 := hK0.trans (keepM_drewN nq hT0.base)
  have hm1 := ms_at hm0 (keepM_drewN nq hT0.base)
  have hs1 := hs0.keep (keepM_drewN nq hT0.base).toKeep
  clear k0 k1 k2 k3 k4 k5 k6 k7 k8 k9 k10 k11 k12 kz kL kH ca0 ca1 ca2 ca3 ca4 ca5 ca6 ca7 hT0 hs0 hm0 hK0
  generalize W.drewN nq = V at *
  obtain ⟨sl, ⟨l0, l1, l2, l3, l4, l5, l6, l7, l8, l9, l10, l11, l12⟩, lz, lL, lH⟩ := hT1.cells
  obtain ⟨cb0, cb1, cb2, cb3, cb4, cb5, cb6, cb7⟩ := msg_cellsS hm1
  rw [HN.out] at l5
  rw [HH.out] at l4
  clear d1 he
  go_quiet (fail)
  go_wp2_with fail
  have hT2 := hT1.drewN nq
  have hK2 := hK1.trans (keepM_drewN nq hT1.base)
  have hm2 := ms_at hm1 (keepM_drewN nq hT1.base)
  have hs2 := hs1.keep (keepM_drewN nq hT1.base).toKeep
  clear l0 l1 l2 l3 l4 l5 l6 l7 l8 l9 l10 l11 l12 lz lL lH cb0 cb1 cb2 cb3 cb4 cb5 cb6 cb7 hT1 hs1 hm1 hK1
  generalize V.drewN nq = X at *
  obtain ⟨sa, ⟨a0, a1, a2, a3, a4, a5, a6, a7, a8, a9, a10, a11, a12⟩, az, aL, aH⟩ := hT2.cells
  obtain ⟨cc0, cc1, cc2, cc3, cc4, cc5, cc6, cc7⟩ := msg_cellsS hm2
  rw [HN.out] at a5
  obtain ⟨ad, had, _, ya, _⟩ := aL.log _ y HY.out.1
  rw [HN.out, HY.out.2, Nat.add_sub_cancel] at ya
  rw [had] at a5
  go_quiet (fail)
  go_wp2_with fail
  have hT3 := hT2.drewN nq
  have hK3 := hK2.trans (keepM_drewN nq hT2.base)
  have hm3 := ms_at hm2 (keepM_drewN nq hT2.base)
  have hs3 := hs2.keep (keepM_drewN nq hT2.base).toKeep
  clear a0 a1 a2 a3 a4 a5 a6 a7 a8 a9 a10 a11 a12 az aL aH cc0 cc1 cc2 cc3 cc4 cc5 cc6 cc7 hT2 hs2 hm2 hK2
  generalize X.drewN nq = Y at *
  obtain ⟨sf, ⟨f0, f1, f2, f3, f4, f5, f6, f7, f8, f9, f10, f11, f12⟩, fz, fL, fH⟩ := hT3.cells
  obtain ⟨cd0, cd1, cd2, cd3, cd4, cd5, cd6, cd7⟩ := msg_cellsS hm3
  rw [HN.out] at f5
  obtain ⟨bd, hbd, _, xa, xb⟩ := (hs3.lies hT3.base) 0 x (by rw [HX.out]; rfl)
  rw [Nat.zero_mul] at xa xb
  have xa' : Y.cell? bd = some (.int .i64 x.time) := by simpa [Addr.add] using xa
  have xb' : Y.cell? ⟨bd.block, bd.off + 1, none⟩ = some (.string x.data) := by simpa [Addr.add] using xb
  rw [HX.out, hbd] at cd7
  go_quiet (fail)
  go_wp2_with fail
  have hT7 := hT3.drewN nq
  have hK7 := hK3.trans (keepM_drewN nq hT3.base)
  have hm7 := ms_at hm3 (keepM_drewN nq hT3.base)
  have hs7 := hs3.keep (keepM_drewN nq hT3.base).toKeep
  clear f0 f1 f2 f3 f4 f5 f6 f7 f8 f9 f10 f11 f12 fz fL fH cd0 cd1 cd2 cd3 cd4 cd5 cd6 cd7 hT3 hs3 hm3 hK3
  generalize Y.drewN nq = Z at *
  obtain ⟨sp, ⟨p0, p1, p2, p3, p4, p5, p6, p7, p8, p9, p10, p11, p12⟩, pz, pL, pH⟩ := hT7.cells
  obtain ⟨ce0, ce1, ce2, ce3, ce4, ce5, ce6, ce7⟩ := msg_cellsS hm7
  have p5' : Z.cell? ⟨g, 5, none⟩ = some (.slice sp.lo r.log.length sp.lc) := p5
  have p6' : Z.cell? ⟨g, 6, none⟩ = some (.int .i64 r.commit) := p6
  obtain ⟨hT8, hK8⟩ := turnS_sets hT7 [(6, .int .i64 (min (max r.commit m.a5) (r.log.length : Int)))] (raiseR r m.a5) (fun _ _ _ _ _ f f' e e' => by subst e e'; exact ⟨rfl, rfl, rfl, rfl, rfl, rfl, rfl, rfl, rfl, rfl, rfl, rfl, rfl, rfl⟩) rfl rfl rfl rfl rfl rfl rfl
  have hm8 := ms_at (ms_at hm7 hK8) (KeepM.refl B _).drew
  have hT8 := hT8.drew
  have hlow8 := hK7.low.trans (hK8.drew).low
  simp only [sets] at hT8 hlow8 hm8
  clear p0 p1 p2 p3 p4 p5 p6 p7 p8 p9 p10 p11 p12 pL pH
  go_region
  clear p5' p6' pz ce0 ce1 ce2 ce3 ce4 ce5 ce6 ce7
  generalize (Z.setCell ⟨g, 6, none⟩ (.int .i64 (min (max r.commit m.a5) (r.log.length : Int)))).drew = Z8 at *
  obtain ⟨q, hq⟩ : ∃ q, q = raiseR r m.a5 := ⟨_, rfl⟩
  have hql : q.log.length = r.log.length := by rw [hq]; rfl
  rw [← hq] at hT8
  have HQ : Hid (q = raiseR r m.a5) := hq
  clear hq
  obtain ⟨su, ⟨u0, u1, u2, u3, u4, u5, u6, u7, u8, u9, u10, u11, u12⟩, uz, uL, uH⟩ := hT8.cells
  obtain ⟨cf0, cf1, cf2, cf3, cf4, cf5, cf6, cf7⟩ := msg_cellsS hm8
  clear uL uH
  have hrd : decide ((q.log.length : Int) < m.a4) = false := decide_eq_false (by have := HR.out; rw [hql]; omega)
  clear hql
  have hone := rone_any B g q (msg 2 (q.log.length : Int) 0 0 []) none 0 m.a1 Z8.drew hT8.drew (srcE_nil _ _) (by simp)
  go_wp2_with fail
  go_region_with (go_at_call 29; refine hone.mono ?_; rintro e w9 ⟨v9, rfl, hO9, hT9, hK9⟩)
  all_goals
    go_wp2
    go_ret
    rw [HQ.out] at hO9 hT9
    exact ⟨_, rfl, hO9, hT9, (hlow8.trans (KeepM.refl B _).drew.low).trans hK9.low⟩
set_option maxRecDepth 100000 in
set_option maxHeartbeats 1000000 in
theorem rprep_k3e_nil (B g : Nat) (r : Rep) (m : Msg) (bo : Option Addr) (c : Nat) (hv : 0 ≤ m.a3 ∧ m.a3 < 1099511627776) (h1 : ¬ m.a3 < r.view) (h2 : m.a3 % r.n = m.a1) (h3 : m.a3 = r.view) (h4 : r.how = 0) (h5 : ¬ m.a0 = 1) (hl0 : r.log = []) (h9 : ¬ (r.log.length : Int) < m.a5) (w : World) (h : TurnR B w g r) (hs : SrcE B w bo c m.log) :
    Calls Tryz.prog 27 #[.pointer (some ⟨g, 0, none⟩), msV m bo c] w fun e w' => ∃ v, e = .returned v ∧ OwnO B w' v (((raiseR r m.a5), ([] : Msgs))).2 ∧ TurnR B w' g (((raiseR r m.a5), ([] : Msgs))).1 ∧ Below B w w' := by
  have hn := one_bounds h.one
  have hne : ¬ r.n = 0 := by omega
  have he : Int.tmod m.a3 r.n = m.a3 % r.n := Int.tmod_eq_emod_of_nonneg hv.1
  have d1 : decide (m.a3 < r.view) = false := decide_eq_false h1
  rw [h2] at he
  have d4 : decide (r.view < m.a3) = false := decide_eq_false (by omega)
  obtain ⟨N, hN⟩ : ∃ N, r.log.length = N := ⟨_, rfl⟩
  have hN0 : N ≤ 1000 := by rw [← hN]; exact h.ll
  have i5 : IntKind.i64.wrap ((N : Int) + 1) = (N : Int) + 1 := by rw [IntKind.wrap_i64]; omega
  have q0 : (m.a0 == 1) = false := by simp [h5]
  have q1 : decide (m.a0 = 1) = false := decide_eq_false h5
  have hle0 : lastT r.log = 0 := by rw [hl0]; rfl
  have q5 : ¬ 0 < N := by rw [← hN, hl0]; simp
  have q8 : ¬ 0 < (N : Int) := by omega
  have HR : Hid (¬ (r.log.length : Int) < m.a5) := h9
  have HN : Hid (r.log.length = N) := hN
  have HH : Hid (r.how = 0) := h4
  clear h1 h2 h3 h4 h5 hN h9 hle0 hl0
  have hlow : Below w.heap.size w (w.alloc (.cells #[.int .i64 m.a0, .int .i64 m.a1, .int .i64 m.a2, .int .i64 m.a3, .int .i64 m.a4, .int .i64 m.a5, .int .i64 m.a6, .slice bo m.log.length c] 27)) := (Below.refl _ w).alloc (Nat.le_refl _) _
  have hT := h.below hlow
  have hK := KeepM.of_below hlow h.base
  have hs := hs.keep hK.toKeep
  have hB := h.base
  have hmb : (w.alloc (.cells #[.int .i64 m.a0, .int .i64 m.a1, .int .i64 m.a2, .int .i64 m.a3, .int .i64 m.a4, .int .i64 m.a5, .int .i64 m.a6, .slice bo m.log.length c] 27)).heap[w.heap.size]? = some (.cells #[.int .i64 m.a0, .int .i64 m.a1, .int .i64 m.a2, .int .i64 m.a3, .int .i64 m.a4, .int .i64 m.a5, .int .i64 m.a6, .slice bo m.log.length c] 27 (0, 0)) := heap_new w _
  have hgw : w.heap.size ≠ g := by
    obtain ⟨_, _, _, _, hH⟩ := h.cells
    exact Nat.ne_of_gt hH.box.lt
  go_enter Tryz.func27, Tryz.ntmps27
  go_wp2_with fail
  clear h
  generalize (w.alloc (.cells #[.int .i64 m.a0, .int .i64 m.a1, .int .i64 m.a2, .int .i64 m.a3, .int .i64 m.a4, .int .i64 m.a5, .int .i64 m.a6, .slice bo m.log.length c] 27)) = W at *
  obtain ⟨sk, ⟨k0, k1, k2, k3, k4, k5, k6, k7, k8, k9, k10, k11, k12⟩, kz, kL, kH⟩ := hT.cells
  obtain ⟨ca0, ca1, ca2, ca3, ca4, ca5, ca6, ca7⟩ := msg_cellsS hmb
  have hT0 := hT
  have hK0 := hK
  have hm0 := hmb
  have hs0 := hs
  clear hT hK hmb hs
  go_quiet (fail)
  go_wp2_with fail
  have hT1 := hT0.drewN nq
  have hK1 := hK0.trans (keepM_drewN nq hT0.base)
  have hm1 := ms_at hm0 (keepM_drewN nq hT0.base)
  have hs1 := hs0.keep (keepM_drewN nq hT0.base).toKeep
  clear k0 k1 k2 k3 k4 k5 k6 k7 k8 k9 k10 k11 k12 kz kL kH ca0 ca1 ca2 ca3 ca4 ca5 ca6 ca7 hT0 hs0 hm0 hK0
  generalize W.drewN nq = V at *
  obtain ⟨sl, ⟨l0, l1, l2, l3, l4, l5, l6, l7, l8, l9, l10, l11, l12⟩, lz, lL, lH⟩ := hT1.cells
  obtain ⟨cb0, cb1, cb2, cb3, cb4, cb5, cb6, cb7⟩ := msg_cellsS hm1
  rw [HN.out] at l5
  rw [HH.out] at l4
  clear d1 he
  go_quiet (fail)
  go_wp2_with fail
  have hT2 := hT1.drewN nq
  have hK2 := hK1.trans (keepM_drewN nq hT1.base)
  have hm2 := ms_at hm1 (keepM_drewN nq hT1.base)
  have hs2 := hs1.keep (keepM_drewN nq hT1.base).toKeep
  clear l0 l1 l2 l3 l4 l5 l6 l7 l8 l9 l10 l11 l12 lz lL lH cb0 cb1 cb2 cb3 cb4 cb5 cb6 cb7 hT1 hs1 hm1 hK1
  generalize V.drewN nq = X at *
  obtain ⟨sa, ⟨a0, a1, a2, a3, a4, a5, a6, a7, a8, a9, a10, a11, a12⟩, az, aL, aH⟩ := hT2.cells
  obtain ⟨cc0, cc1, cc2, cc3, cc4, cc5, cc6, cc7⟩ := msg_cellsS hm2
  rw [HN.out] at a5
  go_quiet (fail)
  go_wp2_with fail
  have hT7 := hT2.drewN nq
  have hK7 := hK2.trans (keepM_drewN nq hT2.base)
  have hm7 := ms_at hm2 (keepM_drewN nq hT2.base)
  have hs7 := hs2.keep (keepM_drewN nq hT2.base).toKeep
  clear a0 a1 a2 a3 a4 a5 a6 a7 a8 a9 a10 a11 a12 az aL aH cc0 cc1 cc2 cc3 cc4 cc5 cc6 cc7 hT2 hs2 hm2 hK2
  generalize X.drewN nq = Z at *
  obtain ⟨sp, ⟨p0, p1, p2, p3, p4, p5, p6, p7, p8, p9, p10, p11, p12⟩, pz, pL, pH⟩ := hT7.cells
  obtain ⟨ce0, ce1, ce2, ce3, ce4, ce5, ce6, ce7⟩ := msg_cellsS hm7
  have p5' : Z.cell? ⟨g, 5, none⟩ = some (.slice sp.lo r.log.length sp.lc) := p5
  have p6' : Z.cell? ⟨g, 6, none⟩ = some (.int .i64 r.commit) := p6
  obtain ⟨hT8, hK8⟩ := turnS_sets hT7 [(6, .int .i64 (min (max r.commit m.a5) (r.log.length : Int)))] (raiseR r m.a5) (fun _ _ _ _ _ f f' e e' => by subst e e'; exact ⟨rfl, rfl, rfl, rfl, rfl, rfl, rfl, rfl, rfl, rfl, rfl, rfl, rfl, rfl⟩) rfl rfl rfl rfl rfl rfl rfl
  have hm8 := ms_at (ms_at hm7 hK8) (KeepM.refl B _).drew
  have hT8 := hT8.drew
  have hlow8 := hK7.low.trans (hK8.drew).low
  simp only [sets] at hT8 hlow8 hm8
  clear p0 p1 p2 p3 p4 p5 p6 p7 p8 p9 p10 p11 p12 pL pH
  go_region
  clear p5' p6' pz ce0 ce1 ce2 ce3 ce4 ce5 ce6 ce7
  generalize (Z.setCell ⟨g, 6, none⟩ (.int .i64 (min (max r.commit m.a5) (r.log.length : Int)))).drew = Z8 at *
  obtain ⟨q, hq⟩ : ∃ q, q = raiseR r m.a5 := ⟨_, rfl⟩
  have hql : q.log.length = r.log.length := by rw [hq]; rfl
  rw [← hq] at hT8
  have HQ : Hid (q = raiseR r m.a5) := hq
  clear hq
  obtain ⟨su, ⟨u0, u1, u2, u3, u4, u5, u6, u7, u8, u9, u10, u11, u12⟩, uz, uL, uH⟩ := hT8.cells
  obtain ⟨cf0, cf1, cf2, cf3, cf4, cf5, cf6, cf7⟩ := msg_cellsS hm8
  clear uL uH
  have hrd : decide ((q.log.length : Int) < m.a5) = false := decide_eq_false (by have := HR.out; rw [hql]; omega)
  clear hql
  go_wp2
  go_ret
  rw [HQ.out] at hT8
  exact ⟨_, rfl, OwnS.nil _ _ _ _ _, hT8, hlow8⟩
set_option maxRecDepth 100000 in
set_option maxHeartbeats 1000000 in
theorem rprep_k3s_nil (B g : Nat) (r : Rep) (m : Msg) (bo : Option Addr) (c : Nat) (hv : 0 ≤ m.a3 ∧ m.a3 < 1099511627776) (h1 : ¬ m.a3 < r.view) (h2 : m.a3 % r.n = m.a1) (h3 : m.a3 = r.view) (h4 : r.how = 0) (h5 : ¬ m.a0 = 1) (hl0 : ¬ r.log = []) (h9 : ¬ (r.log.length : Int) < m.a5) (w : World) (h : TurnR B w g r) (hs : SrcE B w bo c m.log) :
    Calls Tryz.prog 27 #[.pointer (some ⟨g, 0, none⟩), msV m bo c] w fun e w' => ∃ v, e = .returned v ∧ OwnO B w' v (((raiseR r m.a5), ([] : Msgs))).2 ∧ TurnR B w' g (((raiseR r m.a5), ([] : Msgs))).1 ∧ Below B w w' := by
  have hn := one_bounds h.one
  have hne : ¬ r.n = 0 := by omega
  have he : Int.tmod m.a3 r.n = m.a3 % r.n := Int.tmod_eq_emod_of_nonneg hv.1
  have d1 : decide (m.a3 < r.view) = false := decide_eq_false h1
  rw [h2] at he
  have d4 : decide (r.view < m.a3) = false := decide_eq_false (by omega)
  obtain ⟨N, hN⟩ : ∃ N, r.log.length = N := ⟨_, rfl⟩
  have hN0 : N ≤ 1000 := by rw [← hN]; exact h.ll
  have i5 : IntKind.i64.wrap ((N : Int) + 1) = (N : Int) + 1 := by rw [IntKind.wrap_i64]; omega
  have q0 : (m.a0 == 1) = false := by simp [h5]
  have q1 : decide (m.a0 = 1) = false := decide_eq_false h5
  obtain ⟨y, hy, hle0⟩ := lastT_some hl0
  have hpos : 0 < N := by
    rw [← hN]
    exact List.length_pos_iff.2 hl0
  have q8 : 0 < (N : Int) := by omega
  obtain ⟨L, hL⟩ : ∃ L, N = L + 1 := ⟨N - 1, by omega⟩
  have i1 : IntKind.i64.wrap ((N : Int) - 1) = (L : Int) := by rw [IntKind.wrap_i64]; omega
  have i2 : (L : Int) < (N : Int) := by omega
  have HR : Hid (¬ (r.log.length : Int) < m.a5) := h9
  have HN : Hid (r.log.length = N) := hN
  have HH : Hid (r.how = 0) := h4
  have HY : Hid (r.log[r.log.length - 1]? = some y ∧ N = L + 1) := ⟨hy, hL⟩
  clear h1 h2 h3 h4 h5 hN h9 hy hL hle0 hl0
  have hlow : Below w.heap.size w (w.alloc (.cells #[.int .i64 m.a0, .int .i64 m.a1, .int .i64 m.a2, .int .i64 m.a3, .int .i64 m.a4, .int .i64 m.a5, .int .i64 m.a6, .slice bo m.log.length c] 27)) := (Below.refl _ w).alloc (Nat.le_refl _) _
  have hT := h.below hlow
  have hK := KeepM.of_below hlow h.base
  have hs := hs.keep hK.toKeep
  have hB := h.base
  have hmb : (w.alloc (.cells #[.int .i64 m.a0, .int .i64 m.a1, .int .i64 m.a2, .int .i64 m.a3, .int .i64 m.a4, .int .i64 m.a5, .int .i64 m.a6, .slice bo m.log.length c] 27)).heap[w.heap.size]? = some (.cells #[.int .i64 m.a0, .int .i64 m.a1, .int .i64 m.a2, .int .i64 m.a3, .int .i64 m.a4, .int .i64 m.a5, .int .i64 m.a6, .slice bo m.log.length c] 27 (0, 0)) := heap_new w _
  have hgw : w.heap.size ≠ g := by
    obtain ⟨_, _, _, _, hH⟩ := h.cells
    exact Nat.ne_of_gt hH.box.lt
  go_enter Tryz.func27, Tryz.ntmps27
  go_wp2_with fail
  clear h
  generalize (w.alloc (.cells #[.int .i64 m.a0, .int .i64 m.a1, .int .i64 m.a2, .int .i64 m.a3, .int .i64 m.a4, .int .i64 m.a5, .int .i64 m.a6, .slice bo m.log.length c] 27)) = W at *
  obtain ⟨sk, ⟨k0, k1, k2, k3, k4, k5, k6, k7, k8, k9, k10, k11, k12⟩, kz, kL, kH⟩ := hT.cells
  obtain ⟨ca0, ca1, ca2, ca3, ca4, ca5, ca6, ca7⟩ := msg_cellsS hmb
  have hT0 := hT
  have hK0 := hK
  have hm0 := hmb
  have hs0 := hs
  clear hT hK hmb hs
  go_quiet (fail)
  go_wp2_with fail
  have hT1 := hT0.drewN nq
  have hK1 := hK0.trans (keepM_drewN nq hT0.base)
  have hm1 := ms_at hm0 (keepM_drewN nq hT0.base)
  have hs1 := hs0.keep (keepM_drewN nq hT0.base).toKeep
  clear k0 k1 k2 k3 k4 k5 k6 k7 k8 k9 k10 k11 k12 kz kL kH ca0 ca1 ca2 ca3 ca4 ca5 ca6 ca7 hT0 hs0 hm0 hK0
  generalize W.drewN nq = V at *
  obtain ⟨sl, ⟨l0, l1, l2, l3, l4, l5, l6, l7, l8, l9, l10, l11, l12⟩, lz, lL, lH⟩ := hT1.cells
  obtain ⟨cb0, cb1, cb2, cb3, cb4, cb5, cb6, cb7⟩ := msg_cellsS hm1
  rw [HN.out] at l5
  rw [HH.out] at l4
  clear d1 he
  go_quiet (fail)
  go_wp2_with fail
  have hT2 := hT1.drewN nq
  have hK2 := hK1.trans (keepM_drewN nq hT1.base)
  have hm2 := ms_at hm1 (keepM_drewN nq hT1.base)
  have hs2 := hs1.keep (keepM_drewN nq hT1.base).toKeep
  clear l0 l1 l2 l3 l4 l5 l6 l7 l8 l9 l10 l11 l12 lz lL lH cb0 cb1 cb2 cb3 cb4 cb5 cb6 cb7 hT1 hs1 hm1 hK1
  generalize V.drewN nq = X at *
  obtain ⟨sa, ⟨a0, a1, a2, a3, a4, a5, a6, a7, a8, a9, a10, a11, a12⟩, az, aL, aH⟩ := hT2.cells
  obtain ⟨cc0, cc1, cc2, cc3, cc4, cc5, cc6, cc7⟩ := msg_cellsS hm2
  rw [HN.out] at a5
  obtain ⟨ad, had, _, ya, _⟩ := aL.log _ y HY.out.1
  rw [HN.out, HY.out.2, Nat.add_sub_cancel] at ya
  rw [had] at a5
  go_quiet (fail)
  go_wp2_with fail
  have hT3 := hT2.drewN nq
  have hK3 := hK2.trans (keepM_drewN nq hT2.base)
  have hm3 := ms_at hm2 (keepM_drewN nq hT2.base)
  have hs3 := hs2.keep (keepM_drewN nq hT2.base).toKeep
  clear a0 a1 a2 a3 a4 a5 a6 a7 a8 a9 a10 a11 a12 az aL aH cc0 cc1 cc2 cc3 cc4 cc5 cc6 cc7 hT2 hs2 hm2 hK2
  generalize X.drewN nq = Y at *
  obtain ⟨sf, ⟨f0, f1, f2, f3, f4, f5, f6, f7, f8, f9, f10, f11, f12⟩, fz, fL, fH⟩ := hT3.cells
  obtain ⟨cd0, cd1, cd2, cd3, cd4, cd5, cd6, cd7⟩ := msg_cellsS hm3
  rw [HN.out] at f5
  go_quiet (fail)
  go_wp2_with fail
  have hT7 := hT3.drewN nq
  have hK7 := hK3.trans (keepM_drewN nq hT3.base)
  have hm7 := ms_at hm3 (keepM_drewN nq hT3.base)
  have hs7 := hs3.keep (keepM_drewN nq hT3.base).toKeep
  clear f0 f1 f2 f3 f4 f5 f6 f7 f8 f9 f10 f11 f12 fz fL fH cd0 cd1 cd2 cd3 cd4 cd5 cd6 cd7 hT3 hs3 hm3 hK3
  generalize Y.drewN nq = Z at *
  obtain ⟨sp, ⟨p0, p1, p2, p3, p4, p5, p6, p7, p8, p9, p10, p11, p12⟩, pz, pL, pH⟩ := hT7.cells
  obtain ⟨ce0, ce1, ce2, ce3, ce4, ce5, ce6, ce7⟩ := msg_cellsS hm7
  have p5' : Z.cell? ⟨g, 5, none⟩ = some (.slice sp.lo r.log.length sp.lc) := p5
  have p6' : Z.cell? ⟨g, 6, none⟩ = some (.int .i64 r.commit) := p6
  obtain ⟨hT8, hK8⟩ := turnS_sets hT7 [(6, .int .i64 (min (max r.commit m.a5) (r.log.length : Int)))] (raiseR r m.a5) (fun _ _ _ _ _ f f' e e' => by subst e e'; exact ⟨rfl, rfl, rfl, rfl, rfl, rfl, rfl, rfl, rfl, rfl, rfl, rfl, rfl, rfl⟩) rfl rfl rfl rfl rfl rfl rfl
  have hm8 := ms_at (ms_at hm7 hK8) (KeepM.refl B _).drew
  have hT8 := hT8.drew
  have hlow8 := hK7.low.trans (hK8.drew).low
  simp only [sets] at hT8 hlow8 hm8
  clear p0 p1 p2 p3 p4 p5 p6 p7 p8 p9 p10 p11 p12 pL pH
  go_region
  clear p5' p6' pz ce0 ce1 ce2 ce3 ce4 ce5 ce6 ce7
  generalize (Z.setCell ⟨g, 6, none⟩ (.int .i64 (min (max r.commit m.a5) (r.log.length : Int)))).drew = Z8 at *
  obtain ⟨q, hq⟩ : ∃ q, q = raiseR r m.a5 := ⟨_, rfl⟩
  have hql : q.log.length = r.log.length := by rw [hq]; rfl
  rw [← hq] at hT8
  have HQ : Hid (q = raiseR r m.a5) := hq
  clear hq
  obtain ⟨su, ⟨u0, u1, u2, u3, u4, u5, u6, u7, u8, u9, u10, u11, u12⟩, uz, uL, uH⟩ := hT8.cells
  obtain ⟨cf0, cf1, cf2, cf3, cf4, cf5, cf6, cf7⟩ := msg_cellsS hm8
  clear uL uH
  have hrd : decide ((q.log.length : Int) < m.a5) = false := decide_eq_false (by have := HR.out; rw [hql]; omega)
  clear hql
  go_wp2
  go_ret
  rw [HQ.out] at hT8
  exact ⟨_, rfl, OwnS.nil _ _ _ _ _, hT8, hlow8⟩
end Go.Proofs.YtgdehjdajjhjpaaGreat
