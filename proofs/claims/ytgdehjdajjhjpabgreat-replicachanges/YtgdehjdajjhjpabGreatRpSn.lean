/-
  Contracts of the document's own replica: what it makes of a change of the view when most are for it.
-/
import Derived.Test.YtgdehjdajjhjpabGreatRpSm
import Derived.Deep.CutRange
import Derived.Deep.RegionHeldLaw
import Derived.BigQuiet
import Derived.WalkSmall
import Derived.Deep.RegionWith
namespace Go.Proofs.YtgdehjdajjhjpabGreat
open Go.RowKit Num
open scoped Classical
set_option linter.unusedVariables false
set_option maxRecDepth 100000
set_option maxRecDepth 100000 in
set_option maxHeartbeats 4000000 in
theorem rchange_fN (B g : Nat) (r : Rep) (m : Msg) (bo : Option Addr) (c : Nat) (hv : 0 ≤ m.a3 ∧ m.a3 < 1099511627776) (hrv : 0 ≤ r.view ∧ r.view < 1099511627776) (hvt : r.votes.length ≤ 20) (hvl : r.voters.length ≤ 20) (h1 : ¬ m.a3 < r.view) (h3 : m.a3 = r.view) (h4 : r.how = 1) (h5 : m.a1 ∉ r.votes) (h6 : ((addI r.votes m.a1).length : Int) = mostN r.n) (h7 : ¬ r.view % r.n = r.id) (w : World) (h : TurnR B w g r) (hs : SrcE B w bo c m.log) :
    Calls Tryz.prog 28 #[.pointer (some ⟨g, 0, none⟩), msV m bo c] w fun e w' => ∃ v, e = .returned v ∧ OwnO B w' v (({ r with votes := addI r.votes m.a1 }, ([] : Msgs) ++ oneM { r with votes := addI r.votes m.a1 } (msg 5 0 r.commit r.normal r.log) (r.view % r.n))).2 ∧ TurnR B w' g (({ r with votes := addI r.votes m.a1 }, ([] : Msgs) ++ oneM { r with votes := addI r.votes m.a1 } (msg 5 0 r.commit r.normal r.log) (r.view % r.n))).1 ∧ Below B w w' := by
  have hn := one_bounds h.one
  have hne : ¬ r.n = 0 := by omega
  have HPR : Hid (¬ r.view % r.n = r.id) := h7
  have HVB : Hid (0 ≤ r.view ∧ r.view < 1099511627776) := hrv
  have HVR : Hid (r.voters.length ≤ 20) := hvl
  clear h7
  have HNV : Hid (m.a1 ∉ r.votes) := h5
  have HVT : Hid (r.votes.length ≤ 20) := hvt
  have HM : Hid (((addI r.votes m.a1).length : Int) = mostN r.n) := h6
  clear h5 h6
  have d1 : decide (m.a3 < r.view) = false := decide_eq_false (by omega)
  have d4 : decide (r.view < m.a3) = false := decide_eq_false (by omega)
  have HH : Hid (r.how = 1) := h4
  clear h1 h3 h4
  have hlow : Below w.heap.size w (w.alloc (.cells #[.int .i64 m.a0, .int .i64 m.a1, .int .i64 m.a2, .int .i64 m.a3, .int .i64 m.a4, .int .i64 m.a5, .int .i64 m.a6, .slice bo m.log.length c] 27)) := (Below.refl _ w).alloc (Nat.le_refl _) _
  have hT := h.below hlow
  have hK := KeepM.of_below hlow h.base
  have hs := hs.keep hK.toKeep
  have hB := h.base
  have hmb : (w.alloc (.cells #[.int .i64 m.a0, .int .i64 m.a1, .int .i64 m.a2, .int .i64 m.a3, .int .i64 m.a4, .int .i64 m.a5, .int .i64 m.a6, .slice bo m.log.length c] 27)).heap[w.heap.size]? = some (.cells #[.int .i64 m.a0, .int .i64 m.a1, .int .i64 m.a2, .int .i64 m.a3, .int .i64 m.a4, .int .i64 m.a5, .int .i64 m.a6, .slice bo m.log.length c] 27 (0, 0)) := heap_new w _
  have hgw : w.heap.size ≠ g := by
    obtain ⟨_, _, _, _, hH⟩ := h.cells
    exact Nat.ne_of_gt hH.box.lt
  go_enter Tryz.func28, Tryz.ntmps28
  go_wp2_with fail
  clear h
  generalize (w.alloc (.cells #[.int .i64 m.a0, .int .i64 m.a1, .int .i64 m.a2, .int .i64 m.a3, .int .i64 m.a4, .int .i64 m.a5, .int .i64 m.a6, .slice bo m.log.length c] 27)) = W at *
  obtain ⟨sk, ⟨k0, k1, k2, k3, k4, k5, k6, k7, k8, k9, k10, k11, k12⟩, kz, kL, kH⟩ := hT.cells
  obtain ⟨ca0, ca1, ca2, ca3, ca4, ca5, ca6, ca7⟩ := msg_cellsS hmb
  have hT0 := hT
  have hK0 := hK
  have hm0 := hmb
  have hs0 := hs
  clear hT hK hmb hs
  go_quiet (fail)
  go_wp2_with fail
  have hT1 := hT0.drewN nq
  have hK1 := hK0.trans (keepM_drewN nq hT0.base)
  have hm1 := ms_at hm0 (keepM_drewN nq hT0.base)
  have hs1 := hs0.keep (keepM_drewN nq hT0.base).toKeep
  clear k0 k1 k2 k3 k4 k5 k6 k7 k8 k9 k10 k11 k12 kz kL kH ca0 ca1 ca2 ca3 ca4 ca5 ca6 ca7 hT0 hs0 hm0 hK0
  generalize W.drewN nq = V at *
  obtain ⟨sl, ⟨l0, l1, l2, l3, l4, l5, l6, l7, l8, l9, l10, l11, l12⟩, lz, lL, lH⟩ := hT1.cells
  obtain ⟨cb0, cb1, cb2, cb3, cb4, cb5, cb6, cb7⟩ := msg_cellsS hm1
  clear d1
  rw [HH.out] at l4
  go_quiet (fail)
  clear d4
  go_wp2_with fail
  have hTX := hT1.drewN nq
  have hKX := hK1.trans (keepM_drewN nq hT1.base)
  have hmX := ms_at hm1 (keepM_drewN nq hT1.base)
  have hsX := hs1.keep (keepM_drewN nq hT1.base).toKeep
  clear l0 l1 l2 l3 l4 l5 l6 l7 l8 l9 l10 l11 l12 lz lL lH cb0 cb1 cb2 cb3 cb4 cb5 cb6 cb7 hT1 hs1 hm1 hK1
  generalize V.drewN nq = X at *
  obtain ⟨sa, ⟨a0, a1, a2, a3, a4, a5, a6, a7, a8, a9, a10, a11, a12⟩, az, aL, aH⟩ := hTX.cells
  obtain ⟨cc0, cc1, cc2, cc3, cc4, cc5, cc6, cc7⟩ := msg_cellsS hmX
  have hOX := OwnS.nil MsO 27 8 B X
  have hl0 : ([] : Msgs).length ≤ 5 := by simp
  have hadd := radd_no r.votes m.a1 HNV.out sa.vo sa.vc (by have := HVT.out; omega) X.drew (liesN_wide aL.votes (Below.refl _ X).drew (Nat.le_refl _))
  clear a0 a1 a2 a3 a4 a5 a6 a7 a9 a10 a11 a12 aL aH az cc0 cc2 cc3 cc4 cc5 cc6 cc7
  obtain ⟨nv, hnv⟩ : ∃ nv, nv = addI r.votes m.a1 := ⟨_, rfl⟩
  rw [← hnv] at hadd
  have HNW : Hid (nv = addI r.votes m.a1) := hnv
  clear hnv
  go_cut [6, 7, 32] from 33 to 41 (fun v6 v7 _ wx => ∃ ao cap, v6 = .slice ao nv.length cap ∧ v7 = .bool true ∧ wx.ownsRow X.heap.size 3 1 (.slice ao nv.length cap) nv.length (inCells nv) ∧ Below X.heap.size X wx)
  case first =>
    go_region_with (go_at_call 53; refine hadd.mono ?_; rintro e w5 ⟨ao5, cap5, rfl, hown5, hb5⟩)
    all_goals
      go_wp2_with fail
      go_meet
      case rel => exact ⟨ao5, cap5, rfl, rfl, hown5, (Below.refl _ X).drew.trans hb5⟩
  case rest =>
    obtain ⟨ao6, cap6, rfl, rfl, hown6, hb6⟩ := hcut
    clear hadd a8 cc1
    obtain ⟨⟨hTY, hKY⟩, ⟨u8, y8⟩, z8⟩ := turnS_votes hTX hb6 nv hown6
    have hKXY := hKX.trans hKY
    have hOY := ownO_keep hOX hKY
    have hmo := fun W => rmost_any r.n ⟨by omega, by omega⟩ W
    obtain ⟨sy, ⟨_, b1, _⟩, bz, _, bH⟩ := hTY.cells
    have b1' : (wc.setCell ⟨g, 8, none⟩ (.slice ao6 nv.length cap6)).cell? ⟨g, 1, none⟩ = some (.int .i64 r.n) := by exact b1
    clear b1
    have dm : decide ((nv.length : Int) = mostN r.n) = true := decide_eq_true (by rw [HNW.out]; exact HM.out)
    have dm2 : ((nv.length : Int) != mostN r.n) = false := by have := HM.out; rw [← HNW.out] at this; simp [this]
    have dm3 : ((nv.length : Int) == mostN r.n) = true := by have := HM.out; rw [← HNW.out] at this; simp [this]
    obtain ⟨q, hq⟩ : ∃ q, q = { r with votes := nv } := ⟨_, rfl⟩
    rw [← hq] at hTY bH
    have hqs : q.id = r.id ∧ q.n = r.n ∧ q.view = r.view ∧ q.normal = r.normal ∧ q.commit = r.commit ∧ q.log = r.log ∧ q.voters = r.voters := by
      rw [hq]
      exact ⟨rfl, rfl, rfl, rfl, rfl, rfl, rfl⟩
    have HQ : Hid (q = { r with votes := nv }) := hq
    clear hq
    have HQS : Hid (q.id = r.id ∧ q.n = r.n ∧ q.view = r.view ∧ q.normal = r.normal ∧ q.commit = r.commit ∧ q.log = r.log ∧ q.voters = r.voters) := hqs
    clear hqs
    have hpr := rprimary_any g q _ bH.box hTY.one (by rw [HQS.out.2.2.1]; exact HVB.out)
    rw [HQS.out.1, HQS.out.2.1, HQS.out.2.2.1, decide_eq_false HPR.out] at hpr
    clear bH
    go_wp2_with (first
      | (go_at_call 54; refine (hmo _).mono ?_; rintro e wn ⟨rfl, hq⟩; have hq' := hq.symm; clear hq; subst hq')
      | (go_at_call 55; refine hpr.mono ?_; rintro e Z ⟨rfl, hbZ⟩; have hTZ := hTY.below hbZ; have hOZ := ownO_below hOY hbZ; have hKZ := hKXY.trans (KeepM.of_below hbZ hTY.base)))
    go_wp2_with fail
    clear y8 z8 b1' bz hmo dm dm2 dm3
    obtain ⟨sz, ⟨e0, e1, e2, e3, e4, e5, e6, e7, e8, e9, e10, e11, e12⟩, ez, eL, eH⟩ := hTZ.cells
    have hone := rone_any B g q (msg 5 0 q.commit q.normal q.log) sz.lo sz.lc (r.view % r.n) Z.drew hTZ.drew (.inr (eH.below (Below.refl _ _).drew).rows.log) hTZ.ll
    have he : Int.tmod q.view q.n = r.view % r.n := by rw [HQS.out.2.1, HQS.out.2.2.1]; exact Int.tmod_eq_emod_of_nonneg HVB.out.1
    have hqn : ¬ q.n = 0 := by rw [HQS.out.2.1]; omega
    have hS0 : Z.drew.cell? ⟨g, 2, none⟩ = some (.int .i64 q.view) ∧ Z.drew.cell? ⟨g, 1, none⟩ = some (.int .i64 q.n) ∧ Z.drew.cell? ⟨g, 3, none⟩ = some (.int .i64 q.normal) ∧ Z.drew.cell? ⟨g, 6, none⟩ = some (.int .i64 q.commit) ∧ Z.drew.cell? ⟨g, 5, none⟩ = some (.slice sz.lo q.log.length sz.lc) := ⟨e2, e1, e3, e6, e5⟩
    have hlen : ([] : Msgs).length + (oneM q (msg 5 0 q.commit q.normal q.log) (r.view % r.n)).length ≤ 100000 := by simp
    have HS : Hid (∀ w2, Below Z.drew.heap.size Z.drew w2 → w2.cell? ⟨g, 2, none⟩ = some (.int .i64 q.view) ∧ w2.cell? ⟨g, 1, none⟩ = some (.int .i64 q.n) ∧ w2.cell? ⟨g, 3, none⟩ = some (.int .i64 q.normal) ∧ w2.cell? ⟨g, 6, none⟩ = some (.int .i64 q.commit) ∧ w2.cell? ⟨g, 5, none⟩ = some (.slice sz.lo q.log.length sz.lc)) := fun w2 hb => by
      have hH2 := (eH.below (Below.refl _ _).drew).below hb
      exact ⟨hH2.box.cell 2 (by omega), hH2.box.cell 1 (by omega), hH2.box.cell 3 (by omega), hH2.box.cell 6 (by omega), hH2.box.cell 5 (by omega)⟩
    obtain ⟨o1, ho1⟩ : ∃ o1, o1 = oneM q (msg 5 0 q.commit q.normal q.log) (r.view % r.n) := ⟨_, rfl⟩
    rw [← ho1] at hlen
    have hone2 : Calls Tryz.prog 33 #[.pointer (some ⟨g, 0, none⟩), .int .i64 (r.view % r.n), msV (msg 5 0 q.commit q.normal q.log) sz.lo sz.lc] Z.drew fun e w' => ∃ v, e = .returned v ∧ OwnO B w' v o1 ∧ Below Z.drew.heap.size Z.drew w' := by
      rw [ho1]
      exact (rone_low g q (msg 5 0 q.commit q.normal q.log) sz.lo sz.lc (r.view % r.n) Z.drew (eH.below (Below.refl _ _).drew).box (ownE_liesX (eH.below (Below.refl _ _).drew).rows.log) hTZ.ll).mono fun e w' ⟨v, e1, e2, e3⟩ => ⟨v, e1, ownO_mono e2 hTZ.drew.base, e3⟩
    have HO1 : Hid (o1 = oneM q (msg 5 0 q.commit q.normal q.log) (r.view % r.n)) := ho1
    clear ho1 hone e0 e1 e2 e3 e4 e5 e6 e7 e8 e9 e10 e11 e12 eL ez
    go_region_held_law (fun w' : World => w'.cell? ⟨g, 2, none⟩ = some (.int .i64 q.view) ∧ w'.cell? ⟨g, 1, none⟩ = some (.int .i64 q.n) ∧ w'.cell? ⟨g, 3, none⟩ = some (.int .i64 q.normal) ∧ w'.cell? ⟨g, 6, none⟩ = some (.int .i64 q.commit) ∧ w'.cell? ⟨g, 5, none⟩ = some (.slice sz.lo q.log.length sz.lc)) (first | with_reducible exact hS0 | with_reducible exact hS1 | with_reducible exact hS2)
      (first
      | (go_at_call 33; refine hone2.mono ?_; rintro e w2 ⟨v2, rfl, hO2, hb2⟩; obtain ⟨ao2, c2, rfl⟩ := hO2.shape
         have hS1 := HS.out w2 hb2
         have hO1 := ownO_below (ownO_below hOZ (Below.refl _ _).drew) hb2
         have hT2 := hTZ.drew.below hb2
         obtain ⟨css1, x1, x2, x3, x4⟩ := hO1
         obtain ⟨css2, b1, b2, b3, b4⟩ := hO2
         obtain ⟨v9, w9, hr9, hown9, hgrow9, _⟩ := run_app_g Tryz.underlying35 Tryz.infoMs (by decide) w2 35 B (.slice none 0 0) _ _ x3 ao2 _ c2 _ (own_src b3 (flat_one b2)) hlen hT2.base
         obtain ⟨hO9, hst9⟩ := ownO_behind (v2 := .slice none 0 0) x1 x2 x3 x4 b1 b2 b4 hown9 hgrow9
         have hT9 := hT2.stay hst9 (by decide) (by decide) (by decide)
         have hlow9 := (Below.refl B _).grown hgrow9 hT2.base (fun j hj => (x3.lt j hj).1)
         have hS2 : w9.cell? ⟨g, 2, none⟩ = some (.int .i64 q.view) ∧ w9.cell? ⟨g, 1, none⟩ = some (.int .i64 q.n) ∧ w9.cell? ⟨g, 3, none⟩ = some (.int .i64 q.normal) ∧ w9.cell? ⟨g, 6, none⟩ = some (.int .i64 q.commit) ∧ w9.cell? ⟨g, 5, none⟩ = some (.slice sz.lo q.log.length sz.lc) := by
           have hbx := ((eH.below (Below.refl _ _).drew).box.below hb2).stay hst9 (by decide)
           exact ⟨hbx.cell 2 (by omega), hbx.cell 1 (by omega), hbx.cell 3 (by omega), hbx.cell 6 (by omega), hbx.cell 5 (by omega)⟩)
      | (refine step_app_run rfl (.tmp 81) (.tmp 105) 35 rfl (.slice none 0 0) (.slice ao2 o1.length c2) (by simp [Act.eval]) (by simp [Act.eval]) hr9 ?_))
    all_goals
      go_wp2
      go_ret
      have hlowE := ((hKZ.drew.low).trans (hb2.mono hTZ.drew.base)).trans hlow9
      rw [HO1.out, HQ.out, HNW.out] at hO9
      rw [HQ.out, HNW.out] at hT9
      refine ⟨v9, by simp, ?_, hT9, hlowE⟩
      first
        | exact hO9
        | simpa using hO9
set_option maxRecDepth 100000 in
set_option maxHeartbeats 4000000 in
theorem rchange_fU (B g : Nat) (r : Rep) (m : Msg) (bo : Option Addr) (c : Nat) (hv : 0 ≤ m.a3 ∧ m.a3 < 1099511627776) (hrv : 0 ≤ r.view ∧ r.view < 1099511627776) (hvt : r.votes.length ≤ 20) (hvl : r.voters.length ≤ 20) (h1 : ¬ m.a3 < r.view) (h3 : ¬ m.a3 = r.view) (h5 : m.a1 ∉ (changeR r m.a3).votes) (h6 : ((addI (changeR r m.a3).votes m.a1).length : Int) = mostN r.n) (h7 : ¬ (changeR r m.a3).view % r.n = r.id) (w : World) (h : TurnR B w g r) (hs : SrcE B w bo c m.log) :
    Calls Tryz.prog 28 #[.pointer (some ⟨g, 0, none⟩), msV m bo c] w fun e w' => ∃ v, e = .returned v ∧ OwnO B w' v (({ (changeR r m.a3) with votes := addI (changeR r m.a3).votes m.a1 }, allM (changeR r m.a3) (msg 4 0 0 0 []) ++ oneM { (changeR r m.a3) with votes := addI (changeR r m.a3).votes m.a1 } (msg 5 0 (changeR r m.a3).commit (changeR r m.a3).normal (changeR r m.a3).log) ((changeR r m.a3).view % r.n))).2 ∧ TurnR B w' g (({ (changeR r m.a3) with votes := addI (changeR r m.a3).votes m.a1 }, allM (changeR r m.a3) (msg 4 0 0 0 []) ++ oneM { (changeR r m.a3) with votes := addI (changeR r m.a3).votes m.a1 } (msg 5 0 (changeR r m.a3).commit (changeR r m.a3).normal (changeR r m.a3).log) ((changeR r m.a3).view % r.n))).1 ∧ Below B w w' := by
  have hn := one_bounds h.one
  have hne : ¬ r.n = 0 := by omega
  have HPR : Hid (¬ (changeR r m.a3).view % r.n = r.id) := h7
  have HVB : Hid (0 ≤ (changeR r m.a3).view ∧ (changeR r m.a3).view < 1099511627776) := hv
  have HVR : Hid ((changeR r m.a3).voters.length ≤ 20) := by show ([] : List Int).length ≤ 20; simp
  clear h7
  have HNV : Hid (m.a1 ∉ (changeR r m.a3).votes) := h5
  have HVT : Hid ((changeR r m.a3).votes.length ≤ 20) := by show [r.id].length ≤ 20; simp
  have HM : Hid (((addI (changeR r m.a3).votes m.a1).length : Int) = mostN r.n) := h6
  clear h5 h6
  have d1 : decide (m.a3 < r.view) = false := decide_eq_false (by omega)
  have d4 : decide (r.view < m.a3) = true := decide_eq_true (by omega)
  clear h1 h3
  have hlow : Below w.heap.size w (w.alloc (.cells #[.int .i64 m.a0, .int .i64 m.a1, .int .i64 m.a2, .int .i64 m.a3, .int .i64 m.a4, .int .i64 m.a5, .int .i64 m.a6, .slice bo m.log.length c] 27)) := (Below.refl _ w).alloc (Nat.le_refl _) _
  have hT := h.below hlow
  have hK := KeepM.of_below hlow h.base
  have hs := hs.keep hK.toKeep
  have hB := h.base
  have hmb : (w.alloc (.cells #[.int .i64 m.a0, .int .i64 m.a1, .int .i64 m.a2, .int .i64 m.a3, .int .i64 m.a4, .int .i64 m.a5, .int .i64 m.a6, .slice bo m.log.length c] 27)).heap[w.heap.size]? = some (.cells #[.int .i64 m.a0, .int .i64 m.a1, .int .i64 m.a2, .int .i64 m.a3, .int .i64 m.a4, .int .i64 m.a5, .int .i64 m.a6, .slice bo m.log.length c] 27 (0, 0)) := heap_new w _
  have hgw : w.heap.size ≠ g := by
    obtain ⟨_, _, _, _, hH⟩ := h.cells
    exact Nat.ne_of_gt hH.box.lt
  go_enter Tryz.func28, Tryz.ntmps28
  go_wp2_with fail
  clear h
  generalize (w.alloc (.cells #[.int .i64 m.a0, .int .i64 m.a1, .int .i64 m.a2, .int .i64 m.a3, .int .i64 m.a4, .int .i64 m.a5, .int .i64 m.a6, .slice bo m.log.length c] 27)) = W at *
  obtain ⟨sk, ⟨k0, k1, k2, k3, k4, k5, k6, k7, k8, k9, k10, k11, k12⟩, kz, kL, kH⟩ := hT.cells
  obtain ⟨ca0, ca1, ca2, ca3, ca4, ca5, ca6, ca7⟩ := msg_cellsS hmb
  have hT0 := hT
  have hK0 := hK
  have hm0 := hmb
  have hs0 := hs
  clear hT hK hmb hs
  go_quiet (fail)
  go_wp2_with fail
  have hT1 := hT0.drewN nq
  have hK1 := hK0.trans (keepM_drewN nq hT0.base)
  have hm1 := ms_at hm0 (keepM_drewN nq hT0.base)
  have hs1 := hs0.keep (keepM_drewN nq hT0.base).toKeep
  clear k0 k1 k2 k3 k4 k5 k6 k7 k8 k9 k10 k11 k12 kz kL kH ca0 ca1 ca2 ca3 ca4 ca5 ca6 ca7 hT0 hs0 hm0 hK0
  generalize W.drewN nq = V at *
  obtain ⟨sl, ⟨l0, l1, l2, l3, l4, l5, l6, l7, l8, l9, l10, l11, l12⟩, lz, lL, lH⟩ := hT1.cells
  obtain ⟨cb0, cb1, cb2, cb3, cb4, cb5, cb6, cb7⟩ := msg_cellsS hm1
  clear d1
  go_quiet (fail)
  clear d4
  have hT2 := hT1.drewN nq
  have hK2 := hK1.trans (keepM_drewN nq hT1.base)
  have hm2 := ms_at hm1 (keepM_drewN nq hT1.base)
  have hs2 := hs1.keep (keepM_drewN nq hT1.base).toKeep
  have hch := rchangesS_any B g r m.a3 (V.drewN nq) hT2
  have hl0 := allM_len5 (show OneOf (changeR r m.a3).id (changeR r m.a3).n from hT1.one) (msg 4 0 0 0 [])
  have hh2 : (changeR r m.a3).how = 1 := rfl
  obtain ⟨p, hp⟩ : ∃ p, p = changeR r m.a3 := ⟨_, rfl⟩
  rw [← hp] at hch hl0 hh2
  obtain ⟨lm, hl1⟩ : ∃ lm, lm = allM p (msg 4 0 0 0 []) := ⟨_, rfl⟩
  rw [← hl1] at hch hl0
  have HL : Hid (lm = allM p (msg 4 0 0 0 [])) := hl1
  have HP : Hid (p = changeR r m.a3) := hp
  clear hp hl1
  go_wp2_with (first
    | (go_at_call 52; refine hch.mono ?_; rintro e X ⟨v1, rfl, hOX, hTX, hKX'⟩; obtain ⟨ao1, c1, rfl⟩ := hOX.shape
       have n4 := hTX.cells.choose_spec.1.2.2.2.2.1
       rw [hh2] at n4
       clear hh2))
  have hKX := hK2.trans hKX'
  have hmX := ms_at hm2 hKX'
  clear n4 hch hT2 hs2 hK2 hm2 hT1 hm1 hs1 hK1
  clear l0 l1 l2 l3 l4 l5 l6 l7 l8 l9 l10 l11 l12 lz lL lH cb0 cb1 cb2 cb3 cb4 cb5 cb6 cb7
  obtain ⟨sa, ⟨a0, a1, a2, a3, a4, a5, a6, a7, a8, a9, a10, a11, a12⟩, az, aL, aH⟩ := hTX.cells
  obtain ⟨cc0, cc1, cc2, cc3, cc4, cc5, cc6, cc7⟩ := msg_cellsS hmX
  rw [← HP.out] at HNV HVT HM
  rw [← HP.out] at HPR HVB HVR
  have hadd := radd_no p.votes m.a1 HNV.out sa.vo sa.vc (by have := HVT.out; omega) X.drew (liesN_wide aL.votes (Below.refl _ X).drew (Nat.le_refl _))
  clear a0 a1 a2 a3 a4 a5 a6 a7 a9 a10 a11 a12 aL aH az cc0 cc2 cc3 cc4 cc5 cc6 cc7
  obtain ⟨nv, hnv⟩ : ∃ nv, nv = addI p.votes m.a1 := ⟨_, rfl⟩
  rw [← hnv] at hadd
  have HNW : Hid (nv = addI p.votes m.a1) := hnv
  clear hnv
  go_cut [6, 7, 32] from 33 to 41 (fun v6 v7 _ wx => ∃ ao cap, v6 = .slice ao nv.length cap ∧ v7 = .bool true ∧ wx.ownsRow X.heap.size 3 1 (.slice ao nv.length cap) nv.length (inCells nv) ∧ Below X.heap.size X wx)
  case first =>
    go_region_with (go_at_call 53; refine hadd.mono ?_; rintro e w5 ⟨ao5, cap5, rfl, hown5, hb5⟩)
    all_goals
      go_wp2_with fail
      go_meet
      case rel => exact ⟨ao5, cap5, rfl, rfl, hown5, (Below.refl _ X).drew.trans hb5⟩
  case rest =>
    obtain ⟨ao6, cap6, rfl, rfl, hown6, hb6⟩ := hcut
    clear hadd a8 cc1
    obtain ⟨⟨hTY, hKY⟩, ⟨u8, y8⟩, z8⟩ := turnS_votes hTX hb6 nv hown6
    have hKXY := hKX.trans hKY
    have hOY := ownO_keep hOX hKY
    have hmo := fun W => rmost_any r.n ⟨by omega, by omega⟩ W
    obtain ⟨sy, ⟨_, b1, _⟩, bz, _, bH⟩ := hTY.cells
    have b1' : (wc.setCell ⟨g, 8, none⟩ (.slice ao6 nv.length cap6)).cell? ⟨g, 1, none⟩ = some (.int .i64 r.n) := by have b1q := b1; rw [show ({ p with votes := nv } : Rep).n = r.n by rw [HP.out]; rfl] at b1q; exact b1q
    clear b1
    have dm : decide ((nv.length : Int) = mostN r.n) = true := decide_eq_true (by rw [HNW.out]; exact HM.out)
    have dm2 : ((nv.length : Int) != mostN r.n) = false := by have := HM.out; rw [← HNW.out] at this; simp [this]
    have dm3 : ((nv.length : Int) == mostN r.n) = true := by have := HM.out; rw [← HNW.out] at this; simp [this]
    obtain ⟨q, hq⟩ : ∃ q, q = { p with votes := nv } := ⟨_, rfl⟩
    rw [← hq] at hTY bH
    have hqs : q.id = r.id ∧ q.n = r.n ∧ q.view = p.view ∧ q.normal = p.normal ∧ q.commit = p.commit ∧ q.log = p.log ∧ q.voters = p.voters := by
      rw [hq]
      exact ⟨(by rw [HP.out]; rfl), (by rw [HP.out]; rfl), rfl, rfl, rfl, rfl, rfl⟩
    have HQ : Hid (q = { p with votes := nv }) := hq
    clear hq
    have HQS : Hid (q.id = r.id ∧ q.n = r.n ∧ q.view = p.view ∧ q.normal = p.normal ∧ q.commit = p.commit ∧ q.log = p.log ∧ q.voters = p.voters) := hqs
    clear hqs
    have hpr := rprimary_any g q _ bH.box hTY.one (by rw [HQS.out.2.2.1]; exact HVB.out)
    rw [HQS.out.1, HQS.out.2.1, HQS.out.2.2.1, decide_eq_false HPR.out] at hpr
    clear bH
    go_wp2_with (first
      | (go_at_call 54; refine (hmo _).mono ?_; rintro e wn ⟨rfl, hq⟩; have hq' := hq.symm; clear hq; subst hq')
      | (go_at_call 55; refine hpr.mono ?_; rintro e Z ⟨rfl, hbZ⟩; have hTZ := hTY.below hbZ; have hOZ := ownO_below hOY hbZ; have hKZ := hKXY.trans (KeepM.of_below hbZ hTY.base)))
    go_wp2_with fail
    clear y8 z8 b1' bz hmo dm dm2 dm3
    obtain ⟨sz, ⟨e0, e1, e2, e3, e4, e5, e6, e7, e8, e9, e10, e11, e12⟩, ez, eL, eH⟩ := hTZ.cells
    have hone := rone_any B g q (msg 5 0 q.commit q.normal q.log) sz.lo sz.lc (p.view % r.n) Z.drew hTZ.drew (.inr (eH.below (Below.refl _ _).drew).rows.log) hTZ.ll
    have he : Int.tmod q.view q.n = p.view % r.n := by rw [HQS.out.2.1, HQS.out.2.2.1]; exact Int.tmod_eq_emod_of_nonneg HVB.out.1
    have hqn : ¬ q.n = 0 := by rw [HQS.out.2.1]; omega
    have hS0 : Z.drew.cell? ⟨g, 2, none⟩ = some (.int .i64 q.view) ∧ Z.drew.cell? ⟨g, 1, none⟩ = some (.int .i64 q.n) ∧ Z.drew.cell? ⟨g, 3, none⟩ = some (.int .i64 q.normal) ∧ Z.drew.cell? ⟨g, 6, none⟩ = some (.int .i64 q.commit) ∧ Z.drew.cell? ⟨g, 5, none⟩ = some (.slice sz.lo q.log.length sz.lc) := ⟨e2, e1, e3, e6, e5⟩
    have hlen : lm.length + (oneM q (msg 5 0 q.commit q.normal q.log) (p.view % r.n)).length ≤ 100000 := by show lm.length + 1 ≤ 100000; omega
    have HS : Hid (∀ w2, Below Z.drew.heap.size Z.drew w2 → w2.cell? ⟨g, 2, none⟩ = some (.int .i64 q.view) ∧ w2.cell? ⟨g, 1, none⟩ = some (.int .i64 q.n) ∧ w2.cell? ⟨g, 3, none⟩ = some (.int .i64 q.normal) ∧ w2.cell? ⟨g, 6, none⟩ = some (.int .i64 q.commit) ∧ w2.cell? ⟨g, 5, none⟩ = some (.slice sz.lo q.log.length sz.lc)) := fun w2 hb => by
      have hH2 := (eH.below (Below.refl _ _).drew).below hb
      exact ⟨hH2.box.cell 2 (by omega), hH2.box.cell 1 (by omega), hH2.box.cell 3 (by omega), hH2.box.cell 6 (by omega), hH2.box.cell 5 (by omega)⟩
    obtain ⟨o1, ho1⟩ : ∃ o1, o1 = oneM q (msg 5 0 q.commit q.normal q.log) (p.view % r.n) := ⟨_, rfl⟩
    rw [← ho1] at hlen
    have hone2 : Calls Tryz.prog 33 #[.pointer (some ⟨g, 0, none⟩), .int .i64 (p.view % r.n), msV (msg 5 0 q.commit q.normal q.log) sz.lo sz.lc] Z.drew fun e w' => ∃ v, e = .returned v ∧ OwnO B w' v o1 ∧ Below Z.drew.heap.size Z.drew w' := by
      rw [ho1]
      exact (rone_low g q (msg 5 0 q.commit q.normal q.log) sz.lo sz.lc (p.view % r.n) Z.drew (eH.below (Below.refl _ _).drew).box (ownE_liesX (eH.below (Below.refl _ _).drew).rows.log) hTZ.ll).mono fun e w' ⟨v, e1, e2, e3⟩ => ⟨v, e1, ownO_mono e2 hTZ.drew.base, e3⟩
    have HO1 : Hid (o1 = oneM q (msg 5 0 q.commit q.normal q.log) (p.view % r.n)) := ho1
    clear ho1 hone e0 e1 e2 e3 e4 e5 e6 e7 e8 e9 e10 e11 e12 eL ez
    go_region_held_law (fun w' : World => w'.cell? ⟨g, 2, none⟩ = some (.int .i64 q.view) ∧ w'.cell? ⟨g, 1, none⟩ = some (.int .i64 q.n) ∧ w'.cell? ⟨g, 3, none⟩ = some (.int .i64 q.normal) ∧ w'.cell? ⟨g, 6, none⟩ = some (.int .i64 q.commit) ∧ w'.cell? ⟨g, 5, none⟩ = some (.slice sz.lo q.log.length sz.lc)) (first | with_reducible exact hS0 | with_reducible exact hS1 | with_reducible exact hS2)
      (first
      | (go_at_call 33; refine hone2.mono ?_; rintro e w2 ⟨v2, rfl, hO2, hb2⟩; obtain ⟨ao2, c2, rfl⟩ := hO2.shape
         have hS1 := HS.out w2 hb2
         have hO1 := ownO_below (ownO_below hOZ (Below.refl _ _).drew) hb2
         have hT2 := hTZ.drew.below hb2
         obtain ⟨css1, x1, x2, x3, x4⟩ := hO1
         obtain ⟨css2, b1, b2, b3, b4⟩ := hO2
         obtain ⟨v9, w9, hr9, hown9, hgrow9, _⟩ := run_app_g Tryz.underlying35 Tryz.infoMs (by decide) w2 35 B (.slice ao1 lm.length c1) _ _ x3 ao2 _ c2 _ (own_src b3 (flat_one b2)) hlen hT2.base
         obtain ⟨hO9, hst9⟩ := ownO_behind (v2 := .slice none 0 0) x1 x2 x3 x4 b1 b2 b4 hown9 hgrow9
         have hT9 := hT2.stay hst9 (by decide) (by decide) (by decide)
         have hlow9 := (Below.refl B _).grown hgrow9 hT2.base (fun j hj => (x3.lt j hj).1)
         have hS2 : w9.cell? ⟨g, 2, none⟩ = some (.int .i64 q.view) ∧ w9.cell? ⟨g, 1, none⟩ = some (.int .i64 q.n) ∧ w9.cell? ⟨g, 3, none⟩ = some (.int .i64 q.normal) ∧ w9.cell? ⟨g, 6, none⟩ = some (.int .i64 q.commit) ∧ w9.cell? ⟨g, 5, none⟩ = some (.slice sz.lo q.log.length sz.lc) := by
           have hbx := ((eH.below (Below.refl _ _).drew).box.below hb2).stay hst9 (by decide)
           exact ⟨hbx.cell 2 (by omega), hbx.cell 1 (by omega), hbx.cell 3 (by omega), hbx.cell 6 (by omega), hbx.cell 5 (by omega)⟩)
      | (refine step_app_run rfl (.tmp 81) (.tmp 105) 35 rfl (.slice ao1 lm.length c1) (.slice ao2 o1.length c2) (by simp [Act.eval]) (by simp [Act.eval]) hr9 ?_))
    all_goals
      go_wp2
      go_ret
      have hlowE := ((hKZ.drew.low).trans (hb2.mono hTZ.drew.base)).trans hlow9
      rw [HO1.out, HQ.out, HNW.out, HP.out] at hO9
      rw [HQ.out, HNW.out, HP.out] at hT9
      rw [HL.out, HP.out] at hO9
      refine ⟨v9, by simp, ?_, hT9, hlowE⟩
      first
        | exact hO9
        | simpa using hO9
end Go.Proofs.YtgdehjdajjhjpabGreat
