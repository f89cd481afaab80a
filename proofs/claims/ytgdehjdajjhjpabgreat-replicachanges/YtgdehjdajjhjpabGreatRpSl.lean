/-
  Contracts of the document's own replica: what it makes of a state.
-/
import Derived.Test.YtgdehjdajjhjpabGreatRpSf
import Derived.Test.YtgdehjdajjhjpabGreatRpSg
import Derived.Deep.CutRange
import Derived.Deep.RegionHeldLaw
import Derived.BigQuiet
import Derived.WalkSmall
import Derived.Deep.RegionWith
namespace Go.Proofs.YtgdehjdajjhjpabGreat
open Go.RowKit Num
open scoped Classical
set_option linter.unusedVariables false
set_option maxRecDepth 100000
theorem allM_len5 {r : Rep} (h : OneOf r.id r.n) (m : Msg) : (allM r m).length ≤ 5 := by
  have := restM_len r m 0
  have := one_bounds h
  unfold allM
  omega
theorem statesR_len {r : Rep} (h : OneOf r.id r.n) (frm was com : Int) (log : List Ent) : (statesR r frm was com log).2.length ≤ 5 := by
  have hb := bestR_same r frm was com log
  have hid : (bestR r frm was com log).id = r.id := by
    by_cases hc : BestC r was log
    · rw [bestR_yes hc]
    · rw [bestR_no hc]
  unfold statesR
  split
  · simp
  · split
    · exact allM_len5 (by show OneOf (bestR r frm was com log).id (bestR r frm was com log).n; rw [hid, hb.1]; exact h) _
    · simp
set_option maxRecDepth 100000 in
set_option maxHeartbeats 1000000 in
theorem rstate_a (B g : Nat) (r : Rep) (m : Msg) (bo : Option Addr) (c : Nat) (hv : 0 ≤ m.a3 ∧ m.a3 < 1099511627776) (hvl : r.voters.length ≤ 20) (hml : m.log.length ≤ 1000) (h1 : m.a3 < r.view) (w : World) (h : TurnR B w g r) (hs : SrcE B w bo c m.log) :
    Calls Tryz.prog 29 #[.pointer (some ⟨g, 0, none⟩), msV m bo c] w fun e w' => ∃ v, e = .returned v ∧ OwnO B w' v (stateH r m).2 ∧ TurnR B w' g (stateH r m).1 ∧ Below B w w' := by
  have e1 : stateH r m = (r, []) := by
    unfold stateH
    rw [if_pos (.inl h1)]
  rw [e1]
  clear e1
  have hn := one_bounds h.one
  have hne : ¬ r.n = 0 := by omega
  have he : Int.tmod m.a3 r.n = m.a3 % r.n := Int.tmod_eq_emod_of_nonneg hv.1
  have d1 : decide (m.a3 < r.view) = true := decide_eq_true h1
  clear h1
  have hlow : Below w.heap.size w (w.alloc (.cells #[.int .i64 m.a0, .int .i64 m.a1, .int .i64 m.a2, .int .i64 m.a3, .int .i64 m.a4, .int .i64 m.a5, .int .i64 m.a6, .slice bo m.log.length c] 27)) := (Below.refl _ w).alloc (Nat.le_refl _) _
  have hT := h.below hlow
  have hK := KeepM.of_below hlow h.base
  have hs := hs.keep hK.toKeep
  have hB := h.base
  have hmb : (w.alloc (.cells #[.int .i64 m.a0, .int .i64 m.a1, .int .i64 m.a2, .int .i64 m.a3, .int .i64 m.a4, .int .i64 m.a5, .int .i64 m.a6, .slice bo m.log.length c] 27)).heap[w.heap.size]? = some (.cells #[.int .i64 m.a0, .int .i64 m.a1, .int .i64 m.a2, .int .i64 m.a3, .int .i64 m.a4, .int .i64 m.a5, .int .i64 m.a6, .slice bo m.log.length c] 27 (0, 0)) := heap_new w _
  have hgw : w.heap.size ≠ g := by
    obtain ⟨_, _, _, _, hH⟩ := h.cells
    exact Nat.ne_of_gt hH.box.lt
  go_enter Tryz.func29, Tryz.ntmps29
  go_wp2_with fail
  clear h
  generalize (w.alloc (.cells #[.int .i64 m.a0, .int .i64 m.a1, .int .i64 m.a2, .int .i64 m.a3, .int .i64 m.a4, .int .i64 m.a5, .int .i64 m.a6, .slice bo m.log.length c] 27)) = W at *
  obtain ⟨sk, ⟨k0, k1, k2, k3, k4, k5, k6, k7, k8, k9, k10, k11, k12⟩, kz, kL, kH⟩ := hT.cells
  obtain ⟨ca0, ca1, ca2, ca3, ca4, ca5, ca6, ca7⟩ := msg_cellsS hmb
  go_quiet (fail)
  go_wp2
  go_ret
  exact ⟨_, rfl, OwnS.nil _ _ _ _ _, hT.drewN nq, (hK.trans (keepM_drewN nq hT.base)).low⟩
set_option maxRecDepth 100000 in
set_option maxHeartbeats 1000000 in
theorem rstate_b (B g : Nat) (r : Rep) (m : Msg) (bo : Option Addr) (c : Nat) (hv : 0 ≤ m.a3 ∧ m.a3 < 1099511627776) (hvl : r.voters.length ≤ 20) (hml : m.log.length ≤ 1000) (h1 : ¬ m.a3 < r.view) (h2 : ¬ m.a3 % r.n = r.id) (w : World) (h : TurnR B w g r) (hs : SrcE B w bo c m.log) :
    Calls Tryz.prog 29 #[.pointer (some ⟨g, 0, none⟩), msV m bo c] w fun e w' => ∃ v, e = .returned v ∧ OwnO B w' v (stateH r m).2 ∧ TurnR B w' g (stateH r m).1 ∧ Below B w w' := by
  have e1 : stateH r m = (r, []) := by
    unfold stateH
    rw [if_pos (.inr h2)]
  rw [e1]
  clear e1
  have hn := one_bounds h.one
  have hne : ¬ r.n = 0 := by omega
  have he : Int.tmod m.a3 r.n = m.a3 % r.n := Int.tmod_eq_emod_of_nonneg hv.1
  have d1 : decide (m.a3 < r.view) = false := decide_eq_false h1
  have d2 : decide (m.a3 % r.n = r.id) = false := decide_eq_false h2
  have d3 : (m.a3 % r.n != r.id) = true := by simp [h2]
  clear h1 h2
  have hlow : Below w.heap.size w (w.alloc (.cells #[.int .i64 m.a0, .int .i64 m.a1, .int .i64 m.a2, .int .i64 m.a3, .int .i64 m.a4, .int .i64 m.a5, .int .i64 m.a6, .slice bo m.log.length c] 27)) := (Below.refl _ w).alloc (Nat.le_refl _) _
  have hT := h.below hlow
  have hK := KeepM.of_below hlow h.base
  have hs := hs.keep hK.toKeep
  have hB := h.base
  have hmb : (w.alloc (.cells #[.int .i64 m.a0, .int .i64 m.a1, .int .i64 m.a2, .int .i64 m.a3, .int .i64 m.a4, .int .i64 m.a5, .int .i64 m.a6, .slice bo m.log.length c] 27)).heap[w.heap.size]? = some (.cells #[.int .i64 m.a0, .int .i64 m.a1, .int .i64 m.a2, .int .i64 m.a3, .int .i64 m.a4, .int .i64 m.a5, .int .i64 m.a6, .slice bo m.log.length c] 27 (0, 0)) := heap_new w _
  have hgw : w.heap.size ≠ g := by
    obtain ⟨_, _, _, _, hH⟩ := h.cells
    exact Nat.ne_of_gt hH.box.lt
  go_enter Tryz.func29, Tryz.ntmps29
  go_wp2_with fail
  clear h
  generalize (w.alloc (.cells #[.int .i64 m.a0, .int .i64 m.a1, .int .i64 m.a2, .int .i64 m.a3, .int .i64 m.a4, .int .i64 m.a5, .int .i64 m.a6, .slice bo m.log.length c] 27)) = W at *
  obtain ⟨sk, ⟨k0, k1, k2, k3, k4, k5, k6, k7, k8, k9, k10, k11, k12⟩, kz, kL, kH⟩ := hT.cells
  obtain ⟨ca0, ca1, ca2, ca3, ca4, ca5, ca6, ca7⟩ := msg_cellsS hmb
  go_quiet (fail)
  go_wp2
  go_ret
  exact ⟨_, rfl, OwnS.nil _ _ _ _ _, hT.drewN nq, (hK.trans (keepM_drewN nq hT.base)).low⟩
set_option maxRecDepth 100000 in
set_option maxHeartbeats 1000000 in
theorem rstate_c (B g : Nat) (r : Rep) (m : Msg) (bo : Option Addr) (c : Nat) (hv : 0 ≤ m.a3 ∧ m.a3 < 1099511627776) (hvl : r.voters.length ≤ 20) (hml : m.log.length ≤ 1000) (h1 : ¬ m.a3 < r.view) (h2 : m.a3 % r.n = r.id) (h3 : m.a3 = r.view) (h4 : ¬ r.how = 1) (w : World) (h : TurnR B w g r) (hs : SrcE B w bo c m.log) :
    Calls Tryz.prog 29 #[.pointer (some ⟨g, 0, none⟩), msV m bo c] w fun e w' => ∃ v, e = .returned v ∧ OwnO B w' v (stateH r m).2 ∧ TurnR B w' g (stateH r m).1 ∧ Below B w w' := by
  have e1 : stateH r m = (r, []) := by
    unfold stateH
    rw [if_neg (fun h => by rcases h with h | h; exact h1 h; exact h h2)]
    have e2 : upR r m.a3 = (r, []) := by unfold upR; rw [if_neg (by omega)]
    rw [e2]
    exact if_neg h4
  rw [e1]
  clear e1
  have hn := one_bounds h.one
  have hne : ¬ r.n = 0 := by omega
  have he : Int.tmod m.a3 r.n = m.a3 % r.n := Int.tmod_eq_emod_of_nonneg hv.1
  have d1 : decide (m.a3 < r.view) = false := decide_eq_false h1
  rw [h2] at he
  have d4 : decide (r.view < m.a3) = false := decide_eq_false (by omega)
  have d5 : (r.how != 1) = true := by simp [h4]
  have d6 : decide (r.how = 1) = false := decide_eq_false h4
  clear h1 h2 h3 h4
  have hlow : Below w.heap.size w (w.alloc (.cells #[.int .i64 m.a0, .int .i64 m.a1, .int .i64 m.a2, .int .i64 m.a3, .int .i64 m.a4, .int .i64 m.a5, .int .i64 m.a6, .slice bo m.log.length c] 27)) := (Below.refl _ w).alloc (Nat.le_refl _) _
  have hT := h.below hlow
  have hK := KeepM.of_below hlow h.base
  have hs := hs.keep hK.toKeep
  have hB := h.base
  have hmb : (w.alloc (.cells #[.int .i64 m.a0, .int .i64 m.a1, .int .i64 m.a2, .int .i64 m.a3, .int .i64 m.a4, .int .i64 m.a5, .int .i64 m.a6, .slice bo m.log.length c] 27)).heap[w.heap.size]? = some (.cells #[.int .i64 m.a0, .int .i64 m.a1, .int .i64 m.a2, .int .i64 m.a3, .int .i64 m.a4, .int .i64 m.a5, .int .i64 m.a6, .slice bo m.log.length c] 27 (0, 0)) := heap_new w _
  have hgw : w.heap.size ≠ g := by
    obtain ⟨_, _, _, _, hH⟩ := h.cells
    exact Nat.ne_of_gt hH.box.lt
  go_enter Tryz.func29, Tryz.ntmps29
  go_wp2_with fail
  clear h
  generalize (w.alloc (.cells #[.int .i64 m.a0, .int .i64 m.a1, .int .i64 m.a2, .int .i64 m.a3, .int .i64 m.a4, .int .i64 m.a5, .int .i64 m.a6, .slice bo m.log.length c] 27)) = W at *
  obtain ⟨sk, ⟨k0, k1, k2, k3, k4, k5, k6, k7, k8, k9, k10, k11, k12⟩, kz, kL, kH⟩ := hT.cells
  obtain ⟨ca0, ca1, ca2, ca3, ca4, ca5, ca6, ca7⟩ := msg_cellsS hmb
  have hT0 := hT
  have hK0 := hK
  have hm0 := hmb
  have hs0 := hs
  clear hT hK hmb hs
  go_quiet (fail)
  go_wp2_with fail
  have hT1 := hT0.drewN nq
  have hK1 := hK0.trans (keepM_drewN nq hT0.base)
  have hm1 := ms_at hm0 (keepM_drewN nq hT0.base)
  have hs1 := hs0.keep (keepM_drewN nq hT0.base).toKeep
  clear k0 k1 k2 k3 k4 k5 k6 k7 k8 k9 k10 k11 k12 kz kL kH ca0 ca1 ca2 ca3 ca4 ca5 ca6 ca7 hT0 hs0 hm0 hK0
  generalize W.drewN nq = V at *
  obtain ⟨sl, ⟨l0, l1, l2, l3, l4, l5, l6, l7, l8, l9, l10, l11, l12⟩, lz, lL, lH⟩ := hT1.cells
  obtain ⟨cb0, cb1, cb2, cb3, cb4, cb5, cb6, cb7⟩ := msg_cellsS hm1
  clear d1 he
  go_quiet (fail)
  have hTX := hT1.drewN nq
  have hKX := hK1.trans (keepM_drewN nq hT1.base)
  go_wp2
  go_ret
  exact ⟨_, rfl, OwnS.nil _ _ _ _ _, hTX, hKX.low⟩
set_option maxRecDepth 100000 in
set_option maxHeartbeats 1000000 in
theorem rstate_d (B g : Nat) (r : Rep) (m : Msg) (bo : Option Addr) (c : Nat) (hv : 0 ≤ m.a3 ∧ m.a3 < 1099511627776) (hvl : r.voters.length ≤ 20) (hml : m.log.length ≤ 1000) (h1 : ¬ m.a3 < r.view) (h2 : m.a3 % r.n = r.id) (h3 : m.a3 = r.view) (h4 : r.how = 1) (w : World) (h : TurnR B w g r) (hs : SrcE B w bo c m.log) :
    Calls Tryz.prog 29 #[.pointer (some ⟨g, 0, none⟩), msV m bo c] w fun e w' => ∃ v, e = .returned v ∧ OwnO B w' v (stateH r m).2 ∧ TurnR B w' g (stateH r m).1 ∧ Below B w w' := by
  have e1 : stateH r m = ((statesR r m.a1 m.a6 m.a5 m.log).1, ([] : Msgs) ++ (statesR r m.a1 m.a6 m.a5 m.log).2) := by
    unfold stateH
    rw [if_neg (fun h => by rcases h with h | h; exact h1 h; exact h h2)]
    have e2 : upR r m.a3 = (r, []) := by unfold upR; rw [if_neg (by omega)]
    rw [e2]
    exact if_pos h4
  rw [e1]
  clear e1
  have hn := one_bounds h.one
  have hne : ¬ r.n = 0 := by omega
  have he : Int.tmod m.a3 r.n = m.a3 % r.n := Int.tmod_eq_emod_of_nonneg hv.1
  have d1 : decide (m.a3 < r.view) = false := decide_eq_false h1
  rw [h2] at he
  have d4 : decide (r.view < m.a3) = false := decide_eq_false (by omega)
  have HH : Hid (r.how = 1) := h4
  clear h1 h2 h3 h4
  have hlow : Below w.heap.size w (w.alloc (.cells #[.int .i64 m.a0, .int .i64 m.a1, .int .i64 m.a2, .int .i64 m.a3, .int .i64 m.a4, .int .i64 m.a5, .int .i64 m.a6, .slice bo m.log.length c] 27)) := (Below.refl _ w).alloc (Nat.le_refl _) _
  have hT := h.below hlow
  have hK := KeepM.of_below hlow h.base
  have hs := hs.keep hK.toKeep
  have hB := h.base
  have hmb : (w.alloc (.cells #[.int .i64 m.a0, .int .i64 m.a1, .int .i64 m.a2, .int .i64 m.a3, .int .i64 m.a4, .int .i64 m.a5, .int .i64 m.a6, .slice bo m.log.length c] 27)).heap[w.heap.size]? = some (.cells #[.int .i64 m.a0, .int .i64 m.a1, .int .i64 m.a2, .int .i64 m.a3, .int .i64 m.a4, .int .i64 m.a5, .int .i64 m.a6, .slice bo m.log.length c] 27 (0, 0)) := heap_new w _
  have hgw : w.heap.size ≠ g := by
    obtain ⟨_, _, _, _, hH⟩ := h.cells
    exact Nat.ne_of_gt hH.box.lt
  go_enter Tryz.func29, Tryz.ntmps29
  go_wp2_with fail
  clear h
  generalize (w.alloc (.cells #[.int .i64 m.a0, .int .i64 m.a1, .int .i64 m.a2, .int .i64 m.a3, .int .i64 m.a4, .int .i64 m.a5, .int .i64 m.a6, .slice bo m.log.length c] 27)) = W at *
  obtain ⟨sk, ⟨k0, k1, k2, k3, k4, k5, k6, k7, k8, k9, k10, k11, k12⟩, kz, kL, kH⟩ := hT.cells
  obtain ⟨ca0, ca1, ca2, ca3, ca4, ca5, ca6, ca7⟩ := msg_cellsS hmb
  have hT0 := hT
  have hK0 := hK
  have hm0 := hmb
  have hs0 := hs
  clear hT hK hmb hs
  go_quiet (fail)
  go_wp2_with fail
  have hT1 := hT0.drewN nq
  have hK1 := hK0.trans (keepM_drewN nq hT0.base)
  have hm1 := ms_at hm0 (keepM_drewN nq hT0.base)
  have hs1 := hs0.keep (keepM_drewN nq hT0.base).toKeep
  clear k0 k1 k2 k3 k4 k5 k6 k7 k8 k9 k10 k11 k12 kz kL kH ca0 ca1 ca2 ca3 ca4 ca5 ca6 ca7 hT0 hs0 hm0 hK0
  generalize W.drewN nq = V at *
  obtain ⟨sl, ⟨l0, l1, l2, l3, l4, l5, l6, l7, l8, l9, l10, l11, l12⟩, lz, lL, lH⟩ := hT1.cells
  obtain ⟨cb0, cb1, cb2, cb3, cb4, cb5, cb6, cb7⟩ := msg_cellsS hm1
  clear d1 he
  rw [HH.out] at l4
  go_quiet (fail)
  have hTX := hT1.drewN nq
  have hKX := hK1.trans (keepM_drewN nq hT1.base)
  have hst := rstates_any B g r m.a1 m.a6 m.a5 m.log bo c hvl hml (V.drewN nq) hTX (hs1.keep (keepM_drewN nq hT1.base).toKeep)
  have hlen : ([] : Msgs).length + (statesR r m.a1 m.a6 m.a5 m.log).2.length ≤ 100000 := by have := statesR_len hT1.one m.a1 m.a6 m.a5 m.log; simp; omega
  obtain ⟨q, hq⟩ : ∃ q, q = statesR r m.a1 m.a6 m.a5 m.log := ⟨_, rfl⟩
  rw [← hq] at hst hlen
  have HQ : Hid (q = statesR r m.a1 m.a6 m.a5 m.log) := hq
  clear hq
  go_wp2_with (first
    | (go_at_call 56; refine hst.mono ?_; rintro e w2 ⟨v2, rfl, hO2, hT2, hK2⟩; obtain ⟨ao2, c2, rfl⟩ := hO2.shape
       have hO1 := OwnS.nil MsO 27 8 B w2)
    | (obtain ⟨css1, a1, a2, a3, a4⟩ := hO1; obtain ⟨css2, b1, b2, b3, b4⟩ := hO2; at_builtin; refine wpList_app_g Tryz.underlying35 Tryz.infoMs (by decide) _ rfl _ _ rfl B _ _ _ rfl a3 _ _ _ _ rfl (own_src b3 (flat_one b2)) hlen hT2.base ?_; intro v9 w9 hown9 hgrow9 _
       obtain ⟨hO9, hst9⟩ := ownO_behind (v2 := .slice none 0 0) a1 a2 a3 a4 b1 b2 b4 hown9 hgrow9
       have hT9 := hT2.stay hst9 (by decide) (by decide) (by decide)
       have hlow9 := (Below.refl B _).grown hgrow9 hT2.base (fun j hj => (a3.lt j hj).1)))
  go_ret
  rw [HQ.out] at hO9 hT9
  exact ⟨_, rfl, hO9, hT9, (hKX.trans hK2).low.trans hlow9⟩
set_option maxRecDepth 100000 in
set_option maxHeartbeats 1000000 in
theorem rstate_e (B g : Nat) (r : Rep) (m : Msg) (bo : Option Addr) (c : Nat) (hv : 0 ≤ m.a3 ∧ m.a3 < 1099511627776) (hvl : r.voters.length ≤ 20) (hml : m.log.length ≤ 1000) (h1 : ¬ m.a3 < r.view) (h2 : m.a3 % r.n = r.id) (h3 : ¬ m.a3 = r.view) (w : World) (h : TurnR B w g r) (hs : SrcE B w bo c m.log) :
    Calls Tryz.prog 29 #[.pointer (some ⟨g, 0, none⟩), msV m bo c] w fun e w' => ∃ v, e = .returned v ∧ OwnO B w' v (stateH r m).2 ∧ TurnR B w' g (stateH r m).1 ∧ Below B w w' := by
  have e1 : stateH r m = ((statesR (changeR r m.a3) m.a1 m.a6 m.a5 m.log).1, allM (changeR r m.a3) (msg 4 0 0 0 []) ++ (statesR (changeR r m.a3) m.a1 m.a6 m.a5 m.log).2) := by
    unfold stateH
    rw [if_neg (fun h => by rcases h with h | h; exact h1 h; exact h h2)]
    have e2 : upR r m.a3 = (changeR r m.a3, allM (changeR r m.a3) (msg 4 0 0 0 [])) := by unfold upR; rw [if_pos (by omega)]
    rw [e2]
    exact if_pos rfl
  rw [e1]
  clear e1
  have hn := one_bounds h.one
  have hne : ¬ r.n = 0 := by omega
  have he : Int.tmod m.a3 r.n = m.a3 % r.n := Int.tmod_eq_emod_of_nonneg hv.1
  have d1 : decide (m.a3 < r.view) = false := decide_eq_false h1
  rw [h2] at he
  have d4 : decide (r.view < m.a3) = true := decide_eq_true (by omega)
  clear h1 h2 h3
  have hlow : Below w.heap.size w (w.alloc (.cells #[.int .i64 m.a0, .int .i64 m.a1, .int .i64 m.a2, .int .i64 m.a3, .int .i64 m.a4, .int .i64 m.a5, .int .i64 m.a6, .slice bo m.log.length c] 27)) := (Below.refl _ w).alloc (Nat.le_refl _) _
  have hT := h.below hlow
  have hK := KeepM.of_below hlow h.base
  have hs := hs.keep hK.toKeep
  have hB := h.base
  have hmb : (w.alloc (.cells #[.int .i64 m.a0, .int .i64 m.a1, .int .i64 m.a2, .int .i64 m.a3, .int .i64 m.a4, .int .i64 m.a5, .int .i64 m.a6, .slice bo m.log.length c] 27)).heap[w.heap.size]? = some (.cells #[.int .i64 m.a0, .int .i64 m.a1, .int .i64 m.a2, .int .i64 m.a3, .int .i64 m.a4, .int .i64 m.a5, .int .i64 m.a6, .slice bo m.log.length c] 27 (0, 0)) := heap_new w _
  have hgw : w.heap.size ≠ g := by
    obtain ⟨_, _, _, _, hH⟩ := h.cells
    exact Nat.ne_of_gt hH.box.lt
  go_enter Tryz.func29, Tryz.ntmps29
  go_wp2_with fail
  clear h
  generalize (w.alloc (.cells #[.int .i64 m.a0, .int .i64 m.a1, .int .i64 m.a2, .int .i64 m.a3, .int .i64 m.a4, .int .i64 m.a5, .int .i64 m.a6, .slice bo m.log.length c] 27)) = W at *
  obtain ⟨sk, ⟨k0, k1, k2, k3, k4, k5, k6, k7, k8, k9, k10, k11, k12⟩, kz, kL, kH⟩ := hT.cells
  obtain ⟨ca0, ca1, ca2, ca3, ca4, ca5, ca6, ca7⟩ := msg_cellsS hmb
  have hT0 := hT
  have hK0 := hK
  have hm0 := hmb
  have hs0 := hs
  clear hT hK hmb hs
  go_quiet (fail)
  go_wp2_with fail
  have hT1 := hT0.drewN nq
  have hK1 := hK0.trans (keepM_drewN nq hT0.base)
  have hm1 := ms_at hm0 (keepM_drewN nq hT0.base)
  have hs1 := hs0.keep (keepM_drewN nq hT0.base).toKeep
  clear k0 k1 k2 k3 k4 k5 k6 k7 k8 k9 k10 k11 k12 kz kL kH ca0 ca1 ca2 ca3 ca4 ca5 ca6 ca7 hT0 hs0 hm0 hK0
  generalize W.drewN nq = V at *
  obtain ⟨sl, ⟨l0, l1, l2, l3, l4, l5, l6, l7, l8, l9, l10, l11, l12⟩, lz, lL, lH⟩ := hT1.cells
  obtain ⟨cb0, cb1, cb2, cb3, cb4, cb5, cb6, cb7⟩ := msg_cellsS hm1
  clear d1 he
  go_quiet (fail)
  have hTX := hT1.drewN nq
  have hKX := hK1.trans (keepM_drewN nq hT1.base)
  have hmX := ms_at hm1 (keepM_drewN nq hT1.base)
  have hsX := hs1.keep (keepM_drewN nq hT1.base).toKeep
  have hch := rchangesS_any B g r m.a3 (V.drewN nq) hTX
  have hL1 := allM_len5 (show OneOf (changeR r m.a3).id (changeR r m.a3).n from hT1.one) (msg 4 0 0 0 [])
  have hL2 := statesR_len (show OneOf (changeR r m.a3).id (changeR r m.a3).n from hT1.one) m.a1 m.a6 m.a5 m.log
  have hv2 : (changeR r m.a3).voters.length ≤ 20 := by show ([] : List Int).length ≤ 20; simp
  have hh2 : (changeR r m.a3).how = 1 := rfl
  obtain ⟨q, hq⟩ : ∃ q, q = changeR r m.a3 := ⟨_, rfl⟩
  obtain ⟨p, hp⟩ : ∃ p, p = statesR (changeR r m.a3) m.a1 m.a6 m.a5 m.log := ⟨_, rfl⟩
  rw [← hp] at hL2
  rw [← hq] at hch hL1 hv2 hh2 hp
  obtain ⟨l0, hl0⟩ : ∃ l0, l0 = allM q (msg 4 0 0 0 []) := ⟨_, rfl⟩
  rw [← hl0] at hch hL1
  have HP : Hid (p = statesR q m.a1 m.a6 m.a5 m.log) := hp
  have HL : Hid (l0 = allM q (msg 4 0 0 0 [])) := hl0
  have HQ : Hid (q = changeR r m.a3) := hq
  clear hp hq hl0
  have hlen : l0.length + p.2.length ≤ 100000 := by omega
  go_wp2_with (first
    | (go_at_call 52; refine hch.mono ?_; rintro e w1 ⟨v1, rfl, hO1, hT1', hK1'⟩; obtain ⟨ao1, c1, rfl⟩ := hO1.shape
       obtain ⟨_, ⟨_, _, _, _, n4, _⟩, _⟩ := hT1'.cells
       rw [hh2] at n4
       obtain ⟨y0, y1, y2, y3, y4, y5, y6, y7⟩ := msg_cellsS (ms_at hmX hK1')
       have hst := rstates_any B g q m.a1 m.a6 m.a5 m.log bo c hv2 hml w1 hT1' (hsX.keep hK1'.toKeep)
       rw [← HP.out] at hst
       clear hh2)
    | (go_at_call 56; refine hst.mono ?_; rintro e w2 ⟨v2, rfl, hO2, hT2, hK2⟩; obtain ⟨ao2, c2, rfl⟩ := hO2.shape
       have hO1b := ownO_keep hO1 hK2)
    | (obtain ⟨css1, a1, a2, a3, a4⟩ := hO1b; obtain ⟨css2, b1, b2, b3, b4⟩ := hO2; at_builtin; refine wpList_app_g Tryz.underlying35 Tryz.infoMs (by decide) _ rfl _ _ rfl B _ _ _ rfl a3 _ _ _ _ rfl (own_src b3 (flat_one b2)) hlen hT2.base ?_; intro v9 w9 hown9 hgrow9 _
       obtain ⟨hO9, hst9⟩ := ownO_behind (v2 := .slice none 0 0) a1 a2 a3 a4 b1 b2 b4 hown9 hgrow9
       have hT9 := hT2.stay hst9 (by decide) (by decide) (by decide)
       have hlow9 := (Below.refl B _).grown hgrow9 hT2.base (fun j hj => (a3.lt j hj).1)))
  go_ret
  rw [HP.out, HL.out, HQ.out] at hO9
  rw [HP.out, HQ.out] at hT9
  exact ⟨_, rfl, hO9, hT9, ((hKX.trans hK1').trans hK2).low.trans hlow9⟩
theorem rstate_any (B g : Nat) (r : Rep) (m : Msg) (bo : Option Addr) (c : Nat) (hv : 0 ≤ m.a3 ∧ m.a3 < 1099511627776) (hvl : r.voters.length ≤ 20) (hml : m.log.length ≤ 1000) (w : World) (h : TurnR B w g r) (hs : SrcE B w bo c m.log) :
    Calls Tryz.prog 29 #[.pointer (some ⟨g, 0, none⟩), msV m bo c] w fun e w' => ∃ v, e = .returned v ∧ OwnO B w' v (stateH r m).2 ∧ TurnR B w' g (stateH r m).1 ∧ Below B w w' := by
  by_cases h1 : m.a3 < r.view
  · exact rstate_a B g r m bo c hv hvl hml h1 w h hs
  · by_cases h2 : m.a3 % r.n = r.id
    · by_cases h3 : m.a3 = r.view
      · by_cases h4 : r.how = 1
        · exact rstate_d B g r m bo c hv hvl hml h1 h2 h3 h4 w h hs
        · exact rstate_c B g r m bo c hv hvl hml h1 h2 h3 h4 w h hs
      · exact rstate_e B g r m bo c hv hvl hml h1 h2 h3 w h hs
    · exact rstate_b B g r m bo c hv hvl hml h1 h2 w h hs
end Go.Proofs.YtgdehjdajjhjpabGreat
