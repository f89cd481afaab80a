/-
  A replica at work beside a message's box: one more among its votes, its voters; another best log.
-/
import Derived.Test.YtajbdffepfjegaaGreatRpG14
import Derived.Deep.RegionHeldLaw
namespace Go.Proofs.YtajbdffepfjegaaGreat
open Go.RowKit Num
open scoped Classical
set_option linter.unusedVariables false
set_option maxRecDepth 100000

theorem row_other {w w' : World} {B n n' : Nat} {u v : Value} {xs : List Value} (h : w.ownsRow B 3 1 u n xs) (hgr : w.grownBy w' v.ownBlock) (ha : Apart u v) : w'.ownsRow B 3 1 u n xs := h.kept hgr (by
  cases hu : u.ownBlock with
  | none => exact .inl rfl
  | some j => exact .inr (fun e => ha j hu e.symm))
theorem apart_near {w w' : World} {B n : Nat} {u v v' : Value} {xs : List Value} (h : w.ownsRow B 3 1 u n xs) (ha : Apart u v) (hn : Near w v v') : Apart u v' := fun k h1 h2 => by
  rcases hn with e | ⟨q, e, hq⟩
  · exact ha k h1 (e.symm.trans h2)
  · rw [h2] at e
    cases e
    have := (h.lt k h1).2
    omega
theorem tm_votes {M : Nat × Obj} {B : Nat} {w : World} {g : Nat} {r : Rep} {o : Msgs} (h : TM M B w g r o) (k : Int) (l : List Int) :
    ∃ ao cap, w.cell? ⟨g, 8, none⟩ = some (.slice ao r.votes.length cap) ∧ w.ownsRow B 3 1 (.slice ao r.votes.length cap) r.votes.length (inCells r.votes) ∧
      ∀ (w' : World) (v' : Value), Joined B (w.alloc (.cells #[.int .i64 k] 3)) w' (.slice ao r.votes.length cap) v' l → w'.cell? ⟨g, 8, none⟩ = some (.slice ao r.votes.length cap) ∧ w'.frozen? ⟨g, 8, none⟩ = false ∧ TM M B (w'.setCell ⟨g, 8, none⟩ v') g { r with votes := l } o ∧ Keep B w (w'.setCell ⟨g, 8, none⟩ v') := by
  obtain ⟨⟨vl, va, vv, vw, vb, x, hH, ho, hx⟩, hM, hne, hty, hB, h1, hl0, hb, ha⟩ := h
  obtain ⟨ao, cap, rfl, _⟩ := ownN_lies hH.rows.vot
  refine ⟨ao, cap, hH.box.cell 8 (by omega), hH.rows.vot, fun w' v' hJ => ?_⟩
  have hbA : Below w.heap.size w (w.alloc (.cells #[.int .i64 k] 3)) := (Below.refl _ w).alloc (Nat.le_refl _) _
  have hA := hH.below hbA
  have hs : Stay (fun _ => False) 3 (w.alloc (.cells #[.int .i64 k] 3)) w' := Stay.grown hA.rows.vot hJ.grown
  have hlow : Below B (w.alloc (.cells #[.int .i64 k] 3)) w' := (Below.refl B _).grown hJ.grown (Nat.le_trans hB hbA.size) (fun j hj => (hA.rows.vot.lt j hj).1)
  have hbox := hA.box.stay hs (by decide)
  have hrows : RowsR B w' r.log r.best r.acked l r.voters vl va v' vw vb := ⟨own_stay hA.rows.log hs (by decide) (fun _ h => h), own_stay hA.rows.best hs (by decide) (fun _ h => h), row_other (n' := 0) hA.rows.ack hJ.grown hA.rows.a2, hJ.own, row_other (n' := 0) hA.rows.vor hJ.grown hA.rows.a4.symm, hA.rows.a1, apart_near (w' := w) hA.rows.ack hA.rows.a2 hJ.near, hA.rows.a3, (apart_near (w' := w) hA.rows.vor hA.rows.a4.symm hJ.near).symm⟩
  have hset := hbox.set 8 v'
  have hst := hbox.stays 8 v'
  have hK1 : Keep B w w' := (Keep.of_below hbA hB).trans (Keep.of_stay hlow hs (by decide))
  have hK2 := hK1.trans (hbox.keep 8 v' hH.base (by decide))
  refine ⟨hbox.cell 8 (by omega), hbox.unfrozen 8, ⟨⟨vl, va, v', vw, vb, x, ⟨(sets_box [(8, v')] hbox).1.ext14 (by omega) ⟨rfl, rfl, rfl, rfl, rfl, rfl, rfl, rfl, rfl, rfl, rfl, rfl, rfl, rfl⟩, hH.base, hrows.stay hst (by decide) (by decide)⟩, ownO_stay (ownO_stay (ownO_below ho hbA) hs (by decide) (by decide)) hst (by decide) (by decide), hx⟩, msg_stay hty (msg_stay hty ((hbA.block _ (Array.getElem?_eq_some_iff.1 hM).1).trans hM) hs (by decide)) hst (by decide), hne, hty, Nat.le_trans hB hK2.low.size, h1, hl0, hb, ha⟩, hK2⟩
theorem tm_voters {M : Nat × Obj} {B : Nat} {w : World} {g : Nat} {r : Rep} {o : Msgs} (h : TM M B w g r o) (k : Int) (l : List Int) :
    ∃ ao cap, w.cell? ⟨g, 9, none⟩ = some (.slice ao r.voters.length cap) ∧ w.ownsRow B 3 1 (.slice ao r.voters.length cap) r.voters.length (inCells r.voters) ∧
      ∀ (w' : World) (v' : Value), Joined B (w.alloc (.cells #[.int .i64 k] 3)) w' (.slice ao r.voters.length cap) v' l → w'.cell? ⟨g, 9, none⟩ = some (.slice ao r.voters.length cap) ∧ w'.frozen? ⟨g, 9, none⟩ = false ∧ TM M B (w'.setCell ⟨g, 9, none⟩ v') g { r with voters := l } o ∧ Keep B w (w'.setCell ⟨g, 9, none⟩ v') := by
  obtain ⟨⟨vl, va, vv, vw, vb, x, hH, ho, hx⟩, hM, hne, hty, hB, h1, hl0, hb, ha⟩ := h
  obtain ⟨ao, cap, rfl, _⟩ := ownN_lies hH.rows.vor
  refine ⟨ao, cap, hH.box.cell 9 (by omega), hH.rows.vor, fun w' v' hJ => ?_⟩
  have hbA : Below w.heap.size w (w.alloc (.cells #[.int .i64 k] 3)) := (Below.refl _ w).alloc (Nat.le_refl _) _
  have hA := hH.below hbA
  have hs : Stay (fun _ => False) 3 (w.alloc (.cells #[.int .i64 k] 3)) w' := Stay.grown hA.rows.vor hJ.grown
  have hlow : Below B (w.alloc (.cells #[.int .i64 k] 3)) w' := (Below.refl B _).grown hJ.grown (Nat.le_trans hB hbA.size) (fun j hj => (hA.rows.vor.lt j hj).1)
  have hbox := hA.box.stay hs (by decide)
  have hrows : RowsR B w' r.log r.best r.acked r.votes l vl va vv v' vb := ⟨own_stay hA.rows.log hs (by decide) (fun _ h => h), own_stay hA.rows.best hs (by decide) (fun _ h => h), row_other (n' := 0) hA.rows.ack hJ.grown hA.rows.a3, row_other (n' := 0) hA.rows.vot hJ.grown hA.rows.a4, hJ.own, hA.rows.a1, hA.rows.a2, apart_near (w' := w) hA.rows.ack hA.rows.a3 hJ.near, apart_near (w' := w) hA.rows.vot hA.rows.a4 hJ.near⟩
  have hset := hbox.set 9 v'
  have hst := hbox.stays 9 v'
  have hK1 : Keep B w w' := (Keep.of_below hbA hB).trans (Keep.of_stay hlow hs (by decide))
  have hK2 := hK1.trans (hbox.keep 9 v' hH.base (by decide))
  refine ⟨hbox.cell 9 (by omega), hbox.unfrozen 9, ⟨⟨vl, va, vv, v', vb, x, ⟨(sets_box [(9, v')] hbox).1.ext14 (by omega) ⟨rfl, rfl, rfl, rfl, rfl, rfl, rfl, rfl, rfl, rfl, rfl, rfl, rfl, rfl⟩, hH.base, hrows.stay hst (by decide) (by decide)⟩, ownO_stay (ownO_stay (ownO_below ho hbA) hs (by decide) (by decide)) hst (by decide) (by decide), hx⟩, msg_stay hty (msg_stay hty ((hbA.block _ (Array.getElem?_eq_some_iff.1 hM).1).trans hM) hs (by decide)) hst (by decide), hne, hty, Nat.le_trans hB hK2.low.size, h1, hl0, hb, ha⟩, hK2⟩
/-- Another best log, the call's own. -/
theorem tm_best {M : Nat × Obj} {B : Nat} {w : World} {g : Nat} {r : Rep} {o : Msgs} (h : TM M B w g r o) {w1 : World} (hb1 : Below w.heap.size w w1) (log : List Ent) (hl : log.length ≤ 1000) (was : Int) {ao : Option Addr} {cap : Nat} (hown : w1.ownsRow w.heap.size 48 2 (.slice ao log.length cap) log.length (enCells log)) :
    TM M B ((w1.setCell ⟨g, 10, none⟩ (.slice ao log.length cap)).setCell ⟨g, 11, none⟩ (.int .i64 was)) g { r with best := log, bestView := was } o ∧ Keep B w ((w1.setCell ⟨g, 10, none⟩ (.slice ao log.length cap)).setCell ⟨g, 11, none⟩ (.int .i64 was)) := by
  obtain ⟨⟨vl, va, vv, vw, vb, x, h, ho, hx⟩, hM, hne, hty, hB, h1, hl0, hb, ha⟩ := h
  have h' := h.below hb1
  have ho' := ownO_below ho hb1
  have hk := (Keep.of_below hb1 hB).trans (sets_keep h'.base h'.box (by decide) [(10, .slice ao log.length cap), (11, .int .i64 was)])
  exact ⟨⟨⟨_, _, _, _, _, _, hold_sets h' (by omega) (by decide) (by decide) [(10, .slice ao log.length cap), (11, .int .i64 was)] (r' := { r with best := log, bestView := was }) (x' := x) ⟨h'.rows.log, own_mono hown hB, h'.rows.ack, h'.rows.vot, h'.rows.vor, apart_new h.rows.log hown, h'.rows.a2, h'.rows.a3, h'.rows.a4⟩ (fun f f' e e' => by subst e e'; exact ⟨rfl, rfl, rfl, rfl, rfl, rfl, rfl, rfl, rfl, rfl, rfl, rfl, rfl, rfl⟩), ownO_stay ho' (sets_box [(10, .slice ao log.length cap), (11, .int .i64 was)] h'.box).2 (by decide) (by decide), hx⟩, msg_stay hty ((hb1.block _ (Array.getElem?_eq_some_iff.1 hM).1).trans hM) (sets_box [(10, .slice ao log.length cap), (11, .int .i64 was)] h'.box).2 (by decide), hne, hty, Nat.le_trans hB hk.low.size, h1, hl0, hl, ha⟩, hk⟩
/-- The best log, and what is done of it. -/
def Num.doneR (r : Rep) (com : Int) : Rep := { r with bestDone := min (max r.bestDone com) (r.best.length : Int) }
def Num.keepR (r : Rep) (was com : Int) (log : List Ent) : Rep := doneR (if r.bestView < was ∨ was = r.bestView ∧ r.best.length < log.length then { r with best := log, bestView := was } else r) com
theorem bestR_keep (r : Rep) (frm was com : Int) (log : List Ent) : bestR r frm was com log = keepR { r with voters := addI r.voters frm } was com log := by
  unfold bestR keepR doneR
  rfl
set_option maxRecDepth 100000 in
set_option maxHeartbeats 1000000 in
theorem keepBesta (B g : Nat) (r : Rep) (o : Msgs) (m : Msg) (bo : Option Addr) (c : Nat) (hc : r.bestView < m.a6) (hml : m.log.length ≤ 1000) (hol : o.length ≤ 50) (w : World) (h : Turn B w g r o) (hs : SrcE B w bo c m.log) :
    Calls Tryz.prog 88 #[.pointer (some ⟨g, 0, none⟩), msV m bo c] w fun e w' => e = .returned (.tuple #[]) ∧ Turn B w' g (doneR { r with best := m.log, bestView := m.a6 } m.a5) o ∧ Keep B w w' := by
  have hT := tm_new h #[.int .i64 m.a0, .int .i64 m.a1, .int .i64 m.a2, .int .i64 m.a3, .int .i64 m.a4, .int .i64 m.a5, .int .i64 m.a6, .slice bo m.log.length c]
  have hgw : w.heap.size ≠ g := hT.ne
  have hlow : Below w.heap.size w (w.alloc (.cells #[.int .i64 m.a0, .int .i64 m.a1, .int .i64 m.a2, .int .i64 m.a3, .int .i64 m.a4, .int .i64 m.a5, .int .i64 m.a6, .slice bo m.log.length c] 27)) := (Below.refl _ w).alloc (Nat.le_refl _) _
  have hK := Keep.of_below hlow h.base
  have hs := hs.keep hK
  have hB := h.base
  have HC : Hid (r.bestView < m.a6) := hc
  clear hc
  go_enter Tryz.func88, Tryz.ntmps88
  go_wp2_with fail
  clear h
  have hmlt : w.heap.size < (w.alloc (.cells #[.int .i64 m.a0, .int .i64 m.a1, .int .i64 m.a2, .int .i64 m.a3, .int .i64 m.a4, .int .i64 m.a5, .int .i64 m.a6, .slice bo m.log.length c] 27)).heap.size := by simp
  have hmb : (w.alloc (.cells #[.int .i64 m.a0, .int .i64 m.a1, .int .i64 m.a2, .int .i64 m.a3, .int .i64 m.a4, .int .i64 m.a5, .int .i64 m.a6, .slice bo m.log.length c] 27)).heap[w.heap.size]? = some (.cells #[.int .i64 m.a0, .int .i64 m.a1, .int .i64 m.a2, .int .i64 m.a3, .int .i64 m.a4, .int .i64 m.a5, .int .i64 m.a6, .slice bo m.log.length c] 27 (0, 0)) := hT.box
  obtain ⟨MB, hMB⟩ : ∃ M : Nat × Obj, M = (w.heap.size, .cells #[.int .i64 m.a0, .int .i64 m.a1, .int .i64 m.a2, .int .i64 m.a3, .int .i64 m.a4, .int .i64 m.a5, .int .i64 m.a6, .slice bo m.log.length c] 27 (0, 0)) := ⟨_, rfl⟩
  have HMX : Hid (∀ (w3 : World) (r' : Rep) (o' : Msgs), TM MB B w3 g r' o' → w3.heap[w.heap.size]? = some (.cells #[.int .i64 m.a0, .int .i64 m.a1, .int .i64 m.a2, .int .i64 m.a3, .int .i64 m.a4, .int .i64 m.a5, .int .i64 m.a6, .slice bo m.log.length c] 27 (0, 0))) := fun w3 r' o' h3 => by
    have := h3.box
    rw [hMB] at this
    exact this
  rw [← hMB] at hT
  clear hMB
  generalize (w.alloc (.cells #[.int .i64 m.a0, .int .i64 m.a1, .int .i64 m.a2, .int .i64 m.a3, .int .i64 m.a4, .int .i64 m.a5, .int .i64 m.a6, .slice bo m.log.length c] 27)) = W at *
  obtain ⟨sk, xok, xck, ⟨k0, k1, k2, k3, k4, k5, k6, k7, k8, k9, k10, k11, k12, k13⟩, kz, _, kH, _⟩ := hT.turn.cells
  obtain ⟨c0, c1, c2, c3, c4, c5, c6, c7⟩ := msg_cells hmb
  have hq : decide (r.bestView < m.a6) = true := decide_eq_true HC.out
  go_quiet (fail)
  go_wp2_with fail
  skip
  have hTV := hT.drewN nq
  have hKV := hK.trans (keep_drewN nq hT.base)
  have hsV := hs.keep (keep_drewN nq hT.base)
  clear k0 k1 k2 k3 k4 k5 k6 k7 k8 k9 k10 k11 k12 k13 kz kH c0 c1 c2 c3 c4 c5 c6 c7 hT hs
  generalize W.drewN nq = V at *
  have hbV := HMX.out _ _ _ hTV
  obtain ⟨sl, xol, xcl, ⟨l0, l1, l2, l3, l4, l5, l6, l7, l8, l9, l10, l11, l12, l13⟩, lz, _, lH, _⟩ := hTV.turn.cells
  obtain ⟨d0, d1, d2, d3, d4, d5, d6, d7⟩ := msg_cells hbV
  have hcl := cloneE_any bo m.log.length c (enCells m.log) (by omega) V.drew (liesE_src ((hsV.keep (Keep.refl _ _).drew).lies hTV.drew.base))
  go_region_held_law (fun w' : World => w'.cell? ⟨w.heap.size, 6, none⟩ = some (.int .i64 m.a6) ∧ w'.cell? ⟨w.heap.size, 7, none⟩ = some (.slice bo m.log.length c)) (first | with_reducible exact hS0 | with_reducible exact hS1 | with_reducible exact hS2 | with_reducible exact hS3 | exact ⟨d6, d7⟩)
    (first
    | (go_at_call 52; refine hcl.mono ?_; rintro e w2 ⟨ao2, cap2, rfl, hown2, hb2⟩
       obtain ⟨hT3, hK3⟩ := tm_best hTV.drew hb2 m.log hml m.a6 hown2
       obtain ⟨s2, xo2, xc2, ⟨_, _, _, _, _, _, _, _, _, _, q10, q11, _⟩, qz, _⟩ := (hTV.drew.below hb2).turn.cells
       obtain ⟨_, _, _, _, _, _, e6, e7⟩ := msg_cells (HMX.out _ _ _ (hTV.drew.below hb2))
       have hS1 : w2.cell? ⟨w.heap.size, 6, none⟩ = some (.int .i64 m.a6) ∧ w2.cell? ⟨w.heap.size, 7, none⟩ = some (.slice bo m.log.length c) := ⟨e6, e7⟩
       obtain ⟨_, _, _, _, _, _, j6, j7⟩ := msg_cells ((Below.heap_setCell w2 ⟨g, 10, none⟩ (.slice ao2 m.log.length cap2) _ hgw).trans (HMX.out _ _ _ (hTV.drew.below hb2)))
       have hS3 : (w2.setCell ⟨g, 10, none⟩ (.slice ao2 m.log.length cap2)).cell? ⟨w.heap.size, 6, none⟩ = some (.int .i64 m.a6) ∧ (w2.setCell ⟨g, 10, none⟩ (.slice ao2 m.log.length cap2)).cell? ⟨w.heap.size, 7, none⟩ = some (.slice bo m.log.length c) := ⟨j6, j7⟩
       obtain ⟨_, _, _, _, _, _, f6, f7⟩ := msg_cells (HMX.out _ _ _ hT3)
       have hS2 : ((w2.setCell ⟨g, 10, none⟩ (.slice ao2 m.log.length cap2)).setCell ⟨g, 11, none⟩ (.int .i64 m.a6)).cell? ⟨w.heap.size, 6, none⟩ = some (.int .i64 m.a6) ∧ ((w2.setCell ⟨g, 10, none⟩ (.slice ao2 m.log.length cap2)).setCell ⟨g, 11, none⟩ (.int .i64 m.a6)).cell? ⟨w.heap.size, 7, none⟩ = some (.slice bo m.log.length c) := ⟨f6, f7⟩))
  have hT3 := hT3
  clear hS1 hS2 hS3 q10 q11 qz e6 e7 f6 f7 j6 j7 hown2 hcl
  generalize (w2.setCell ⟨g, 10, none⟩ (.slice ao2 m.log.length cap2)).setCell ⟨g, 11, none⟩ (.int .i64 m.a6) = X at *
  obtain ⟨hT5, hK5⟩ := tm_sets hT3 [(12, .int .i64 (min (max r.bestDone m.a5) (m.log.length : Int)))] (doneR { r with best := m.log, bestView := m.a6 } m.a5) (fun _ _ _ _ _ _ f f' e e' => by subst e e'; exact ⟨rfl, rfl, rfl, rfl, rfl, rfl, rfl, rfl, rfl, rfl, rfl, rfl, rfl, rfl⟩) rfl rfl rfl rfl rfl rfl rfl
  simp only [sets] at hT5 hK5
  obtain ⟨s5, xo5, xc5, ⟨_, _, _, _, _, _, _, _, _, _, p10, _, p12, _⟩, pz, _⟩ := hT3.turn.cells
  have p10' : X.cell? ⟨g, 10, none⟩ = some (.slice s5.bo m.log.length s5.bc) := p10
  have p12' : X.cell? ⟨g, 12, none⟩ = some (.int .i64 r.bestDone) := p12
  obtain ⟨_, _, _, _, _, v5, _, _⟩ := msg_cells (HMX.out _ _ _ hT3)
  clear p10 p12
  go_wp2_with fail
  go_region
  go_wp2
  first
    | go_end0
    | refine bodyPost_ret (results_none rfl _ _ _) rfl ?_
  exact ⟨rfl, hT5.drew.turn, ((hKV.trans ((Keep.refl _ _).drew.trans hK3)).trans hK5).drew⟩
set_option maxRecDepth 100000 in
set_option maxHeartbeats 1000000 in
theorem keepBestb (B g : Nat) (r : Rep) (o : Msgs) (m : Msg) (bo : Option Addr) (c : Nat) (hc : ¬ r.bestView < m.a6 ∧ m.a6 = r.bestView ∧ r.best.length < m.log.length) (hml : m.log.length ≤ 1000) (hol : o.length ≤ 50) (w : World) (h : Turn B w g r o) (hs : SrcE B w bo c m.log) :
    Calls Tryz.prog 88 #[.pointer (some ⟨g, 0, none⟩), msV m bo c] w fun e w' => e = .returned (.tuple #[]) ∧ Turn B w' g (doneR { r with best := m.log, bestView := m.a6 } m.a5) o ∧ Keep B w w' := by
  have hT := tm_new h #[.int .i64 m.a0, .int .i64 m.a1, .int .i64 m.a2, .int .i64 m.a3, .int .i64 m.a4, .int .i64 m.a5, .int .i64 m.a6, .slice bo m.log.length c]
  have hgw : w.heap.size ≠ g := hT.ne
  have hlow : Below w.heap.size w (w.alloc (.cells #[.int .i64 m.a0, .int .i64 m.a1, .int .i64 m.a2, .int .i64 m.a3, .int .i64 m.a4, .int .i64 m.a5, .int .i64 m.a6, .slice bo m.log.length c] 27)) := (Below.refl _ w).alloc (Nat.le_refl _) _
  have hK := Keep.of_below hlow h.base
  have hs := hs.keep hK
  have hB := h.base
  have HC : Hid (¬ r.bestView < m.a6 ∧ m.a6 = r.bestView ∧ r.best.length < m.log.length) := hc
  clear hc
  go_enter Tryz.func88, Tryz.ntmps88
  go_wp2_with fail
  clear h
  have hmlt : w.heap.size < (w.alloc (.cells #[.int .i64 m.a0, .int .i64 m.a1, .int .i64 m.a2, .int .i64 m.a3, .int .i64 m.a4, .int .i64 m.a5, .int .i64 m.a6, .slice bo m.log.length c] 27)).heap.size := by simp
  have hmb : (w.alloc (.cells #[.int .i64 m.a0, .int .i64 m.a1, .int .i64 m.a2, .int .i64 m.a3, .int .i64 m.a4, .int .i64 m.a5, .int .i64 m.a6, .slice bo m.log.length c] 27)).heap[w.heap.size]? = some (.cells #[.int .i64 m.a0, .int .i64 m.a1, .int .i64 m.a2, .int .i64 m.a3, .int .i64 m.a4, .int .i64 m.a5, .int .i64 m.a6, .slice bo m.log.length c] 27 (0, 0)) := hT.box
  obtain ⟨MB, hMB⟩ : ∃ M : Nat × Obj, M = (w.heap.size, .cells #[.int .i64 m.a0, .int .i64 m.a1, .int .i64 m.a2, .int .i64 m.a3, .int .i64 m.a4, .int .i64 m.a5, .int .i64 m.a6, .slice bo m.log.length c] 27 (0, 0)) := ⟨_, rfl⟩
  have HMX : Hid (∀ (w3 : World) (r' : Rep) (o' : Msgs), TM MB B w3 g r' o' → w3.heap[w.heap.size]? = some (.cells #[.int .i64 m.a0, .int .i64 m.a1, .int .i64 m.a2, .int .i64 m.a3, .int .i64 m.a4, .int .i64 m.a5, .int .i64 m.a6, .slice bo m.log.length c] 27 (0, 0))) := fun w3 r' o' h3 => by
    have := h3.box
    rw [hMB] at this
    exact this
  rw [← hMB] at hT
  clear hMB
  generalize (w.alloc (.cells #[.int .i64 m.a0, .int .i64 m.a1, .int .i64 m.a2, .int .i64 m.a3, .int .i64 m.a4, .int .i64 m.a5, .int .i64 m.a6, .slice bo m.log.length c] 27)) = W at *
  obtain ⟨sk, xok, xck, ⟨k0, k1, k2, k3, k4, k5, k6, k7, k8, k9, k10, k11, k12, k13⟩, kz, _, kH, _⟩ := hT.turn.cells
  obtain ⟨c0, c1, c2, c3, c4, c5, c6, c7⟩ := msg_cells hmb
  have hq : decide (r.bestView < m.a6) = false := decide_eq_false (by have := HC.out.1; omega)
  have hq2 : (m.a6 == r.bestView) = true := by rw [HC.out.2.1]; simp
  have hq3 : decide ((r.best.length : Int) < (m.log.length : Int)) = true := decide_eq_true (by have := HC.out.2.2; omega)
  have hq4 : r.best.length < m.log.length := HC.out.2.2
  go_quiet (fail)
  go_wp2_with fail
  clear hq hq2 hq3 hq4
  have hTV := hT.drewN nq
  have hKV := hK.trans (keep_drewN nq hT.base)
  have hsV := hs.keep (keep_drewN nq hT.base)
  clear k0 k1 k2 k3 k4 k5 k6 k7 k8 k9 k10 k11 k12 k13 kz kH c0 c1 c2 c3 c4 c5 c6 c7 hT hs
  generalize W.drewN nq = V at *
  have hbV := HMX.out _ _ _ hTV
  obtain ⟨sl, xol, xcl, ⟨l0, l1, l2, l3, l4, l5, l6, l7, l8, l9, l10, l11, l12, l13⟩, lz, _, lH, _⟩ := hTV.turn.cells
  obtain ⟨d0, d1, d2, d3, d4, d5, d6, d7⟩ := msg_cells hbV
  have hcl := cloneE_any bo m.log.length c (enCells m.log) (by omega) V.drew (liesE_src ((hsV.keep (Keep.refl _ _).drew).lies hTV.drew.base))
  go_region_held_law (fun w' : World => w'.cell? ⟨w.heap.size, 6, none⟩ = some (.int .i64 m.a6) ∧ w'.cell? ⟨w.heap.size, 7, none⟩ = some (.slice bo m.log.length c)) (first | with_reducible exact hS0 | with_reducible exact hS1 | with_reducible exact hS2 | with_reducible exact hS3 | exact ⟨d6, d7⟩)
    (first
    | (go_at_call 52; refine hcl.mono ?_; rintro e w2 ⟨ao2, cap2, rfl, hown2, hb2⟩
       obtain ⟨hT3, hK3⟩ := tm_best hTV.drew hb2 m.log hml m.a6 hown2
       obtain ⟨s2, xo2, xc2, ⟨_, _, _, _, _, _, _, _, _, _, q10, q11, _⟩, qz, _⟩ := (hTV.drew.below hb2).turn.cells
       obtain ⟨_, _, _, _, _, _, e6, e7⟩ := msg_cells (HMX.out _ _ _ (hTV.drew.below hb2))
       have hS1 : w2.cell? ⟨w.heap.size, 6, none⟩ = some (.int .i64 m.a6) ∧ w2.cell? ⟨w.heap.size, 7, none⟩ = some (.slice bo m.log.length c) := ⟨e6, e7⟩
       obtain ⟨_, _, _, _, _, _, j6, j7⟩ := msg_cells ((Below.heap_setCell w2 ⟨g, 10, none⟩ (.slice ao2 m.log.length cap2) _ hgw).trans (HMX.out _ _ _ (hTV.drew.below hb2)))
       have hS3 : (w2.setCell ⟨g, 10, none⟩ (.slice ao2 m.log.length cap2)).cell? ⟨w.heap.size, 6, none⟩ = some (.int .i64 m.a6) ∧ (w2.setCell ⟨g, 10, none⟩ (.slice ao2 m.log.length cap2)).cell? ⟨w.heap.size, 7, none⟩ = some (.slice bo m.log.length c) := ⟨j6, j7⟩
       obtain ⟨_, _, _, _, _, _, f6, f7⟩ := msg_cells (HMX.out _ _ _ hT3)
       have hS2 : ((w2.setCell ⟨g, 10, none⟩ (.slice ao2 m.log.length cap2)).setCell ⟨g, 11, none⟩ (.int .i64 m.a6)).cell? ⟨w.heap.size, 6, none⟩ = some (.int .i64 m.a6) ∧ ((w2.setCell ⟨g, 10, none⟩ (.slice ao2 m.log.length cap2)).setCell ⟨g, 11, none⟩ (.int .i64 m.a6)).cell? ⟨w.heap.size, 7, none⟩ = some (.slice bo m.log.length c) := ⟨f6, f7⟩))
  have hT3 := hT3
  clear hS1 hS2 hS3 q10 q11 qz e6 e7 f6 f7 j6 j7 hown2 hcl
  generalize (w2.setCell ⟨g, 10, none⟩ (.slice ao2 m.log.length cap2)).setCell ⟨g, 11, none⟩ (.int .i64 m.a6) = X at *
  obtain ⟨hT5, hK5⟩ := tm_sets hT3 [(12, .int .i64 (min (max r.bestDone m.a5) (m.log.length : Int)))] (doneR { r with best := m.log, bestView := m.a6 } m.a5) (fun _ _ _ _ _ _ f f' e e' => by subst e e'; exact ⟨rfl, rfl, rfl, rfl, rfl, rfl, rfl, rfl, rfl, rfl, rfl, rfl, rfl, rfl⟩) rfl rfl rfl rfl rfl rfl rfl
  simp only [sets] at hT5 hK5
  obtain ⟨s5, xo5, xc5, ⟨_, _, _, _, _, _, _, _, _, _, p10, _, p12, _⟩, pz, _⟩ := hT3.turn.cells
  have p10' : X.cell? ⟨g, 10, none⟩ = some (.slice s5.bo m.log.length s5.bc) := p10
  have p12' : X.cell? ⟨g, 12, none⟩ = some (.int .i64 r.bestDone) := p12
  obtain ⟨_, _, _, _, _, v5, _, _⟩ := msg_cells (HMX.out _ _ _ hT3)
  clear p10 p12
  go_wp2_with fail
  go_region
  go_wp2
  first
    | go_end0
    | refine bodyPost_ret (results_none rfl _ _ _) rfl ?_
  exact ⟨rfl, hT5.drew.turn, ((hKV.trans ((Keep.refl _ _).drew.trans hK3)).trans hK5).drew⟩
set_option maxRecDepth 100000 in
set_option maxHeartbeats 1000000 in
theorem keepBestc (B g : Nat) (r : Rep) (o : Msgs) (m : Msg) (bo : Option Addr) (c : Nat) (hc : ¬ r.bestView < m.a6 ∧ m.a6 = r.bestView ∧ ¬ r.best.length < m.log.length) (hml : m.log.length ≤ 1000) (hol : o.length ≤ 50) (w : World) (h : Turn B w g r o) (hs : SrcE B w bo c m.log) :
    Calls Tryz.prog 88 #[.pointer (some ⟨g, 0, none⟩), msV m bo c] w fun e w' => e = .returned (.tuple #[]) ∧ Turn B w' g (doneR r m.a5) o ∧ Keep B w w' := by
  have hT := tm_new h #[.int .i64 m.a0, .int .i64 m.a1, .int .i64 m.a2, .int .i64 m.a3, .int .i64 m.a4, .int .i64 m.a5, .int .i64 m.a6, .slice bo m.log.length c]
  have hgw : w.heap.size ≠ g := hT.ne
  have hlow : Below w.heap.size w (w.alloc (.cells #[.int .i64 m.a0, .int .i64 m.a1, .int .i64 m.a2, .int .i64 m.a3, .int .i64 m.a4, .int .i64 m.a5, .int .i64 m.a6, .slice bo m.log.length c] 27)) := (Below.refl _ w).alloc (Nat.le_refl _) _
  have hK := Keep.of_below hlow h.base
  have hs := hs.keep hK
  have hB := h.base
  have HC : Hid (¬ r.bestView < m.a6 ∧ m.a6 = r.bestView ∧ ¬ r.best.length < m.log.length) := hc
  clear hc
  go_enter Tryz.func88, Tryz.ntmps88
  go_wp2_with fail
  clear h
  have hmlt : w.heap.size < (w.alloc (.cells #[.int .i64 m.a0, .int .i64 m.a1, .int .i64 m.a2, .int .i64 m.a3, .int .i64 m.a4, .int .i64 m.a5, .int .i64 m.a6, .slice bo m.log.length c] 27)).heap.size := by simp
  have hmb : (w.alloc (.cells #[.int .i64 m.a0, .int .i64 m.a1, .int .i64 m.a2, .int .i64 m.a3, .int .i64 m.a4, .int .i64 m.a5, .int .i64 m.a6, .slice bo m.log.length c] 27)).heap[w.heap.size]? = some (.cells #[.int .i64 m.a0, .int .i64 m.a1, .int .i64 m.a2, .int .i64 m.a3, .int .i64 m.a4, .int .i64 m.a5, .int .i64 m.a6, .slice bo m.log.length c] 27 (0, 0)) := hT.box
  obtain ⟨MB, hMB⟩ : ∃ M : Nat × Obj, M = (w.heap.size, .cells #[.int .i64 m.a0, .int .i64 m.a1, .int .i64 m.a2, .int .i64 m.a3, .int .i64 m.a4, .int .i64 m.a5, .int .i64 m.a6, .slice bo m.log.length c] 27 (0, 0)) := ⟨_, rfl⟩
  have HMX : Hid (∀ (w3 : World) (r' : Rep) (o' : Msgs), TM MB B w3 g r' o' → w3.heap[w.heap.size]? = some (.cells #[.int .i64 m.a0, .int .i64 m.a1, .int .i64 m.a2, .int .i64 m.a3, .int .i64 m.a4, .int .i64 m.a5, .int .i64 m.a6, .slice bo m.log.length c] 27 (0, 0))) := fun w3 r' o' h3 => by
    have := h3.box
    rw [hMB] at this
    exact this
  rw [← hMB] at hT
  clear hMB
  generalize (w.alloc (.cells #[.int .i64 m.a0, .int .i64 m.a1, .int .i64 m.a2, .int .i64 m.a3, .int .i64 m.a4, .int .i64 m.a5, .int .i64 m.a6, .slice bo m.log.length c] 27)) = W at *
  obtain ⟨sk, xok, xck, ⟨k0, k1, k2, k3, k4, k5, k6, k7, k8, k9, k10, k11, k12, k13⟩, kz, _, kH, _⟩ := hT.turn.cells
  obtain ⟨c0, c1, c2, c3, c4, c5, c6, c7⟩ := msg_cells hmb
  have hq : decide (r.bestView < m.a6) = false := decide_eq_false (by have := HC.out.1; omega)
  have hq2 : (m.a6 == r.bestView) = true := by rw [HC.out.2.1]; simp
  have hq3 : decide ((r.best.length : Int) < (m.log.length : Int)) = false := decide_eq_false (by have := HC.out.2.2; omega)
  have hq4 : decide (r.best.length < m.log.length) = false := decide_eq_false (by have := HC.out.2.2; omega)
  have hq5 : ¬ r.best.length < m.log.length := by have := HC.out.2.2; omega
  go_quiet (fail)
  go_wp2_with fail
  clear hq hq2 hq3 hq4 hq5
  have hTV := hT.drewN nq
  have hKV := hK.trans (keep_drewN nq hT.base)
  have hsV := hs.keep (keep_drewN nq hT.base)
  clear k0 k1 k2 k3 k4 k5 k6 k7 k8 k9 k10 k11 k12 k13 kz kH c0 c1 c2 c3 c4 c5 c6 c7 hT hs
  generalize W.drewN nq = V at *
  have hbV := HMX.out _ _ _ hTV
  obtain ⟨sl, xol, xcl, ⟨l0, l1, l2, l3, l4, l5, l6, l7, l8, l9, l10, l11, l12, l13⟩, lz, _, lH, _⟩ := hTV.turn.cells
  obtain ⟨d0, d1, d2, d3, d4, d5, d6, d7⟩ := msg_cells hbV
  obtain ⟨hT5, hK5⟩ := tm_sets hTV [(12, .int .i64 (min (max r.bestDone m.a5) (r.best.length : Int)))] (doneR r m.a5) (fun _ _ _ _ _ _ f f' e e' => by subst e e'; exact ⟨rfl, rfl, rfl, rfl, rfl, rfl, rfl, rfl, rfl, rfl, rfl, rfl, rfl, rfl⟩) rfl rfl rfl rfl rfl rfl rfl
  simp only [sets] at hT5 hK5
  go_region
  go_wp2
  first
    | go_end0
    | refine bodyPost_ret (results_none rfl _ _ _) rfl ?_
  exact ⟨rfl, hT5.drew.turn, (hKV.trans hK5).drew⟩
set_option maxRecDepth 100000 in
set_option maxHeartbeats 1000000 in
theorem keepBestd (B g : Nat) (r : Rep) (o : Msgs) (m : Msg) (bo : Option Addr) (c : Nat) (hc : ¬ r.bestView < m.a6 ∧ ¬ m.a6 = r.bestView) (hml : m.log.length ≤ 1000) (hol : o.length ≤ 50) (w : World) (h : Turn B w g r o) (hs : SrcE B w bo c m.log) :
    Calls Tryz.prog 88 #[.pointer (some ⟨g, 0, none⟩), msV m bo c] w fun e w' => e = .returned (.tuple #[]) ∧ Turn B w' g (doneR r m.a5) o ∧ Keep B w w' := by
  have hT := tm_new h #[.int .i64 m.a0, .int .i64 m.a1, .int .i64 m.a2, .int .i64 m.a3, .int .i64 m.a4, .int .i64 m.a5, .int .i64 m.a6, .slice bo m.log.length c]
  have hgw : w.heap.size ≠ g := hT.ne
  have hlow : Below w.heap.size w (w.alloc (.cells #[.int .i64 m.a0, .int .i64 m.a1, .int .i64 m.a2, .int .i64 m.a3, .int .i64 m.a4, .int .i64 m.a5, .int .i64 m.a6, .slice bo m.log.length c] 27)) := (Below.refl _ w).alloc (Nat.le_refl _) _
  have hK := Keep.of_below hlow h.base
  have hs := hs.keep hK
  have hB := h.base
  have HC : Hid (¬ r.bestView < m.a6 ∧ ¬ m.a6 = r.bestView) := hc
  clear hc
  go_enter Tryz.func88, Tryz.ntmps88
  go_wp2_with fail
  clear h
  have hmlt : w.heap.size < (w.alloc (.cells #[.int .i64 m.a0, .int .i64 m.a1, .int .i64 m.a2, .int .i64 m.a3, .int .i64 m.a4, .int .i64 m.a5, .int .i64 m.a6, .slice bo m.log.length c] 27)).heap.size := by simp
  have hmb : (w.alloc (.cells #[.int .i64 m.a0, .int .i64 m.a1, .int .i64 m.a2, .int .i64 m.a3, .int .i64 m.a4, .int .i64 m.a5, .int .i64 m.a6, .slice bo m.log.length c] 27)).heap[w.heap.size]? = some (.cells #[.int .i64 m.a0, .int .i64 m.a1, .int .i64 m.a2, .int .i64 m.a3, .int .i64 m.a4, .int .i64 m.a5, .int .i64 m.a6, .slice bo m.log.length c] 27 (0, 0)) := hT.box
  obtain ⟨MB, hMB⟩ : ∃ M : Nat × Obj, M = (w.heap.size, .cells #[.int .i64 m.a0, .int .i64 m.a1, .int .i64 m.a2, .int .i64 m.a3, .int .i64 m.a4, .int .i64 m.a5, .int .i64 m.a6, .slice bo m.log.length c] 27 (0, 0)) := ⟨_, rfl⟩
  have HMX : Hid (∀ (w3 : World) (r' : Rep) (o' : Msgs), TM MB B w3 g r' o' → w3.heap[w.heap.size]? = some (.cells #[.int .i64 m.a0, .int .i64 m.a1, .int .i64 m.a2, .int .i64 m.a3, .int .i64 m.a4, .int .i64 m.a5, .int .i64 m.a6, .slice bo m.log.length c] 27 (0, 0))) := fun w3 r' o' h3 => by
    have := h3.box
    rw [hMB] at this
    exact this
  rw [← hMB] at hT
  clear hMB
  generalize (w.alloc (.cells #[.int .i64 m.a0, .int .i64 m.a1, .int .i64 m.a2, .int .i64 m.a3, .int .i64 m.a4, .int .i64 m.a5, .int .i64 m.a6, .slice bo m.log.length c] 27)) = W at *
  obtain ⟨sk, xok, xck, ⟨k0, k1, k2, k3, k4, k5, k6, k7, k8, k9, k10, k11, k12, k13⟩, kz, _, kH, _⟩ := hT.turn.cells
  obtain ⟨c0, c1, c2, c3, c4, c5, c6, c7⟩ := msg_cells hmb
  have hq : decide (r.bestView < m.a6) = false := decide_eq_false (by have := HC.out.1; omega)
  have hq2 : (m.a6 == r.bestView) = false := by simp [HC.out.2]
  go_quiet (fail)
  go_wp2_with fail
  skip
  have hTV := hT.drewN nq
  have hKV := hK.trans (keep_drewN nq hT.base)
  have hsV := hs.keep (keep_drewN nq hT.base)
  clear k0 k1 k2 k3 k4 k5 k6 k7 k8 k9 k10 k11 k12 k13 kz kH c0 c1 c2 c3 c4 c5 c6 c7 hT hs
  generalize W.drewN nq = V at *
  have hbV := HMX.out _ _ _ hTV
  obtain ⟨sl, xol, xcl, ⟨l0, l1, l2, l3, l4, l5, l6, l7, l8, l9, l10, l11, l12, l13⟩, lz, _, lH, _⟩ := hTV.turn.cells
  obtain ⟨d0, d1, d2, d3, d4, d5, d6, d7⟩ := msg_cells hbV
  obtain ⟨hT5, hK5⟩ := tm_sets hTV [(12, .int .i64 (min (max r.bestDone m.a5) (r.best.length : Int)))] (doneR r m.a5) (fun _ _ _ _ _ _ f f' e e' => by subst e e'; exact ⟨rfl, rfl, rfl, rfl, rfl, rfl, rfl, rfl, rfl, rfl, rfl, rfl, rfl, rfl⟩) rfl rfl rfl rfl rfl rfl rfl
  simp only [sets] at hT5 hK5
  go_region
  go_wp2
  first
    | go_end0
    | refine bodyPost_ret (results_none rfl _ _ _) rfl ?_
  exact ⟨rfl, hT5.drew.turn, (hKV.trans hK5).drew⟩
end Go.Proofs.YtajbdffepfjegaaGreat
