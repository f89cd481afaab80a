/-
  Contracts of a replica at work: one has prepared, and the primary hears of it.
-/
import Derived.Test.YtajbdffepfjegaaGreatRpLb
namespace Go.Proofs.YtajbdffepfjegaaGreat
open Go.RowKit Num
open scoped Classical
set_option linter.unusedVariables false
set_option maxRecDepth 100000
set_option maxRecDepth 100000 in
set_option maxHeartbeats 1000000 in
theorem prep3 (B g : Nat) (r : Rep) (m : Msg) (bo : Option Addr) (c : Nat) (hrv : 0 ≤ r.view ∧ r.view < 1099511627776) (hMost : MostC) (hc : m.a3 = r.view) (hl : r.how = 0 ∧ r.view % r.n = r.id) (a : Int) (ha : r.acked[m.a1.toNat]? = some a) (h1 : 0 ≤ m.a1 ∧ m.a1 < (r.acked.length : Int)) (R : Rep) (O : Msgs) (hR : ∀ x, x ∈ (ackedR r m a).acked → (∀ i, i ≤ x ↔ mostN r.n ≤ (reachN (ackedR r m a).acked i : Int)) → reachedR (ackedR r m a) x = (R, O))  (w : World) (h : Turn B w g r []) (hs : SrcE B w bo c m.log) :
    Calls Tryz.prog 60 #[.pointer (some ⟨g, 0, none⟩), msV m bo c] w fun e w' => e = .returned (.tuple #[]) ∧ Turn B w' g R O ∧ Below B w w' := by
  have hT := tm_new h #[.int .i64 m.a0, .int .i64 m.a1, .int .i64 m.a2, .int .i64 m.a3, .int .i64 m.a4, .int .i64 m.a5, .int .i64 m.a6, .slice bo m.log.length c]
  have hgw : w.heap.size ≠ g := hT.ne
  have hlow : Below w.heap.size w (w.alloc (.cells #[.int .i64 m.a0, .int .i64 m.a1, .int .i64 m.a2, .int .i64 m.a3, .int .i64 m.a4, .int .i64 m.a5, .int .i64 m.a6, .slice bo m.log.length c] 27)) := (Below.refl _ w).alloc (Nat.le_refl _) _
  have hK := Keep.of_below hlow h.base
  have hs := hs.keep hK
  have hB := h.base
  have HC : Hid (m.a3 = r.view) := hc
  have HR : Hid (∀ x, x ∈ (ackedR r m a).acked → (∀ i, i ≤ x ↔ mostN r.n ≤ (reachN (ackedR r m a).acked i : Int)) → reachedR (ackedR r m a) x = (R, O)) := hR
  clear hc hR
  go_enter Tryz.func60, Tryz.ntmps60
  go_wp2_with fail
  clear h
  have hmlt : w.heap.size < (w.alloc (.cells #[.int .i64 m.a0, .int .i64 m.a1, .int .i64 m.a2, .int .i64 m.a3, .int .i64 m.a4, .int .i64 m.a5, .int .i64 m.a6, .slice bo m.log.length c] 27)).heap.size := by simp
  have hmb : (w.alloc (.cells #[.int .i64 m.a0, .int .i64 m.a1, .int .i64 m.a2, .int .i64 m.a3, .int .i64 m.a4, .int .i64 m.a5, .int .i64 m.a6, .slice bo m.log.length c] 27)).heap[w.heap.size]? = some (.cells #[.int .i64 m.a0, .int .i64 m.a1, .int .i64 m.a2, .int .i64 m.a3, .int .i64 m.a4, .int .i64 m.a5, .int .i64 m.a6, .slice bo m.log.length c] 27 (0, 0)) := hT.box
  obtain ⟨MB, hMB⟩ : ∃ M : Nat × Obj, M = (w.heap.size, .cells #[.int .i64 m.a0, .int .i64 m.a1, .int .i64 m.a2, .int .i64 m.a3, .int .i64 m.a4, .int .i64 m.a5, .int .i64 m.a6, .slice bo m.log.length c] 27 (0, 0)) := ⟨_, rfl⟩
  have HMX : Hid (∀ (w3 : World) (r' : Rep) (o' : Msgs), TM MB B w3 g r' o' → w3.heap[w.heap.size]? = some (.cells #[.int .i64 m.a0, .int .i64 m.a1, .int .i64 m.a2, .int .i64 m.a3, .int .i64 m.a4, .int .i64 m.a5, .int .i64 m.a6, .slice bo m.log.length c] 27 (0, 0))) := fun w3 r' o' h3 => by
    have := h3.box
    rw [hMB] at this
    exact this
  rw [← hMB] at hT
  clear hMB
  generalize (w.alloc (.cells #[.int .i64 m.a0, .int .i64 m.a1, .int .i64 m.a2, .int .i64 m.a3, .int .i64 m.a4, .int .i64 m.a5, .int .i64 m.a6, .slice bo m.log.length c] 27)) = W at *
  obtain ⟨sk, xok, xck, ⟨k0, k1, k2, k3, k4, k5, k6, k7, k8, k9, k10, k11, k12, k13⟩, kz, _, kH, _⟩ := hT.turn.cells
  obtain ⟨c0, c1, c2, c3, c4, c5, c6, c7⟩ := msg_cells hmb
  have hq : (m.a3 != r.view) = false := by rw [HC.out]; simp
  have hle := fun n => leadsD_any B g r [] (W.drewN n) (hT.drewN n).turn hrv
  rw [tru_yes hl] at hle
  go_quiet (first | (go_at_call 49; refine Calls.quiet_of (hle _)))
  have hTV := hT.drewN nq
  have hKV := hK.trans (keep_drewN nq hT.base)
  clear k0 k1 k2 k3 k4 k5 k6 k7 k8 k9 k10 k11 k12 k13 kz kH c0 c1 c2 c3 c4 c5 c6 c7 hT hs hle hq hl
  generalize W.drewN nq = V at *
  have hbV := HMX.out _ _ _ hTV
  obtain ⟨sl, xol, xcl, ⟨l0, l1, l2, l3, l4, l5, l6, l7, l8, l9, l10, l11, l12, l13⟩, lz, _, lH, _⟩ := hTV.turn.cells
  obtain ⟨d0, d1, d2, d3, d4, d5, d6, d7⟩ := msg_cells hbV
  obtain ⟨ga, cap, q7, qa, qz, hQ⟩ := tm_ack hTV m.a1.toNat a ha
  have hTX : TM MB B (V.setCell ⟨ga, m.a1.toNat, none⟩ (.int .i64 (min (max a m.a4) (r.log.length : Int)))).drew g (ackedR r m a) [] := (hQ (min (max a m.a4) (r.log.length : Int))).1.drew
  have HTX : Hid (TM MB B (V.setCell ⟨ga, m.a1.toNat, none⟩ (.int .i64 (min (max a m.a4) (r.log.length : Int)))).drew g (ackedR r m a) []) := hTX
  have HKX : Hid (Keep B w (V.setCell ⟨ga, m.a1.toNat, none⟩ (.int .i64 (min (max a m.a4) (r.log.length : Int)))).drew) := (hKV.trans (hQ (min (max a m.a4) (r.log.length : Int))).2).drew
  clear hTX
  have n1 : ¬ m.a1 < 0 := by omega
  clear l7 hQ
  go_wp2_with fail
  go_region
  clear hTV hKV l0 l1 l2 l3 l4 l5 l6 l8 l9 l10 l11 l12 l13 lz lH d0 d1 d2 d3 d4 d5 d6 d7 q7 qa qz hK hbV
  generalize (V.setCell ⟨ga, m.a1.toNat, none⟩ (.int .i64 (min (max a m.a4) (r.log.length : Int)))).drew = X at *
  have hTX := HTX.out
  have hmo := hMost MB B g (ackedR r m a) [] X hTX
  go_wp2_with (first
    | (go_at_call 82; refine hmo.mono ?_; rintro e w3 ⟨x, rfl, hx1, hx2, hb3⟩
       have HX : Hid (reachedR (ackedR r m a) x = (R, O)) := HR.out x hx1 hx2
       have hTY := hTX.below hb3
       have HKY : Hid (Keep B w w3) := HKX.out.trans (Keep.of_below hb3 hTX.base)
       obtain ⟨sy, xoy, xcy, ⟨y0, y1, y2, y3, y4, y5, y6, y7, y8, y9, y10, y11, y12, y13⟩, yz, _⟩ := hTY.turn.cells
       have y6' : w3.cell? ⟨g, 6, none⟩ = some (.int .i64 r.commit) := y6
       clear y6 hx1 hx2 hmo HR
       by_cases hx : r.commit < x))
  · have hRO := HX.out
    unfold reachedR at hRO
    rw [if_pos (show (ackedR r m a).commit < x from hx)] at hRO
    obtain ⟨e1, e2⟩ := Prod.mk.inj hRO
    have HE : Hid ({ ackedR r m a with commit := x } = R ∧ allM { ackedR r m a with commit := x } (msg 3 0 x 0 []) = O) := ⟨e1, e2⟩
    obtain ⟨hTZ, hKZ⟩ := tm_sets hTY [(6, .int .i64 x)] { ackedR r m a with commit := x } (fun _ _ _ _ _ _ f f' e e' => by subst e e'; exact ⟨rfl, rfl, rfl, rfl, rfl, rfl, rfl, rfl, rfl, rfl, rfl, rfl, rfl, rfl⟩) rfl rfl rfl rfl rfl rfl rfl
    simp only [sets] at hTZ hKZ
    have hsend := sendAllM_any MB B g _ [] (msg 3 0 x 0 []) none 0 _ hTZ (srcE_nil _ _) (by simp) (by simp)
    have HKZ : Hid (Keep B w (w3.setCell ⟨g, 6, none⟩ (.int .i64 x))) := HKY.out.trans hKZ
    clear hRO e1 e2 HX HKY hKZ hTZ hTY HTX HKX hTX hb3 hMost
    go_wp2_with (first
      | (go_at_call 51; refine hsend.mono ?_; rintro e w9 ⟨rfl, hT9, hK9⟩))
    first
      | go_end0
      | refine bodyPost_ret (results_none rfl _ _ _) rfl ?_
    obtain ⟨e1, e2⟩ := HE.out
    rw [← e1, ← e2]
    exact ⟨rfl, hT9.turn, (HKZ.out.trans hK9).low⟩
  · have hRO := HX.out
    unfold reachedR at hRO
    rw [if_neg (show ¬ (ackedR r m a).commit < x from Int.not_lt.2 (by first | exact hx | omega))] at hRO
    obtain ⟨e1, e2⟩ := Prod.mk.inj hRO
    have HE : Hid (ackedR r m a = R ∧ [] = O) := ⟨e1, e2⟩
    clear hRO e1 e2 HX HTX HKX hTX hb3 hMost
    go_wp2
    first
      | go_end0
      | refine bodyPost_ret (results_none rfl _ _ _) rfl ?_
    obtain ⟨e1, e2⟩ := HE.out
    rw [← e1, ← e2]
    exact ⟨rfl, hTY.turn, HKY.out.low⟩
end Go.Proofs.YtajbdffepfjegaaGreat
