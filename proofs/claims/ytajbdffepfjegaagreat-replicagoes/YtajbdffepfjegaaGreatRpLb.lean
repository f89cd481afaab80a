/-
  Contracts of a replica at work: one has prepared.
-/
import Derived.Test.YtajbdffepfjegaaGreatRpG15
namespace Go.Proofs.YtajbdffepfjegaaGreat
open Go.RowKit Num
open scoped Classical
set_option linter.unusedVariables false
set_option maxRecDepth 100000
theorem own_someR {w : World} {B e sz n : Nat} {v : Value} {xs : List Value} (h : w.ownsRow B e sz v n xs) (hn : n ≠ 0) : ∃ g C, v = .slice (some ⟨g, 0, none⟩) n C := by
  rcases h.2 with ⟨_, h0⟩ | ⟨g, cap, cur, hv, _⟩
  · exact absurd h0 hn
  · exact ⟨g, cap, hv⟩
/-- One's place is written. -/
theorem tm_ack {M : Nat × Obj} {B : Nat} {w : World} {g : Nat} {r : Rep} {o : Msgs} (h : TM M B w g r o) (i : Nat) (a : Int) (hi : r.acked[i]? = some a) :
    ∃ ga cap, w.cell? ⟨g, 7, none⟩ = some (.slice (some ⟨ga, 0, none⟩) r.acked.length cap) ∧ w.cell? ⟨ga, i, none⟩ = some (.int .i64 a) ∧ w.frozen? ⟨ga, i, none⟩ = false ∧
      ∀ k : Int, TM M B (w.setCell ⟨ga, i, none⟩ (.int .i64 k)) g { r with acked := r.acked.set i k } o ∧ Keep B w (w.setCell ⟨ga, i, none⟩ (.int .i64 k)) := by
  obtain ⟨⟨vl, va, vv, vw, vb, x, h, ho, hx⟩, hM, hne, hty, hB, h1, hl, hb, ha⟩ := h
  have hlt := (List.getElem?_eq_some_iff.1 hi).1
  obtain ⟨ga, cap, rfl⟩ := own_someR h.rows.ack (by omega)
  obtain ⟨k0, k1, k2, k3, k4, k5, k6, k7, k8, k9, k10, k11, k12⟩ := h.cells (by omega)
  have ca := h.rows.ack.cells (g := ga) rfl i (.int .i64 a) (by simp [inCells, hi])
  have za := h.rows.ack.frozenAt i
  rw [Addr.add_lit, Nat.zero_add] at ca
  refine ⟨ga, cap, k7, ca, za, fun k => ?_⟩
  obtain ⟨hF, hsF, hkF⟩ := hold_ack h rfl (by decide) hB i k
  have hoF := ownO_stay ho hsF (by decide) (by decide)
  exact ⟨⟨⟨_, _, _, _, _, _, hF, hoF, hx⟩, msg_stay hty hM hsF (by decide), hne, hty, Nat.le_trans hB hkF.low.size, h1, hl, hb, by show ((r.acked.set i k).length : Int) = r.n; rw [List.length_set]; exact ha⟩, hkF⟩
/-- mostReach tells a number that one has, and that just most reach. -/
def Num.MostC : Prop := ∀ (M : Nat × Obj) (B g : Nat) (r : Rep) (o : Msgs) (w : World), TM M B w g r o →
  Calls Tryz.prog 82 #[.pointer (some ⟨g, 0, none⟩)] w fun e w' => ∃ x, e = .returned (.int .i64 x) ∧ x ∈ r.acked ∧ (∀ i, i ≤ x ↔ mostN r.n ≤ (reachN r.acked i : Int)) ∧ Below w.heap.size w w'
set_option maxRecDepth 100000 in
set_option maxHeartbeats 1000000 in
theorem prep1 (B g : Nat) (r : Rep) (m : Msg) (bo : Option Addr) (c : Nat) (hrv : 0 ≤ r.view ∧ r.view < 1099511627776) (hc : ¬ m.a3 = r.view)  (w : World) (h : Turn B w g r []) (hs : SrcE B w bo c m.log) :
    Calls Tryz.prog 60 #[.pointer (some ⟨g, 0, none⟩), msV m bo c] w fun e w' => e = .returned (.tuple #[]) ∧ Turn B w' g r [] ∧ Below B w w' := by
  have hT := tm_new h #[.int .i64 m.a0, .int .i64 m.a1, .int .i64 m.a2, .int .i64 m.a3, .int .i64 m.a4, .int .i64 m.a5, .int .i64 m.a6, .slice bo m.log.length c]
  have hgw : w.heap.size ≠ g := hT.ne
  have hlow : Below w.heap.size w (w.alloc (.cells #[.int .i64 m.a0, .int .i64 m.a1, .int .i64 m.a2, .int .i64 m.a3, .int .i64 m.a4, .int .i64 m.a5, .int .i64 m.a6, .slice bo m.log.length c] 27)) := (Below.refl _ w).alloc (Nat.le_refl _) _
  have hK := Keep.of_below hlow h.base
  have hs := hs.keep hK
  have hB := h.base
  go_enter Tryz.func60, Tryz.ntmps60
  go_wp2_with fail
  clear h
  have hmlt : w.heap.size < (w.alloc (.cells #[.int .i64 m.a0, .int .i64 m.a1, .int .i64 m.a2, .int .i64 m.a3, .int .i64 m.a4, .int .i64 m.a5, .int .i64 m.a6, .slice bo m.log.length c] 27)).heap.size := by simp
  have hmb : (w.alloc (.cells #[.int .i64 m.a0, .int .i64 m.a1, .int .i64 m.a2, .int .i64 m.a3, .int .i64 m.a4, .int .i64 m.a5, .int .i64 m.a6, .slice bo m.log.length c] 27)).heap[w.heap.size]? = some (.cells #[.int .i64 m.a0, .int .i64 m.a1, .int .i64 m.a2, .int .i64 m.a3, .int .i64 m.a4, .int .i64 m.a5, .int .i64 m.a6, .slice bo m.log.length c] 27 (0, 0)) := hT.box
  obtain ⟨MB, hMB⟩ : ∃ M : Nat × Obj, M = (w.heap.size, .cells #[.int .i64 m.a0, .int .i64 m.a1, .int .i64 m.a2, .int .i64 m.a3, .int .i64 m.a4, .int .i64 m.a5, .int .i64 m.a6, .slice bo m.log.length c] 27 (0, 0)) := ⟨_, rfl⟩
  have HMX : Hid (∀ (w3 : World) (r' : Rep) (o' : Msgs), TM MB B w3 g r' o' → w3.heap[w.heap.size]? = some (.cells #[.int .i64 m.a0, .int .i64 m.a1, .int .i64 m.a2, .int .i64 m.a3, .int .i64 m.a4, .int .i64 m.a5, .int .i64 m.a6, .slice bo m.log.length c] 27 (0, 0))) := fun w3 r' o' h3 => by
    have := h3.box
    rw [hMB] at this
    exact this
  rw [← hMB] at hT
  clear hMB
  generalize (w.alloc (.cells #[.int .i64 m.a0, .int .i64 m.a1, .int .i64 m.a2, .int .i64 m.a3, .int .i64 m.a4, .int .i64 m.a5, .int .i64 m.a6, .slice bo m.log.length c] 27)) = W at *
  obtain ⟨sk, xok, xck, ⟨k0, k1, k2, k3, k4, k5, k6, k7, k8, k9, k10, k11, k12, k13⟩, kz, _, kH, _⟩ := hT.turn.cells
  obtain ⟨c0, c1, c2, c3, c4, c5, c6, c7⟩ := msg_cells hmb
  have hq : (m.a3 != r.view) = true := by simp [hc]
  go_quiet (fail)
  go_wp2
  first
    | go_end0
    | refine bodyPost_ret (results_none rfl _ _ _) rfl ?_
  exact ⟨rfl, (hT.drewN _).turn, (hK.trans (keep_drewN _ hT.base)).low⟩
set_option maxRecDepth 100000 in
set_option maxHeartbeats 1000000 in
theorem prep2 (B g : Nat) (r : Rep) (m : Msg) (bo : Option Addr) (c : Nat) (hrv : 0 ≤ r.view ∧ r.view < 1099511627776) (hc : m.a3 = r.view) (hl : ¬ (r.how = 0 ∧ r.view % r.n = r.id))  (w : World) (h : Turn B w g r []) (hs : SrcE B w bo c m.log) :
    Calls Tryz.prog 60 #[.pointer (some ⟨g, 0, none⟩), msV m bo c] w fun e w' => e = .returned (.tuple #[]) ∧ Turn B w' g r [] ∧ Below B w w' := by
  have hT := tm_new h #[.int .i64 m.a0, .int .i64 m.a1, .int .i64 m.a2, .int .i64 m.a3, .int .i64 m.a4, .int .i64 m.a5, .int .i64 m.a6, .slice bo m.log.length c]
  have hgw : w.heap.size ≠ g := hT.ne
  have hlow : Below w.heap.size w (w.alloc (.cells #[.int .i64 m.a0, .int .i64 m.a1, .int .i64 m.a2, .int .i64 m.a3, .int .i64 m.a4, .int .i64 m.a5, .int .i64 m.a6, .slice bo m.log.length c] 27)) := (Below.refl _ w).alloc (Nat.le_refl _) _
  have hK := Keep.of_below hlow h.base
  have hs := hs.keep hK
  have hB := h.base
  have HC : Hid (m.a3 = r.view) := hc
  clear hc
  go_enter Tryz.func60, Tryz.ntmps60
  go_wp2_with fail
  clear h
  have hmlt : w.heap.size < (w.alloc (.cells #[.int .i64 m.a0, .int .i64 m.a1, .int .i64 m.a2, .int .i64 m.a3, .int .i64 m.a4, .int .i64 m.a5, .int .i64 m.a6, .slice bo m.log.length c] 27)).heap.size := by simp
  have hmb : (w.alloc (.cells #[.int .i64 m.a0, .int .i64 m.a1, .int .i64 m.a2, .int .i64 m.a3, .int .i64 m.a4, .int .i64 m.a5, .int .i64 m.a6, .slice bo m.log.length c] 27)).heap[w.heap.size]? = some (.cells #[.int .i64 m.a0, .int .i64 m.a1, .int .i64 m.a2, .int .i64 m.a3, .int .i64 m.a4, .int .i64 m.a5, .int .i64 m.a6, .slice bo m.log.length c] 27 (0, 0)) := hT.box
  obtain ⟨MB, hMB⟩ : ∃ M : Nat × Obj, M = (w.heap.size, .cells #[.int .i64 m.a0, .int .i64 m.a1, .int .i64 m.a2, .int .i64 m.a3, .int .i64 m.a4, .int .i64 m.a5, .int .i64 m.a6, .slice bo m.log.length c] 27 (0, 0)) := ⟨_, rfl⟩
  have HMX : Hid (∀ (w3 : World) (r' : Rep) (o' : Msgs), TM MB B w3 g r' o' → w3.heap[w.heap.size]? = some (.cells #[.int .i64 m.a0, .int .i64 m.a1, .int .i64 m.a2, .int .i64 m.a3, .int .i64 m.a4, .int .i64 m.a5, .int .i64 m.a6, .slice bo m.log.length c] 27 (0, 0))) := fun w3 r' o' h3 => by
    have := h3.box
    rw [hMB] at this
    exact this
  rw [← hMB] at hT
  clear hMB
  generalize (w.alloc (.cells #[.int .i64 m.a0, .int .i64 m.a1, .int .i64 m.a2, .int .i64 m.a3, .int .i64 m.a4, .int .i64 m.a5, .int .i64 m.a6, .slice bo m.log.length c] 27)) = W at *
  obtain ⟨sk, xok, xck, ⟨k0, k1, k2, k3, k4, k5, k6, k7, k8, k9, k10, k11, k12, k13⟩, kz, _, kH, _⟩ := hT.turn.cells
  obtain ⟨c0, c1, c2, c3, c4, c5, c6, c7⟩ := msg_cells hmb
  have hq : (m.a3 != r.view) = false := by rw [HC.out]; simp
  have hle := fun n => leadsD_any B g r [] (W.drewN n) (hT.drewN n).turn hrv
  rw [tru_no hl] at hle
  go_quiet (first | (go_at_call 49; refine Calls.quiet_of (hle _)))
  go_wp2
  first
    | go_end0
    | refine bodyPost_ret (results_none rfl _ _ _) rfl ?_
  exact ⟨rfl, (hT.drewN _).turn, (hK.trans (keep_drewN _ hT.base)).low⟩
end Go.Proofs.YtajbdffepfjegaaGreat
