/-
  Joined:
  The document's own replica: what is in its box; what stays while a message goes round.
  Contracts of the document's own replica: a message to all others.
-/
import Derived.Test.YtajbdffepfjegaaGreatRpG5
namespace Go.Proofs.YtajbdffepfjegaaGreat
open Go.RowKit Num
set_option linter.unusedVariables false
set_option maxRecDepth 100000

theorem Num.TurnR.cells {B : Nat} {w : World} {g : Nat} {r : Rep} (h : TurnR B w g r) : ∃ (s : Sl), (w.cell? ⟨g, 0, none⟩ = some (.int .i64 r.id) ∧ w.cell? ⟨g, 1, none⟩ = some (.int .i64 r.n) ∧ w.cell? ⟨g, 2, none⟩ = some (.int .i64 r.view) ∧ w.cell? ⟨g, 3, none⟩ = some (.int .i64 r.normal) ∧ w.cell? ⟨g, 4, none⟩ = some (.int .i64 r.how) ∧ w.cell? ⟨g, 5, none⟩ = some (.slice s.lo r.log.length s.lc) ∧ w.cell? ⟨g, 6, none⟩ = some (.int .i64 r.commit) ∧ w.cell? ⟨g, 7, none⟩ = some (.slice s.ao r.acked.length s.ac) ∧ w.cell? ⟨g, 8, none⟩ = some (.slice s.vo r.votes.length s.vc) ∧ w.cell? ⟨g, 9, none⟩ = some (.slice s.wo r.voters.length s.wc) ∧ w.cell? ⟨g, 10, none⟩ = some (.slice s.bo r.best.length s.bc) ∧ w.cell? ⟨g, 11, none⟩ = some (.int .i64 r.bestView) ∧ w.cell? ⟨g, 12, none⟩ = some (.int .i64 r.bestDone)) ∧ (∀ k, w.frozen? ⟨g, k, none⟩ = false) ∧ LiesR w w.heap.size s r ∧ Hold 25 13 undef B w g r (.slice s.lo r.log.length s.lc) (.slice s.ao r.acked.length s.ac) (.slice s.vo r.votes.length s.vc) (.slice s.wo r.voters.length s.wc) (.slice s.bo r.best.length s.bc) := by
  obtain ⟨⟨vl, va, vv, vw, vb, h⟩, hB, h1, hl, hb, ha⟩ := h
  obtain ⟨k0, k1, k2, k3, k4, k5, k6, k7, k8, k9, k10, k11, k12⟩ := h.cells (by omega)
  obtain ⟨lo, lc, rfl, l1⟩ := ownE_lies h.rows.log
  obtain ⟨bo, bc, rfl, l2⟩ := ownE_lies h.rows.best
  obtain ⟨ao, ac, rfl, l3⟩ := ownN_lies h.rows.ack
  obtain ⟨vo, vc, rfl, l4⟩ := ownN_lies h.rows.vot
  obtain ⟨wo, wc, rfl, l5⟩ := ownN_lies h.rows.vor
  exact ⟨⟨lo, lc, ao, ac, vo, vc, wo, wc, bo, bc⟩, ⟨k0, k1, k2, k3, k4, k5, k6, k7, k8, k9, k10, k11, k12⟩, h.box.unfrozen, ⟨l1, l3, l4, l5, l2⟩, h⟩
theorem Num.TurnR.stay {B : Nat} {w w' : World} {g : Nat} {r : Rep} (h : TurnR B w g r) {e : TypeId} (hs : Stay (fun _ => False) e w w') (h1 : 25 ≠ e) (h2 : e ≠ 48) (h3 : e ≠ 3) : TurnR B w' g r := by
  obtain ⟨⟨vl, va, vv, vw, vb, h⟩, hB, h1', hl, hl2, ha⟩ := h
  exact ⟨⟨vl, va, vv, vw, vb, h.stay hs h1 h2 h3⟩, Nat.le_trans hB hs.size, h1', hl, hl2, ha⟩
theorem ms_stay {w : World} {mb i : Nat} {cs : Array Value} {fr : Nat × Nat} (hb : w.heap[mb]? = some (.cells cs 27 fr)) (u : Value) : Stay (fun _ => False) 27 w (w.setCell ⟨mb, i, none⟩ u) :=
  ⟨by simp [World.setCell], fun k hk _ hn => Below.heap_setCell _ _ _ _ (fun e => by subst e; exact hn _ _ hb)⟩
theorem ownO_off {B : Nat} {w : World} {v : Value} {q : Msgs} (h : OwnO B w v q) {mb i : Nat} {cs : Array Value} {fr : Nat × Nat} (hb : w.heap[mb]? = some (.cells cs 27 fr)) (hv : v.ownBlock ≠ some mb) (u : Value) : OwnO B (w.setCell ⟨mb, i, none⟩ u) v q := by
  obtain ⟨css, a, b, c, d⟩ := h
  exact ⟨css, a, b, c.kept (grown_set w mb i u) (.inr hv), fun i cs x hi hx => msO_stay (ms_stay hb u) (d i cs x hi hx)⟩
theorem Num.SrcE.stayM {B : Nat} {w w' : World} {bo : Option Addr} {c : Nat} {l : List Ent} (h : SrcE B w bo c l) (hb : Below B w w') (hs : Stay (fun _ => False) 27 w w') : SrcE B w' bo c l := h.keep (Keep.of_stay hb hs (by decide))
/-- The box of the message that goes round, and its log. -/
structure Num.AllAt (B : Nat) (w : World) (mb : Nat) (m : Msg) (x1 x2 x3 : Int) (bo : Option Addr) (c : Nat) : Prop where
  box : w.heap[mb]? = some (.cells #[.int .i64 m.a0, .int .i64 x1, .int .i64 x2, .int .i64 x3, .int .i64 m.a4, .int .i64 m.a5, .int .i64 m.a6, .slice bo m.log.length c] 27 (0, 0))
  src : SrcE B w bo c m.log
end Go.Proofs.YtajbdffepfjegaaGreat
namespace Go.Proofs.YtajbdffepfjegaaGreat
open Go.RowKit Num
set_option linter.unusedVariables false
set_option maxRecDepth 100000

/-- A box of the document's own replica: no more than is read of it. -/
structure Num.BoxR (B : Nat) (w : World) (g : Nat) (r : Rep) : Prop where
  ex : ∃ vl va vv vw vb, BoxF w g 25 13 (repF r vl va vv vw vb undef)
  base : B ≤ w.heap.size
  one : OneOf r.id r.n
theorem Num.BoxR.below {B : Nat} {w w' : World} {g : Nat} {r : Rep} (h : BoxR B w g r) (hb : Below w.heap.size w w') : BoxR B w' g r := by
  obtain ⟨⟨vl, va, vv, vw, vb, h⟩, hB, h1⟩ := h
  exact ⟨⟨vl, va, vv, vw, vb, h.below hb⟩, Nat.le_trans hB hb.size, h1⟩
theorem Num.BoxR.stay {B : Nat} {w w' : World} {g : Nat} {r : Rep} (h : BoxR B w g r) {e : TypeId} (hs : Stay (fun _ => False) e w w') (h1 : 25 ≠ e) (h2 : e ≠ 48) (h3 : e ≠ 3) : BoxR B w' g r := by
  obtain ⟨⟨vl, va, vv, vw, vb, h⟩, hB, h1'⟩ := h
  exact ⟨⟨vl, va, vv, vw, vb, h.stay hs h1⟩, Nat.le_trans hB hs.size, h1'⟩
theorem Num.BoxR.cells {B : Nat} {w : World} {g : Nat} {r : Rep} (h : BoxR B w g r) : w.cell? ⟨g, 0, none⟩ = some (.int .i64 r.id) ∧ w.cell? ⟨g, 1, none⟩ = some (.int .i64 r.n) ∧ w.cell? ⟨g, 2, none⟩ = some (.int .i64 r.view) := by
  obtain ⟨⟨vl, va, vv, vw, vb, h⟩, _⟩ := h
  obtain ⟨k0, k1, k2, _⟩ := h.rep (by omega)
  exact ⟨k0, k1, k2⟩
theorem Num.BoxR.lt {B : Nat} {w : World} {g : Nat} {r : Rep} (h : BoxR B w g r) : g < w.heap.size := by
  obtain ⟨⟨vl, va, vv, vw, vb, h⟩, _⟩ := h
  exact h.lt
set_option maxRecDepth 100000 in
set_option maxHeartbeats 1000000 in
theorem rall_box (B g : Nat) (r : Rep) (m : Msg) (bo : Option Addr) (c : Nat) (w : World) (h : BoxR B w g r) (hm : SrcE B w bo c m.log) (hml : m.log.length ≤ 1000) :
    Calls Tryz.prog 74 #[.pointer (some ⟨g, 0, none⟩), msV m bo c] w fun e w' => ∃ v, e = .returned v ∧ OwnO B w' v (allM r m) ∧ BoxR B w' g r ∧ Keep B w w' := by
  have hn := one_bounds h.one
  have hB := h.base
  have hbox : Below w.heap.size w (w.alloc (.cells #[.int .i64 m.a0, .int .i64 m.a1, .int .i64 m.a2, .int .i64 m.a3, .int .i64 m.a4, .int .i64 m.a5, .int .i64 m.a6, .slice bo m.log.length c] 27)) := (Below.refl _ w).alloc (Nat.le_refl _) _
  have hk0 := Keep.of_below hbox hB
  have hA0 : AllAt B (w.alloc (.cells #[.int .i64 m.a0, .int .i64 m.a1, .int .i64 m.a2, .int .i64 m.a3, .int .i64 m.a4, .int .i64 m.a5, .int .i64 m.a6, .slice bo m.log.length c] 27)) w.heap.size m m.a1 m.a2 m.a3 bo c := ⟨heap_new w _, hm.keep hk0⟩
  have hT0 := h.below hbox
  obtain ⟨N, hN⟩ := Int.eq_ofNat_of_zero_le (show 0 ≤ r.n by omega)
  have hgw : g ≠ w.heap.size := by
    exact Nat.ne_of_lt h.lt
  clear h hm hbox
  go_enter Tryz.func74, Tryz.ntmps74
  go_wp2
  go_loopw [5, 6] (fun v i wr => ∃ (k : Nat) (q : Msgs) (x1 x2 x3 : Int) (bo1 : Option Addr) (c1 : Nat), k ≤ N ∧ i = .int .i64 (k : Int) ∧ Hid (q ++ restM r m k = allM r m ∧ q.length ≤ k) ∧ Hid (BoxR B wr g r ∧ AllAt B wr w.heap.size m x1 x2 x3 bo1 c1 ∧ Keep B w wr) ∧ Hid (OwnO B wr v q ∧ v.ownBlock ≠ some w.heap.size)) (fun _ i _ => N - (intOf i).toNat)
  case atStart => exact ⟨0, [], m.a1, m.a2, m.a3, bo, c, by omega, rfl, ⟨rfl, by simp⟩, ⟨hT0, hA0, hk0⟩, ⟨OwnS.nil _ _ _ _ _, by simp [Value.ownBlock]⟩⟩
  case round =>
    obtain ⟨k, q, x1, x2, x3, bo1, c1, hk, rfl, HQ, HT, HO⟩ := hrel
    obtain ⟨hT, hA, hkk⟩ := HT.out
    obtain ⟨k0, k1, k2⟩ := hT.cells
    rw [hN] at k1
    by_cases hkN : k < N
    · have i1 : (k : Int) < (N : Int) := by omega
      by_cases hki : (k : Int) = r.id
      · have HQ2 : Hid (q ++ restM r m (k + 1) = allM r m ∧ q.length ≤ k + 1) := ⟨by rw [← restM_self r m k (by omega) hki]; exact HQ.out.1, by have := HQ.out.2; omega⟩
        rw [← hki] at k0
        clear hki
        go_wp2
        go_roundw
        case rel => exact ⟨k + 1, q, x1, x2, x3, bo1, c1, by omega, by go_num, HQ2, HT, HO⟩
        case measure => simp [intOf]; omega
      · have HQ2 : Hid ((q ++ [toM r m (k : Int)]) ++ restM r m (k + 1) = allM r m ∧ (q ++ [toM r m (k : Int)]).length ≤ k + 1) := ⟨by rw [List.append_assoc, List.singleton_append, ← restM_next r m k (by omega) hki]; exact HQ.out.1, by have := HQ.out.2; rw [List.length_append]; simp; omega⟩
        have hki2 : ((k : Int) != r.id) = true := by simp [hki]
        have hki3 : decide ((k : Int) = r.id) = false := decide_eq_false hki
        have b1 : (wr.setCell ⟨w.heap.size, 1, none⟩ (.int .i64 r.id)).heap[w.heap.size]? = some (.cells #[.int .i64 m.a0, .int .i64 r.id, .int .i64 x2, .int .i64 x3, .int .i64 m.a4, .int .i64 m.a5, .int .i64 m.a6, .slice bo1 m.log.length c1] 27 (0, 0)) := (heap_setCell_same wr _ 1 _ _ _ hA.box).trans (by simp)
        have b2 : ((wr.setCell ⟨w.heap.size, 1, none⟩ (.int .i64 r.id)).setCell ⟨w.heap.size, 2, none⟩ (.int .i64 (k : Int))).heap[w.heap.size]? = some (.cells #[.int .i64 m.a0, .int .i64 r.id, .int .i64 (k : Int), .int .i64 x3, .int .i64 m.a4, .int .i64 m.a5, .int .i64 m.a6, .slice bo1 m.log.length c1] 27 (0, 0)) := (heap_setCell_same _ _ 2 _ _ _ b1).trans (by simp)
        have b3 : (((wr.setCell ⟨w.heap.size, 1, none⟩ (.int .i64 r.id)).setCell ⟨w.heap.size, 2, none⟩ (.int .i64 (k : Int))).setCell ⟨w.heap.size, 3, none⟩ (.int .i64 r.view)).heap[w.heap.size]? = some (.cells #[.int .i64 m.a0, .int .i64 r.id, .int .i64 (k : Int), .int .i64 r.view, .int .i64 m.a4, .int .i64 m.a5, .int .i64 m.a6, .slice bo1 m.log.length c1] 27 (0, 0)) := (heap_setCell_same _ _ 3 _ _ _ b2).trans (by simp)
        have hs3 := ((ms_stay (i := 1) hA.box (.int .i64 r.id)).trans (ms_stay (i := 2) b1 (.int .i64 (k : Int)))).trans (ms_stay (i := 3) b2 (.int .i64 r.view))
        have hBw : B ≤ w.heap.size := hB
        have hb3 : Below B wr (((wr.setCell ⟨w.heap.size, 1, none⟩ (.int .i64 r.id)).setCell ⟨w.heap.size, 2, none⟩ (.int .i64 (k : Int))).setCell ⟨w.heap.size, 3, none⟩ (.int .i64 r.view)) := (((Below.refl B wr).setCell (p := ⟨w.heap.size, 1, none⟩) hBw _).setCell (p := ⟨w.heap.size, 2, none⟩) hBw _).setCell (p := ⟨w.heap.size, 3, none⟩) hBw _
        have hO3 := ownO_off (i := 3) (ownO_off (i := 2) (ownO_off (i := 1) HO.out.1 hA.box HO.out.2 (.int .i64 r.id)) b1 HO.out.2 (.int .i64 (k : Int))) b2 HO.out.2 (.int .i64 r.view)
        have hT3 := hT.stay hs3 (by decide) (by decide) (by decide)
        have hS3 := hA.src.stayM hb3 hs3
        have hK3 := hkk.trans (Keep.of_stay hb3 hs3 (by decide))
        have hsz : (((wr.setCell ⟨w.heap.size, 1, none⟩ (.int .i64 r.id)).setCell ⟨w.heap.size, 2, none⟩ (.int .i64 (k : Int))).setCell ⟨w.heap.size, 3, none⟩ (.int .i64 r.view)).heap.size = wr.heap.size := by simp [World.setCell]
        have m1 := box_cell hA.box 1 _ rfl
        have m2 := box_cell hA.box 2 _ rfl
        have m3 := box_cell hA.box 3 _ rfl
        have z0 := box_open hA.box
        have m7 := fun ob : Obj => alloc_cell ob (box_cell b3 7 _ rfl)
        have hheld := fun ob : Obj => src_next (liesE_src (hS3.lies (by rw [hsz]; exact Nat.le_trans hB hkk.low.size))) ((Below.refl _ _).alloc (Nat.le_refl _) ob)
        have hmade := own_made0 (((wr.setCell ⟨w.heap.size, 1, none⟩ (.int .i64 r.id)).setCell ⟨w.heap.size, 2, none⟩ (.int .i64 (k : Int))).setCell ⟨w.heap.size, 3, none⟩ (.int .i64 r.view)) 48 2
        rw [hsz] at hmade
        have hvne := HO.out.2
        clear hs3 hb3 b1 b2 hT hA HT HO
        have hlt3 : w.heap.size < wr.heap.size := by rw [← hsz]; exact (Array.getElem?_eq_some_iff.1 b3).1
        have hBr : B ≤ wr.heap.size := Nat.le_trans hB hkk.low.size
        have HW : Hid (∀ (w2 : World) (ao1 : Option Addr) (cap1 : Nat), (((((wr.setCell ⟨w.heap.size, 1, none⟩ (.int .i64 r.id)).setCell ⟨w.heap.size, 2, none⟩ (.int .i64 (k : Int))).setCell ⟨w.heap.size, 3, none⟩ (.int .i64 r.view))).alloc (.cells #[] 48)).grownBy w2 (some wr.heap.size) → w2.ownsRow wr.heap.size 48 2 (.slice ao1 m.log.length cap1) m.log.length (enCells m.log) →
            w2.heap[w.heap.size]? = some (.cells #[.int .i64 m.a0, .int .i64 r.id, .int .i64 (k : Int), .int .i64 r.view, .int .i64 m.a4, .int .i64 m.a5, .int .i64 m.a6, .slice bo1 m.log.length c1] 27 (0, 0)) ∧ (w2.setCell ⟨w.heap.size, 7, none⟩ (.slice ao1 m.log.length cap1)).heap[w.heap.size]? = some (.cells #[.int .i64 m.a0, .int .i64 r.id, .int .i64 (k : Int), .int .i64 r.view, .int .i64 m.a4, .int .i64 m.a5, .int .i64 m.a6, .slice ao1 m.log.length cap1] 27 (0, 0)) ∧ (w2.setCell ⟨w.heap.size, 7, none⟩ (.slice ao1 m.log.length cap1)).heap.size = w2.heap.size ∧ OwnO B (w2.setCell ⟨w.heap.size, 7, none⟩ (.slice ao1 m.log.length cap1)) u5 q ∧ BoxR B (w2.setCell ⟨w.heap.size, 7, none⟩ (.slice ao1 m.log.length cap1)) g r ∧ (w2.setCell ⟨w.heap.size, 7, none⟩ (.slice ao1 m.log.length cap1)).ownsRow B 48 2 (.slice ao1 m.log.length cap1) m.log.length (enCells m.log) ∧ Keep B w (w2.setCell ⟨w.heap.size, 7, none⟩ (.slice ao1 m.log.length cap1))) := by
          intro w2 ao1 cap1 hgr hown
          have hW12 : Below wr.heap.size (((wr.setCell ⟨w.heap.size, 1, none⟩ (.int .i64 r.id)).setCell ⟨w.heap.size, 2, none⟩ (.int .i64 (k : Int))).setCell ⟨w.heap.size, 3, none⟩ (.int .i64 r.view)) w2 := ((Below.refl _ (((wr.setCell ⟨w.heap.size, 1, none⟩ (.int .i64 r.id)).setCell ⟨w.heap.size, 2, none⟩ (.int .i64 (k : Int))).setCell ⟨w.heap.size, 3, none⟩ (.int .i64 r.view))).alloc (Nat.le_of_eq hsz.symm) _).grown hgr (by simp [World.setCell]) (fun j hj => by cases hj; exact Nat.le_refl _)
          have hW12' : Below (((wr.setCell ⟨w.heap.size, 1, none⟩ (.int .i64 r.id)).setCell ⟨w.heap.size, 2, none⟩ (.int .i64 (k : Int))).setCell ⟨w.heap.size, 3, none⟩ (.int .i64 r.view)).heap.size (((wr.setCell ⟨w.heap.size, 1, none⟩ (.int .i64 r.id)).setCell ⟨w.heap.size, 2, none⟩ (.int .i64 (k : Int))).setCell ⟨w.heap.size, 3, none⟩ (.int .i64 r.view)) w2 := by rw [hsz]; exact hW12
          have bw2 := (hW12.block w.heap.size hlt3).trans b3
          have hO2 := ownO_below hO3 hW12'
          have hst := ms_stay (i := 7) bw2 (.slice ao1 m.log.length cap1)
          have hlow : Below B w2 (w2.setCell ⟨w.heap.size, 7, none⟩ (.slice ao1 m.log.length cap1)) := (Below.refl B w2).setCell (p := ⟨w.heap.size, 7, none⟩) hBw _
          exact ⟨bw2, (heap_setCell_same w2 _ 7 _ _ _ bw2).trans (by simp), by simp [World.setCell], ownO_off (i := 7) hO2 bw2 hvne _, (hT3.below hW12').stay hst (by decide) (by decide) (by decide), own_mono (own_stay hown hst (by decide) (fun _ h => h)) hBr, (hK3.trans (Keep.of_below hW12' (by rw [hsz]; exact hBr))).trans (Keep.of_stay hlow hst (by decide))⟩
        have HQl : q.length ≤ 5 := by have := HQ.out.2; omega
        go_wp2_with (first
          | (at_builtin; refine wpList_app_g Tryz.underlying22 Tryz.infoEn (by decide) _ rfl _ _ rfl wr.heap.size (.slice (some ⟨wr.heap.size, 0, none⟩) 0 0) 0 [] rfl hmade bo1 m.log.length c1 (enCells m.log) rfl (hheld _) (by omega) (by simp [World.setCell]) ?_; intro v1 w2 hown1 hgrow1 hnear1; obtain ⟨ao1, cap1, rfl⟩ := own_form hown1
             rw [List.nil_append] at hown1
             simp only [Nat.zero_add] at hown1
             obtain ⟨bw2, bw3, hszX, hOX, hTX, hLX, hKX⟩ := HW.out w2 ao1 cap1 hgrow1 hown1
             obtain ⟨css, a1, a2, a3, a4⟩ := hOX
             have hbY := (Below.refl _ (w2.setCell ⟨w.heap.size, 7, none⟩ (.slice ao1 m.log.length cap1))).alloc (Nat.le_refl _) (.cells #[.int .i64 m.a0, .int .i64 r.id, .int .i64 (k : Int), .int .i64 r.view, .int .i64 m.a4, .int .i64 m.a5, .int .i64 m.a6, .slice ao1 m.log.length cap1] 27)
             have hrowY := own_below a3 hbY
             have hheldY : Held ((w2.setCell ⟨w.heap.size, 7, none⟩ (.slice ao1 m.log.length cap1)).alloc (.cells #[.int .i64 m.a0, .int .i64 r.id, .int .i64 (k : Int), .int .i64 r.view, .int .i64 m.a4, .int .i64 m.a5, .int .i64 m.a6, .slice ao1 m.log.length cap1] 27)) (some ⟨w2.heap.size, 0, none⟩) 1 8 (mc (toM r m (k : Int)) (.slice ao1 m.log.length cap1)) := ⟨rfl, mc_one _ _ _ _, fun e => (by cases e), fun a e j u hj => by cases e; exact new_cells _ 27 (mc (toM r m (k : Int)) (.slice ao1 m.log.length cap1)) _ hszX j u hj⟩
             have n0 := box_cell bw2 0 _ rfl
             have n1 := box_cell bw2 1 _ rfl
             have n2 := box_cell bw2 2 _ rfl
             have n3 := box_cell bw2 3 _ rfl
             have n4 := box_cell bw2 4 _ rfl
             have n5 := box_cell bw2 5 _ rfl
             have n6 := box_cell bw2 6 _ rfl
             have n7 := box_cell bw2 7 _ rfl
             have nz := box_open bw2)
          | (at_builtin; refine wpList_app_g Tryz.underlying30 Tryz.infoMs (by decide) _ rfl _ _ rfl B u5 _ _ rfl hrowY (some ⟨w2.heap.size, 0, none⟩) 1 1 _ rfl hheldY (by omega) (Nat.le_trans hTX.base hbY.size) ?_; intro v3 w3 hown3 hgrow3 hnear3))
        have hst3 := (Stay.below (X := fun _ => False) (e := 27) hbY).trans (Stay.grown hrowY hgrow3)
        have hlow3 := (hbY.mono hTX.base).trans ((Below.refl B _).grown hgrow3 (Nat.le_trans hTX.base hbY.size) (fun j hj => (hrowY.lt j hj).1))
        have hmbX : w.heap.size < (w2.setCell ⟨w.heap.size, 7, none⟩ (.slice ao1 m.log.length cap1)).heap.size := (Array.getElem?_eq_some_iff.1 bw3).1
        go_roundw
        case rel =>
          refine ⟨k + 1, q ++ [toM r m (k : Int)], r.id, (k : Int), r.view, ao1, cap1, by omega, by go_num, HQ2, ⟨hTX.stay hst3 (by decide) (by decide) (by decide), ⟨((hgrow3.block _ (Nat.lt_of_lt_of_le hmbX hbY.size) (fun e => hvne e.symm)).trans (hbY.block _ hmbX)).trans bw3, .inr (own_stay hLX hst3 (by decide) (fun _ h => h))⟩, hKX.trans (Keep.of_stay hlow3 hst3 (by decide))⟩, ⟨own_snoc a1 a2 rfl (mc_one _ _ _ _) hown3 (fun i cs y hi hy => msO_stay hst3 (a4 i cs y hi hy)) ⟨_, rfl, own_stay hLX hst3 (by decide) (fun _ h => h)⟩, fun e => ?_⟩⟩
          rcases hnear3 with e2 | ⟨q2, e2, hq2⟩
          · exact hvne (e2.symm.trans e)
          · rw [e2] at e
            cases e
            have := hbY.size
            omega
        case measure => simp [intOf]; omega
    · obtain rfl : k = N := by omega
      have hq : q = allM r m := by
        have := HQ.out.1
        rw [restM_done r m k (by omega), List.append_nil] at this
        exact this
      have i1 : ¬ (k : Int) < (k : Int) := by omega
      go_wp2
      go_ret
      exact ⟨_, rfl, by rw [← hq]; exact HO.out.1, hT, hkk⟩
/-- It makes new memory alone. -/
theorem rall_low (g : Nat) (r : Rep) (m : Msg) (bo : Option Addr) (c : Nat) (w : World) {vl va vv vw vb : Value} (h : BoxF w g 25 13 (repF r vl va vv vw vb undef)) (h1 : OneOf r.id r.n) (hm : LiesE w w.heap.size bo m.log) (hml : m.log.length ≤ 1000) :
    Calls Tryz.prog 74 #[.pointer (some ⟨g, 0, none⟩), msV m bo c] w fun e w' => ∃ v, e = .returned v ∧ OwnO w.heap.size w' v (allM r m) ∧ Below w.heap.size w w' :=
  (rall_box w.heap.size g r m bo c w ⟨⟨_, _, _, _, _, h⟩, Nat.le_refl _, h1⟩ (.inl hm) hml).mono fun _ _ ⟨v, e, ho, _, hk⟩ => ⟨v, e, ho, hk.low⟩
theorem ownO_mono {B B' : Nat} {w : World} {v : Value} {l : Msgs} (h : OwnO B' w v l) (hB : B ≤ B') : OwnO B w v l := h.mono hB (fun cs x h => by obtain ⟨c, e, h⟩ := h; exact ⟨c, e, own_mono h hB⟩)
theorem rall_any (B g : Nat) (r : Rep) (m : Msg) (bo : Option Addr) (c : Nat) (w : World) (h : TurnR B w g r) (hm : SrcE B w bo c m.log) (hml : m.log.length ≤ 1000) :
    Calls Tryz.prog 74 #[.pointer (some ⟨g, 0, none⟩), msV m bo c] w fun e w' => ∃ v, e = .returned v ∧ OwnO B w' v (allM r m) ∧ TurnR B w' g r ∧ Keep B w w' := by
  obtain ⟨s, _, _, _, hH⟩ := h.cells
  refine (rall_low g r m bo c w hH.box h.one (hm.lies h.base) hml).mono ?_
  rintro e w' ⟨v, rfl, ho, hb⟩
  exact ⟨v, rfl, ownO_mono ho h.base, h.below hb, Keep.of_below hb h.base⟩
end Go.Proofs.YtajbdffepfjegaaGreat
