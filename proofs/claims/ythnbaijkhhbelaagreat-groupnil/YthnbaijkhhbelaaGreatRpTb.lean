/-
  Contracts of a replica at work: a message is sent to one, and to all others.
-/
import Derived.Test.YthnbaijkhhbelaaGreatRpTa
namespace Go.Proofs.YthnbaijkhhbelaaGreat
open Go.RowKit Num
set_option linter.unusedVariables false
set_option maxRecDepth 100000

abbrev Num.msV (m : Msg) (bo : Option Addr) (c : Nat) : Value := .agg #[.int .i64 m.a0, .int .i64 m.a1, .int .i64 m.a2, .int .i64 m.a3, .int .i64 m.a4, .int .i64 m.a5, .int .i64 m.a6, .slice bo m.log.length c]
/-- 'append' of one message, its log a row of the call's own. -/
theorem app_ms {B : Nat} {W : World} {x : Value} {o : Msgs} (ho : OwnO B W x o) (hB : B ≤ W.heap.size) (hlen : o.length ≤ 1000) (m : Msg) (ao : Option Addr) (cap : Nat) (hlog : W.ownsRow B 78 2 (.slice ao m.log.length cap) m.log.length (enCells m.log)) (ty : TypeId) :
    ∃ v' w', (Builtin.append_ #[63, 63] ty #[x, .slice (some ⟨W.heap.size, 0, none⟩) 1 1]).run Tryz.prog (W.alloc (.cells #[.int .i64 m.a0, .int .i64 m.a1, .int .i64 m.a2, .int .i64 m.a3, .int .i64 m.a4, .int .i64 m.a5, .int .i64 m.a6, .slice ao m.log.length cap] 89)).drew = .ok v' w' ∧
      OwnO B w' v' (o ++ [m]) ∧ Stay (fun _ => False) 89 W w' ∧ Below B W w' ∧ Near W x v' ∧ ∀ k, k < W.heap.size → x.ownBlock ≠ some k → w'.heap[k]? = W.heap[k]? := by
  obtain ⟨css, a1, a2, a3, a4⟩ := ho
  have hb : Below W.heap.size W (W.alloc (.cells #[.int .i64 m.a0, .int .i64 m.a1, .int .i64 m.a2, .int .i64 m.a3, .int .i64 m.a4, .int .i64 m.a5, .int .i64 m.a6, .slice ao m.log.length cap] 89)).drew := ((Below.refl _ W).alloc (Nat.le_refl _) _).drew
  have hheld : Held (W.alloc (.cells #[.int .i64 m.a0, .int .i64 m.a1, .int .i64 m.a2, .int .i64 m.a3, .int .i64 m.a4, .int .i64 m.a5, .int .i64 m.a6, .slice ao m.log.length cap] 89)).drew (some ⟨W.heap.size, 0, none⟩) 1 8 (mc m (.slice ao m.log.length cap)) :=
    ⟨rfl, mc_one _ _ _ _, fun e => (by cases e), fun a e j u hj => by cases e; exact new_cells W 89 (mc m (.slice ao m.log.length cap)) _ rfl j u hj⟩
  have hrow := own_below a3 hb
  obtain ⟨v', w', hr, h2, h3, h4⟩ := run_app_g Tryz.underlying63 Tryz.infoMs (by decide) _ ty B x _ _ hrow _ 1 1 _ hheld (by omega) (Nat.le_trans hB hb.size)
  have hst : Stay (fun _ => False) 89 W w' := (Stay.below hb).trans (Stay.grown hrow h3)
  refine ⟨v', w', hr, own_snoc a1 a2 rfl (mc_one _ _ _ _) h2 (fun i cs y hi hy => msO_stay hst (a4 i cs y hi hy)) ⟨_, rfl, own_stay hlog hst (by decide) (fun _ h => h)⟩, hst, ?_, ?_, fun k hk hn => (h3.block k (Nat.lt_of_lt_of_le hk hb.size) (fun e => hn e.symm)).trans (hb.block k hk)⟩
  · exact (hb.mono hB).trans ((Below.refl B _).grown h3 (Nat.le_trans hB hb.size) (fun j hj => (hrow.lt j hj).1))
  · rcases h4 with h4 | ⟨q, h4, h5⟩
    · exact .inl h4
    · exact .inr ⟨q, h4, Nat.le_trans hb.size h5⟩
/-- A message is sent: where the list of messages lies behind it, and what stays. -/
structure Num.Sent (B : Nat) (w w' : World) (g : Nat) (r : Rep) (o : Msgs) (x x' : Value) : Prop where
  ex : ∃ vl va vv vw vb, Hold 143 14 x' B w' g r vl va vv vw vb
  out : OwnO B w' x' o
  keep : Keep B w w'
  near : Near w x x'
  off : ∀ k, k < w.heap.size → k ≠ g → x.ownBlock ≠ some k → w'.heap[k]? = w.heap[k]?
set_option maxRecDepth 100000 in
set_option maxHeartbeats 2000000 in
theorem sendX_any (B g : Nat) (r : Rep) (o : Msgs) (m : Msg) (bo : Option Addr) (c : Nat) (to : Int) (w : World) (x : Value) (h : ∃ vl va vv vw vb, Hold 143 14 x B w g r vl va vv vw vb) (ho : OwnO B w x o) (hB : B ≤ w.heap.size) (hm : SrcE B w bo c m.log) (hml : m.log.length ≤ 1000) (hol : o.length ≤ 100) :
    Calls Tryz.prog 125 #[.pointer (some ⟨g, 0, none⟩), .int .i64 to, msV m bo c] w fun e w' => e = .returned (.tuple #[]) ∧ ∃ x', Sent B w w' g r (o ++ [toM r m to]) x x' := by
  obtain ⟨vl, va, vv, vw, vb, h⟩ := h
  obtain ⟨k0, k1, k2, k3, k4, k5, k6, k7, k8, k9, k10, k11, k12⟩ := h.cells (by omega)
  have e0 := fun ob : Obj => alloc_cell ob k0
  have e2 := fun ob : Obj => alloc_cell ob k2
  have hcl := fun (W : World) (hb : Below w.heap.size w W) => cloneE_any bo m.log.length c (enCells m.log) (by omega) W (src_next (liesE_src (hm.lies hB)) hb)
  have hw1 := fun ob : Obj => ((Below.refl _ w).alloc (Nat.le_refl _) ob).drew
  have HX : Hid (∀ W, Below w.heap.size w W → Hold 143 14 x B W g r vl va vv vw vb ∧ OwnO B W x o) := fun W hb => ⟨h.below hb, ownO_below ho hb⟩
  clear h ho hm k1 k3 k4 k5 k6 k7 k8 k9 k10 k11 k12
  go_enter Tryz.func125, Tryz.ntmps125
  go_wp2
  go_region
  go_wp2_with (first
    | (go_at_call 72; refine (hcl _ (hw1 _)).mono ?_; rintro e w1 ⟨ao1, cap1, rfl, hown1, hb1⟩
       have bx := below_box hb1 (heap_drew (heap_new w (.cells #[.int .i64 m.a0, .int .i64 r.id, .int .i64 to, .int .i64 r.view, .int .i64 m.a4, .int .i64 m.a5, .int .i64 m.a6, .slice bo m.log.length c] 89)))
       have c7 := box_cell bx 7 _ rfl
       have z7 := box_open bx 7))
  have hw2 : Below w.heap.size w (w1.setCell ⟨w.heap.size, 7, none⟩ (.slice ao1 m.log.length cap1)) := ((hw1 _).trans (hb1.mono (by simp))).setCell (p := ⟨w.heap.size, 7, none⟩) (Nat.le_refl _) _
  have bx2 : (w1.setCell ⟨w.heap.size, 7, none⟩ (.slice ao1 m.log.length cap1)).heap[w.heap.size]? = some (.cells #[.int .i64 m.a0, .int .i64 r.id, .int .i64 to, .int .i64 r.view, .int .i64 m.a4, .int .i64 m.a5, .int .i64 m.a6, .slice ao1 m.log.length cap1] 89 (0, 0)) := (heap_setCell_same w1 w.heap.size 7 _ _ (.slice ao1 m.log.length cap1) bx).trans (by simp)
  have hst7 : Stay (fun _ => False) 89 w1 (w1.setCell ⟨w.heap.size, 7, none⟩ (.slice ao1 m.log.length cap1)) := ⟨by simp [World.setCell], fun k hk _ hn => Below.heap_setCell _ _ _ _ (fun e => by subst e; exact hn _ _ bx)⟩
  have hlog := own_stay hown1 hst7 (by decide) (fun _ h => h)
  have hlog2 := own_mono hlog (show B ≤ _ from Nat.le_trans hB (by simp))
  obtain ⟨h2, ho2⟩ := HX.out _ hw2
  have hsame := hw2.block
  have hszX := hw2.size
  have hK2 := Keep.of_below hw2 hB
  have hB2 := Nat.le_trans hB hw2.size
  clear hlog hown1 hst7 bx c7 z7 hb1 hcl hw1 hw2 HX e0 e2 k0 k2
  generalize w1.setCell ⟨w.heap.size, 7, none⟩ (.slice ao1 m.log.length cap1) = X at *
  have c0 := box_cell bx2 0 _ rfl
  have c1 := box_cell bx2 1 _ rfl
  have c2 := box_cell bx2 2 _ rfl
  have c3 := box_cell bx2 3 _ rfl
  have c4 := box_cell bx2 4 _ rfl
  have c5 := box_cell bx2 5 _ rfl
  have c6 := box_cell bx2 6 _ rfl
  have c7 := box_cell bx2 7 _ rfl
  have c13 : X.cell? ⟨g, 13, none⟩ = some x := h2.box.cell 13 (by omega)
  obtain ⟨v', w4, hr, ho4, hs4, hb4, hn4, hf4⟩ := app_ms ho2 hB2 (by omega) (toM r m to) ao1 cap1 hlog2 63
  obtain ⟨ao4, cap4, rfl⟩ := ho4.shape
  generalize hL : List.length (o ++ [toM r m to]) = L at *
  have h4 := h2.stay hs4 (by decide) (by decide) (by decide)
  have d13 : w4.cell? ⟨g, 13, none⟩ = some x := h4.box.cell 13 (by omega)
  have z13 := h4.box.unfrozen 13
  have h5 := hold_sets h4 (by omega) (by decide) (by decide) [(13, .slice ao4 L cap4)] (r' := r) (x' := .slice ao4 L cap4) h4.rows (fun f f' e e' => by subst e e'; exact ⟨rfl, rfl, rfl, rfl, rfl, rfl, rfl, rfl, rfl, rfl, rfl, rfl, rfl, rfl⟩)
  have ho5 := ownO_stay ho4 (sets_box [(13, .slice ao4 L cap4)] h4.box).2 (by decide) (by decide)
  have hk5 := (hK2.trans (Keep.of_stay hb4 hs4 (by decide))).trans (sets_keep h4.base h4.box (by decide) [(13, .slice ao4 L cap4)])
  have hnear : Near w x (.slice ao4 L cap4) := by
    rcases hn4 with e | ⟨q, e, hq⟩
    · exact .inl e
    · exact .inr ⟨q, e, Nat.le_trans hszX hq⟩
  have hoff : ∀ k, k < w.heap.size → k ≠ g → x.ownBlock ≠ some k → (w4.setCell ⟨g, 13, none⟩ (.slice ao4 L cap4)).heap[k]? = w.heap[k]? := fun k hk hg hn => (Below.heap_setCell _ _ _ _ hg).trans ((hf4 k (Nat.lt_of_lt_of_le hk hszX) hn).trans (hsame k hk))
  have hT : Sent B w (w4.setCell ⟨g, 13, none⟩ (.slice ao4 L cap4)) g r (o ++ [toM r m to]) x (.slice ao4 L cap4) := ⟨⟨_, _, _, _, _, h5⟩, ho5, hk5, hnear, hoff⟩
  clear h5 ho5 h4 ho4 h2 ho2 hs4 hb4 hlog2 bx2 hK2 hk5 hnear hoff hn4 hf4 hsame hszX
  have c13z := fun ob : Obj => alloc_cell ob c13
  go_region_law (refine step_app_run rfl (.tmp 28) (.tmp 30) 63 rfl x (.slice (some ⟨X.heap.size, 0, none⟩) 1 1) (by simp [Act.eval]) (by simp [Act.eval]) hr ?_)
  all_goals
    go_end0
    exact ⟨rfl, _, hT⟩
theorem sendT_any (B g : Nat) (r : Rep) (o : Msgs) (m : Msg) (bo : Option Addr) (c : Nat) (to : Int) (w : World) (h : Turn B w g r o) (hm : SrcE B w bo c m.log) (hml : m.log.length ≤ 1000) (hol : o.length ≤ 100) :
    Calls Tryz.prog 125 #[.pointer (some ⟨g, 0, none⟩), .int .i64 to, msV m bo c] w fun e w' => e = .returned (.tuple #[]) ∧ Turn B w' g r (o ++ [toM r m to]) ∧ Keep B w w' := by
  obtain ⟨⟨vl, va, vv, vw, vb, x, h, ho⟩, hB, h1, hl, hb, ha⟩ := h
  refine (sendX_any B g r o m bo c to w x ⟨vl, va, vv, vw, vb, h⟩ ho hB hm hml hol).mono ?_
  rintro e w' ⟨rfl, x', ⟨vl', va', vv', vw', vb', h'⟩, ho', hk, _, _⟩
  exact ⟨rfl, ⟨⟨vl', va', vv', vw', vb', x', h', ho'⟩, Nat.le_trans hB hk.low.size, h1, hl, hb, ha⟩, hk⟩
set_option maxHeartbeats 1000000 in
theorem sendAllT_any (B g : Nat) (r : Rep) (o : Msgs) (m : Msg) (bo : Option Addr) (c : Nat) (w : World) (h : Turn B w g r o) (hm : SrcE B w bo c m.log) (hml : m.log.length ≤ 1000) (hol : o.length ≤ 50) :
    Calls Tryz.prog 109 #[.pointer (some ⟨g, 0, none⟩), msV m bo c] w fun e w' => e = .returned (.tuple #[]) ∧ Turn B w' g r (o ++ allM r m) ∧ Keep B w w' := by
  have hn := one_bounds h.one
  have hbox : Below w.heap.size w (w.alloc (.cells #[.int .i64 m.a0, .int .i64 m.a1, .int .i64 m.a2, .int .i64 m.a3, .int .i64 m.a4, .int .i64 m.a5, .int .i64 m.a6, .slice bo m.log.length c] 89)) := (Below.refl _ w).alloc (Nat.le_refl _) _
  have h0 := h.below hbox
  have hB := h.base
  have bx := heap_new w (.cells #[.int .i64 m.a0, .int .i64 m.a1, .int .i64 m.a2, .int .i64 m.a3, .int .i64 m.a4, .int .i64 m.a5, .int .i64 m.a6, .slice bo m.log.length c] 89)
  have k1 : (w.alloc (.cells #[.int .i64 m.a0, .int .i64 m.a1, .int .i64 m.a2, .int .i64 m.a3, .int .i64 m.a4, .int .i64 m.a5, .int .i64 m.a6, .slice bo m.log.length c] 89)).cell? ⟨g, 1, none⟩ = some (.int .i64 r.n) := by
    obtain ⟨⟨vl, va, vv, vw, vb, x, h, ho⟩, _⟩ := h0
    exact h.box.cell 1 (by omega)
  have hk0 := Keep.of_below hbox hB
  have hm0 := hm.keep hk0
  have hgw : g ≠ w.heap.size := by
    obtain ⟨⟨vl, va, vv, vw, vb, x, h, ho⟩, _⟩ := h
    exact Nat.ne_of_lt h.box.lt
  have h1 := h.one
  have hl := h.ll
  have hb := h.bl
  have ha := h.al
  have hstart : Hid (∃ x, ((∃ vl va vv vw vb, Hold 143 14 x B (w.alloc (.cells #[.int .i64 m.a0, .int .i64 m.a1, .int .i64 m.a2, .int .i64 m.a3, .int .i64 m.a4, .int .i64 m.a5, .int .i64 m.a6, .slice bo m.log.length c] 89)) g r vl va vv vw vb) ∧ OwnO B (w.alloc (.cells #[.int .i64 m.a0, .int .i64 m.a1, .int .i64 m.a2, .int .i64 m.a3, .int .i64 m.a4, .int .i64 m.a5, .int .i64 m.a6, .slice bo m.log.length c] 89)) x o ∧ x.ownBlock ≠ some w.heap.size) ∧ SrcE B (w.alloc (.cells #[.int .i64 m.a0, .int .i64 m.a1, .int .i64 m.a2, .int .i64 m.a3, .int .i64 m.a4, .int .i64 m.a5, .int .i64 m.a6, .slice bo m.log.length c] 89)) bo c m.log ∧ Keep B w (w.alloc (.cells #[.int .i64 m.a0, .int .i64 m.a1, .int .i64 m.a2, .int .i64 m.a3, .int .i64 m.a4, .int .i64 m.a5, .int .i64 m.a6, .slice bo m.log.length c] 89))) := by
    obtain ⟨⟨vl, va, vv, vw, vb, x, h, ho⟩, _⟩ := h
    refine ⟨x, ⟨⟨vl, va, vv, vw, vb, h.below hbox⟩, ownO_below ho hbox, fun e => ?_⟩, hm0, hk0⟩
    obtain ⟨css, _, _, hrow, _⟩ := ho
    exact Nat.lt_irrefl _ (hrow.lt _ e).2
  clear h hm h0 hm0 hk0
  obtain ⟨N, hN⟩ := Int.eq_ofNat_of_zero_le (show 0 ≤ r.n by omega)
  rw [hN] at k1
  go_enter Tryz.func109, Tryz.ntmps109
  go_wp2
  go_loopw [10, 4] (fun i _ wr => ∃ (k : Nat) (q : Msgs), k ≤ N ∧ i = .int .i64 (k : Int) ∧ Hid (q ++ restM r m k = o ++ allM r m ∧ q.length ≤ 50 + k) ∧ Hid (∃ x, ((∃ vl va vv vw vb, Hold 143 14 x B wr g r vl va vv vw vb) ∧ OwnO B wr x q ∧ x.ownBlock ≠ some w.heap.size) ∧ SrcE B wr bo c m.log ∧ Keep B w wr) ∧ Hid (wr.heap[w.heap.size]? = some (.cells #[.int .i64 m.a0, .int .i64 m.a1, .int .i64 m.a2, .int .i64 m.a3, .int .i64 m.a4, .int .i64 m.a5, .int .i64 m.a6, .slice bo m.log.length c] 89 (0, 0)))) (fun i _ _ => N - (intOf i).toNat)
  case atStart => exact ⟨0, o, by omega, rfl, ⟨rfl, hol⟩, hstart, bx⟩
  case round =>
    obtain ⟨k, q, hk, rfl, HQ, HT, HB⟩ := hrel
    have hwb : w.heap.size < wr.heap.size := (Array.getElem?_eq_some_iff.1 HB.out).1
    obtain ⟨x, ⟨hh, hoo, hx⟩, hsrc, hkk⟩ := HT.out
    have e0 : wr.cell? ⟨g, 0, none⟩ = some (.int .i64 r.id) := by
      obtain ⟨vl, va, vv, vw, vb, h⟩ := hh
      exact h.box.cell 0 (by omega)
    have c0 := box_cell HB.out 0 _ rfl
    have c1 := box_cell HB.out 1 _ rfl
    have c2 := box_cell HB.out 2 _ rfl
    have c3 := box_cell HB.out 3 _ rfl
    have c4 := box_cell HB.out 4 _ rfl
    have c5 := box_cell HB.out 5 _ rfl
    have c6 := box_cell HB.out 6 _ rfl
    have c7 := box_cell HB.out 7 _ rfl
    by_cases hkN : k < N
    · have i1 : (k : Int) < (N : Int) := by omega
      by_cases hki : (k : Int) = r.id
      · have HQ2 : Hid (q ++ restM r m (k + 1) = o ++ allM r m ∧ q.length ≤ 50 + (k + 1)) := ⟨by rw [← restM_self r m k (by omega) hki]; exact HQ.out.1, by have := HQ.out.2; omega⟩
        rw [← hki] at e0
        clear hki
        go_wp2
        go_roundw
        case rel => exact ⟨k + 1, q, by omega, by go_num, HQ2, HT, HB⟩
        case measure => simp [intOf]; omega
      · have HQ2 : Hid ((q ++ [toM r m (k : Int)]) ++ restM r m (k + 1) = o ++ allM r m ∧ (q ++ [toM r m (k : Int)]).length ≤ 50 + (k + 1)) := ⟨by rw [List.append_assoc, List.singleton_append, ← restM_next r m k (by omega) hki]; exact HQ.out.1, by have := HQ.out.2; rw [List.length_append]; simp; omega⟩
        have hs := sendX_any B g r q m bo c (k : Int) wr x hh hoo (Nat.le_trans hB hkk.low.size) hsrc hml (by have := HQ.out.2; omega)
        have hki2 : ((k : Int) != r.id) = true := by simp [hki]
        have hki3 : decide ((k : Int) = r.id) = false := decide_eq_false hki
        clear hh hoo
        go_wp2_with (first
          | (go_at_call 125; refine hs.mono ?_; rintro e w2 ⟨rfl, x2, hS2⟩))
        go_roundw
        case rel =>
          refine ⟨k + 1, q ++ [toM r m (k : Int)], by omega, by go_num, HQ2, ⟨x2, ⟨hS2.ex, hS2.out, fun e => ?_⟩, hsrc.keep hS2.keep, hkk.trans hS2.keep⟩, (hS2.off _ hwb hgw.symm hx).trans HB.out⟩
          rcases hS2.near with e2 | ⟨q2, e2, hq2⟩
          · exact hx (e2.symm.trans e)
          · rw [e2] at e
            cases e
            omega
        case measure => simp [intOf]; omega
    · obtain rfl : k = N := by omega
      have hq : q = o ++ allM r m := by
        have := HQ.out.1
        rw [restM_done r m k (by omega), List.append_nil] at this
        exact this
      have i1 : ¬ (k : Int) < (k : Int) := by omega
      go_wp2
      go_end0
      refine ⟨rfl, ?_, hkk⟩
      rw [← hq]
      obtain ⟨vl, va, vv, vw, vb, h⟩ := hh
      exact ⟨⟨_, _, _, _, _, _, h, hoo⟩, Nat.le_trans hB hkk.low.size, h1, hl, hb, ha⟩
end Go.Proofs.YthnbaijkhhbelaaGreat
