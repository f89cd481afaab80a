/-
  Joined:
  Contracts of the document's own store: what the ways of a version that is put in share.
  Contracts of the document's own store: some of the ways of a version that is put in (8.2).
  Contracts of the document's own store: some of the ways of a version that is put in (8.2).
  Contracts of the document's own store: some of the ways of a version that is put in (8.2).
  Contracts of the document's own store: some of the ways of a version that is put in (8.2).
  Contracts of the document's own store: a version put in (8.2), Put, Del.
-/
import Derived.Test.YtdmkmhjalcfchaaQRd
import Derived.Deep.RegionHeldLaw
namespace Go.Proofs.Ytdmkmhjalcfchaa
open Go.RowKit Num
open scoped Classical
set_option linter.unusedVariables false
set_option maxRecDepth 100000

abbrev Num.boxR (v : Ver) : Obj := .cells #[.string v.key, .int .i64 v.time, .string v.val, .bool v.gone] 91
theorem ref_turn {B : Nat} {w : World} {w1 : World} {g : Nat} {st : Sto} {ao : Option Addr} {cap : Nat} (h : RefAt B w g st ao cap) {st' : Sto} {ao' : Option Addr} {cap' : Nat} (hg : w.grownBy w1 (some g)) (hb : w1.heap[g]? = some (.cells #[.int .i64 st'.room, .int .i64 st'.top, .slice ao' st'.vs.length cap'] 89 (0, 0))) (hr : w.ownsRow B 91 4 (.slice ao' st'.vs.length cap') st'.vs.length (rvCells st'.vs)) (hi : InvS st') : RefAt B w1 g st' ao' cap' ∧ TurnR B w w1 := by
  have hlt := (Array.getElem?_eq_some_iff.1 h.box).1
  refine ⟨⟨hb, h.gB, own_same hr (fun i cur _ e => grown_keep hg e (by
    intro e2
    cases e2
    rw [h.box] at e
    cases e)), hi⟩, Turns.of_grown hg h.gB (Nat.le_trans h.gB (Nat.le_of_lt hlt)) (fun o e => ?_)⟩
  rw [h.box] at e
  cases e
  exact fun h => h.1 rfl
theorem ref_row_heap {B : Nat} {w : World} {g : Nat} {st : Sto} {ao : Option Addr} {cap : Nat} (h : RefAt B w g st ao cap) (hne : st.vs ≠ []) : ∃ b cur, ao = some ⟨b, 0, none⟩ ∧ w.heap[b]? = some (.cells cur 91 (0, 0)) ∧ B ≤ b := by
  rcases h.row.2 with ⟨e, h0⟩ | ⟨g', cap', cur, e, hb, hg, _⟩
  · exact absurd (List.eq_nil_of_length_eq_zero h0) hne
  · cases e
    exact ⟨g', cur, rfl, hg, hb⟩
theorem low2 {w : World} (x : Low w) (y : Low x.wd) : Below w.heap.size w y.wd := below_next x.low (Nat.le_refl _) y.low
end Go.Proofs.Ytdmkmhjalcfchaa
namespace Go.Proofs.Ytdmkmhjalcfchaa
open Go.RowKit Num
open scoped Classical
set_option linter.unusedVariables false
set_option maxRecDepth 100000

set_option maxRecDepth 100000 in
set_option maxHeartbeats 4000000 in
theorem rput_pZfull (B g : Nat) (st : Sto) (v : Ver) (hgo : v.gone = false) (hJ : lastJ v.key 1099511627776 st.vs = 0) (hroom : st.room ≤ (st.vs.length : Int)) (h1 : 1 ≤ v.time) (h2 : v.time < 1099511627776) (h3 : st.top ≤ v.time) (hn : st.vs.length ≤ 4100) (w : World) (h : HoldR B w g st) :
    Calls Try.prog 53 #[.pointer (some ⟨g, 0, none⟩), .agg #[.string v.key, .int .i64 v.time, .string v.val, .bool v.gone]] w fun e w' => e = .returned (.int .i64 4) ∧ HoldR B w' g st ∧ TurnR B w w' := by
  have hgl := h.lt
  have hB : B ≤ w.heap.size := Nat.le_trans hgl.1 (Nat.le_of_lt hgl.2)
  have hbA : Below w.heap.size w (w.alloc (boxR v)) := (Below.refl _ w).alloc (Nat.le_refl _) _
  have hA := h.below hbA
  have p0 := heap_new w (boxR v)
  have hla : ∀ z : Low (w.alloc (boxR v)), Calls Try.prog 54 #[.pointer (some ⟨g, 0, none⟩), .string v.key, .int .i64 1099511627776] z.wd fun e w' => e = .returned (.int .i64 (-1)) ∧ w' = z.wd := fun z => by
    have := rlast_any B g st v.key 1099511627776 (by omega) z.wd (hA.below z.low)
    rw [hJ, show (((0 : Nat) : Int) - 1) = -1 by omega] at this
    exact this
  obtain ⟨ao, cap, hR⟩ := h
  have hRz : ∀ z : Low (w.alloc (boxR v)), RefAt B z.wd g st ao cap := fun z => (hR.below hbA).below z.low
  have q1 : ∀ z : Low (w.alloc (boxR v)), z.wd.cell? ⟨w.heap.size, 1, none⟩ = some (.int .i64 v.time) := fun z => box_cell (below_box z.low p0) 1 _ rfl
  have t1 : ∀ z : Low (w.alloc (boxR v)), z.wd.cell? ⟨g, 1, none⟩ = some (.int .i64 st.top) := fun z => (ref_cells (hRz z)).2.1
  have q0 : ∀ z : Low (w.alloc (boxR v)), z.wd.cell? ⟨w.heap.size, 0, none⟩ = some (.string v.key) := fun z => box_cell (below_box z.low p0) 0 _ rfl
  have q3 : ∀ z : Low (w.alloc (boxR v)), z.wd.cell? ⟨w.heap.size, 3, none⟩ = some (.bool false) := fun z => by
    have := box_cell (below_box z.low p0) 3 _ rfl
    rw [hgo] at this
    exact this
  have s2 : ∀ z : Low (w.alloc (boxR v)), z.wd.cell? ⟨g, 2, none⟩ = some (.slice ao st.vs.length cap) := fun z => (ref_cells (hRz z)).2.2
  have hdone : ∀ z : Low (w.alloc (boxR v)), HoldR B z.wd g st ∧ TurnR B w z.wd := fun z => ⟨⟨_, _, hRz z⟩, Turns.of_below (below_next hbA (Nat.le_refl _) z.low) hB⟩
  have r0 : ∀ z : Low (w.alloc (boxR v)), z.wd.cell? ⟨g, 0, none⟩ = some (.int .i64 st.room) := fun z => (ref_cells (hRz z)).1
  have u1 : decide (v.time < 1) = false := decide_eq_false (by omega)
  have u2 : decide ((1099511627776 : Int) ≤ v.time) = false := decide_eq_false (by omega)
  have u3 : decide (v.time < st.top) = false := decide_eq_false (by omega)
  have u4 : st.room ≤ (st.vs.length : Int) := hroom
  have hgw9 : ¬ w.heap.size = g := by omega
  clear hR hA hRz p0 hbA hB h1 h2 h3 hJ hgl hgo
  generalize st.vs.length = L at *
  go_enter Try.func53, Try.ntmps53
  go_wp2_with fail
  refine wp_region_low (by kernel_rfl) (by kernel_rfl) fun hsomez => ?_
  repeat (go_big_quiet_step (fail))
  refine wpQuiet_nil ?_
  rintro _ ⟨z, rfl⟩
  have hlz := hla z
  go_wp2_with (first
    | (go_at_call 54; refine hlz.mono ?_; rintro e wn ⟨rfl, hq⟩; have hq' := hq.symm; clear hq; subst hq'))
  have q0y : ∀ y : Low z.wd, y.wd.cell? ⟨w.heap.size, 0, none⟩ = some (.string v.key) := fun y => q0 ⟨y.wd, low2 z y⟩
  have q1y : ∀ y : Low z.wd, y.wd.cell? ⟨w.heap.size, 1, none⟩ = some (.int .i64 v.time) := fun y => q1 ⟨y.wd, low2 z y⟩
  have s2y : ∀ y : Low z.wd, y.wd.cell? ⟨g, 2, none⟩ = some (.slice ao L cap) := fun y => s2 ⟨y.wd, low2 z y⟩
  have r0y : ∀ y : Low z.wd, y.wd.cell? ⟨g, 0, none⟩ = some (.int .i64 st.room) := fun y => r0 ⟨y.wd, low2 z y⟩
  refine wp_region_low (by kernel_rfl) (by kernel_rfl) fun hsomey => ?_
  repeat (go_big_quiet_step (fail))
  refine wpQuiet_nil ?_
  rintro _ ⟨y, rfl⟩
  go_wp2_with fail
  have q0u : ∀ u : Low y.wd, u.wd.cell? ⟨w.heap.size, 0, none⟩ = some (.string v.key) := fun u => q0 ⟨u.wd, below_next (low2 z y) (Nat.le_refl _) u.low⟩
  have q1u : ∀ u : Low y.wd, u.wd.cell? ⟨w.heap.size, 1, none⟩ = some (.int .i64 v.time) := fun u => q1 ⟨u.wd, below_next (low2 z y) (Nat.le_refl _) u.low⟩
  have s2u : ∀ u : Low y.wd, u.wd.cell? ⟨g, 2, none⟩ = some (.slice ao L cap) := fun u => s2 ⟨u.wd, below_next (low2 z y) (Nat.le_refl _) u.low⟩
  have r0u : ∀ u : Low y.wd, u.wd.cell? ⟨g, 0, none⟩ = some (.int .i64 st.room) := fun u => r0 ⟨u.wd, below_next (low2 z y) (Nat.le_refl _) u.low⟩
  refine wp_region_low (by kernel_rfl) (by kernel_rfl) fun hsomeu => ?_
  repeat (go_big_quiet_step (fail))
  refine wpQuiet_nil ?_
  rintro _ ⟨u, rfl⟩
  have hz := hdone ⟨u.wd, below_next (low2 z y) (Nat.le_refl _) u.low⟩
  go_wp2
  go_ret
  exact ⟨rfl, hz⟩
set_option maxRecDepth 100000 in
set_option maxHeartbeats 4000000 in
theorem rput_pZmore (B g : Nat) (st : Sto) (v : Ver) (hgo : v.gone = false) (hJ : lastJ v.key 1099511627776 st.vs = 0) (hroom : (st.vs.length : Int) < st.room) (h1 : 1 ≤ v.time) (h2 : v.time < 1099511627776) (h3 : st.top ≤ v.time) (hn : st.vs.length ≤ 4100) (w : World) (h : HoldR B w g st) :
    Calls Try.prog 53 #[.pointer (some ⟨g, 0, none⟩), .agg #[.string v.key, .int .i64 v.time, .string v.val, .bool v.gone]] w fun e w' => e = .returned (.int .i64 0) ∧ HoldR B w' g ⟨st.room, v.time, st.vs ++ [v]⟩ ∧ TurnR B w w' := by
  have hgl := h.lt
  have hB : B ≤ w.heap.size := Nat.le_trans hgl.1 (Nat.le_of_lt hgl.2)
  have hbA : Below w.heap.size w (w.alloc (boxR v)) := (Below.refl _ w).alloc (Nat.le_refl _) _
  have hA := h.below hbA
  have p0 := heap_new w (boxR v)
  have hla : ∀ z : Low (w.alloc (boxR v)), Calls Try.prog 54 #[.pointer (some ⟨g, 0, none⟩), .string v.key, .int .i64 1099511627776] z.wd fun e w' => e = .returned (.int .i64 (-1)) ∧ w' = z.wd := fun z => by
    have := rlast_any B g st v.key 1099511627776 (by omega) z.wd (hA.below z.low)
    rw [hJ, show (((0 : Nat) : Int) - 1) = -1 by omega] at this
    exact this
  obtain ⟨ao, cap, hR⟩ := h
  have hRz : ∀ z : Low (w.alloc (boxR v)), RefAt B z.wd g st ao cap := fun z => (hR.below hbA).below z.low
  have q1 : ∀ z : Low (w.alloc (boxR v)), z.wd.cell? ⟨w.heap.size, 1, none⟩ = some (.int .i64 v.time) := fun z => box_cell (below_box z.low p0) 1 _ rfl
  have t1 : ∀ z : Low (w.alloc (boxR v)), z.wd.cell? ⟨g, 1, none⟩ = some (.int .i64 st.top) := fun z => (ref_cells (hRz z)).2.1
  have q0 : ∀ z : Low (w.alloc (boxR v)), z.wd.cell? ⟨w.heap.size, 0, none⟩ = some (.string v.key) := fun z => box_cell (below_box z.low p0) 0 _ rfl
  have q3 : ∀ z : Low (w.alloc (boxR v)), z.wd.cell? ⟨w.heap.size, 3, none⟩ = some (.bool false) := fun z => by
    have := box_cell (below_box z.low p0) 3 _ rfl
    rw [hgo] at this
    exact this
  have s2 : ∀ z : Low (w.alloc (boxR v)), z.wd.cell? ⟨g, 2, none⟩ = some (.slice ao st.vs.length cap) := fun z => (ref_cells (hRz z)).2.2
  have r0 : ∀ z : Low (w.alloc (boxR v)), z.wd.cell? ⟨g, 0, none⟩ = some (.int .i64 st.room) := fun z => (ref_cells (hRz z)).1
  have hmore : ∀ z : Low (w.alloc (boxR v)), ∃ ao' cap' w5, (∀ ty, (Builtin.append_ #[87, 87] ty #[.slice ao st.vs.length cap, .slice (some ⟨z.wd.heap.size, 0, none⟩) 1 1]).run Try.prog (z.wd.alloc (boxR v)).drew = .ok (.slice ao' (st.vs.length + 1) cap') w5) ∧ w5.cell? ⟨g, 2, none⟩ = some (.slice ao st.vs.length cap) ∧ w5.frozen? ⟨g, 2, none⟩ = false ∧ w5.frozen? ⟨g, 1, none⟩ = false ∧ w5.cell? ⟨g, 1, none⟩ = some (.int .i64 st.top) ∧ w5.cell? ⟨w.heap.size, 0, none⟩ = some (.string v.key) ∧ w5.cell? ⟨w.heap.size, 1, none⟩ = some (.int .i64 v.time) ∧ w5.cell? ⟨w.heap.size, 2, none⟩ = some (.string v.val) ∧ w5.cell? ⟨w.heap.size, 3, none⟩ = some (.bool v.gone) ∧
      HoldR B ((w5.setCell ⟨g, 2, none⟩ (.slice ao' (st.vs.length + 1) cap')).setCell ⟨g, 1, none⟩ (.int .i64 v.time)) g ⟨st.room, v.time, st.vs ++ [v]⟩ ∧ TurnR B w ((w5.setCell ⟨g, 2, none⟩ (.slice ao' (st.vs.length + 1) cap')).setCell ⟨g, 1, none⟩ (.int .i64 v.time)) := by
    intro z
    have hinv : InvS ⟨st.room, v.time, st.vs ++ [v]⟩ := by
      have := inv_put hR.inv v
      have e : putS st v = (0, ⟨st.room, v.time, st.vs ++ [v]⟩) := by
        unfold putS
        rw [if_neg (by omega), if_neg (by rw [hgo]; simp), if_neg (by rw [← lastA_all hR.inv, lastV_zero hJ]; simp [lastAt]), if_neg (by omega)]
      rw [e] at this
      exact this
    have hbD : Below z.wd.heap.size z.wd (z.wd.alloc (boxR v)).drew := ((Below.refl _ _).alloc (Nat.le_refl _) _).drew
    have hZ := (hRz z).below hbD
    obtain ⟨i0, hi, hz0, hz1, hz2⟩ := info_parts Try.infoRV
    have hnn : (z.wd.alloc (boxR v)).drew.heap[z.wd.heap.size]? = some (boxR v) := heap_drew (heap_newB z.wd (boxR v) z.wd.heap.size rfl)
    have hBz : B ≤ (z.wd.alloc (boxR v)).drew.heap.size := Nat.le_trans hB (Nat.le_trans hbA.size (Nat.le_trans z.low.size hbD.size))
    obtain ⟨v', w5, hr5, ho5, hg5, _, hn5⟩ := run_append_own_at (P := Try.prog) (z.wd.alloc (boxR v)).drew B 87 0 91 i0 _ 4 48 Try.underlying87 hi hz0 hz1 hz2 rfl (by decide) _ _ _ hZ.row ⟨z.wd.heap.size, 0, none⟩ 1 1 (rvC v) rfl (fun j u hj => by
      rw [Addr.add_lit, Nat.zero_add]
      exact box_cell hnn j u (by simpa [rvC] using hj)) (rone4 v) (by unfold maxLen; omega) (by omega) hBz
    have hl1 : (st.vs ++ [v]).length = st.vs.length + 1 := by simp
    have ho5' : w5.ownsRow B 91 4 v' (st.vs ++ [v]).length (rvCells (st.vs ++ [v])) := by
      rw [hl1, rvCells_append]
      exact ho5
    obtain ⟨ao', cap', rfl, _⟩ := own_liesR ho5'
    have hty : ∀ ty, (Builtin.append_ #[87, 87] ty #[.slice ao st.vs.length cap, .slice (some ⟨z.wd.heap.size, 0, none⟩) 1 1]).run Try.prog (z.wd.alloc (boxR v)).drew = .ok (.slice ao' (st.vs.length + 1) cap') w5 := fun ty => by
      rw [← hl1]
      exact hr5
    have hrowk : ∀ (i : Nat) (o : Obj), (z.wd.alloc (boxR v)).drew.heap[i]? = some o → (∀ c, (Value.slice ao st.vs.length cap).ownBlock = some c → i ≠ c) → w5.heap[i]? = some o := fun i o e h0 => grown_keep hg5 e (fun e2 => h0 i e2.symm rfl)
    have hbx : (z.wd.alloc (boxR v)).drew.heap[w.heap.size]? = some (boxR v) := below_box hbD (below_box z.low p0)
    have hbx5 := hrowk _ _ hbx (fun c hc => by
      have := (hR.row.lt c hc).2
      omega)
    have hg5b := hrowk _ _ hZ.box (fun c hc e => by
      subst e
      rcases hZ.row.2 with ⟨e, _⟩ | ⟨g', cap2, cur2, e, _, hgg, _⟩
      · rw [e] at hc
        simp [Value.ownBlock] at hc
      · rw [e] at hc
        simp [Value.ownBlock] at hc
        rw [hc, hZ.box] at hgg
        cases hgg)
    have hT5 : TurnR B (z.wd.alloc (boxR v)).drew w5 := by
      rcases hZ.row.2 with ⟨e, _⟩ | ⟨g', cap2, cur2, e, hbb, hgg, _⟩
      · rw [e] at hg5
        exact Turns.of_below ⟨hg5.os, hg5.tape, hg5.output, hg5.size, fun i hi => hg5.block i hi (by simp [Value.ownBlock])⟩ hBz
      · rw [e] at hg5
        exact Turns.of_grown hg5 hbb hBz (fun o eo => by
          rw [hgg] at eo
          cases eo
          exact fun h => h.2 rfl)
    have hR6 : (w5.setCell ⟨g, 2, none⟩ (.slice ao' (st.vs.length + 1) cap')).heap[g]? = some (.cells #[.int .i64 st.room, .int .i64 st.top, .slice ao' (st.vs.length + 1) cap'] 89 (0, 0)) := set_heap hg5b _
    have hR7 : ((w5.setCell ⟨g, 2, none⟩ (.slice ao' (st.vs.length + 1) cap')).setCell ⟨g, 1, none⟩ (.int .i64 v.time)).heap[g]? = some (.cells #[.int .i64 st.room, .int .i64 v.time, .slice ao' (st.vs.length + 1) cap'] 89 (0, 0)) := set_heap hR6 _
    have hgg := (grown_set w5 g 2 (.slice ao' (st.vs.length + 1) cap')).trans (grown_set (w5.setCell ⟨g, 2, none⟩ (.slice ao' (st.vs.length + 1) cap')) g 1 (.int .i64 v.time))
    have hfin : RefAt B ((w5.setCell ⟨g, 2, none⟩ (.slice ao' (st.vs.length + 1) cap')).setCell ⟨g, 1, none⟩ (.int .i64 v.time)) g ⟨st.room, v.time, st.vs ++ [v]⟩ ao' cap' := by
      refine ⟨?_, hR.gB, own_same ho5' (fun i cur _ e => grown_keep hgg e (by
        intro e2
        cases e2
        rw [hg5b] at e
        cases e)), hinv⟩
      show _ = some (Obj.cells #[.int .i64 st.room, .int .i64 v.time, .slice ao' (st.vs ++ [v]).length cap'] _ _)
      rw [hl1]
      exact hR7
    have hTb : TurnR B w5 ((w5.setCell ⟨g, 2, none⟩ (.slice ao' (st.vs.length + 1) cap')).setCell ⟨g, 1, none⟩ (.int .i64 v.time)) := Turns.of_grown hgg hR.gB (Nat.le_trans hBz hg5.size) (fun o eo => by
      rw [hg5b] at eo
      cases eo
      exact fun h => h.1 rfl)
    exact ⟨ao', cap', w5, hty, box_cell hg5b 2 _ rfl, box_open hg5b 2, box_open hg5b 1, box_cell hg5b 1 _ rfl, box_cell hbx5 0 _ rfl, box_cell hbx5 1 _ rfl, box_cell hbx5 2 _ rfl, box_cell hbx5 3 _ rfl, ⟨_, _, hfin⟩, ((Turns.of_below (below_next (below_next hbA (Nat.le_refl _) z.low) (Nat.le_refl _) hbD) hB).trans hT5).trans hTb⟩
  have q2 : ∀ z : Low (w.alloc (boxR v)), z.wd.cell? ⟨w.heap.size, 2, none⟩ = some (.string v.val) := fun z => box_cell (below_box z.low p0) 2 _ rfl
  have q3' : ∀ z : Low (w.alloc (boxR v)), z.wd.cell? ⟨w.heap.size, 3, none⟩ = some (.bool v.gone) := fun z => box_cell (below_box z.low p0) 3 _ rfl
  have u1 : decide (v.time < 1) = false := decide_eq_false (by omega)
  have u2 : decide ((1099511627776 : Int) ≤ v.time) = false := decide_eq_false (by omega)
  have u3 : decide (v.time < st.top) = false := decide_eq_false (by omega)
  have u4 : decide (st.room ≤ (st.vs.length : Int)) = false := decide_eq_false (by omega)
  have hgw9 : ¬ w.heap.size = g := by omega
  clear hR hA hRz p0 hbA hB h1 h2 h3 hJ hgl hgo hroom
  generalize st.vs.length = L at *
  go_enter Try.func53, Try.ntmps53
  go_wp2_with fail
  refine wp_region_low (by kernel_rfl) (by kernel_rfl) fun hsomez => ?_
  repeat (go_big_quiet_step (fail))
  refine wpQuiet_nil ?_
  rintro _ ⟨z, rfl⟩
  have hlz := hla z
  go_wp2_with (first
    | (go_at_call 54; refine hlz.mono ?_; rintro e wn ⟨rfl, hq⟩; have hq' := hq.symm; clear hq; subst hq'))
  have q0y : ∀ y : Low z.wd, y.wd.cell? ⟨w.heap.size, 0, none⟩ = some (.string v.key) := fun y => q0 ⟨y.wd, low2 z y⟩
  have q1y : ∀ y : Low z.wd, y.wd.cell? ⟨w.heap.size, 1, none⟩ = some (.int .i64 v.time) := fun y => q1 ⟨y.wd, low2 z y⟩
  have s2y : ∀ y : Low z.wd, y.wd.cell? ⟨g, 2, none⟩ = some (.slice ao L cap) := fun y => s2 ⟨y.wd, low2 z y⟩
  have r0y : ∀ y : Low z.wd, y.wd.cell? ⟨g, 0, none⟩ = some (.int .i64 st.room) := fun y => r0 ⟨y.wd, low2 z y⟩
  have q2y : ∀ y : Low z.wd, y.wd.cell? ⟨w.heap.size, 2, none⟩ = some (.string v.val) := fun y => q2 ⟨y.wd, low2 z y⟩
  refine wp_region_low (by kernel_rfl) (by kernel_rfl) fun hsomey => ?_
  repeat (go_big_quiet_step (fail))
  refine wpQuiet_nil ?_
  rintro _ ⟨y, rfl⟩
  go_wp2_with fail
  have q0u : ∀ u : Low y.wd, u.wd.cell? ⟨w.heap.size, 0, none⟩ = some (.string v.key) := fun u => q0 ⟨u.wd, below_next (low2 z y) (Nat.le_refl _) u.low⟩
  have q1u : ∀ u : Low y.wd, u.wd.cell? ⟨w.heap.size, 1, none⟩ = some (.int .i64 v.time) := fun u => q1 ⟨u.wd, below_next (low2 z y) (Nat.le_refl _) u.low⟩
  have s2u : ∀ u : Low y.wd, u.wd.cell? ⟨g, 2, none⟩ = some (.slice ao L cap) := fun u => s2 ⟨u.wd, below_next (low2 z y) (Nat.le_refl _) u.low⟩
  have r0u : ∀ u : Low y.wd, u.wd.cell? ⟨g, 0, none⟩ = some (.int .i64 st.room) := fun u => r0 ⟨u.wd, below_next (low2 z y) (Nat.le_refl _) u.low⟩
  have q2u : ∀ u : Low y.wd, u.wd.cell? ⟨w.heap.size, 2, none⟩ = some (.string v.val) := fun u => q2 ⟨u.wd, below_next (low2 z y) (Nat.le_refl _) u.low⟩
  refine wp_region_low (by kernel_rfl) (by kernel_rfl) fun hsomeu => ?_
  repeat (go_big_quiet_step (fail))
  refine wpQuiet_nil ?_
  rintro _ ⟨u, rfl⟩
  obtain ⟨ao', cap', w5, a1, a2, a3, a4, a5, a6, a7, a8, a9, hz⟩ := hmore ⟨u.wd, below_next (low2 z y) (Nat.le_refl _) u.low⟩
  have d0 : u.wd.drew.cell? ⟨w.heap.size, 0, none⟩ = some (.string v.key) := q0 ⟨u.wd.drew, (below_next (low2 z y) (Nat.le_refl _) u.low).drew⟩
  have d1 : u.wd.drew.cell? ⟨w.heap.size, 1, none⟩ = some (.int .i64 v.time) := q1 ⟨u.wd.drew, (below_next (low2 z y) (Nat.le_refl _) u.low).drew⟩
  have d2 : u.wd.drew.cell? ⟨w.heap.size, 2, none⟩ = some (.string v.val) := q2 ⟨u.wd.drew, (below_next (low2 z y) (Nat.le_refl _) u.low).drew⟩
  have d3 : u.wd.drew.cell? ⟨w.heap.size, 3, none⟩ = some (.bool v.gone) := q3' ⟨u.wd.drew, (below_next (low2 z y) (Nat.le_refl _) u.low).drew⟩
  have d4 : u.wd.drew.cell? ⟨g, 2, none⟩ = some (.slice ao L cap) := s2 ⟨u.wd.drew, (below_next (low2 z y) (Nat.le_refl _) u.low).drew⟩
  simp only at a1 hz
  clear hmore q0 q1 q2 q3 q3' s2 t1 r0 q0y q1y q2y s2y r0y q0u q1u q2u s2u r0u hsomez hsomey hsomeu 
  generalize u.wd = Y at *
  have hS0 : Y.drew.cell? ⟨g, 2, none⟩ = some (.slice ao L cap) ∧ Y.drew.cell? ⟨w.heap.size, 0, none⟩ = some (.string v.key) ∧ Y.drew.cell? ⟨w.heap.size, 1, none⟩ = some (.int .i64 v.time) ∧ Y.drew.cell? ⟨w.heap.size, 2, none⟩ = some (.string v.val) ∧ Y.drew.cell? ⟨w.heap.size, 3, none⟩ = some (.bool v.gone) := ⟨d4, d0, d1, d2, d3⟩
  have hS1 : (Y.alloc (boxR v)).drew.cell? ⟨g, 2, none⟩ = some (.slice ao L cap) ∧ (Y.alloc (boxR v)).drew.cell? ⟨w.heap.size, 0, none⟩ = some (.string v.key) ∧ (Y.alloc (boxR v)).drew.cell? ⟨w.heap.size, 1, none⟩ = some (.int .i64 v.time) ∧ (Y.alloc (boxR v)).drew.cell? ⟨w.heap.size, 2, none⟩ = some (.string v.val) ∧ (Y.alloc (boxR v)).drew.cell? ⟨w.heap.size, 3, none⟩ = some (.bool v.gone) := ⟨alloc_cell (w := Y) _ d4, alloc_cell (w := Y) _ d0, alloc_cell (w := Y) _ d1, alloc_cell (w := Y) _ d2, alloc_cell (w := Y) _ d3⟩
  go_wp2_with fail
  go_region_law (refine step_app_run rfl (.tmp 84) (.tmp 86) 87 rfl (.slice ao L cap) (.slice (some ⟨Y.heap.size, 0, none⟩) 1 1) (by simp [Act.eval]) (by simp [Act.eval]) (a1 _) ?_)
  all_goals (go_wp2; go_ret; exact ⟨rfl, hz⟩)
set_option maxRecDepth 100000 in
set_option maxHeartbeats 4000000 in
theorem rput_gZnone (B g : Nat) (st : Sto) (v : Ver) (hgo : v.gone = true) (hJ : lastJ v.key 1099511627776 st.vs = 0) (h1 : 1 ≤ v.time) (h2 : v.time < 1099511627776) (h3 : st.top ≤ v.time) (hn : st.vs.length ≤ 4100) (w : World) (h : HoldR B w g st) :
    Calls Try.prog 53 #[.pointer (some ⟨g, 0, none⟩), .agg #[.string v.key, .int .i64 v.time, .string v.val, .bool v.gone]] w fun e w' => e = .returned (.int .i64 0) ∧ HoldR B w' g st ∧ TurnR B w w' := by
  have hgl := h.lt
  have hB : B ≤ w.heap.size := Nat.le_trans hgl.1 (Nat.le_of_lt hgl.2)
  have hbA : Below w.heap.size w (w.alloc (boxR v)) := (Below.refl _ w).alloc (Nat.le_refl _) _
  have hA := h.below hbA
  have p0 := heap_new w (boxR v)
  have hla : ∀ z : Low (w.alloc (boxR v)), Calls Try.prog 54 #[.pointer (some ⟨g, 0, none⟩), .string v.key, .int .i64 1099511627776] z.wd fun e w' => e = .returned (.int .i64 (-1)) ∧ w' = z.wd := fun z => by
    have := rlast_any B g st v.key 1099511627776 (by omega) z.wd (hA.below z.low)
    rw [hJ, show (((0 : Nat) : Int) - 1) = -1 by omega] at this
    exact this
  obtain ⟨ao, cap, hR⟩ := h
  have hRz : ∀ z : Low (w.alloc (boxR v)), RefAt B z.wd g st ao cap := fun z => (hR.below hbA).below z.low
  have q1 : ∀ z : Low (w.alloc (boxR v)), z.wd.cell? ⟨w.heap.size, 1, none⟩ = some (.int .i64 v.time) := fun z => box_cell (below_box z.low p0) 1 _ rfl
  have t1 : ∀ z : Low (w.alloc (boxR v)), z.wd.cell? ⟨g, 1, none⟩ = some (.int .i64 st.top) := fun z => (ref_cells (hRz z)).2.1
  have q0 : ∀ z : Low (w.alloc (boxR v)), z.wd.cell? ⟨w.heap.size, 0, none⟩ = some (.string v.key) := fun z => box_cell (below_box z.low p0) 0 _ rfl
  have q3 : ∀ z : Low (w.alloc (boxR v)), z.wd.cell? ⟨w.heap.size, 3, none⟩ = some (.bool true) := fun z => by
    have := box_cell (below_box z.low p0) 3 _ rfl
    rw [hgo] at this
    exact this
  have s2 : ∀ z : Low (w.alloc (boxR v)), z.wd.cell? ⟨g, 2, none⟩ = some (.slice ao st.vs.length cap) := fun z => (ref_cells (hRz z)).2.2
  have hdone : ∀ z : Low (w.alloc (boxR v)), HoldR B z.wd g st ∧ TurnR B w z.wd := fun z => ⟨⟨_, _, hRz z⟩, Turns.of_below (below_next hbA (Nat.le_refl _) z.low) hB⟩
  have u1 : decide (v.time < 1) = false := decide_eq_false (by omega)
  have u2 : decide ((1099511627776 : Int) ≤ v.time) = false := decide_eq_false (by omega)
  have u3 : decide (v.time < st.top) = false := decide_eq_false (by omega)
  have hgw9 : ¬ w.heap.size = g := by omega
  clear hR hA hRz p0 hbA hB h1 h2 h3 hJ hgl hgo
  generalize st.vs.length = L at *
  go_enter Try.func53, Try.ntmps53
  go_wp2_with fail
  refine wp_region_low (by kernel_rfl) (by kernel_rfl) fun hsomez => ?_
  repeat (go_big_quiet_step (fail))
  refine wpQuiet_nil ?_
  rintro _ ⟨z, rfl⟩
  have hlz := hla z
  go_wp2_with (first
    | (go_at_call 54; refine hlz.mono ?_; rintro e wn ⟨rfl, hq⟩; have hq' := hq.symm; clear hq; subst hq'))
  go_ret
  exact ⟨rfl, hdone z⟩
end Go.Proofs.Ytdmkmhjalcfchaa
namespace Go.Proofs.Ytdmkmhjalcfchaa
open Go.RowKit Num
open scoped Classical
set_option linter.unusedVariables false
set_option maxRecDepth 100000

set_option maxRecDepth 100000 in
set_option maxHeartbeats 4000000 in
theorem rput_pSturn (B g : Nat) (st : Sto) (v : Ver) (hgo : v.gone = false) (j : Nat) (hJ : lastJ v.key 1099511627776 st.vs = j + 1) (x : Ver) (hx : st.vs[j]? = some x) (hxt : x.time = v.time) (h1 : 1 ≤ v.time) (h2 : v.time < 1099511627776) (h3 : st.top ≤ v.time) (hn : st.vs.length ≤ 4100) (w : World) (h : HoldR B w g st) :
    Calls Try.prog 53 #[.pointer (some ⟨g, 0, none⟩), .agg #[.string v.key, .int .i64 v.time, .string v.val, .bool v.gone]] w fun e w' => e = .returned (.int .i64 0) ∧ HoldR B w' g ⟨st.room, v.time, turnV st.vs v.key v⟩ ∧ TurnR B w w' := by
  have hgl := h.lt
  have hB : B ≤ w.heap.size := Nat.le_trans hgl.1 (Nat.le_of_lt hgl.2)
  have hbA : Below w.heap.size w (w.alloc (boxR v)) := (Below.refl _ w).alloc (Nat.le_refl _) _
  have hA := h.below hbA
  have p0 := heap_new w (boxR v)
  have hla : ∀ z : Low (w.alloc (boxR v)), Calls Try.prog 54 #[.pointer (some ⟨g, 0, none⟩), .string v.key, .int .i64 1099511627776] z.wd fun e w' => e = .returned (.int .i64 (j : Int)) ∧ w' = z.wd := fun z => by
    have := rlast_any B g st v.key 1099511627776 (by omega) z.wd (hA.below z.low)
    rw [hJ, show (((j + 1 : Nat) : Int) - 1) = (j : Int) by omega] at this
    exact this
  obtain ⟨ao, cap, hR⟩ := h
  have hRz : ∀ z : Low (w.alloc (boxR v)), RefAt B z.wd g st ao cap := fun z => (hR.below hbA).below z.low
  have q1 : ∀ z : Low (w.alloc (boxR v)), z.wd.cell? ⟨w.heap.size, 1, none⟩ = some (.int .i64 v.time) := fun z => box_cell (below_box z.low p0) 1 _ rfl
  have t1 : ∀ z : Low (w.alloc (boxR v)), z.wd.cell? ⟨g, 1, none⟩ = some (.int .i64 st.top) := fun z => (ref_cells (hRz z)).2.1
  have q0 : ∀ z : Low (w.alloc (boxR v)), z.wd.cell? ⟨w.heap.size, 0, none⟩ = some (.string v.key) := fun z => box_cell (below_box z.low p0) 0 _ rfl
  have q3 : ∀ z : Low (w.alloc (boxR v)), z.wd.cell? ⟨w.heap.size, 3, none⟩ = some (.bool false) := fun z => by
    have := box_cell (below_box z.low p0) 3 _ rfl
    rw [hgo] at this
    exact this
  have s2 : ∀ z : Low (w.alloc (boxR v)), z.wd.cell? ⟨g, 2, none⟩ = some (.slice ao st.vs.length cap) := fun z => (ref_cells (hRz z)).2.2
  have hjl := (List.getElem?_eq_some_iff.1 hx).1
  obtain ⟨b, cur, rfl, hbh, hbB⟩ := ref_row_heap hR (by intro e; rw [e] at hjl; simp at hjl)
  have hbl : b < w.heap.size := (Array.getElem?_eq_some_iff.1 hbh).1
  have xc : ∀ z : Low (w.alloc (boxR v)), z.wd.cell? ⟨b, j * 4, none⟩ = some (.string x.key) ∧ z.wd.cell? ⟨b, j * 4 + 1, none⟩ = some (.int .i64 x.time) ∧ z.wd.cell? ⟨b, j * 4 + 2, none⟩ = some (.string x.val) ∧ z.wd.cell? ⟨b, j * 4 + 3, none⟩ = some (.bool x.gone) := fun z => by
    obtain ⟨h1, h2, h3, h4⟩ := rvCells_get st.vs j x hx
    have g1 := (hRz z).row.cells (g := b) rfl _ _ h1
    have g2 := (hRz z).row.cells (g := b) rfl _ _ h2
    have g3 := (hRz z).row.cells (g := b) rfl _ _ h3
    have g4 := (hRz z).row.cells (g := b) rfl _ _ h4
    rw [Addr.add_lit, Nat.zero_add] at g1 g2 g3 g4
    exact ⟨g1, g2, g3, g4⟩
  have x0 := fun z => (xc z).1
  have x1 := fun z => (xc z).2.1
  have x2 := fun z => (xc z).2.2.1
  have x3 := fun z => (xc z).2.2.2
  simp only [hxt] at x1
  have jl : (j : Int) < (st.vs.length : Int) := by omega
  have j0 : decide ((j : Int) < 0) = false := decide_eq_false (by omega)
  obtain ⟨hh9, hd9⟩ : hitV v.key 1099511627776 x = true ∧ ∀ y ∈ st.vs.drop (j + 1), hitV v.key 1099511627776 y = false := by
    obtain ⟨x', hx', e1, e2⟩ := lastJ_succ hJ
    rw [hx] at hx'
    cases hx'
    exact ⟨e1, e2⟩
  have hlA : lastA st.vs v.key = some x := by rw [← lastA_all hR.inv, lastV_succ hx hh9 hd9]
  have hdone : ∀ z : Low (w.alloc (boxR v)), HoldR B (((((z.wd.setCell ⟨b, j * 4, none⟩ (.string v.key)).setCell ⟨b, j * 4 + 1, none⟩ (.int .i64 v.time)).setCell ⟨b, j * 4 + 2, none⟩ (.string v.val)).setCell ⟨b, j * 4 + 3, none⟩ (.bool v.gone)).setCell ⟨g, 1, none⟩ (.int .i64 v.time)) g ⟨st.room, v.time, turnV st.vs v.key v⟩ ∧ TurnR B w (((((z.wd.setCell ⟨b, j * 4, none⟩ (.string v.key)).setCell ⟨b, j * 4 + 1, none⟩ (.int .i64 v.time)).setCell ⟨b, j * 4 + 2, none⟩ (.string v.val)).setCell ⟨b, j * 4 + 3, none⟩ (.bool v.gone)).setCell ⟨g, 1, none⟩ (.int .i64 v.time)) := by
    intro z
    have hinv : InvS ⟨st.room, v.time, turnV st.vs v.key v⟩ := by
      have := inv_put hR.inv v
      have e : putS st v = (0, ⟨st.room, v.time, turnV st.vs v.key v⟩) := by
        unfold putS
        rw [if_neg (by omega), if_neg (by rw [hgo]; simp), if_pos (by rw [hlA]; exact decide_eq_true hxt)]
      rw [e] at this
      exact this
    have hZ := hRz z
    have ht : turnV st.vs v.key v = st.vs.set j v := turn_set hR.inv hx hh9 hd9
    obtain ⟨s1, g1⟩ := hZ.row.stored (j * 4) (.string v.key)
    obtain ⟨s2', g2⟩ := s1.stored (j * 4 + 1) (.int .i64 v.time)
    obtain ⟨s3, g3⟩ := s2'.stored (j * 4 + 2) (.string v.val)
    obtain ⟨s4, g4⟩ := s3.stored (j * 4 + 3) (.bool v.gone)
    rw [rvCells_set st.vs j x v hx] at s4
    have hgr := ((g1.trans g2).trans g3).trans g4
    have hbz : z.wd.heap[b]? = some (.cells cur 91 (0, 0)) := below_box z.low (below_box hbA hbh)
    have hgb : g ≠ b := obj_ne hZ.box hbz (by simp)
    have hbox4 := grown_keep hgr hZ.box (by intro e2; cases e2; exact hgb rfl)
    have hT4 : TurnR B z.wd _ := Turns.of_grown hgr hbB (Nat.le_trans hB (Nat.le_trans hbA.size z.low.size)) (fun o e => by
      rw [hbz] at e
      cases e
      exact fun h => h.2 rfl)
    have hlen : (st.vs.set j v).length = st.vs.length := List.length_set
    have hR4 : RefAt B ((((z.wd.setCell ⟨b, j * 4, none⟩ (.string v.key)).setCell ⟨b, j * 4 + 1, none⟩ (.int .i64 v.time)).setCell ⟨b, j * 4 + 2, none⟩ (.string v.val)).setCell ⟨b, j * 4 + 3, none⟩ (.bool v.gone)) g ⟨st.room, st.top, st.vs.set j v⟩ (some ⟨b, 0, none⟩) cap := by
      refine ⟨?_, hZ.gB, ?_, ?_⟩
      · show _ = some (Obj.cells #[.int .i64 st.room, .int .i64 st.top, .slice (some ⟨b, 0, none⟩) (st.vs.set j v).length cap] _ _)
        rw [hlen]
        exact hbox4
      · show World.ownsRow _ _ _ _ (.slice (some ⟨b, 0, none⟩) (st.vs.set j v).length cap) (st.vs.set j v).length _
        rw [hlen]
        exact s4
      · have hi2 := hinv
        rw [ht] at hi2
        have htop : st.top = v.time := by
          have := (hR.inv.2.1 x (List.mem_of_getElem? hx)).2
          omega
        rw [htop]
        exact hi2
    obtain ⟨r1, r2⟩ := ref_turn (st' := ⟨st.room, v.time, turnV st.vs v.key v⟩) (ao' := some ⟨b, 0, none⟩) (cap' := cap) hR4 (grown_set _ g 1 (.int .i64 v.time)) (by
      show _ = some (Obj.cells #[.int .i64 st.room, .int .i64 v.time, .slice (some ⟨b, 0, none⟩) (turnV st.vs v.key v).length cap] _ _)
      rw [ht]
      exact set_heap hR4.box _) (by rw [ht]; exact hR4.row) hinv
    exact ⟨⟨_, _, r1⟩, ((Turns.of_below (below_next hbA (Nat.le_refl _) z.low) hB).trans hT4).trans r2⟩
  have fz : ∀ (z : Low (w.alloc (boxR v))) (i : Nat), z.wd.frozen? ⟨b, i, none⟩ = false := fun z i => (hRz z).row.frozenAt i
  have fg : ∀ z : Low (w.alloc (boxR v)), z.wd.frozen? ⟨g, 1, none⟩ = false := fun z => box_open (hRz z).box 1
  have hgb : g ≠ b := obj_ne hR.box hbh (by simp)
  have hgw : ¬ w.heap.size = b := by omega
  have hgw2 : ¬ w.heap.size = g := by omega
  have q2 : ∀ z : Low (w.alloc (boxR v)), z.wd.cell? ⟨w.heap.size, 2, none⟩ = some (.string v.val) := fun z => box_cell (below_box z.low p0) 2 _ rfl
  have q3' : ∀ z : Low (w.alloc (boxR v)), z.wd.cell? ⟨w.heap.size, 3, none⟩ = some (.bool v.gone) := fun z => box_cell (below_box z.low p0) 3 _ rfl
  have u1 : decide (v.time < 1) = false := decide_eq_false (by omega)
  have u2 : decide ((1099511627776 : Int) ≤ v.time) = false := decide_eq_false (by omega)
  have u3 : decide (v.time < st.top) = false := decide_eq_false (by omega)
  have hgw9 : ¬ w.heap.size = g := by omega
  clear hR hA hRz p0 hbA hB h1 h2 h3 hJ hgl hgo hx hjl xc hbh hbB hxt hh9 hd9 hlA
  generalize st.vs.length = L at *
  go_enter Try.func53, Try.ntmps53
  go_wp2_with fail
  refine wp_region_low (by kernel_rfl) (by kernel_rfl) fun hsomez => ?_
  repeat (go_big_quiet_step (fail))
  refine wpQuiet_nil ?_
  rintro _ ⟨z, rfl⟩
  have hlz := hla z
  go_wp2_with (first
    | (go_at_call 54; refine hlz.mono ?_; rintro e wn ⟨rfl, hq⟩; have hq' := hq.symm; clear hq; subst hq'))
  have q0y : ∀ y : Low z.wd, y.wd.cell? ⟨w.heap.size, 0, none⟩ = some (.string v.key) := fun y => q0 ⟨y.wd, low2 z y⟩
  have q1y : ∀ y : Low z.wd, y.wd.cell? ⟨w.heap.size, 1, none⟩ = some (.int .i64 v.time) := fun y => q1 ⟨y.wd, low2 z y⟩
  have s2y : ∀ y : Low z.wd, y.wd.cell? ⟨g, 2, none⟩ = some (.slice (some ⟨b, 0, none⟩) L cap) := fun y => s2 ⟨y.wd, low2 z y⟩
  have x1y : ∀ y : Low z.wd, y.wd.cell? ⟨b, j * 4 + 1, none⟩ = some (.int .i64 v.time) := fun y => x1 ⟨y.wd, low2 z y⟩
  have q2y : ∀ y : Low z.wd, y.wd.cell? ⟨w.heap.size, 2, none⟩ = some (.string v.val) := fun y => q2 ⟨y.wd, low2 z y⟩
  refine wp_region_low (by kernel_rfl) (by kernel_rfl) fun hsomey => ?_
  repeat (go_big_quiet_step (fail))
  refine wpQuiet_nil ?_
  rintro _ ⟨y, rfl⟩
  have hz := hdone ⟨y.wd.drew, (low2 z y).drew⟩
  have fzy : ∀ i, y.wd.frozen? ⟨b, i, none⟩ = false := fun i => fz ⟨y.wd, low2 z y⟩ i
  have fgy : y.wd.frozen? ⟨g, 1, none⟩ = false := fg ⟨y.wd, low2 z y⟩
  have c0 : y.wd.cell? ⟨b, j * 4, none⟩ = some (.string x.key) := x0 ⟨y.wd, low2 z y⟩
  have c1 : y.wd.cell? ⟨b, j * 4 + 1, none⟩ = some (.int .i64 v.time) := x1 ⟨y.wd, low2 z y⟩
  have c2 : y.wd.cell? ⟨b, j * 4 + 2, none⟩ = some (.string x.val) := x2 ⟨y.wd, low2 z y⟩
  have c3 : y.wd.cell? ⟨b, j * 4 + 3, none⟩ = some (.bool x.gone) := x3 ⟨y.wd, low2 z y⟩
  have d0 : y.wd.cell? ⟨w.heap.size, 0, none⟩ = some (.string v.key) := q0 ⟨y.wd, low2 z y⟩
  have d1 : y.wd.cell? ⟨w.heap.size, 1, none⟩ = some (.int .i64 v.time) := q1 ⟨y.wd, low2 z y⟩
  have d2 : y.wd.cell? ⟨w.heap.size, 2, none⟩ = some (.string v.val) := q2 ⟨y.wd, low2 z y⟩
  have d3 : y.wd.cell? ⟨w.heap.size, 3, none⟩ = some (.bool v.gone) := q3' ⟨y.wd, low2 z y⟩
  have d4 : y.wd.cell? ⟨g, 2, none⟩ = some (.slice (some ⟨b, 0, none⟩) L cap) := s2 ⟨y.wd, low2 z y⟩
  have d5 : y.wd.cell? ⟨g, 1, none⟩ = some (.int .i64 st.top) := t1 ⟨y.wd, low2 z y⟩
  clear hdone fz fg x0 x1 x2 x3 q0 q1 q2 q3 q3' s2 t1 q0y q1y q2y s2y x1y hsomez hsomey
  simp only at hz
  generalize y.wd = Y at *
  go_wp2_with fail
  go_region
  all_goals (go_wp2; go_ret; exact ⟨rfl, hz⟩)
set_option maxRecDepth 100000 in
set_option maxHeartbeats 4000000 in
theorem rput_pSfull (B g : Nat) (st : Sto) (v : Ver) (hgo : v.gone = false) (j : Nat) (hJ : lastJ v.key 1099511627776 st.vs = j + 1) (x : Ver) (hx : st.vs[j]? = some x) (hxt : ¬ x.time = v.time) (hroom : st.room ≤ (st.vs.length : Int)) (h1 : 1 ≤ v.time) (h2 : v.time < 1099511627776) (h3 : st.top ≤ v.time) (hn : st.vs.length ≤ 4100) (w : World) (h : HoldR B w g st) :
    Calls Try.prog 53 #[.pointer (some ⟨g, 0, none⟩), .agg #[.string v.key, .int .i64 v.time, .string v.val, .bool v.gone]] w fun e w' => e = .returned (.int .i64 4) ∧ HoldR B w' g st ∧ TurnR B w w' := by
  have hgl := h.lt
  have hB : B ≤ w.heap.size := Nat.le_trans hgl.1 (Nat.le_of_lt hgl.2)
  have hbA : Below w.heap.size w (w.alloc (boxR v)) := (Below.refl _ w).alloc (Nat.le_refl _) _
  have hA := h.below hbA
  have p0 := heap_new w (boxR v)
  have hla : ∀ z : Low (w.alloc (boxR v)), Calls Try.prog 54 #[.pointer (some ⟨g, 0, none⟩), .string v.key, .int .i64 1099511627776] z.wd fun e w' => e = .returned (.int .i64 (j : Int)) ∧ w' = z.wd := fun z => by
    have := rlast_any B g st v.key 1099511627776 (by omega) z.wd (hA.below z.low)
    rw [hJ, show (((j + 1 : Nat) : Int) - 1) = (j : Int) by omega] at this
    exact this
  obtain ⟨ao, cap, hR⟩ := h
  have hRz : ∀ z : Low (w.alloc (boxR v)), RefAt B z.wd g st ao cap := fun z => (hR.below hbA).below z.low
  have q1 : ∀ z : Low (w.alloc (boxR v)), z.wd.cell? ⟨w.heap.size, 1, none⟩ = some (.int .i64 v.time) := fun z => box_cell (below_box z.low p0) 1 _ rfl
  have t1 : ∀ z : Low (w.alloc (boxR v)), z.wd.cell? ⟨g, 1, none⟩ = some (.int .i64 st.top) := fun z => (ref_cells (hRz z)).2.1
  have q0 : ∀ z : Low (w.alloc (boxR v)), z.wd.cell? ⟨w.heap.size, 0, none⟩ = some (.string v.key) := fun z => box_cell (below_box z.low p0) 0 _ rfl
  have q3 : ∀ z : Low (w.alloc (boxR v)), z.wd.cell? ⟨w.heap.size, 3, none⟩ = some (.bool false) := fun z => by
    have := box_cell (below_box z.low p0) 3 _ rfl
    rw [hgo] at this
    exact this
  have s2 : ∀ z : Low (w.alloc (boxR v)), z.wd.cell? ⟨g, 2, none⟩ = some (.slice ao st.vs.length cap) := fun z => (ref_cells (hRz z)).2.2
  have hjl := (List.getElem?_eq_some_iff.1 hx).1
  obtain ⟨b, cur, rfl, hbh, hbB⟩ := ref_row_heap hR (by intro e; rw [e] at hjl; simp at hjl)
  have hbl : b < w.heap.size := (Array.getElem?_eq_some_iff.1 hbh).1
  have xc : ∀ z : Low (w.alloc (boxR v)), z.wd.cell? ⟨b, j * 4, none⟩ = some (.string x.key) ∧ z.wd.cell? ⟨b, j * 4 + 1, none⟩ = some (.int .i64 x.time) ∧ z.wd.cell? ⟨b, j * 4 + 2, none⟩ = some (.string x.val) ∧ z.wd.cell? ⟨b, j * 4 + 3, none⟩ = some (.bool x.gone) := fun z => by
    obtain ⟨h1, h2, h3, h4⟩ := rvCells_get st.vs j x hx
    have g1 := (hRz z).row.cells (g := b) rfl _ _ h1
    have g2 := (hRz z).row.cells (g := b) rfl _ _ h2
    have g3 := (hRz z).row.cells (g := b) rfl _ _ h3
    have g4 := (hRz z).row.cells (g := b) rfl _ _ h4
    rw [Addr.add_lit, Nat.zero_add] at g1 g2 g3 g4
    exact ⟨g1, g2, g3, g4⟩
  have x0 := fun z => (xc z).1
  have x1 := fun z => (xc z).2.1
  have x2 := fun z => (xc z).2.2.1
  have x3 := fun z => (xc z).2.2.2
  clear x0 x2
  have jl : (j : Int) < (st.vs.length : Int) := by omega
  have j0 : decide ((j : Int) < 0) = false := decide_eq_false (by omega)
  have hdone : ∀ z : Low (w.alloc (boxR v)), HoldR B z.wd g st ∧ TurnR B w z.wd := fun z => ⟨⟨_, _, hRz z⟩, Turns.of_below (below_next hbA (Nat.le_refl _) z.low) hB⟩
  have r0 : ∀ z : Low (w.alloc (boxR v)), z.wd.cell? ⟨g, 0, none⟩ = some (.int .i64 st.room) := fun z => (ref_cells (hRz z)).1
  have u1 : decide (v.time < 1) = false := decide_eq_false (by omega)
  have u2 : decide ((1099511627776 : Int) ≤ v.time) = false := decide_eq_false (by omega)
  have u3 : decide (v.time < st.top) = false := decide_eq_false (by omega)
  have u4 : st.room ≤ (st.vs.length : Int) := hroom
  have hgw9 : ¬ w.heap.size = g := by omega
  clear hR hA hRz p0 hbA hB h1 h2 h3 hJ hgl hgo hx hjl xc hbh hbB
  generalize st.vs.length = L at *
  go_enter Try.func53, Try.ntmps53
  go_wp2_with fail
  refine wp_region_low (by kernel_rfl) (by kernel_rfl) fun hsomez => ?_
  repeat (go_big_quiet_step (fail))
  refine wpQuiet_nil ?_
  rintro _ ⟨z, rfl⟩
  have hlz := hla z
  go_wp2_with (first
    | (go_at_call 54; refine hlz.mono ?_; rintro e wn ⟨rfl, hq⟩; have hq' := hq.symm; clear hq; subst hq'))
  have q0y : ∀ y : Low z.wd, y.wd.cell? ⟨w.heap.size, 0, none⟩ = some (.string v.key) := fun y => q0 ⟨y.wd, low2 z y⟩
  have q1y : ∀ y : Low z.wd, y.wd.cell? ⟨w.heap.size, 1, none⟩ = some (.int .i64 v.time) := fun y => q1 ⟨y.wd, low2 z y⟩
  have s2y : ∀ y : Low z.wd, y.wd.cell? ⟨g, 2, none⟩ = some (.slice (some ⟨b, 0, none⟩) L cap) := fun y => s2 ⟨y.wd, low2 z y⟩
  have x1y : ∀ y : Low z.wd, y.wd.cell? ⟨b, j * 4 + 1, none⟩ = some (.int .i64 x.time) := fun y => x1 ⟨y.wd, low2 z y⟩
  have r0y : ∀ y : Low z.wd, y.wd.cell? ⟨g, 0, none⟩ = some (.int .i64 st.room) := fun y => r0 ⟨y.wd, low2 z y⟩
  refine wp_region_low (by kernel_rfl) (by kernel_rfl) fun hsomey => ?_
  repeat (go_big_quiet_step (fail))
  refine wpQuiet_nil ?_
  rintro _ ⟨y, rfl⟩
  go_wp2_with fail
  have q0u : ∀ u : Low y.wd, u.wd.cell? ⟨w.heap.size, 0, none⟩ = some (.string v.key) := fun u => q0 ⟨u.wd, below_next (low2 z y) (Nat.le_refl _) u.low⟩
  have q1u : ∀ u : Low y.wd, u.wd.cell? ⟨w.heap.size, 1, none⟩ = some (.int .i64 v.time) := fun u => q1 ⟨u.wd, below_next (low2 z y) (Nat.le_refl _) u.low⟩
  have s2u : ∀ u : Low y.wd, u.wd.cell? ⟨g, 2, none⟩ = some (.slice (some ⟨b, 0, none⟩) L cap) := fun u => s2 ⟨u.wd, below_next (low2 z y) (Nat.le_refl _) u.low⟩
  have x1u : ∀ u : Low y.wd, u.wd.cell? ⟨b, j * 4 + 1, none⟩ = some (.int .i64 x.time) := fun u => x1 ⟨u.wd, below_next (low2 z y) (Nat.le_refl _) u.low⟩
  have r0u : ∀ u : Low y.wd, u.wd.cell? ⟨g, 0, none⟩ = some (.int .i64 st.room) := fun u => r0 ⟨u.wd, below_next (low2 z y) (Nat.le_refl _) u.low⟩
  refine wp_region_low (by kernel_rfl) (by kernel_rfl) fun hsomeu => ?_
  repeat (go_big_quiet_step (fail))
  refine wpQuiet_nil ?_
  rintro _ ⟨u, rfl⟩
  have hz := hdone ⟨u.wd, below_next (low2 z y) (Nat.le_refl _) u.low⟩
  go_wp2
  go_ret
  exact ⟨rfl, hz⟩
set_option maxRecDepth 100000 in
set_option maxHeartbeats 4000000 in
theorem rput_gSnoneT (B g : Nat) (st : Sto) (v : Ver) (hgo : v.gone = true) (j : Nat) (hJ : lastJ v.key 1099511627776 st.vs = j + 1) (x : Ver) (hx : st.vs[j]? = some x) (hxg : x.gone = true) (h1 : 1 ≤ v.time) (h2 : v.time < 1099511627776) (h3 : st.top ≤ v.time) (hn : st.vs.length ≤ 4100) (w : World) (h : HoldR B w g st) :
    Calls Try.prog 53 #[.pointer (some ⟨g, 0, none⟩), .agg #[.string v.key, .int .i64 v.time, .string v.val, .bool v.gone]] w fun e w' => e = .returned (.int .i64 0) ∧ HoldR B w' g st ∧ TurnR B w w' := by
  have hgl := h.lt
  have hB : B ≤ w.heap.size := Nat.le_trans hgl.1 (Nat.le_of_lt hgl.2)
  have hbA : Below w.heap.size w (w.alloc (boxR v)) := (Below.refl _ w).alloc (Nat.le_refl _) _
  have hA := h.below hbA
  have p0 := heap_new w (boxR v)
  have hla : ∀ z : Low (w.alloc (boxR v)), Calls Try.prog 54 #[.pointer (some ⟨g, 0, none⟩), .string v.key, .int .i64 1099511627776] z.wd fun e w' => e = .returned (.int .i64 (j : Int)) ∧ w' = z.wd := fun z => by
    have := rlast_any B g st v.key 1099511627776 (by omega) z.wd (hA.below z.low)
    rw [hJ, show (((j + 1 : Nat) : Int) - 1) = (j : Int) by omega] at this
    exact this
  obtain ⟨ao, cap, hR⟩ := h
  have hRz : ∀ z : Low (w.alloc (boxR v)), RefAt B z.wd g st ao cap := fun z => (hR.below hbA).below z.low
  have q1 : ∀ z : Low (w.alloc (boxR v)), z.wd.cell? ⟨w.heap.size, 1, none⟩ = some (.int .i64 v.time) := fun z => box_cell (below_box z.low p0) 1 _ rfl
  have t1 : ∀ z : Low (w.alloc (boxR v)), z.wd.cell? ⟨g, 1, none⟩ = some (.int .i64 st.top) := fun z => (ref_cells (hRz z)).2.1
  have q0 : ∀ z : Low (w.alloc (boxR v)), z.wd.cell? ⟨w.heap.size, 0, none⟩ = some (.string v.key) := fun z => box_cell (below_box z.low p0) 0 _ rfl
  have q3 : ∀ z : Low (w.alloc (boxR v)), z.wd.cell? ⟨w.heap.size, 3, none⟩ = some (.bool true) := fun z => by
    have := box_cell (below_box z.low p0) 3 _ rfl
    rw [hgo] at this
    exact this
  have s2 : ∀ z : Low (w.alloc (boxR v)), z.wd.cell? ⟨g, 2, none⟩ = some (.slice ao st.vs.length cap) := fun z => (ref_cells (hRz z)).2.2
  have hjl := (List.getElem?_eq_some_iff.1 hx).1
  obtain ⟨b, cur, rfl, hbh, hbB⟩ := ref_row_heap hR (by intro e; rw [e] at hjl; simp at hjl)
  have hbl : b < w.heap.size := (Array.getElem?_eq_some_iff.1 hbh).1
  have xc : ∀ z : Low (w.alloc (boxR v)), z.wd.cell? ⟨b, j * 4, none⟩ = some (.string x.key) ∧ z.wd.cell? ⟨b, j * 4 + 1, none⟩ = some (.int .i64 x.time) ∧ z.wd.cell? ⟨b, j * 4 + 2, none⟩ = some (.string x.val) ∧ z.wd.cell? ⟨b, j * 4 + 3, none⟩ = some (.bool x.gone) := fun z => by
    obtain ⟨h1, h2, h3, h4⟩ := rvCells_get st.vs j x hx
    have g1 := (hRz z).row.cells (g := b) rfl _ _ h1
    have g2 := (hRz z).row.cells (g := b) rfl _ _ h2
    have g3 := (hRz z).row.cells (g := b) rfl _ _ h3
    have g4 := (hRz z).row.cells (g := b) rfl _ _ h4
    rw [Addr.add_lit, Nat.zero_add] at g1 g2 g3 g4
    exact ⟨g1, g2, g3, g4⟩
  have x0 := fun z => (xc z).1
  have x1 := fun z => (xc z).2.1
  have x2 := fun z => (xc z).2.2.1
  have x3 := fun z => (xc z).2.2.2
  clear x0 x2
  simp only [hxg] at x3
  have jl : (j : Int) < (st.vs.length : Int) := by omega
  have j0 : decide ((j : Int) < 0) = false := decide_eq_false (by omega)
  have hdone : ∀ z : Low (w.alloc (boxR v)), HoldR B z.wd g st ∧ TurnR B w z.wd := fun z => ⟨⟨_, _, hRz z⟩, Turns.of_below (below_next hbA (Nat.le_refl _) z.low) hB⟩
  have u1 : decide (v.time < 1) = false := decide_eq_false (by omega)
  have u2 : decide ((1099511627776 : Int) ≤ v.time) = false := decide_eq_false (by omega)
  have u3 : decide (v.time < st.top) = false := decide_eq_false (by omega)
  have hgw9 : ¬ w.heap.size = g := by omega
  clear hR hA hRz p0 hbA hB h1 h2 h3 hJ hgl hgo hx hjl xc hbh hbB hxg
  generalize st.vs.length = L at *
  go_enter Try.func53, Try.ntmps53
  go_wp2_with fail
  refine wp_region_low (by kernel_rfl) (by kernel_rfl) fun hsomez => ?_
  repeat (go_big_quiet_step (fail))
  refine wpQuiet_nil ?_
  rintro _ ⟨z, rfl⟩
  have hlz := hla z
  go_wp2_with (first
    | (go_at_call 54; refine hlz.mono ?_; rintro e wn ⟨rfl, hq⟩; have hq' := hq.symm; clear hq; subst hq'))
  go_ret
  exact ⟨rfl, hdone z⟩
end Go.Proofs.Ytdmkmhjalcfchaa
namespace Go.Proofs.Ytdmkmhjalcfchaa
open Go.RowKit Num
open scoped Classical
set_option linter.unusedVariables false
set_option maxRecDepth 100000

set_option maxRecDepth 100000 in
set_option maxHeartbeats 4000000 in
theorem rput_pSmore (B g : Nat) (st : Sto) (v : Ver) (hgo : v.gone = false) (j : Nat) (hJ : lastJ v.key 1099511627776 st.vs = j + 1) (x : Ver) (hx : st.vs[j]? = some x) (hxt : ¬ x.time = v.time) (hroom : (st.vs.length : Int) < st.room) (h1 : 1 ≤ v.time) (h2 : v.time < 1099511627776) (h3 : st.top ≤ v.time) (hn : st.vs.length ≤ 4100) (w : World) (h : HoldR B w g st) :
    Calls Try.prog 53 #[.pointer (some ⟨g, 0, none⟩), .agg #[.string v.key, .int .i64 v.time, .string v.val, .bool v.gone]] w fun e w' => e = .returned (.int .i64 0) ∧ HoldR B w' g ⟨st.room, v.time, st.vs ++ [v]⟩ ∧ TurnR B w w' := by
  have hgl := h.lt
  have hB : B ≤ w.heap.size := Nat.le_trans hgl.1 (Nat.le_of_lt hgl.2)
  have hbA : Below w.heap.size w (w.alloc (boxR v)) := (Below.refl _ w).alloc (Nat.le_refl _) _
  have hA := h.below hbA
  have p0 := heap_new w (boxR v)
  have hla : ∀ z : Low (w.alloc (boxR v)), Calls Try.prog 54 #[.pointer (some ⟨g, 0, none⟩), .string v.key, .int .i64 1099511627776] z.wd fun e w' => e = .returned (.int .i64 (j : Int)) ∧ w' = z.wd := fun z => by
    have := rlast_any B g st v.key 1099511627776 (by omega) z.wd (hA.below z.low)
    rw [hJ, show (((j + 1 : Nat) : Int) - 1) = (j : Int) by omega] at this
    exact this
  obtain ⟨ao, cap, hR⟩ := h
  have hRz : ∀ z : Low (w.alloc (boxR v)), RefAt B z.wd g st ao cap := fun z => (hR.below hbA).below z.low
  have q1 : ∀ z : Low (w.alloc (boxR v)), z.wd.cell? ⟨w.heap.size, 1, none⟩ = some (.int .i64 v.time) := fun z => box_cell (below_box z.low p0) 1 _ rfl
  have t1 : ∀ z : Low (w.alloc (boxR v)), z.wd.cell? ⟨g, 1, none⟩ = some (.int .i64 st.top) := fun z => (ref_cells (hRz z)).2.1
  have q0 : ∀ z : Low (w.alloc (boxR v)), z.wd.cell? ⟨w.heap.size, 0, none⟩ = some (.string v.key) := fun z => box_cell (below_box z.low p0) 0 _ rfl
  have q3 : ∀ z : Low (w.alloc (boxR v)), z.wd.cell? ⟨w.heap.size, 3, none⟩ = some (.bool false) := fun z => by
    have := box_cell (below_box z.low p0) 3 _ rfl
    rw [hgo] at this
    exact this
  have s2 : ∀ z : Low (w.alloc (boxR v)), z.wd.cell? ⟨g, 2, none⟩ = some (.slice ao st.vs.length cap) := fun z => (ref_cells (hRz z)).2.2
  have hjl := (List.getElem?_eq_some_iff.1 hx).1
  obtain ⟨b, cur, rfl, hbh, hbB⟩ := ref_row_heap hR (by intro e; rw [e] at hjl; simp at hjl)
  have hbl : b < w.heap.size := (Array.getElem?_eq_some_iff.1 hbh).1
  have xc : ∀ z : Low (w.alloc (boxR v)), z.wd.cell? ⟨b, j * 4, none⟩ = some (.string x.key) ∧ z.wd.cell? ⟨b, j * 4 + 1, none⟩ = some (.int .i64 x.time) ∧ z.wd.cell? ⟨b, j * 4 + 2, none⟩ = some (.string x.val) ∧ z.wd.cell? ⟨b, j * 4 + 3, none⟩ = some (.bool x.gone) := fun z => by
    obtain ⟨h1, h2, h3, h4⟩ := rvCells_get st.vs j x hx
    have g1 := (hRz z).row.cells (g := b) rfl _ _ h1
    have g2 := (hRz z).row.cells (g := b) rfl _ _ h2
    have g3 := (hRz z).row.cells (g := b) rfl _ _ h3
    have g4 := (hRz z).row.cells (g := b) rfl _ _ h4
    rw [Addr.add_lit, Nat.zero_add] at g1 g2 g3 g4
    exact ⟨g1, g2, g3, g4⟩
  have x0 := fun z => (xc z).1
  have x1 := fun z => (xc z).2.1
  have x2 := fun z => (xc z).2.2.1
  have x3 := fun z => (xc z).2.2.2
  clear x0 x2
  have jl : (j : Int) < (st.vs.length : Int) := by omega
  have j0 : decide ((j : Int) < 0) = false := decide_eq_false (by omega)
  have r0 : ∀ z : Low (w.alloc (boxR v)), z.wd.cell? ⟨g, 0, none⟩ = some (.int .i64 st.room) := fun z => (ref_cells (hRz z)).1
  have hlA2 : lastA st.vs v.key = some x := by
    obtain ⟨x', hx', e1, e2⟩ := lastJ_succ hJ
    rw [hx] at hx'
    cases hx'
    rw [← lastA_all hR.inv, lastV_succ hx e1 e2]
  have hmore : ∀ z : Low (w.alloc (boxR v)), ∃ ao' cap' w5, (∀ ty, (Builtin.append_ #[87, 87] ty #[.slice (some ⟨b, 0, none⟩) st.vs.length cap, .slice (some ⟨z.wd.heap.size, 0, none⟩) 1 1]).run Try.prog (z.wd.alloc (boxR v)).drew = .ok (.slice ao' (st.vs.length + 1) cap') w5) ∧ w5.cell? ⟨g, 2, none⟩ = some (.slice (some ⟨b, 0, none⟩) st.vs.length cap) ∧ w5.frozen? ⟨g, 2, none⟩ = false ∧ w5.frozen? ⟨g, 1, none⟩ = false ∧ w5.cell? ⟨g, 1, none⟩ = some (.int .i64 st.top) ∧ w5.cell? ⟨w.heap.size, 0, none⟩ = some (.string v.key) ∧ w5.cell? ⟨w.heap.size, 1, none⟩ = some (.int .i64 v.time) ∧ w5.cell? ⟨w.heap.size, 2, none⟩ = some (.string v.val) ∧ w5.cell? ⟨w.heap.size, 3, none⟩ = some (.bool v.gone) ∧
      HoldR B ((w5.setCell ⟨g, 2, none⟩ (.slice ao' (st.vs.length + 1) cap')).setCell ⟨g, 1, none⟩ (.int .i64 v.time)) g ⟨st.room, v.time, st.vs ++ [v]⟩ ∧ TurnR B w ((w5.setCell ⟨g, 2, none⟩ (.slice ao' (st.vs.length + 1) cap')).setCell ⟨g, 1, none⟩ (.int .i64 v.time)) := by
    intro z
    have hinv : InvS ⟨st.room, v.time, st.vs ++ [v]⟩ := by
      have := inv_put hR.inv v
      have e : putS st v = (0, ⟨st.room, v.time, st.vs ++ [v]⟩) := by
        unfold putS
        rw [if_neg (by omega), if_neg (by rw [hgo]; simp), if_neg (by rw [hlA2]; simpa [lastAt] using hxt), if_neg (by omega)]
      rw [e] at this
      exact this
    have hbD : Below z.wd.heap.size z.wd (z.wd.alloc (boxR v)).drew := ((Below.refl _ _).alloc (Nat.le_refl _) _).drew
    have hZ := (hRz z).below hbD
    obtain ⟨i0, hi, hz0, hz1, hz2⟩ := info_parts Try.infoRV
    have hnn : (z.wd.alloc (boxR v)).drew.heap[z.wd.heap.size]? = some (boxR v) := heap_drew (heap_newB z.wd (boxR v) z.wd.heap.size rfl)
    have hBz : B ≤ (z.wd.alloc (boxR v)).drew.heap.size := Nat.le_trans hB (Nat.le_trans hbA.size (Nat.le_trans z.low.size hbD.size))
    obtain ⟨v', w5, hr5, ho5, hg5, _, hn5⟩ := run_append_own_at (P := Try.prog) (z.wd.alloc (boxR v)).drew B 87 0 91 i0 _ 4 48 Try.underlying87 hi hz0 hz1 hz2 rfl (by decide) _ _ _ hZ.row ⟨z.wd.heap.size, 0, none⟩ 1 1 (rvC v) rfl (fun j u hj => by
      rw [Addr.add_lit, Nat.zero_add]
      exact box_cell hnn j u (by simpa [rvC] using hj)) (rone4 v) (by unfold maxLen; omega) (by omega) hBz
    have hl1 : (st.vs ++ [v]).length = st.vs.length + 1 := by simp
    have ho5' : w5.ownsRow B 91 4 v' (st.vs ++ [v]).length (rvCells (st.vs ++ [v])) := by
      rw [hl1, rvCells_append]
      exact ho5
    obtain ⟨ao', cap', rfl, _⟩ := own_liesR ho5'
    have hty : ∀ ty, (Builtin.append_ #[87, 87] ty #[.slice (some ⟨b, 0, none⟩) st.vs.length cap, .slice (some ⟨z.wd.heap.size, 0, none⟩) 1 1]).run Try.prog (z.wd.alloc (boxR v)).drew = .ok (.slice ao' (st.vs.length + 1) cap') w5 := fun ty => by
      rw [← hl1]
      exact hr5
    have hrowk : ∀ (i : Nat) (o : Obj), (z.wd.alloc (boxR v)).drew.heap[i]? = some o → (∀ c, (Value.slice (some ⟨b, 0, none⟩) st.vs.length cap).ownBlock = some c → i ≠ c) → w5.heap[i]? = some o := fun i o e h0 => grown_keep hg5 e (fun e2 => h0 i e2.symm rfl)
    have hbx : (z.wd.alloc (boxR v)).drew.heap[w.heap.size]? = some (boxR v) := below_box hbD (below_box z.low p0)
    have hbx5 := hrowk _ _ hbx (fun c hc => by
      have := (hR.row.lt c hc).2
      omega)
    have hg5b := hrowk _ _ hZ.box (fun c hc e => by
      subst e
      rcases hZ.row.2 with ⟨e, _⟩ | ⟨g', cap2, cur2, e, _, hgg, _⟩
      · rw [e] at hc
        simp [Value.ownBlock] at hc
      · rw [e] at hc
        simp [Value.ownBlock] at hc
        rw [hc, hZ.box] at hgg
        cases hgg)
    have hT5 : TurnR B (z.wd.alloc (boxR v)).drew w5 := by
      rcases hZ.row.2 with ⟨e, _⟩ | ⟨g', cap2, cur2, e, hbb, hgg, _⟩
      · rw [e] at hg5
        exact Turns.of_below ⟨hg5.os, hg5.tape, hg5.output, hg5.size, fun i hi => hg5.block i hi (by simp [Value.ownBlock])⟩ hBz
      · rw [e] at hg5
        exact Turns.of_grown hg5 hbb hBz (fun o eo => by
          rw [hgg] at eo
          cases eo
          exact fun h => h.2 rfl)
    have hR6 : (w5.setCell ⟨g, 2, none⟩ (.slice ao' (st.vs.length + 1) cap')).heap[g]? = some (.cells #[.int .i64 st.room, .int .i64 st.top, .slice ao' (st.vs.length + 1) cap'] 89 (0, 0)) := set_heap hg5b _
    have hR7 : ((w5.setCell ⟨g, 2, none⟩ (.slice ao' (st.vs.length + 1) cap')).setCell ⟨g, 1, none⟩ (.int .i64 v.time)).heap[g]? = some (.cells #[.int .i64 st.room, .int .i64 v.time, .slice ao' (st.vs.length + 1) cap'] 89 (0, 0)) := set_heap hR6 _
    have hgg := (grown_set w5 g 2 (.slice ao' (st.vs.length + 1) cap')).trans (grown_set (w5.setCell ⟨g, 2, none⟩ (.slice ao' (st.vs.length + 1) cap')) g 1 (.int .i64 v.time))
    have hfin : RefAt B ((w5.setCell ⟨g, 2, none⟩ (.slice ao' (st.vs.length + 1) cap')).setCell ⟨g, 1, none⟩ (.int .i64 v.time)) g ⟨st.room, v.time, st.vs ++ [v]⟩ ao' cap' := by
      refine ⟨?_, hR.gB, own_same ho5' (fun i cur _ e => grown_keep hgg e (by
        intro e2
        cases e2
        rw [hg5b] at e
        cases e)), hinv⟩
      show _ = some (Obj.cells #[.int .i64 st.room, .int .i64 v.time, .slice ao' (st.vs ++ [v]).length cap'] _ _)
      rw [hl1]
      exact hR7
    have hTb : TurnR B w5 ((w5.setCell ⟨g, 2, none⟩ (.slice ao' (st.vs.length + 1) cap')).setCell ⟨g, 1, none⟩ (.int .i64 v.time)) := Turns.of_grown hgg hR.gB (Nat.le_trans hBz hg5.size) (fun o eo => by
      rw [hg5b] at eo
      cases eo
      exact fun h => h.1 rfl)
    exact ⟨ao', cap', w5, hty, box_cell hg5b 2 _ rfl, box_open hg5b 2, box_open hg5b 1, box_cell hg5b 1 _ rfl, box_cell hbx5 0 _ rfl, box_cell hbx5 1 _ rfl, box_cell hbx5 2 _ rfl, box_cell hbx5 3 _ rfl, ⟨_, _, hfin⟩, ((Turns.of_below (below_next (below_next hbA (Nat.le_refl _) z.low) (Nat.le_refl _) hbD) hB).trans hT5).trans hTb⟩
  have q2 : ∀ z : Low (w.alloc (boxR v)), z.wd.cell? ⟨w.heap.size, 2, none⟩ = some (.string v.val) := fun z => box_cell (below_box z.low p0) 2 _ rfl
  have q3' : ∀ z : Low (w.alloc (boxR v)), z.wd.cell? ⟨w.heap.size, 3, none⟩ = some (.bool v.gone) := fun z => box_cell (below_box z.low p0) 3 _ rfl
  have u1 : decide (v.time < 1) = false := decide_eq_false (by omega)
  have u2 : decide ((1099511627776 : Int) ≤ v.time) = false := decide_eq_false (by omega)
  have u3 : decide (v.time < st.top) = false := decide_eq_false (by omega)
  have u4 : decide (st.room ≤ (st.vs.length : Int)) = false := decide_eq_false (by omega)
  have hgw9 : ¬ w.heap.size = g := by omega
  clear hR hA hRz p0 hbA hB h1 h2 h3 hJ hgl hgo hx hjl xc hbh hbB hlA2 hroom
  generalize st.vs.length = L at *
  go_enter Try.func53, Try.ntmps53
  go_wp2_with fail
  refine wp_region_low (by kernel_rfl) (by kernel_rfl) fun hsomez => ?_
  repeat (go_big_quiet_step (fail))
  refine wpQuiet_nil ?_
  rintro _ ⟨z, rfl⟩
  have hlz := hla z
  go_wp2_with (first
    | (go_at_call 54; refine hlz.mono ?_; rintro e wn ⟨rfl, hq⟩; have hq' := hq.symm; clear hq; subst hq'))
  have q0y : ∀ y : Low z.wd, y.wd.cell? ⟨w.heap.size, 0, none⟩ = some (.string v.key) := fun y => q0 ⟨y.wd, low2 z y⟩
  have q1y : ∀ y : Low z.wd, y.wd.cell? ⟨w.heap.size, 1, none⟩ = some (.int .i64 v.time) := fun y => q1 ⟨y.wd, low2 z y⟩
  have s2y : ∀ y : Low z.wd, y.wd.cell? ⟨g, 2, none⟩ = some (.slice (some ⟨b, 0, none⟩) L cap) := fun y => s2 ⟨y.wd, low2 z y⟩
  have x1y : ∀ y : Low z.wd, y.wd.cell? ⟨b, j * 4 + 1, none⟩ = some (.int .i64 x.time) := fun y => x1 ⟨y.wd, low2 z y⟩
  have r0y : ∀ y : Low z.wd, y.wd.cell? ⟨g, 0, none⟩ = some (.int .i64 st.room) := fun y => r0 ⟨y.wd, low2 z y⟩
  have q2y : ∀ y : Low z.wd, y.wd.cell? ⟨w.heap.size, 2, none⟩ = some (.string v.val) := fun y => q2 ⟨y.wd, low2 z y⟩
  refine wp_region_low (by kernel_rfl) (by kernel_rfl) fun hsomey => ?_
  repeat (go_big_quiet_step (fail))
  refine wpQuiet_nil ?_
  rintro _ ⟨y, rfl⟩
  go_wp2_with fail
  have q0u : ∀ u : Low y.wd, u.wd.cell? ⟨w.heap.size, 0, none⟩ = some (.string v.key) := fun u => q0 ⟨u.wd, below_next (low2 z y) (Nat.le_refl _) u.low⟩
  have q1u : ∀ u : Low y.wd, u.wd.cell? ⟨w.heap.size, 1, none⟩ = some (.int .i64 v.time) := fun u => q1 ⟨u.wd, below_next (low2 z y) (Nat.le_refl _) u.low⟩
  have s2u : ∀ u : Low y.wd, u.wd.cell? ⟨g, 2, none⟩ = some (.slice (some ⟨b, 0, none⟩) L cap) := fun u => s2 ⟨u.wd, below_next (low2 z y) (Nat.le_refl _) u.low⟩
  have x1u : ∀ u : Low y.wd, u.wd.cell? ⟨b, j * 4 + 1, none⟩ = some (.int .i64 x.time) := fun u => x1 ⟨u.wd, below_next (low2 z y) (Nat.le_refl _) u.low⟩
  have r0u : ∀ u : Low y.wd, u.wd.cell? ⟨g, 0, none⟩ = some (.int .i64 st.room) := fun u => r0 ⟨u.wd, below_next (low2 z y) (Nat.le_refl _) u.low⟩
  have q2u : ∀ u : Low y.wd, u.wd.cell? ⟨w.heap.size, 2, none⟩ = some (.string v.val) := fun u => q2 ⟨u.wd, below_next (low2 z y) (Nat.le_refl _) u.low⟩
  refine wp_region_low (by kernel_rfl) (by kernel_rfl) fun hsomeu => ?_
  repeat (go_big_quiet_step (fail))
  refine wpQuiet_nil ?_
  rintro _ ⟨u, rfl⟩
  obtain ⟨ao', cap', w5, a1, a2, a3, a4, a5, a6, a7, a8, a9, hz⟩ := hmore ⟨u.wd, below_next (low2 z y) (Nat.le_refl _) u.low⟩
  have d0 : u.wd.drew.cell? ⟨w.heap.size, 0, none⟩ = some (.string v.key) := q0 ⟨u.wd.drew, (below_next (low2 z y) (Nat.le_refl _) u.low).drew⟩
  have d1 : u.wd.drew.cell? ⟨w.heap.size, 1, none⟩ = some (.int .i64 v.time) := q1 ⟨u.wd.drew, (below_next (low2 z y) (Nat.le_refl _) u.low).drew⟩
  have d2 : u.wd.drew.cell? ⟨w.heap.size, 2, none⟩ = some (.string v.val) := q2 ⟨u.wd.drew, (below_next (low2 z y) (Nat.le_refl _) u.low).drew⟩
  have d3 : u.wd.drew.cell? ⟨w.heap.size, 3, none⟩ = some (.bool v.gone) := q3' ⟨u.wd.drew, (below_next (low2 z y) (Nat.le_refl _) u.low).drew⟩
  have d4 : u.wd.drew.cell? ⟨g, 2, none⟩ = some (.slice (some ⟨b, 0, none⟩) L cap) := s2 ⟨u.wd.drew, (below_next (low2 z y) (Nat.le_refl _) u.low).drew⟩
  simp only at a1 hz
  clear hmore q0 q1 q2 q3 q3' s2 t1 r0 q0y q1y q2y s2y r0y q0u q1u q2u s2u r0u hsomez hsomey hsomeu x1 x3 x1y x1u
  generalize u.wd = Y at *
  have hS0 : Y.drew.cell? ⟨g, 2, none⟩ = some (.slice (some ⟨b, 0, none⟩) L cap) ∧ Y.drew.cell? ⟨w.heap.size, 0, none⟩ = some (.string v.key) ∧ Y.drew.cell? ⟨w.heap.size, 1, none⟩ = some (.int .i64 v.time) ∧ Y.drew.cell? ⟨w.heap.size, 2, none⟩ = some (.string v.val) ∧ Y.drew.cell? ⟨w.heap.size, 3, none⟩ = some (.bool v.gone) := ⟨d4, d0, d1, d2, d3⟩
  have hS1 : (Y.alloc (boxR v)).drew.cell? ⟨g, 2, none⟩ = some (.slice (some ⟨b, 0, none⟩) L cap) ∧ (Y.alloc (boxR v)).drew.cell? ⟨w.heap.size, 0, none⟩ = some (.string v.key) ∧ (Y.alloc (boxR v)).drew.cell? ⟨w.heap.size, 1, none⟩ = some (.int .i64 v.time) ∧ (Y.alloc (boxR v)).drew.cell? ⟨w.heap.size, 2, none⟩ = some (.string v.val) ∧ (Y.alloc (boxR v)).drew.cell? ⟨w.heap.size, 3, none⟩ = some (.bool v.gone) := ⟨alloc_cell (w := Y) _ d4, alloc_cell (w := Y) _ d0, alloc_cell (w := Y) _ d1, alloc_cell (w := Y) _ d2, alloc_cell (w := Y) _ d3⟩
  go_wp2_with fail
  go_region_law (refine step_app_run rfl (.tmp 84) (.tmp 86) 87 rfl (.slice (some ⟨b, 0, none⟩) L cap) (.slice (some ⟨Y.heap.size, 0, none⟩) 1 1) (by simp [Act.eval]) (by simp [Act.eval]) (a1 _) ?_)
  all_goals (go_wp2; go_ret; exact ⟨rfl, hz⟩)
set_option maxRecDepth 100000 in
set_option maxHeartbeats 4000000 in
theorem rput_gSfullF (B g : Nat) (st : Sto) (v : Ver) (hgo : v.gone = true) (j : Nat) (hJ : lastJ v.key 1099511627776 st.vs = j + 1) (x : Ver) (hx : st.vs[j]? = some x) (hxg : x.gone = false) (hxt : ¬ x.time = v.time) (hroom : st.room ≤ (st.vs.length : Int)) (h1 : 1 ≤ v.time) (h2 : v.time < 1099511627776) (h3 : st.top ≤ v.time) (hn : st.vs.length ≤ 4100) (w : World) (h : HoldR B w g st) :
    Calls Try.prog 53 #[.pointer (some ⟨g, 0, none⟩), .agg #[.string v.key, .int .i64 v.time, .string v.val, .bool v.gone]] w fun e w' => e = .returned (.int .i64 4) ∧ HoldR B w' g st ∧ TurnR B w w' := by
  have hgl := h.lt
  have hB : B ≤ w.heap.size := Nat.le_trans hgl.1 (Nat.le_of_lt hgl.2)
  have hbA : Below w.heap.size w (w.alloc (boxR v)) := (Below.refl _ w).alloc (Nat.le_refl _) _
  have hA := h.below hbA
  have p0 := heap_new w (boxR v)
  have hla : ∀ z : Low (w.alloc (boxR v)), Calls Try.prog 54 #[.pointer (some ⟨g, 0, none⟩), .string v.key, .int .i64 1099511627776] z.wd fun e w' => e = .returned (.int .i64 (j : Int)) ∧ w' = z.wd := fun z => by
    have := rlast_any B g st v.key 1099511627776 (by omega) z.wd (hA.below z.low)
    rw [hJ, show (((j + 1 : Nat) : Int) - 1) = (j : Int) by omega] at this
    exact this
  obtain ⟨ao, cap, hR⟩ := h
  have hRz : ∀ z : Low (w.alloc (boxR v)), RefAt B z.wd g st ao cap := fun z => (hR.below hbA).below z.low
  have q1 : ∀ z : Low (w.alloc (boxR v)), z.wd.cell? ⟨w.heap.size, 1, none⟩ = some (.int .i64 v.time) := fun z => box_cell (below_box z.low p0) 1 _ rfl
  have t1 : ∀ z : Low (w.alloc (boxR v)), z.wd.cell? ⟨g, 1, none⟩ = some (.int .i64 st.top) := fun z => (ref_cells (hRz z)).2.1
  have q0 : ∀ z : Low (w.alloc (boxR v)), z.wd.cell? ⟨w.heap.size, 0, none⟩ = some (.string v.key) := fun z => box_cell (below_box z.low p0) 0 _ rfl
  have q3 : ∀ z : Low (w.alloc (boxR v)), z.wd.cell? ⟨w.heap.size, 3, none⟩ = some (.bool true) := fun z => by
    have := box_cell (below_box z.low p0) 3 _ rfl
    rw [hgo] at this
    exact this
  have s2 : ∀ z : Low (w.alloc (boxR v)), z.wd.cell? ⟨g, 2, none⟩ = some (.slice ao st.vs.length cap) := fun z => (ref_cells (hRz z)).2.2
  have hjl := (List.getElem?_eq_some_iff.1 hx).1
  obtain ⟨b, cur, rfl, hbh, hbB⟩ := ref_row_heap hR (by intro e; rw [e] at hjl; simp at hjl)
  have hbl : b < w.heap.size := (Array.getElem?_eq_some_iff.1 hbh).1
  have xc : ∀ z : Low (w.alloc (boxR v)), z.wd.cell? ⟨b, j * 4, none⟩ = some (.string x.key) ∧ z.wd.cell? ⟨b, j * 4 + 1, none⟩ = some (.int .i64 x.time) ∧ z.wd.cell? ⟨b, j * 4 + 2, none⟩ = some (.string x.val) ∧ z.wd.cell? ⟨b, j * 4 + 3, none⟩ = some (.bool x.gone) := fun z => by
    obtain ⟨h1, h2, h3, h4⟩ := rvCells_get st.vs j x hx
    have g1 := (hRz z).row.cells (g := b) rfl _ _ h1
    have g2 := (hRz z).row.cells (g := b) rfl _ _ h2
    have g3 := (hRz z).row.cells (g := b) rfl _ _ h3
    have g4 := (hRz z).row.cells (g := b) rfl _ _ h4
    rw [Addr.add_lit, Nat.zero_add] at g1 g2 g3 g4
    exact ⟨g1, g2, g3, g4⟩
  have x0 := fun z => (xc z).1
  have x1 := fun z => (xc z).2.1
  have x2 := fun z => (xc z).2.2.1
  have x3 := fun z => (xc z).2.2.2
  clear x0 x2
  simp only [hxg] at x3
  have jl : (j : Int) < (st.vs.length : Int) := by omega
  have j0 : decide ((j : Int) < 0) = false := decide_eq_false (by omega)
  have hdone : ∀ z : Low (w.alloc (boxR v)), HoldR B z.wd g st ∧ TurnR B w z.wd := fun z => ⟨⟨_, _, hRz z⟩, Turns.of_below (below_next hbA (Nat.le_refl _) z.low) hB⟩
  have r0 : ∀ z : Low (w.alloc (boxR v)), z.wd.cell? ⟨g, 0, none⟩ = some (.int .i64 st.room) := fun z => (ref_cells (hRz z)).1
  have u1 : decide (v.time < 1) = false := decide_eq_false (by omega)
  have u2 : decide ((1099511627776 : Int) ≤ v.time) = false := decide_eq_false (by omega)
  have u3 : decide (v.time < st.top) = false := decide_eq_false (by omega)
  have u4 : st.room ≤ (st.vs.length : Int) := hroom
  have hgw9 : ¬ w.heap.size = g := by omega
  clear hR hA hRz p0 hbA hB h1 h2 h3 hJ hgl hgo hx hjl xc hbh hbB hxg
  generalize st.vs.length = L at *
  go_enter Try.func53, Try.ntmps53
  go_wp2_with fail
  refine wp_region_low (by kernel_rfl) (by kernel_rfl) fun hsomez => ?_
  repeat (go_big_quiet_step (fail))
  refine wpQuiet_nil ?_
  rintro _ ⟨z, rfl⟩
  have hlz := hla z
  go_wp2_with (first
    | (go_at_call 54; refine hlz.mono ?_; rintro e wn ⟨rfl, hq⟩; have hq' := hq.symm; clear hq; subst hq'))
  have q0y : ∀ y : Low z.wd, y.wd.cell? ⟨w.heap.size, 0, none⟩ = some (.string v.key) := fun y => q0 ⟨y.wd, low2 z y⟩
  have q1y : ∀ y : Low z.wd, y.wd.cell? ⟨w.heap.size, 1, none⟩ = some (.int .i64 v.time) := fun y => q1 ⟨y.wd, low2 z y⟩
  have s2y : ∀ y : Low z.wd, y.wd.cell? ⟨g, 2, none⟩ = some (.slice (some ⟨b, 0, none⟩) L cap) := fun y => s2 ⟨y.wd, low2 z y⟩
  have x1y : ∀ y : Low z.wd, y.wd.cell? ⟨b, j * 4 + 1, none⟩ = some (.int .i64 x.time) := fun y => x1 ⟨y.wd, low2 z y⟩
  have r0y : ∀ y : Low z.wd, y.wd.cell? ⟨g, 0, none⟩ = some (.int .i64 st.room) := fun y => r0 ⟨y.wd, low2 z y⟩
  refine wp_region_low (by kernel_rfl) (by kernel_rfl) fun hsomey => ?_
  repeat (go_big_quiet_step (fail))
  refine wpQuiet_nil ?_
  rintro _ ⟨y, rfl⟩
  go_wp2_with fail
  have q0u : ∀ u : Low y.wd, u.wd.cell? ⟨w.heap.size, 0, none⟩ = some (.string v.key) := fun u => q0 ⟨u.wd, below_next (low2 z y) (Nat.le_refl _) u.low⟩
  have q1u : ∀ u : Low y.wd, u.wd.cell? ⟨w.heap.size, 1, none⟩ = some (.int .i64 v.time) := fun u => q1 ⟨u.wd, below_next (low2 z y) (Nat.le_refl _) u.low⟩
  have s2u : ∀ u : Low y.wd, u.wd.cell? ⟨g, 2, none⟩ = some (.slice (some ⟨b, 0, none⟩) L cap) := fun u => s2 ⟨u.wd, below_next (low2 z y) (Nat.le_refl _) u.low⟩
  have x1u : ∀ u : Low y.wd, u.wd.cell? ⟨b, j * 4 + 1, none⟩ = some (.int .i64 x.time) := fun u => x1 ⟨u.wd, below_next (low2 z y) (Nat.le_refl _) u.low⟩
  have r0u : ∀ u : Low y.wd, u.wd.cell? ⟨g, 0, none⟩ = some (.int .i64 st.room) := fun u => r0 ⟨u.wd, below_next (low2 z y) (Nat.le_refl _) u.low⟩
  refine wp_region_low (by kernel_rfl) (by kernel_rfl) fun hsomeu => ?_
  repeat (go_big_quiet_step (fail))
  refine wpQuiet_nil ?_
  rintro _ ⟨u, rfl⟩
  have hz := hdone ⟨u.wd, below_next (low2 z y) (Nat.le_refl _) u.low⟩
  go_wp2
  go_ret
  exact ⟨rfl, hz⟩
end Go.Proofs.Ytdmkmhjalcfchaa
namespace Go.Proofs.Ytdmkmhjalcfchaa
open Go.RowKit Num
open scoped Classical
set_option linter.unusedVariables false
set_option maxRecDepth 100000

set_option maxRecDepth 100000 in
set_option maxHeartbeats 4000000 in
theorem rput_gSturnF (B g : Nat) (st : Sto) (v : Ver) (hgo : v.gone = true) (j : Nat) (hJ : lastJ v.key 1099511627776 st.vs = j + 1) (x : Ver) (hx : st.vs[j]? = some x) (hxg : x.gone = false) (hxt : x.time = v.time) (h1 : 1 ≤ v.time) (h2 : v.time < 1099511627776) (h3 : st.top ≤ v.time) (hn : st.vs.length ≤ 4100) (w : World) (h : HoldR B w g st) :
    Calls Try.prog 53 #[.pointer (some ⟨g, 0, none⟩), .agg #[.string v.key, .int .i64 v.time, .string v.val, .bool v.gone]] w fun e w' => e = .returned (.int .i64 0) ∧ HoldR B w' g ⟨st.room, v.time, turnV st.vs v.key v⟩ ∧ TurnR B w w' := by
  have hgl := h.lt
  have hB : B ≤ w.heap.size := Nat.le_trans hgl.1 (Nat.le_of_lt hgl.2)
  have hbA : Below w.heap.size w (w.alloc (boxR v)) := (Below.refl _ w).alloc (Nat.le_refl _) _
  have hA := h.below hbA
  have p0 := heap_new w (boxR v)
  have hla : ∀ z : Low (w.alloc (boxR v)), Calls Try.prog 54 #[.pointer (some ⟨g, 0, none⟩), .string v.key, .int .i64 1099511627776] z.wd fun e w' => e = .returned (.int .i64 (j : Int)) ∧ w' = z.wd := fun z => by
    have := rlast_any B g st v.key 1099511627776 (by omega) z.wd (hA.below z.low)
    rw [hJ, show (((j + 1 : Nat) : Int) - 1) = (j : Int) by omega] at this
    exact this
  obtain ⟨ao, cap, hR⟩ := h
  have hRz : ∀ z : Low (w.alloc (boxR v)), RefAt B z.wd g st ao cap := fun z => (hR.below hbA).below z.low
  have q1 : ∀ z : Low (w.alloc (boxR v)), z.wd.cell? ⟨w.heap.size, 1, none⟩ = some (.int .i64 v.time) := fun z => box_cell (below_box z.low p0) 1 _ rfl
  have t1 : ∀ z : Low (w.alloc (boxR v)), z.wd.cell? ⟨g, 1, none⟩ = some (.int .i64 st.top) := fun z => (ref_cells (hRz z)).2.1
  have q0 : ∀ z : Low (w.alloc (boxR v)), z.wd.cell? ⟨w.heap.size, 0, none⟩ = some (.string v.key) := fun z => box_cell (below_box z.low p0) 0 _ rfl
  have q3 : ∀ z : Low (w.alloc (boxR v)), z.wd.cell? ⟨w.heap.size, 3, none⟩ = some (.bool true) := fun z => by
    have := box_cell (below_box z.low p0) 3 _ rfl
    rw [hgo] at this
    exact this
  have s2 : ∀ z : Low (w.alloc (boxR v)), z.wd.cell? ⟨g, 2, none⟩ = some (.slice ao st.vs.length cap) := fun z => (ref_cells (hRz z)).2.2
  have hjl := (List.getElem?_eq_some_iff.1 hx).1
  obtain ⟨b, cur, rfl, hbh, hbB⟩ := ref_row_heap hR (by intro e; rw [e] at hjl; simp at hjl)
  have hbl : b < w.heap.size := (Array.getElem?_eq_some_iff.1 hbh).1
  have xc : ∀ z : Low (w.alloc (boxR v)), z.wd.cell? ⟨b, j * 4, none⟩ = some (.string x.key) ∧ z.wd.cell? ⟨b, j * 4 + 1, none⟩ = some (.int .i64 x.time) ∧ z.wd.cell? ⟨b, j * 4 + 2, none⟩ = some (.string x.val) ∧ z.wd.cell? ⟨b, j * 4 + 3, none⟩ = some (.bool x.gone) := fun z => by
    obtain ⟨h1, h2, h3, h4⟩ := rvCells_get st.vs j x hx
    have g1 := (hRz z).row.cells (g := b) rfl _ _ h1
    have g2 := (hRz z).row.cells (g := b) rfl _ _ h2
    have g3 := (hRz z).row.cells (g := b) rfl _ _ h3
    have g4 := (hRz z).row.cells (g := b) rfl _ _ h4
    rw [Addr.add_lit, Nat.zero_add] at g1 g2 g3 g4
    exact ⟨g1, g2, g3, g4⟩
  have x0 := fun z => (xc z).1
  have x1 := fun z => (xc z).2.1
  have x2 := fun z => (xc z).2.2.1
  have x3 := fun z => (xc z).2.2.2
  simp only [hxt] at x1
  simp only [hxg] at x3
  have jl : (j : Int) < (st.vs.length : Int) := by omega
  have j0 : decide ((j : Int) < 0) = false := decide_eq_false (by omega)
  obtain ⟨hh9, hd9⟩ : hitV v.key 1099511627776 x = true ∧ ∀ y ∈ st.vs.drop (j + 1), hitV v.key 1099511627776 y = false := by
    obtain ⟨x', hx', e1, e2⟩ := lastJ_succ hJ
    rw [hx] at hx'
    cases hx'
    exact ⟨e1, e2⟩
  have hlA : lastA st.vs v.key = some x := by rw [← lastA_all hR.inv, lastV_succ hx hh9 hd9]
  have hdone : ∀ z : Low (w.alloc (boxR v)), HoldR B (((((z.wd.setCell ⟨b, j * 4, none⟩ (.string v.key)).setCell ⟨b, j * 4 + 1, none⟩ (.int .i64 v.time)).setCell ⟨b, j * 4 + 2, none⟩ (.string v.val)).setCell ⟨b, j * 4 + 3, none⟩ (.bool v.gone)).setCell ⟨g, 1, none⟩ (.int .i64 v.time)) g ⟨st.room, v.time, turnV st.vs v.key v⟩ ∧ TurnR B w (((((z.wd.setCell ⟨b, j * 4, none⟩ (.string v.key)).setCell ⟨b, j * 4 + 1, none⟩ (.int .i64 v.time)).setCell ⟨b, j * 4 + 2, none⟩ (.string v.val)).setCell ⟨b, j * 4 + 3, none⟩ (.bool v.gone)).setCell ⟨g, 1, none⟩ (.int .i64 v.time)) := by
    intro z
    have hinv : InvS ⟨st.room, v.time, turnV st.vs v.key v⟩ := by
      have := inv_put hR.inv v
      have e : putS st v = (0, ⟨st.room, v.time, turnV st.vs v.key v⟩) := by
        unfold putS
        rw [if_neg (by omega), if_neg (by rw [hlA]; simp [noneLeft, hxg]), if_pos (by rw [hlA]; exact decide_eq_true hxt)]
      rw [e] at this
      exact this
    have hZ := hRz z
    have ht : turnV st.vs v.key v = st.vs.set j v := turn_set hR.inv hx hh9 hd9
    obtain ⟨s1, g1⟩ := hZ.row.stored (j * 4) (.string v.key)
    obtain ⟨s2', g2⟩ := s1.stored (j * 4 + 1) (.int .i64 v.time)
    obtain ⟨s3, g3⟩ := s2'.stored (j * 4 + 2) (.string v.val)
    obtain ⟨s4, g4⟩ := s3.stored (j * 4 + 3) (.bool v.gone)
    rw [rvCells_set st.vs j x v hx] at s4
    have hgr := ((g1.trans g2).trans g3).trans g4
    have hbz : z.wd.heap[b]? = some (.cells cur 91 (0, 0)) := below_box z.low (below_box hbA hbh)
    have hgb : g ≠ b := obj_ne hZ.box hbz (by simp)
    have hbox4 := grown_keep hgr hZ.box (by intro e2; cases e2; exact hgb rfl)
    have hT4 : TurnR B z.wd _ := Turns.of_grown hgr hbB (Nat.le_trans hB (Nat.le_trans hbA.size z.low.size)) (fun o e => by
      rw [hbz] at e
      cases e
      exact fun h => h.2 rfl)
    have hlen : (st.vs.set j v).length = st.vs.length := List.length_set
    have hR4 : RefAt B ((((z.wd.setCell ⟨b, j * 4, none⟩ (.string v.key)).setCell ⟨b, j * 4 + 1, none⟩ (.int .i64 v.time)).setCell ⟨b, j * 4 + 2, none⟩ (.string v.val)).setCell ⟨b, j * 4 + 3, none⟩ (.bool v.gone)) g ⟨st.room, st.top, st.vs.set j v⟩ (some ⟨b, 0, none⟩) cap := by
      refine ⟨?_, hZ.gB, ?_, ?_⟩
      · show _ = some (Obj.cells #[.int .i64 st.room, .int .i64 st.top, .slice (some ⟨b, 0, none⟩) (st.vs.set j v).length cap] _ _)
        rw [hlen]
        exact hbox4
      · show World.ownsRow _ _ _ _ (.slice (some ⟨b, 0, none⟩) (st.vs.set j v).length cap) (st.vs.set j v).length _
        rw [hlen]
        exact s4
      · have hi2 := hinv
        rw [ht] at hi2
        have htop : st.top = v.time := by
          have := (hR.inv.2.1 x (List.mem_of_getElem? hx)).2
          omega
        rw [htop]
        exact hi2
    obtain ⟨r1, r2⟩ := ref_turn (st' := ⟨st.room, v.time, turnV st.vs v.key v⟩) (ao' := some ⟨b, 0, none⟩) (cap' := cap) hR4 (grown_set _ g 1 (.int .i64 v.time)) (by
      show _ = some (Obj.cells #[.int .i64 st.room, .int .i64 v.time, .slice (some ⟨b, 0, none⟩) (turnV st.vs v.key v).length cap] _ _)
      rw [ht]
      exact set_heap hR4.box _) (by rw [ht]; exact hR4.row) hinv
    exact ⟨⟨_, _, r1⟩, ((Turns.of_below (below_next hbA (Nat.le_refl _) z.low) hB).trans hT4).trans r2⟩
  have fz : ∀ (z : Low (w.alloc (boxR v))) (i : Nat), z.wd.frozen? ⟨b, i, none⟩ = false := fun z i => (hRz z).row.frozenAt i
  have fg : ∀ z : Low (w.alloc (boxR v)), z.wd.frozen? ⟨g, 1, none⟩ = false := fun z => box_open (hRz z).box 1
  have hgb : g ≠ b := obj_ne hR.box hbh (by simp)
  have hgw : ¬ w.heap.size = b := by omega
  have hgw2 : ¬ w.heap.size = g := by omega
  have q2 : ∀ z : Low (w.alloc (boxR v)), z.wd.cell? ⟨w.heap.size, 2, none⟩ = some (.string v.val) := fun z => box_cell (below_box z.low p0) 2 _ rfl
  have q3' : ∀ z : Low (w.alloc (boxR v)), z.wd.cell? ⟨w.heap.size, 3, none⟩ = some (.bool v.gone) := fun z => box_cell (below_box z.low p0) 3 _ rfl
  have u1 : decide (v.time < 1) = false := decide_eq_false (by omega)
  have u2 : decide ((1099511627776 : Int) ≤ v.time) = false := decide_eq_false (by omega)
  have u3 : decide (v.time < st.top) = false := decide_eq_false (by omega)
  have hgw9 : ¬ w.heap.size = g := by omega
  clear hR hA hRz p0 hbA hB h1 h2 h3 hJ hgl hgo hx hjl xc hbh hbB hxg hxt hh9 hd9 hlA
  generalize st.vs.length = L at *
  go_enter Try.func53, Try.ntmps53
  go_wp2_with fail
  refine wp_region_low (by kernel_rfl) (by kernel_rfl) fun hsomez => ?_
  repeat (go_big_quiet_step (fail))
  refine wpQuiet_nil ?_
  rintro _ ⟨z, rfl⟩
  have hlz := hla z
  go_wp2_with (first
    | (go_at_call 54; refine hlz.mono ?_; rintro e wn ⟨rfl, hq⟩; have hq' := hq.symm; clear hq; subst hq'))
  have q0y : ∀ y : Low z.wd, y.wd.cell? ⟨w.heap.size, 0, none⟩ = some (.string v.key) := fun y => q0 ⟨y.wd, low2 z y⟩
  have q1y : ∀ y : Low z.wd, y.wd.cell? ⟨w.heap.size, 1, none⟩ = some (.int .i64 v.time) := fun y => q1 ⟨y.wd, low2 z y⟩
  have s2y : ∀ y : Low z.wd, y.wd.cell? ⟨g, 2, none⟩ = some (.slice (some ⟨b, 0, none⟩) L cap) := fun y => s2 ⟨y.wd, low2 z y⟩
  have x1y : ∀ y : Low z.wd, y.wd.cell? ⟨b, j * 4 + 1, none⟩ = some (.int .i64 v.time) := fun y => x1 ⟨y.wd, low2 z y⟩
  have q2y : ∀ y : Low z.wd, y.wd.cell? ⟨w.heap.size, 2, none⟩ = some (.string v.val) := fun y => q2 ⟨y.wd, low2 z y⟩
  refine wp_region_low (by kernel_rfl) (by kernel_rfl) fun hsomey => ?_
  repeat (go_big_quiet_step (fail))
  refine wpQuiet_nil ?_
  rintro _ ⟨y, rfl⟩
  have hz := hdone ⟨y.wd.drew, (low2 z y).drew⟩
  have fzy : ∀ i, y.wd.frozen? ⟨b, i, none⟩ = false := fun i => fz ⟨y.wd, low2 z y⟩ i
  have fgy : y.wd.frozen? ⟨g, 1, none⟩ = false := fg ⟨y.wd, low2 z y⟩
  have c0 : y.wd.cell? ⟨b, j * 4, none⟩ = some (.string x.key) := x0 ⟨y.wd, low2 z y⟩
  have c1 : y.wd.cell? ⟨b, j * 4 + 1, none⟩ = some (.int .i64 v.time) := x1 ⟨y.wd, low2 z y⟩
  have c2 : y.wd.cell? ⟨b, j * 4 + 2, none⟩ = some (.string x.val) := x2 ⟨y.wd, low2 z y⟩
  have c3 : y.wd.cell? ⟨b, j * 4 + 3, none⟩ = some (.bool false) := x3 ⟨y.wd, low2 z y⟩
  have d0 : y.wd.cell? ⟨w.heap.size, 0, none⟩ = some (.string v.key) := q0 ⟨y.wd, low2 z y⟩
  have d1 : y.wd.cell? ⟨w.heap.size, 1, none⟩ = some (.int .i64 v.time) := q1 ⟨y.wd, low2 z y⟩
  have d2 : y.wd.cell? ⟨w.heap.size, 2, none⟩ = some (.string v.val) := q2 ⟨y.wd, low2 z y⟩
  have d3 : y.wd.cell? ⟨w.heap.size, 3, none⟩ = some (.bool v.gone) := q3' ⟨y.wd, low2 z y⟩
  have d4 : y.wd.cell? ⟨g, 2, none⟩ = some (.slice (some ⟨b, 0, none⟩) L cap) := s2 ⟨y.wd, low2 z y⟩
  have d5 : y.wd.cell? ⟨g, 1, none⟩ = some (.int .i64 st.top) := t1 ⟨y.wd, low2 z y⟩
  clear hdone fz fg x0 x1 x2 x3 q0 q1 q2 q3 q3' s2 t1 q0y q1y q2y s2y x1y hsomez hsomey
  simp only at hz
  generalize y.wd = Y at *
  go_wp2_with fail
  go_region
  all_goals (go_wp2; go_ret; exact ⟨rfl, hz⟩)
set_option maxRecDepth 100000 in
set_option maxHeartbeats 4000000 in
theorem rput_gSmoreF (B g : Nat) (st : Sto) (v : Ver) (hgo : v.gone = true) (j : Nat) (hJ : lastJ v.key 1099511627776 st.vs = j + 1) (x : Ver) (hx : st.vs[j]? = some x) (hxg : x.gone = false) (hxt : ¬ x.time = v.time) (hroom : (st.vs.length : Int) < st.room) (h1 : 1 ≤ v.time) (h2 : v.time < 1099511627776) (h3 : st.top ≤ v.time) (hn : st.vs.length ≤ 4100) (w : World) (h : HoldR B w g st) :
    Calls Try.prog 53 #[.pointer (some ⟨g, 0, none⟩), .agg #[.string v.key, .int .i64 v.time, .string v.val, .bool v.gone]] w fun e w' => e = .returned (.int .i64 0) ∧ HoldR B w' g ⟨st.room, v.time, st.vs ++ [v]⟩ ∧ TurnR B w w' := by
  have hgl := h.lt
  have hB : B ≤ w.heap.size := Nat.le_trans hgl.1 (Nat.le_of_lt hgl.2)
  have hbA : Below w.heap.size w (w.alloc (boxR v)) := (Below.refl _ w).alloc (Nat.le_refl _) _
  have hA := h.below hbA
  have p0 := heap_new w (boxR v)
  have hla : ∀ z : Low (w.alloc (boxR v)), Calls Try.prog 54 #[.pointer (some ⟨g, 0, none⟩), .string v.key, .int .i64 1099511627776] z.wd fun e w' => e = .returned (.int .i64 (j : Int)) ∧ w' = z.wd := fun z => by
    have := rlast_any B g st v.key 1099511627776 (by omega) z.wd (hA.below z.low)
    rw [hJ, show (((j + 1 : Nat) : Int) - 1) = (j : Int) by omega] at this
    exact this
  obtain ⟨ao, cap, hR⟩ := h
  have hRz : ∀ z : Low (w.alloc (boxR v)), RefAt B z.wd g st ao cap := fun z => (hR.below hbA).below z.low
  have q1 : ∀ z : Low (w.alloc (boxR v)), z.wd.cell? ⟨w.heap.size, 1, none⟩ = some (.int .i64 v.time) := fun z => box_cell (below_box z.low p0) 1 _ rfl
  have t1 : ∀ z : Low (w.alloc (boxR v)), z.wd.cell? ⟨g, 1, none⟩ = some (.int .i64 st.top) := fun z => (ref_cells (hRz z)).2.1
  have q0 : ∀ z : Low (w.alloc (boxR v)), z.wd.cell? ⟨w.heap.size, 0, none⟩ = some (.string v.key) := fun z => box_cell (below_box z.low p0) 0 _ rfl
  have q3 : ∀ z : Low (w.alloc (boxR v)), z.wd.cell? ⟨w.heap.size, 3, none⟩ = some (.bool true) := fun z => by
    have := box_cell (below_box z.low p0) 3 _ rfl
    rw [hgo] at this
    exact this
  have s2 : ∀ z : Low (w.alloc (boxR v)), z.wd.cell? ⟨g, 2, none⟩ = some (.slice ao st.vs.length cap) := fun z => (ref_cells (hRz z)).2.2
  have hjl := (List.getElem?_eq_some_iff.1 hx).1
  obtain ⟨b, cur, rfl, hbh, hbB⟩ := ref_row_heap hR (by intro e; rw [e] at hjl; simp at hjl)
  have hbl : b < w.heap.size := (Array.getElem?_eq_some_iff.1 hbh).1
  have xc : ∀ z : Low (w.alloc (boxR v)), z.wd.cell? ⟨b, j * 4, none⟩ = some (.string x.key) ∧ z.wd.cell? ⟨b, j * 4 + 1, none⟩ = some (.int .i64 x.time) ∧ z.wd.cell? ⟨b, j * 4 + 2, none⟩ = some (.string x.val) ∧ z.wd.cell? ⟨b, j * 4 + 3, none⟩ = some (.bool x.gone) := fun z => by
    obtain ⟨h1, h2, h3, h4⟩ := rvCells_get st.vs j x hx
    have g1 := (hRz z).row.cells (g := b) rfl _ _ h1
    have g2 := (hRz z).row.cells (g := b) rfl _ _ h2
    have g3 := (hRz z).row.cells (g := b) rfl _ _ h3
    have g4 := (hRz z).row.cells (g := b) rfl _ _ h4
    rw [Addr.add_lit, Nat.zero_add] at g1 g2 g3 g4
    exact ⟨g1, g2, g3, g4⟩
  have x0 := fun z => (xc z).1
  have x1 := fun z => (xc z).2.1
  have x2 := fun z => (xc z).2.2.1
  have x3 := fun z => (xc z).2.2.2
  clear x0 x2
  simp only [hxg] at x3
  have jl : (j : Int) < (st.vs.length : Int) := by omega
  have j0 : decide ((j : Int) < 0) = false := decide_eq_false (by omega)
  have r0 : ∀ z : Low (w.alloc (boxR v)), z.wd.cell? ⟨g, 0, none⟩ = some (.int .i64 st.room) := fun z => (ref_cells (hRz z)).1
  have hlA : lastA st.vs v.key = some x := by
    obtain ⟨x', hx', e1, e2⟩ := lastJ_succ hJ
    rw [hx] at hx'
    cases hx'
    rw [← lastA_all hR.inv, lastV_succ hx e1 e2]
  have hlA2 : lastA st.vs v.key = some x := by
    obtain ⟨x', hx', e1, e2⟩ := lastJ_succ hJ
    rw [hx] at hx'
    cases hx'
    rw [← lastA_all hR.inv, lastV_succ hx e1 e2]
  have hmore : ∀ z : Low (w.alloc (boxR v)), ∃ ao' cap' w5, (∀ ty, (Builtin.append_ #[87, 87] ty #[.slice (some ⟨b, 0, none⟩) st.vs.length cap, .slice (some ⟨z.wd.heap.size, 0, none⟩) 1 1]).run Try.prog (z.wd.alloc (boxR v)).drew = .ok (.slice ao' (st.vs.length + 1) cap') w5) ∧ w5.cell? ⟨g, 2, none⟩ = some (.slice (some ⟨b, 0, none⟩) st.vs.length cap) ∧ w5.frozen? ⟨g, 2, none⟩ = false ∧ w5.frozen? ⟨g, 1, none⟩ = false ∧ w5.cell? ⟨g, 1, none⟩ = some (.int .i64 st.top) ∧ w5.cell? ⟨w.heap.size, 0, none⟩ = some (.string v.key) ∧ w5.cell? ⟨w.heap.size, 1, none⟩ = some (.int .i64 v.time) ∧ w5.cell? ⟨w.heap.size, 2, none⟩ = some (.string v.val) ∧ w5.cell? ⟨w.heap.size, 3, none⟩ = some (.bool v.gone) ∧
      HoldR B ((w5.setCell ⟨g, 2, none⟩ (.slice ao' (st.vs.length + 1) cap')).setCell ⟨g, 1, none⟩ (.int .i64 v.time)) g ⟨st.room, v.time, st.vs ++ [v]⟩ ∧ TurnR B w ((w5.setCell ⟨g, 2, none⟩ (.slice ao' (st.vs.length + 1) cap')).setCell ⟨g, 1, none⟩ (.int .i64 v.time)) := by
    intro z
    have hinv : InvS ⟨st.room, v.time, st.vs ++ [v]⟩ := by
      have := inv_put hR.inv v
      have e : putS st v = (0, ⟨st.room, v.time, st.vs ++ [v]⟩) := by
        unfold putS
        rw [if_neg (by omega), if_neg (by rw [hlA]; simp [noneLeft, hxg]), if_neg (by rw [hlA2]; simpa [lastAt] using hxt), if_neg (by omega)]
      rw [e] at this
      exact this
    have hbD : Below z.wd.heap.size z.wd (z.wd.alloc (boxR v)).drew := ((Below.refl _ _).alloc (Nat.le_refl _) _).drew
    have hZ := (hRz z).below hbD
    obtain ⟨i0, hi, hz0, hz1, hz2⟩ := info_parts Try.infoRV
    have hnn : (z.wd.alloc (boxR v)).drew.heap[z.wd.heap.size]? = some (boxR v) := heap_drew (heap_newB z.wd (boxR v) z.wd.heap.size rfl)
    have hBz : B ≤ (z.wd.alloc (boxR v)).drew.heap.size := Nat.le_trans hB (Nat.le_trans hbA.size (Nat.le_trans z.low.size hbD.size))
    obtain ⟨v', w5, hr5, ho5, hg5, _, hn5⟩ := run_append_own_at (P := Try.prog) (z.wd.alloc (boxR v)).drew B 87 0 91 i0 _ 4 48 Try.underlying87 hi hz0 hz1 hz2 rfl (by decide) _ _ _ hZ.row ⟨z.wd.heap.size, 0, none⟩ 1 1 (rvC v) rfl (fun j u hj => by
      rw [Addr.add_lit, Nat.zero_add]
      exact box_cell hnn j u (by simpa [rvC] using hj)) (rone4 v) (by unfold maxLen; omega) (by omega) hBz
    have hl1 : (st.vs ++ [v]).length = st.vs.length + 1 := by simp
    have ho5' : w5.ownsRow B 91 4 v' (st.vs ++ [v]).length (rvCells (st.vs ++ [v])) := by
      rw [hl1, rvCells_append]
      exact ho5
    obtain ⟨ao', cap', rfl, _⟩ := own_liesR ho5'
    have hty : ∀ ty, (Builtin.append_ #[87, 87] ty #[.slice (some ⟨b, 0, none⟩) st.vs.length cap, .slice (some ⟨z.wd.heap.size, 0, none⟩) 1 1]).run Try.prog (z.wd.alloc (boxR v)).drew = .ok (.slice ao' (st.vs.length + 1) cap') w5 := fun ty => by
      rw [← hl1]
      exact hr5
    have hrowk : ∀ (i : Nat) (o : Obj), (z.wd.alloc (boxR v)).drew.heap[i]? = some o → (∀ c, (Value.slice (some ⟨b, 0, none⟩) st.vs.length cap).ownBlock = some c → i ≠ c) → w5.heap[i]? = some o := fun i o e h0 => grown_keep hg5 e (fun e2 => h0 i e2.symm rfl)
    have hbx : (z.wd.alloc (boxR v)).drew.heap[w.heap.size]? = some (boxR v) := below_box hbD (below_box z.low p0)
    have hbx5 := hrowk _ _ hbx (fun c hc => by
      have := (hR.row.lt c hc).2
      omega)
    have hg5b := hrowk _ _ hZ.box (fun c hc e => by
      subst e
      rcases hZ.row.2 with ⟨e, _⟩ | ⟨g', cap2, cur2, e, _, hgg, _⟩
      · rw [e] at hc
        simp [Value.ownBlock] at hc
      · rw [e] at hc
        simp [Value.ownBlock] at hc
        rw [hc, hZ.box] at hgg
        cases hgg)
    have hT5 : TurnR B (z.wd.alloc (boxR v)).drew w5 := by
      rcases hZ.row.2 with ⟨e, _⟩ | ⟨g', cap2, cur2, e, hbb, hgg, _⟩
      · rw [e] at hg5
        exact Turns.of_below ⟨hg5.os, hg5.tape, hg5.output, hg5.size, fun i hi => hg5.block i hi (by simp [Value.ownBlock])⟩ hBz
      · rw [e] at hg5
        exact Turns.of_grown hg5 hbb hBz (fun o eo => by
          rw [hgg] at eo
          cases eo
          exact fun h => h.2 rfl)
    have hR6 : (w5.setCell ⟨g, 2, none⟩ (.slice ao' (st.vs.length + 1) cap')).heap[g]? = some (.cells #[.int .i64 st.room, .int .i64 st.top, .slice ao' (st.vs.length + 1) cap'] 89 (0, 0)) := set_heap hg5b _
    have hR7 : ((w5.setCell ⟨g, 2, none⟩ (.slice ao' (st.vs.length + 1) cap')).setCell ⟨g, 1, none⟩ (.int .i64 v.time)).heap[g]? = some (.cells #[.int .i64 st.room, .int .i64 v.time, .slice ao' (st.vs.length + 1) cap'] 89 (0, 0)) := set_heap hR6 _
    have hgg := (grown_set w5 g 2 (.slice ao' (st.vs.length + 1) cap')).trans (grown_set (w5.setCell ⟨g, 2, none⟩ (.slice ao' (st.vs.length + 1) cap')) g 1 (.int .i64 v.time))
    have hfin : RefAt B ((w5.setCell ⟨g, 2, none⟩ (.slice ao' (st.vs.length + 1) cap')).setCell ⟨g, 1, none⟩ (.int .i64 v.time)) g ⟨st.room, v.time, st.vs ++ [v]⟩ ao' cap' := by
      refine ⟨?_, hR.gB, own_same ho5' (fun i cur _ e => grown_keep hgg e (by
        intro e2
        cases e2
        rw [hg5b] at e
        cases e)), hinv⟩
      show _ = some (Obj.cells #[.int .i64 st.room, .int .i64 v.time, .slice ao' (st.vs ++ [v]).length cap'] _ _)
      rw [hl1]
      exact hR7
    have hTb : TurnR B w5 ((w5.setCell ⟨g, 2, none⟩ (.slice ao' (st.vs.length + 1) cap')).setCell ⟨g, 1, none⟩ (.int .i64 v.time)) := Turns.of_grown hgg hR.gB (Nat.le_trans hBz hg5.size) (fun o eo => by
      rw [hg5b] at eo
      cases eo
      exact fun h => h.1 rfl)
    exact ⟨ao', cap', w5, hty, box_cell hg5b 2 _ rfl, box_open hg5b 2, box_open hg5b 1, box_cell hg5b 1 _ rfl, box_cell hbx5 0 _ rfl, box_cell hbx5 1 _ rfl, box_cell hbx5 2 _ rfl, box_cell hbx5 3 _ rfl, ⟨_, _, hfin⟩, ((Turns.of_below (below_next (below_next hbA (Nat.le_refl _) z.low) (Nat.le_refl _) hbD) hB).trans hT5).trans hTb⟩
  have q2 : ∀ z : Low (w.alloc (boxR v)), z.wd.cell? ⟨w.heap.size, 2, none⟩ = some (.string v.val) := fun z => box_cell (below_box z.low p0) 2 _ rfl
  have q3' : ∀ z : Low (w.alloc (boxR v)), z.wd.cell? ⟨w.heap.size, 3, none⟩ = some (.bool v.gone) := fun z => box_cell (below_box z.low p0) 3 _ rfl
  have u1 : decide (v.time < 1) = false := decide_eq_false (by omega)
  have u2 : decide ((1099511627776 : Int) ≤ v.time) = false := decide_eq_false (by omega)
  have u3 : decide (v.time < st.top) = false := decide_eq_false (by omega)
  have u4 : decide (st.room ≤ (st.vs.length : Int)) = false := decide_eq_false (by omega)
  have hgw9 : ¬ w.heap.size = g := by omega
  clear hR hA hRz p0 hbA hB h1 h2 h3 hJ hgl hgo hx hjl xc hbh hbB hxg hlA2 hlA hroom
  generalize st.vs.length = L at *
  go_enter Try.func53, Try.ntmps53
  go_wp2_with fail
  refine wp_region_low (by kernel_rfl) (by kernel_rfl) fun hsomez => ?_
  repeat (go_big_quiet_step (fail))
  refine wpQuiet_nil ?_
  rintro _ ⟨z, rfl⟩
  have hlz := hla z
  go_wp2_with (first
    | (go_at_call 54; refine hlz.mono ?_; rintro e wn ⟨rfl, hq⟩; have hq' := hq.symm; clear hq; subst hq'))
  have q0y : ∀ y : Low z.wd, y.wd.cell? ⟨w.heap.size, 0, none⟩ = some (.string v.key) := fun y => q0 ⟨y.wd, low2 z y⟩
  have q1y : ∀ y : Low z.wd, y.wd.cell? ⟨w.heap.size, 1, none⟩ = some (.int .i64 v.time) := fun y => q1 ⟨y.wd, low2 z y⟩
  have s2y : ∀ y : Low z.wd, y.wd.cell? ⟨g, 2, none⟩ = some (.slice (some ⟨b, 0, none⟩) L cap) := fun y => s2 ⟨y.wd, low2 z y⟩
  have x1y : ∀ y : Low z.wd, y.wd.cell? ⟨b, j * 4 + 1, none⟩ = some (.int .i64 x.time) := fun y => x1 ⟨y.wd, low2 z y⟩
  have r0y : ∀ y : Low z.wd, y.wd.cell? ⟨g, 0, none⟩ = some (.int .i64 st.room) := fun y => r0 ⟨y.wd, low2 z y⟩
  have q2y : ∀ y : Low z.wd, y.wd.cell? ⟨w.heap.size, 2, none⟩ = some (.string v.val) := fun y => q2 ⟨y.wd, low2 z y⟩
  refine wp_region_low (by kernel_rfl) (by kernel_rfl) fun hsomey => ?_
  repeat (go_big_quiet_step (fail))
  refine wpQuiet_nil ?_
  rintro _ ⟨y, rfl⟩
  go_wp2_with fail
  have q0u : ∀ u : Low y.wd, u.wd.cell? ⟨w.heap.size, 0, none⟩ = some (.string v.key) := fun u => q0 ⟨u.wd, below_next (low2 z y) (Nat.le_refl _) u.low⟩
  have q1u : ∀ u : Low y.wd, u.wd.cell? ⟨w.heap.size, 1, none⟩ = some (.int .i64 v.time) := fun u => q1 ⟨u.wd, below_next (low2 z y) (Nat.le_refl _) u.low⟩
  have s2u : ∀ u : Low y.wd, u.wd.cell? ⟨g, 2, none⟩ = some (.slice (some ⟨b, 0, none⟩) L cap) := fun u => s2 ⟨u.wd, below_next (low2 z y) (Nat.le_refl _) u.low⟩
  have x1u : ∀ u : Low y.wd, u.wd.cell? ⟨b, j * 4 + 1, none⟩ = some (.int .i64 x.time) := fun u => x1 ⟨u.wd, below_next (low2 z y) (Nat.le_refl _) u.low⟩
  have r0u : ∀ u : Low y.wd, u.wd.cell? ⟨g, 0, none⟩ = some (.int .i64 st.room) := fun u => r0 ⟨u.wd, below_next (low2 z y) (Nat.le_refl _) u.low⟩
  have q2u : ∀ u : Low y.wd, u.wd.cell? ⟨w.heap.size, 2, none⟩ = some (.string v.val) := fun u => q2 ⟨u.wd, below_next (low2 z y) (Nat.le_refl _) u.low⟩
  refine wp_region_low (by kernel_rfl) (by kernel_rfl) fun hsomeu => ?_
  repeat (go_big_quiet_step (fail))
  refine wpQuiet_nil ?_
  rintro _ ⟨u, rfl⟩
  obtain ⟨ao', cap', w5, a1, a2, a3, a4, a5, a6, a7, a8, a9, hz⟩ := hmore ⟨u.wd, below_next (low2 z y) (Nat.le_refl _) u.low⟩
  have d0 : u.wd.drew.cell? ⟨w.heap.size, 0, none⟩ = some (.string v.key) := q0 ⟨u.wd.drew, (below_next (low2 z y) (Nat.le_refl _) u.low).drew⟩
  have d1 : u.wd.drew.cell? ⟨w.heap.size, 1, none⟩ = some (.int .i64 v.time) := q1 ⟨u.wd.drew, (below_next (low2 z y) (Nat.le_refl _) u.low).drew⟩
  have d2 : u.wd.drew.cell? ⟨w.heap.size, 2, none⟩ = some (.string v.val) := q2 ⟨u.wd.drew, (below_next (low2 z y) (Nat.le_refl _) u.low).drew⟩
  have d3 : u.wd.drew.cell? ⟨w.heap.size, 3, none⟩ = some (.bool v.gone) := q3' ⟨u.wd.drew, (below_next (low2 z y) (Nat.le_refl _) u.low).drew⟩
  have d4 : u.wd.drew.cell? ⟨g, 2, none⟩ = some (.slice (some ⟨b, 0, none⟩) L cap) := s2 ⟨u.wd.drew, (below_next (low2 z y) (Nat.le_refl _) u.low).drew⟩
  simp only at a1 hz
  clear hmore q0 q1 q2 q3 q3' s2 t1 r0 q0y q1y q2y s2y r0y q0u q1u q2u s2u r0u hsomez hsomey hsomeu x1 x3 x1y x1u
  generalize u.wd = Y at *
  have hS0 : Y.drew.cell? ⟨g, 2, none⟩ = some (.slice (some ⟨b, 0, none⟩) L cap) ∧ Y.drew.cell? ⟨w.heap.size, 0, none⟩ = some (.string v.key) ∧ Y.drew.cell? ⟨w.heap.size, 1, none⟩ = some (.int .i64 v.time) ∧ Y.drew.cell? ⟨w.heap.size, 2, none⟩ = some (.string v.val) ∧ Y.drew.cell? ⟨w.heap.size, 3, none⟩ = some (.bool v.gone) := ⟨d4, d0, d1, d2, d3⟩
  have hS1 : (Y.alloc (boxR v)).drew.cell? ⟨g, 2, none⟩ = some (.slice (some ⟨b, 0, none⟩) L cap) ∧ (Y.alloc (boxR v)).drew.cell? ⟨w.heap.size, 0, none⟩ = some (.string v.key) ∧ (Y.alloc (boxR v)).drew.cell? ⟨w.heap.size, 1, none⟩ = some (.int .i64 v.time) ∧ (Y.alloc (boxR v)).drew.cell? ⟨w.heap.size, 2, none⟩ = some (.string v.val) ∧ (Y.alloc (boxR v)).drew.cell? ⟨w.heap.size, 3, none⟩ = some (.bool v.gone) := ⟨alloc_cell (w := Y) _ d4, alloc_cell (w := Y) _ d0, alloc_cell (w := Y) _ d1, alloc_cell (w := Y) _ d2, alloc_cell (w := Y) _ d3⟩
  go_wp2_with fail
  go_region_law (refine step_app_run rfl (.tmp 84) (.tmp 86) 87 rfl (.slice (some ⟨b, 0, none⟩) L cap) (.slice (some ⟨Y.heap.size, 0, none⟩) 1 1) (by simp [Act.eval]) (by simp [Act.eval]) (a1 _) ?_)
  all_goals (go_wp2; go_ret; exact ⟨rfl, hz⟩)
end Go.Proofs.Ytdmkmhjalcfchaa
namespace Go.Proofs.Ytdmkmhjalcfchaa
open Go.RowKit Num
open scoped Classical
set_option linter.unusedVariables false
set_option maxRecDepth 100000

set_option maxRecDepth 100000 in
set_option maxHeartbeats 2000000 in
theorem rput_bad1 (B g : Nat) (st : Sto) (v : Ver) (hb : v.time < 1) (w : World) (h : HoldR B w g st) :
    Calls Try.prog 53 #[.pointer (some ⟨g, 0, none⟩), .agg #[.string v.key, .int .i64 v.time, .string v.val, .bool v.gone]] w fun e w' => e = .returned (.int .i64 1) ∧ HoldR B w' g st ∧ TurnR B w w' := by
  have hgl := h.lt
  have hB : B ≤ w.heap.size := Nat.le_trans hgl.1 (Nat.le_of_lt hgl.2)
  have hbA : Below w.heap.size w (w.alloc (boxR v)) := (Below.refl _ w).alloc (Nat.le_refl _) _
  have p0 := heap_new w (boxR v)
  obtain ⟨ao, cap, hR⟩ := h
  have hRz : ∀ z : Low (w.alloc (boxR v)), RefAt B z.wd g st ao cap := fun z => (hR.below hbA).below z.low
  have q1 : ∀ z : Low (w.alloc (boxR v)), z.wd.cell? ⟨w.heap.size, 1, none⟩ = some (.int .i64 v.time) := fun z => box_cell (below_box z.low p0) 1 _ rfl
  have t1 : ∀ z : Low (w.alloc (boxR v)), z.wd.cell? ⟨g, 1, none⟩ = some (.int .i64 st.top) := fun z => (ref_cells (hRz z)).2.1
  have hdone : ∀ z : Low (w.alloc (boxR v)), HoldR B z.wd g st ∧ TurnR B w z.wd := fun z => ⟨⟨_, _, hRz z⟩, Turns.of_below (below_next hbA (Nat.le_refl _) z.low) hB⟩
  clear hR hRz p0 hbA hB hgl
  go_enter Try.func53, Try.ntmps53
  go_wp2_with fail
  refine wp_region_low (by kernel_rfl) (by kernel_rfl) fun hsome => ?_
  repeat (go_big_quiet_step (fail))
  refine wpQuiet_nil ?_
  rintro _ ⟨z, rfl⟩
  go_wp2
  go_ret
  exact ⟨rfl, hdone z⟩
set_option maxRecDepth 100000 in
set_option maxHeartbeats 2000000 in
theorem rput_bad2 (B g : Nat) (st : Sto) (v : Ver) (hb : 1099511627776 ≤ v.time) (w : World) (h : HoldR B w g st) :
    Calls Try.prog 53 #[.pointer (some ⟨g, 0, none⟩), .agg #[.string v.key, .int .i64 v.time, .string v.val, .bool v.gone]] w fun e w' => e = .returned (.int .i64 1) ∧ HoldR B w' g st ∧ TurnR B w w' := by
  have hgl := h.lt
  have hB : B ≤ w.heap.size := Nat.le_trans hgl.1 (Nat.le_of_lt hgl.2)
  have hbA : Below w.heap.size w (w.alloc (boxR v)) := (Below.refl _ w).alloc (Nat.le_refl _) _
  have p0 := heap_new w (boxR v)
  obtain ⟨ao, cap, hR⟩ := h
  have hRz : ∀ z : Low (w.alloc (boxR v)), RefAt B z.wd g st ao cap := fun z => (hR.below hbA).below z.low
  have q1 : ∀ z : Low (w.alloc (boxR v)), z.wd.cell? ⟨w.heap.size, 1, none⟩ = some (.int .i64 v.time) := fun z => box_cell (below_box z.low p0) 1 _ rfl
  have t1 : ∀ z : Low (w.alloc (boxR v)), z.wd.cell? ⟨g, 1, none⟩ = some (.int .i64 st.top) := fun z => (ref_cells (hRz z)).2.1
  have hdone : ∀ z : Low (w.alloc (boxR v)), HoldR B z.wd g st ∧ TurnR B w z.wd := fun z => ⟨⟨_, _, hRz z⟩, Turns.of_below (below_next hbA (Nat.le_refl _) z.low) hB⟩
  have u1 : decide (v.time < 1) = false := decide_eq_false (by omega)
  clear hR hRz p0 hbA hB hgl
  go_enter Try.func53, Try.ntmps53
  go_wp2_with fail
  refine wp_region_low (by kernel_rfl) (by kernel_rfl) fun hsome => ?_
  repeat (go_big_quiet_step (fail))
  refine wpQuiet_nil ?_
  rintro _ ⟨z, rfl⟩
  go_wp2
  go_ret
  exact ⟨rfl, hdone z⟩
set_option maxRecDepth 100000 in
set_option maxHeartbeats 2000000 in
theorem rput_bad3 (B g : Nat) (st : Sto) (v : Ver) (h1 : 1 ≤ v.time) (h2 : v.time < 1099511627776) (hb : v.time < st.top) (w : World) (h : HoldR B w g st) :
    Calls Try.prog 53 #[.pointer (some ⟨g, 0, none⟩), .agg #[.string v.key, .int .i64 v.time, .string v.val, .bool v.gone]] w fun e w' => e = .returned (.int .i64 1) ∧ HoldR B w' g st ∧ TurnR B w w' := by
  have hgl := h.lt
  have hB : B ≤ w.heap.size := Nat.le_trans hgl.1 (Nat.le_of_lt hgl.2)
  have hbA : Below w.heap.size w (w.alloc (boxR v)) := (Below.refl _ w).alloc (Nat.le_refl _) _
  have p0 := heap_new w (boxR v)
  obtain ⟨ao, cap, hR⟩ := h
  have hRz : ∀ z : Low (w.alloc (boxR v)), RefAt B z.wd g st ao cap := fun z => (hR.below hbA).below z.low
  have q1 : ∀ z : Low (w.alloc (boxR v)), z.wd.cell? ⟨w.heap.size, 1, none⟩ = some (.int .i64 v.time) := fun z => box_cell (below_box z.low p0) 1 _ rfl
  have t1 : ∀ z : Low (w.alloc (boxR v)), z.wd.cell? ⟨g, 1, none⟩ = some (.int .i64 st.top) := fun z => (ref_cells (hRz z)).2.1
  have hdone : ∀ z : Low (w.alloc (boxR v)), HoldR B z.wd g st ∧ TurnR B w z.wd := fun z => ⟨⟨_, _, hRz z⟩, Turns.of_below (below_next hbA (Nat.le_refl _) z.low) hB⟩
  have u1 : decide (v.time < 1) = false := decide_eq_false (by omega)
  have u2 : decide ((1099511627776 : Int) ≤ v.time) = false := decide_eq_false (by omega)
  clear hR hRz p0 hbA hB hgl
  go_enter Try.func53, Try.ntmps53
  go_wp2_with fail
  refine wp_region_low (by kernel_rfl) (by kernel_rfl) fun hsome => ?_
  repeat (go_big_quiet_step (fail))
  refine wpQuiet_nil ?_
  rintro _ ⟨z, rfl⟩
  go_wp2
  go_ret
  exact ⟨rfl, hdone z⟩
theorem rput_any (B g : Nat) (st : Sto) (v : Ver) (hn : st.vs.length ≤ 4100) (w : World) (h : HoldR B w g st) :
    Calls Try.prog 53 #[.pointer (some ⟨g, 0, none⟩), .agg #[.string v.key, .int .i64 v.time, .string v.val, .bool v.gone]] w fun e w' => e = .returned (.int .i64 (putS st v).1) ∧ HoldR B w' g (putS st v).2 ∧ TurnR B w w' := by
  have hinv : InvS st := by
    obtain ⟨_, _, h⟩ := h
    exact h.inv
  by_cases hb : v.time < 1 ∨ 1099511627776 ≤ v.time ∨ v.time < st.top
  · rw [put_bad hb]
    by_cases b1 : v.time < 1
    · exact rput_bad1 B g st v b1 w h
    · by_cases b2 : 1099511627776 ≤ v.time
      · exact rput_bad2 B g st v b2 w h
      · exact rput_bad3 B g st v (by omega) (by omega) (by omega) w h
  · have h1 : 1 ≤ v.time := by omega
    have h2 : v.time < 1099511627776 := by omega
    have h3 : st.top ≤ v.time := by omega
    have hA := lastA_all hinv v.key
    cases hJ : lastJ v.key 1099511627776 st.vs with
    | zero =>
      rw [lastV_zero hJ] at hA
      cases hg : v.gone with
      | true =>
        rw [put_none hb hg (by rw [← hA]; rfl)]
        exact hg ▸ rput_gZnone B g st v hg hJ h1 h2 h3 hn w h
      | false =>
        rw [put_add hb (.inl hg)]
        unfold addS
        rw [← hA, if_neg (by simp [lastAt])]
        by_cases hr : st.room ≤ (st.vs.length : Int)
        · rw [if_pos hr]
          exact hg ▸ rput_pZfull B g st v hg hJ hr h1 h2 h3 hn w h
        · rw [if_neg hr]
          exact hg ▸ rput_pZmore B g st v hg hJ (by omega) h1 h2 h3 hn w h
    | succ j =>
      obtain ⟨x, hx, hh, hd⟩ := lastJ_succ hJ
      rw [lastV_succ hx hh hd] at hA
      cases hg : v.gone with
      | true =>
        cases hxg : x.gone with
        | true =>
          rw [put_none hb hg (by rw [← hA]; exact hxg)]
          exact hg ▸ rput_gSnoneT B g st v hg j hJ x hx hxg h1 h2 h3 hn w h
        | false =>
          rw [put_add hb (.inr (by rw [← hA]; exact hxg))]
          unfold addS
          rw [← hA]
          by_cases ht : x.time = v.time
          · rw [if_pos (show lastAt (some x) v.time = true from decide_eq_true ht)]
            exact hg ▸ rput_gSturnF B g st v hg j hJ x hx hxg ht h1 h2 h3 hn w h
          · rw [if_neg (by simpa [lastAt] using ht)]
            by_cases hr : st.room ≤ (st.vs.length : Int)
            · rw [if_pos hr]
              exact hg ▸ rput_gSfullF B g st v hg j hJ x hx hxg ht hr h1 h2 h3 hn w h
            · rw [if_neg hr]
              exact hg ▸ rput_gSmoreF B g st v hg j hJ x hx hxg ht (by omega) h1 h2 h3 hn w h
      | false =>
        rw [put_add hb (.inl hg)]
        unfold addS
        rw [← hA]
        by_cases ht : x.time = v.time
        · rw [if_pos (show lastAt (some x) v.time = true from decide_eq_true ht)]
          exact hg ▸ rput_pSturn B g st v hg j hJ x hx ht h1 h2 h3 hn w h
        · rw [if_neg (by simpa [lastAt] using ht)]
          by_cases hr : st.room ≤ (st.vs.length : Int)
          · rw [if_pos hr]
            exact hg ▸ rput_pSfull B g st v hg j hJ x hx ht hr h1 h2 h3 hn w h
          · rw [if_neg hr]
            exact hg ▸ rput_pSmore B g st v hg j hJ x hx ht (by omega) h1 h2 h3 hn w h
set_option maxHeartbeats 1000000 in
theorem rPut_any (B g : Nat) (st : Sto) (t : Int) (k x : ByteArray) (hn : st.vs.length ≤ 4100) (w : World) (h : HoldR B w g st) :
    Calls Try.prog 28 #[.pointer (some ⟨g, 0, none⟩), .int .i64 t, .string k, .string x] w fun e w' => e = .returned (.int .i64 (putS st ⟨k, t, x, false⟩).1) ∧ HoldR B w' g (putS st ⟨k, t, x, false⟩).2 ∧ TurnR B w w' := by
  have hp := rput_any B g st ⟨k, t, x, false⟩ hn w h
  simp only at hp
  generalize putS st ⟨k, t, x, false⟩ = out at *
  go_enter Try.func28, Try.ntmps28
  go_wp2_with (first
    | (go_at_call 53; refine hp.mono ?_; rintro e w2 ⟨rfl, hh, hT⟩))
  go_ret
  exact ⟨rfl, hh, hT⟩
set_option maxHeartbeats 1000000 in
theorem rDel_any (B g : Nat) (st : Sto) (t : Int) (k : ByteArray) (hn : st.vs.length ≤ 4100) (w : World) (h : HoldR B w g st) :
    Calls Try.prog 34 #[.pointer (some ⟨g, 0, none⟩), .int .i64 t, .string k] w fun e w' => e = .returned (.int .i64 (putS st ⟨k, t, ⟨#[]⟩, true⟩).1) ∧ HoldR B w' g (putS st ⟨k, t, ⟨#[]⟩, true⟩).2 ∧ TurnR B w w' := by
  have hp := rput_any B g st ⟨k, t, ⟨#[]⟩, true⟩ hn w h
  simp only at hp
  generalize putS st ⟨k, t, ⟨#[]⟩, true⟩ = out at *
  go_enter Try.func34, Try.ntmps34
  go_wp2_with (first
    | (go_at_call 53; refine hp.mono ?_; rintro e w2 ⟨rfl, hh, hT⟩))
  go_ret
  exact ⟨rfl, hh, hT⟩
end Go.Proofs.Ytdmkmhjalcfchaa
