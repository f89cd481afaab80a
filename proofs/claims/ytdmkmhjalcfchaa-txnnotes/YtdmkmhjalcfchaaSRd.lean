/-
  Contracts of what a store tells: how many versions are not behind a time, Get, Last, Size, the keys between two.
-/
import Derived.Test.YtdmkmhjalcfchaaSMem
namespace Go.Proofs.Ytdmkmhjalcfchaa
open Go.RowKit Go.Maps Num
open scoped Classical
set_option linter.unusedVariables false
set_option maxRecDepth 100000

set_option maxHeartbeats 1000000 in
theorem search_up (n : Nat) (b1 b2 : Nat) (p : Nat → Bool) (r : Nat) (hn : n ≤ 5000) (hr : r ≤ n) (hlo : ∀ i, i < r → p i = false) (hhi : ∀ i, r ≤ i → i < n → p i = true) (w : World)
    (hf : ∀ (W : World) (i : Nat), Below w.heap.size w W → i < n → Calls Try.prog 68 #[.int .i64 (i : Int), .pointer (some ⟨b1, 0, none⟩), .pointer (some ⟨b2, 0, none⟩)] W fun e w' => e = .returned (.bool (p i)) ∧ Below W.heap.size W w') :
    Calls Try.prog 67 #[.int .i64 (n : Int), .func (.func 68) #[] #[.pointer (some ⟨b1, 0, none⟩), .pointer (some ⟨b2, 0, none⟩)]] w fun e w' => e = .returned (.int .i64 (r : Int)) ∧ Below w.heap.size w w' := by
  have HLO : Hid (∀ i, i < r → p i = false) := hlo
  have HHI : Hid (∀ i, r ≤ i → i < n → p i = true) := hhi
  clear hlo hhi
  go_enter Try.func67, Try.ntmps67
  go_wp2
  go_loopw [5, 6] (fun u v wr => ∃ lo hi : Nat, lo ≤ r ∧ r ≤ hi ∧ hi ≤ n ∧ u = .int .i64 (lo : Int) ∧ v = .int .i64 (hi : Int) ∧ Below w.heap.size w wr) (fun u v _ => (intOf v).toNat - (intOf u).toNat)
  case atStart => exact ⟨0, n, by omega, hr, by omega, rfl, rfl, Below.refl _ _⟩
  case round =>
    obtain ⟨lo, hi, h1, h2, h3, rfl, rfl, hbel⟩ := hrel
    by_cases hlt : lo < hi
    · have hc := hf wr ((lo + hi) / 2) hbel (by omega)
      rw [show (((lo + hi) / 2 : Nat) : Int) = ((lo : Int) + (hi : Int)) / 2 by omega] at hc
      by_cases hm : (lo + hi) / 2 < r
      · rw [HLO.out _ hm] at hc
        go_wp2_with (first
          | (go_at_call 68; refine hc.mono ?_; rintro e w1 ⟨rfl, hb1⟩))
        go_roundw
        case rel => exact ⟨(lo + hi) / 2 + 1, hi, by omega, h2, h3, by rw [show ((lo : Int) + (hi : Int)) / 2 + 1 = (((lo + hi) / 2 + 1 : Nat) : Int) by omega], rfl, below_next hbel (Nat.le_refl _) hb1⟩
        case measure => simp [intOf]; omega
      · rw [HHI.out _ (by omega) (by omega)] at hc
        go_wp2_with (first
          | (go_at_call 68; refine hc.mono ?_; rintro e w1 ⟨rfl, hb1⟩))
        go_roundw
        case rel => exact ⟨lo, (lo + hi) / 2, h1, by omega, by omega, rfl, by rw [show ((lo : Int) + (hi : Int)) / 2 = (((lo + hi) / 2 : Nat) : Int) by omega], below_next hbel (Nat.le_refl _) hb1⟩
        case measure => simp [intOf]; omega
    · obtain rfl : lo = r := by omega
      go_wp2
      go_ret
      exact ⟨rfl, hbel⟩

set_option maxHeartbeats 1000000 in
theorem upTo1_any (q : List Ver) (ao : Option Addr) (cap : Nat) (t : Int) (b1 b2 i : Nat) (v : Ver) (hv : q[i]? = some v) (hlen : q.length ≤ 5000) (w : World) (h1 : w.cell? ⟨b1, 0, none⟩ = some (.slice ao q.length cap)) (h2 : w.cell? ⟨b2, 0, none⟩ = some (.int .i64 t)) (hl : LiesV w w.heap.size ao q) :
    Calls Try.prog 68 #[.int .i64 (i : Int), .pointer (some ⟨b1, 0, none⟩), .pointer (some ⟨b2, 0, none⟩)] w fun e w' => e = .returned (.bool (decide (t < v.time))) ∧ Below w.heap.size w w' := by
  obtain ⟨a, rfl, hblk, e0, e1, e2⟩ := hl i v hv
  have hil := (List.getElem?_eq_some_iff.1 hv).1
  have hili : (i : Int) < (q.length : Int) := by omega
  have d1 : ∀ z : Low w, z.wd.cell? ⟨b1, 0, none⟩ = some (.slice (some a) q.length cap) := fun z => (z.cell (cell_lt h1)).trans h1
  have d2 : ∀ z : Low w, z.wd.cell? ⟨b2, 0, none⟩ = some (.int .i64 t) := fun z => (z.cell (cell_lt h2)).trans h2
  have d3 : ∀ z : Low w, z.wd.cell? (a.add (i * 3)) = some (.int .i64 v.time) := fun z => (z.cell (cell_lt e0)).trans e0
  clear h1 h2 e0 e1 e2 hl hv hblk
  go_enter Try.func68, Try.ntmps68
  go_wp2_with fail
  refine wp_region_low (by kernel_rfl) (by kernel_rfl) fun hsome => ?_
  repeat (go_big_quiet_step (fail))
  refine wpQuiet_nil ?_
  rintro _ ⟨z, rfl⟩
  have hz := z.low
  go_wp2
  go_ret
  exact ⟨rfl, hz⟩
set_option maxHeartbeats 1000000 in
theorem upTo_any (q : List Ver) (hq : Ups q) (ao : Option Addr) (cap : Nat) (t : Int) (hlen : q.length ≤ 5000) (w : World) (hl : LiesV w w.heap.size ao q) :
    Calls Try.prog 57 #[.slice ao q.length cap, .int .i64 t] w fun e w' => e = .returned (.int .i64 (upN q t : Int)) ∧ Below w.heap.size w w' := by
  obtain ⟨W0, hW0⟩ : ∃ W0, W0 = (w.alloc (.cells #[.slice ao q.length cap] 110)).alloc (.cells #[.int .i64 t] 3) := ⟨_, rfl⟩
  have hb0 : Below w.heap.size w W0 := by rw [hW0]; exact boxes_below _ _ _
  have k1 : W0.cell? ⟨w.heap.size, 0, none⟩ = some (.slice ao q.length cap) := by rw [hW0]; exact alloc_cell _ (box_cell (heap_new w _) 0 _ rfl)
  have k2 : W0.cell? ⟨w.heap.size + 1, 0, none⟩ = some (.int .i64 t) := by rw [hW0]; exact box_cell (heap_newB _ _ _ (by simp)) 0 _ rfl
  have hl0 : LiesV W0 W0.heap.size ao q := liesV_next hl hb0 hb0.size
  have hS := search_up q.length w.heap.size (w.heap.size + 1) (fun i => match q[i]? with | none => false | some v => decide (t < v.time)) (upN q t) hlen (upN_le q t)
    (fun i hi => by
      have hle := upN_le q t
      have hv : q[i]? = some (q[i]'(by omega)) := List.getElem?_eq_getElem _
      rw [hv]
      have := up_no hi hv
      simp only [decide_eq_false_iff_not]
      omega)
    (fun i hi hin => by
      have hv : q[i]? = some (q[i]'(by omega)) := List.getElem?_eq_getElem _
      rw [hv]
      exact decide_eq_true (up_yes hq hi hv)) W0
    (fun W i hW hi => by
      have hv : q[i]? = some (q[i]'(by omega)) := List.getElem?_eq_getElem _
      have := upTo1_any q ao cap t w.heap.size (w.heap.size + 1) i _ hv hlen W ((hW.cell (cell_lt k1)).trans k1) ((hW.cell (cell_lt k2)).trans k2) (liesV_next hl0 hW hW.size)
      rw [hv]
      exact this)
  subst hW0
  go_enter Try.func57, Try.ntmps57
  go_wp2_with (first
    | (go_at_call 67; refine hS.mono ?_; rintro e w1 ⟨rfl, hb1⟩))
  go_ret
  exact ⟨rfl, below_next hb0 (Nat.le_refl _) hb1⟩
/-- The cells of a store's box. -/
theorem sto_cells {B : Nat} {w : World} {g gm : Nat} {st : Sto} {D : DataW Value} {blk capf : ByteArray → Nat} {ao : Option Addr} {cap : Nat} {ps : Pages} (h : StoAt B w g gm st D blk capf ao cap ps) :
    w.cell? ⟨g, 0, none⟩ = some (.int .i64 st.room) ∧ w.cell? ⟨g, 1, none⟩ = some (.int .i64 (st.vs.length : Int)) ∧ w.cell? ⟨g, 2, none⟩ = some (.int .i64 st.top) ∧ w.cell? ⟨g, 3, none⟩ = some (.map (some gm)) ∧ w.cell? ⟨g, 4, none⟩ = some (.slice ao ps.length cap) :=
  ⟨box_cell h.box 0 _ rfl, box_cell h.box 1 _ rfl, box_cell h.box 2 _ rfl, box_cell h.box 3 _ rfl, box_cell h.box 4 _ rfl⟩
set_option maxRecDepth 100000 in
set_option maxHeartbeats 1000000 in
theorem sget_any (B g : Nat) (st : Sto) (t : Int) (k : ByteArray) (hk : k.size ≤ maxLen) (hn : st.vs.length ≤ 4200) (w : World) (h : HoldP B w g st) :
    Calls Try.prog 36 #[.pointer (some ⟨g, 0, none⟩), .int .i64 t, .string k] w fun e w' => e = .returned (.tuple #[.string (lookS (getV st.vs k t)), .bool (lookB (getV st.vs k t))]) ∧ Below w.heap.size w w' := by
  obtain ⟨gm, D, blk, capf, ao, cap, ps, h⟩ := h
  obtain ⟨c0, c1, c2, c3, c4⟩ := sto_cells h
  obtain ⟨ao1, cap1, hrv, hlies⟩ := rows_lies h.rows k
  have hql : (keyV st.vs k).length ≤ 4200 := Nat.le_trans (List.length_filter_le _ _) hn
  have hup := upTo_any (keyV st.vs k) (keyV_ups h.inv.1 k) ao1 cap1 t (by omega) w hlies
  have hrun := run_lookV h.map h.rows hk
  rw [hrv] at hrun
  have hu := h.inv.1
  have hnle := upN_le (keyV st.vs k) t
  clear hrv h c0 c1 c2 c4
  cases hN : upN (keyV st.vs k) t with
  | zero =>
    rw [getV_none hu hN]
    rw [hN] at hup
    clear hN hu hnle
    generalize keyV st.vs k = q at *
    go_enter Try.func36, Try.ntmps36
    go_wp2_with (first
      | (go_at_call 57; refine hup.mono ?_; rintro e w1 ⟨rfl, hb1⟩))
    go_ret2
    exact ⟨rfl, hb1⟩
  | succ n =>
    have hv : (keyV st.vs k)[n]? = some ((keyV st.vs k)[n]'(by omega)) := List.getElem?_eq_getElem _
    rw [getV_some hu hN hv]
    rw [hN] at hup
    obtain ⟨a, e, hblk, e0, e1, e2⟩ := hlies n _ hv
    subst e
    generalize ((keyV st.vs k)[n]'(by omega)) = v at *
    have hnl : (n : Int) < ((keyV st.vs k).length : Int) := by omega
    clear hN hu hnle hv hlies
    generalize keyV st.vs k = q at *
    have g2 : ∀ w1, Below w.heap.size w w1 → w1.cell? ⟨(a.add (n * 3)).block, (a.add (n * 3)).off + 2, none⟩ = some (.bool v.gone) := fun w1 hb => (hb.cell (cell_lt e2)).trans e2
    have g1 : ∀ w1, Below w.heap.size w w1 → w1.cell? ⟨(a.add (n * 3)).block, (a.add (n * 3)).off + 1, none⟩ = some (.string v.val) := fun w1 hb => (hb.cell (cell_lt e1)).trans e1
    clear e0 e1 e2
    cases hg : v.gone with
    | true =>
      rw [hg] at g2
      go_enter Try.func36, Try.ntmps36
      go_wp2_with (first
        | (go_at_call 57; refine hup.mono ?_; rintro e w1 ⟨rfl, hb1⟩
           have k2 := g2 w1 hb1))
      go_ret2
      exact ⟨rfl, hb1⟩
    | false =>
      rw [hg] at g2
      go_enter Try.func36, Try.ntmps36
      go_wp2_with (first
        | (go_at_call 57; refine hup.mono ?_; rintro e w1 ⟨rfl, hb1⟩
           have k2 := g2 w1 hb1
           have k1 := g1 w1 hb1))
      go_ret2
      exact ⟨rfl, hb1⟩
theorem ssize_any (B g : Nat) (st : Sto) (w : World) (h : HoldP B w g st) :
    Calls Try.prog 26 #[.pointer (some ⟨g, 0, none⟩)] w fun e w' => e = .returned (.int .i64 (st.vs.length : Int)) ∧ w' = w := by
  obtain ⟨gm, D, blk, capf, ao, cap, ps, h⟩ := h
  obtain ⟨c0, c1, c2, c3, c4⟩ := sto_cells h
  go_enter Try.func26, Try.ntmps26
  go_wp2
  go_ret
  exact ⟨rfl, rfl⟩
theorem may_yes (B g : Nat) (st : Sto) (t : Int) (h1 : 1 ≤ t) (h2 : t < 1099511627776) (h3 : st.top ≤ t) (w : World) (h : HoldP B w g st) :
    Calls Try.prog 55 #[.pointer (some ⟨g, 0, none⟩), .int .i64 t] w fun e w' => e = .returned (.bool true) ∧ w' = w := by
  obtain ⟨gm, D, blk, capf, ao, cap, ps, h⟩ := h
  obtain ⟨c0, c1, c2, c3, c4⟩ := sto_cells h
  go_enter Try.func55, Try.ntmps55
  go_wp2
  go_ret
  exact ⟨rfl, rfl⟩
theorem may_no (B g : Nat) (st : Sto) (t : Int) (h1 : t < 1 ∨ 1099511627776 ≤ t ∨ t < st.top) (w : World) (h : HoldP B w g st) :
    Calls Try.prog 55 #[.pointer (some ⟨g, 0, none⟩), .int .i64 t] w fun e w' => e = .returned (.bool false) ∧ w' = w := by
  obtain ⟨gm, D, blk, capf, ao, cap, ps, h⟩ := h
  obtain ⟨c0, c1, c2, c3, c4⟩ := sto_cells h
  by_cases d1 : 1 ≤ t
  · by_cases d2 : t < 1099511627776
    · have d3 : decide (st.top ≤ t) = false := decide_eq_false (by omega)
      clear h1
      go_enter Try.func55, Try.ntmps55
      go_wp2
      go_ret
      exact ⟨rfl, rfl⟩
    · have d3 : decide (t < 1099511627776) = false := decide_eq_false d2
      clear h1
      go_enter Try.func55, Try.ntmps55
      go_wp2
      go_ret
      exact ⟨rfl, rfl⟩
  · have d3 : t < 1 := by omega
    clear h1
    go_enter Try.func55, Try.ntmps55
    go_wp2
    go_ret
    exact ⟨rfl, rfl⟩
end Go.Proofs.Ytdmkmhjalcfchaa
