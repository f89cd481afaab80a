/-
  Contracts: are two schemas one? Of one schema that lies twice.
-/
import Derived.Test.YtndppffcladalaaDRefD
import Derived.Deep.QuietTactic
import Derived.BigRegion
namespace Go.Proofs.Ytndppffcladalaa
open Go.RowKit Num
set_option linter.unusedVariables false

theorem ints_same (ao : Option Addr) (ac : Nat) (bo : Option Addr) (bc : Nat) (l : List Int) (hl : l.length ≤ 1000) (w : World) (ha : LiesN w w.heap.size ao l) (hb : LiesN w w.heap.size bo l) :
    Calls Try.prog 61 #[.slice ao l.length ac, .slice bo l.length bc] w fun e w' => e = .returned (.bool true) ∧ Below w.heap.size w w' := by
  go_enter Try.func61, Try.ntmps61
  go_wp2
  go_loopw [5] (fun i wr => ∃ k : Nat, k ≤ l.length ∧ i = .int .i64 (k : Int) ∧ Below w.heap.size w wr) (fun i _ => l.length - (intOf i).toNat)
  case atStart => exact ⟨0, by omega, rfl, Below.refl _ _⟩
  case round =>
    obtain ⟨k, hk, rfl, hbel⟩ := hrel
    by_cases hkl : k < l.length
    · obtain ⟨a, rfl, _, e0⟩ := (ha.below NumAt.fast hbel) k l[k] (List.getElem?_eq_getElem hkl)
      obtain ⟨b, rfl, _, f0⟩ := (hb.below NumAt.fast hbel) k l[k] (List.getElem?_eq_getElem hkl)
      rw [Nat.mul_one] at e0 f0
      unfold NumAt at e0 f0
      have i1 : (k : Int) < (l.length : Int) := by omega
      generalize l[k] = d at *
      go_wp2
      go_quiet (fail)
      go_wp2
      go_roundw
      case rel => exact ⟨k + 1, by omega, by go_num, below_drewN hbel _⟩
      case measure => simp [intOf]; omega
    · go_wp2
      go_ret
      exact ⟨rfl, hbel⟩
set_option maxRecDepth 100000 in
set_option maxHeartbeats 4000000 in
theorem table_same (t : Tab) (h8 : t.cols.length ≤ 1000) (h4 : t.idxs.length ≤ 1000) (h48 : ∀ x ∈ t.idxs, x.cols.length ≤ 1000) (ao2 : Option Addr) (ac2 : Nat) (ao3 : Option Addr) (ac3 : Nat) (bo2 : Option Addr) (bc2 : Nat) (bo3 : Option Addr) (bc3 : Nat) (w : World) (ha2 : LiesK w w.heap.size ao2 t.cols) (ha3 : LiesI w w.heap.size ao3 t.idxs) (hb2 : LiesK w w.heap.size bo2 t.cols) (hb3 : LiesI w w.heap.size bo3 t.idxs) :
    Calls Try.prog 37 #[.agg #[.int .i64 t.id, .string t.name, .slice ao2 t.cols.length ac2, .slice ao3 t.idxs.length ac3, .int .i64 t.next], .agg #[.int .i64 t.id, .string t.name, .slice bo2 t.cols.length bc2, .slice bo3 t.idxs.length bc3, .int .i64 t.next]] w fun e w' => e = .returned (.bool true) ∧ Below w.heap.size w w' := by
  have hbW : Below w.heap.size w ((w.alloc (.cells #[.int .i64 t.id, .string t.name, .slice ao2 t.cols.length ac2, .slice ao3 t.idxs.length ac3, .int .i64 t.next] 40)).alloc (.cells #[.int .i64 t.id, .string t.name, .slice bo2 t.cols.length bc2, .slice bo3 t.idxs.length bc3, .int .i64 t.next] 40)) := ((Below.refl _ _).alloc (Nat.le_refl _) _).alloc (by simp) _
  have hba : ((w.alloc (.cells #[.int .i64 t.id, .string t.name, .slice ao2 t.cols.length ac2, .slice ao3 t.idxs.length ac3, .int .i64 t.next] 40)).alloc (.cells #[.int .i64 t.id, .string t.name, .slice bo2 t.cols.length bc2, .slice bo3 t.idxs.length bc3, .int .i64 t.next] 40)).heap[w.heap.size]? = some (.cells #[.int .i64 t.id, .string t.name, .slice ao2 t.cols.length ac2, .slice ao3 t.idxs.length ac3, .int .i64 t.next] 40 (0, 0)) := alloc_box _ (heap_new w _)
  have hbb : ((w.alloc (.cells #[.int .i64 t.id, .string t.name, .slice ao2 t.cols.length ac2, .slice ao3 t.idxs.length ac3, .int .i64 t.next] 40)).alloc (.cells #[.int .i64 t.id, .string t.name, .slice bo2 t.cols.length bc2, .slice bo3 t.idxs.length bc3, .int .i64 t.next] 40)).heap[w.heap.size + 1]? = some (.cells #[.int .i64 t.id, .string t.name, .slice bo2 t.cols.length bc2, .slice bo3 t.idxs.length bc3, .int .i64 t.next] 40 (0, 0)) := heap_newB _ _ _ (by simp)
  go_enter Try.func37, Try.ntmps37
  go_wp2
  go_loopw [5] (fun i wr => ∃ k : Nat, k ≤ t.cols.length ∧ i = .int .i64 (k : Int) ∧ Below ((w.alloc (.cells #[.int .i64 t.id, .string t.name, .slice ao2 t.cols.length ac2, .slice ao3 t.idxs.length ac3, .int .i64 t.next] 40)).alloc (.cells #[.int .i64 t.id, .string t.name, .slice bo2 t.cols.length bc2, .slice bo3 t.idxs.length bc3, .int .i64 t.next] 40)).heap.size ((w.alloc (.cells #[.int .i64 t.id, .string t.name, .slice ao2 t.cols.length ac2, .slice ao3 t.idxs.length ac3, .int .i64 t.next] 40)).alloc (.cells #[.int .i64 t.id, .string t.name, .slice bo2 t.cols.length bc2, .slice bo3 t.idxs.length bc3, .int .i64 t.next] 40)) wr) (fun i _ => t.cols.length - (intOf i).toNat)
  case atStart => exact ⟨0, by omega, rfl, Below.refl _ _⟩
  case round =>
    obtain ⟨k, hk, rfl, hbr⟩ := hrel
    have hbel := hbW.trans (hbr.mono hbW.size)
    have ga := below_box hbr hba
    have gb := below_box hbr hbb
    have ga0 := box_cell ga 0 _ rfl
    have ga1 := box_cell ga 1 _ rfl
    have ga2 := box_cell ga 2 _ rfl
    have ga3 := box_cell ga 3 _ rfl
    have ga4 := box_cell ga 4 _ rfl
    have gb0 := box_cell gb 0 _ rfl
    have gb1 := box_cell gb 1 _ rfl
    have gb2 := box_cell gb 2 _ rfl
    have gb3 := box_cell gb 3 _ rfl
    have gb4 := box_cell gb 4 _ rfl
    by_cases hkl : k < t.cols.length
    · obtain ⟨a, rfl, _, e0, e1, e2, e3, e4, e5, e6, e7, e8⟩ := (ha2.below ColAt.fast hbel) k t.cols[k] (List.getElem?_eq_getElem hkl)
      obtain ⟨b, rfl, _, f0, f1, f2, f3, f4, f5, f6, f7, f8⟩ := (hb2.below ColAt.fast hbel) k t.cols[k] (List.getElem?_eq_getElem hkl)
      have i1 : (k : Int) < (t.cols.length : Int) := by omega
      generalize t.cols[k] = y at *
      go_wp2
      go_quiet (fail)
      go_wp2
      go_roundw
      case rel => exact ⟨k + 1, by omega, by go_num, below_drewN hbr _⟩
      case measure => simp [intOf]; omega
    · have hke : k = t.cols.length := by omega
      subst hke
      rename World => W0
      go_wp2
      go_loopw [6] (fun i wr => ∃ k : Nat, k ≤ t.idxs.length ∧ i = .int .i64 (k : Int) ∧ Below W0.heap.size W0 wr) (fun i _ => t.idxs.length - (intOf i).toNat)
      case atStart => exact ⟨0, by omega, rfl, Below.refl _ _⟩
      case round =>
        obtain ⟨k, hk, rfl, hbr2⟩ := hrel
        have hbel2 := hbel.trans (hbr2.mono hbel.size)
        have ka := below_box hbr2 ga
        have kb := below_box hbr2 gb
        have ka0 := box_cell ka 0 _ rfl
        have ka1 := box_cell ka 1 _ rfl
        have ka2 := box_cell ka 2 _ rfl
        have ka3 := box_cell ka 3 _ rfl
        have ka4 := box_cell ka 4 _ rfl
        have kb0 := box_cell kb 0 _ rfl
        have kb1 := box_cell kb 1 _ rfl
        have kb2 := box_cell kb 2 _ rfl
        have kb3 := box_cell kb 3 _ rfl
        have kb4 := box_cell kb 4 _ rfl
        by_cases hkl : k < t.idxs.length
        · have hy8 := h48 _ (List.getElem_mem hkl)
          obtain ⟨a, rfl, _, e0, e1, ⟨ao4, ac4, e2, hl4, _⟩, e3, e4⟩ := (ha3.below IdxAt.fast hbel2) k t.idxs[k] (List.getElem?_eq_getElem hkl)
          obtain ⟨b, rfl, _, f0, f1, ⟨bo4, bc4, f2, hm4, _⟩, f3, f4⟩ := (hb3.below IdxAt.fast hbel2) k t.idxs[k] (List.getElem?_eq_getElem hkl)
          have i1 : (k : Int) < (t.idxs.length : Int) := by omega
          generalize t.idxs[k] = y at *
          have hl4' := hl4.mono hbel2.size (fun _ _ h => h)
          have hm4' := hm4.mono hbel2.size (fun _ _ h => h)
          have hint : ∀ W', Below wr.heap.size wr W' → Calls Try.prog 61 #[.slice ao4 y.cols.length ac4, .slice bo4 y.cols.length bc4] W' fun e w' => e = .returned (.bool true) ∧ Below W'.heap.size W' w' := fun W' hb => ints_same ao4 ac4 bo4 bc4 y.cols hy8 W' (liesN_next hl4' hb) (liesN_next hm4' hb)
          have e0z := fun o : Obj => alloc_cell o e0
          have e0zz := fun o o2 : Obj => alloc_cell o2 (e0z o)
          have e1z := fun o : Obj => alloc_cell o e1
          have e1zz := fun o o2 : Obj => alloc_cell o2 (e1z o)
          have e2z := fun o : Obj => alloc_cell o e2
          have e2zz := fun o o2 : Obj => alloc_cell o2 (e2z o)
          have e3z := fun o : Obj => alloc_cell o e3
          have e3zz := fun o o2 : Obj => alloc_cell o2 (e3z o)
          have e4z := fun o : Obj => alloc_cell o e4
          have e4zz := fun o o2 : Obj => alloc_cell o2 (e4z o)
          have f0z := fun o : Obj => alloc_cell o f0
          have f0zz := fun o o2 : Obj => alloc_cell o2 (f0z o)
          have f1z := fun o : Obj => alloc_cell o f1
          have f1zz := fun o o2 : Obj => alloc_cell o2 (f1z o)
          have f2z := fun o : Obj => alloc_cell o f2
          have f2zz := fun o o2 : Obj => alloc_cell o2 (f2z o)
          have f3z := fun o : Obj => alloc_cell o f3
          have f3zz := fun o o2 : Obj => alloc_cell o2 (f3z o)
          have f4z := fun o : Obj => alloc_cell o f4
          have f4zz := fun o o2 : Obj => alloc_cell o2 (f4z o)
          have ka3z := fun o : Obj => alloc_cell o ka3
          have ka3zz := fun o o2 : Obj => alloc_cell o2 (ka3z o)
          have kb3z := fun o : Obj => alloc_cell o kb3
          have kb3zz := fun o o2 : Obj => alloc_cell o2 (kb3z o)
          go_wp2
          go_region
          all_goals
            clear e0z e0zz e1z e1zz e2z e2zz e3z e3zz e4z e4zz f0z f0zz f1z f1zz f2z f2zz f3z f3zz f4z f4zz ka3z ka3zz kb3z kb3zz
            go_wp2_with (first
              | (go_at_call 61; refine (hint _ ((((Below.refl _ wr).alloc (Nat.le_refl _) _).alloc (by simp) _).drew)).mono ?_; rintro e w5 ⟨rfl, hb5⟩))
            go_roundw
            case rel => exact ⟨k + 1, by omega, by go_num, below_next hbr2 (Nat.le_refl _) (below_next ((((Below.refl _ wr).alloc (Nat.le_refl _) _).alloc (by simp) _).drew) (Nat.le_refl _) hb5)⟩
            case measure => simp [intOf]; omega
        · go_wp2
          go_ret
          exact ⟨rfl, hbel2⟩
set_option maxRecDepth 100000 in
set_option maxHeartbeats 2000000 in
theorem sch_same (x : Sch) (h4 : x.tabs.length ≤ 1000) (hs : ∀ t ∈ x.tabs, t.cols.length ≤ 1000 ∧ t.idxs.length ≤ 1000 ∧ ∀ i ∈ t.idxs, i.cols.length ≤ 1000) (ao : Option Addr) (ac : Nat) (bo : Option Addr) (bc : Nat) (w : World) (ha : LiesT w w.heap.size ao x.tabs) (hb : LiesT w w.heap.size bo x.tabs) :
    Calls Try.prog 19 #[.agg #[.int .i64 x.ver, .slice ao x.tabs.length ac, .int .i64 x.next], .agg #[.int .i64 x.ver, .slice bo x.tabs.length bc, .int .i64 x.next]] w fun e w' => e = .returned (.bool true) ∧ Below w.heap.size w w' := by
  have hbW : Below w.heap.size w ((w.alloc (.cells #[.int .i64 x.ver, .slice ao x.tabs.length ac, .int .i64 x.next] 26)).alloc (.cells #[.int .i64 x.ver, .slice bo x.tabs.length bc, .int .i64 x.next] 26)) := ((Below.refl _ _).alloc (Nat.le_refl _) _).alloc (by simp) _
  have hba : ((w.alloc (.cells #[.int .i64 x.ver, .slice ao x.tabs.length ac, .int .i64 x.next] 26)).alloc (.cells #[.int .i64 x.ver, .slice bo x.tabs.length bc, .int .i64 x.next] 26)).heap[w.heap.size]? = some (.cells #[.int .i64 x.ver, .slice ao x.tabs.length ac, .int .i64 x.next] 26 (0, 0)) := alloc_box _ (heap_new w _)
  have hbb : ((w.alloc (.cells #[.int .i64 x.ver, .slice ao x.tabs.length ac, .int .i64 x.next] 26)).alloc (.cells #[.int .i64 x.ver, .slice bo x.tabs.length bc, .int .i64 x.next] 26)).heap[w.heap.size + 1]? = some (.cells #[.int .i64 x.ver, .slice bo x.tabs.length bc, .int .i64 x.next] 26 (0, 0)) := heap_newB _ _ _ (by simp)
  go_enter Try.func19, Try.ntmps19
  go_wp2
  go_loopw [5] (fun i wr => ∃ k : Nat, k ≤ x.tabs.length ∧ i = .int .i64 (k : Int) ∧ Below ((w.alloc (.cells #[.int .i64 x.ver, .slice ao x.tabs.length ac, .int .i64 x.next] 26)).alloc (.cells #[.int .i64 x.ver, .slice bo x.tabs.length bc, .int .i64 x.next] 26)).heap.size ((w.alloc (.cells #[.int .i64 x.ver, .slice ao x.tabs.length ac, .int .i64 x.next] 26)).alloc (.cells #[.int .i64 x.ver, .slice bo x.tabs.length bc, .int .i64 x.next] 26)) wr) (fun i _ => x.tabs.length - (intOf i).toNat)
  case atStart => exact ⟨0, by omega, rfl, Below.refl _ _⟩
  case round =>
    obtain ⟨k, hk, rfl, hbr⟩ := hrel
    have hbel := hbW.trans (hbr.mono hbW.size)
    have ga := below_box hbr hba
    have gb := below_box hbr hbb
    have ga0 := box_cell ga 0 _ rfl
    have ga1 := box_cell ga 1 _ rfl
    have ga2 := box_cell ga 2 _ rfl
    have gb0 := box_cell gb 0 _ rfl
    have gb1 := box_cell gb 1 _ rfl
    have gb2 := box_cell gb 2 _ rfl
    by_cases hkl : k < x.tabs.length
    · obtain ⟨z1, z2, z3⟩ := hs _ (List.getElem_mem hkl)
      obtain ⟨a, rfl, _, e0, e1, ⟨ao2, ac2, e2, hl2⟩, ⟨ao3, ac3, e3, hl3⟩, e4⟩ := (ha.below TabAt.fast hbel) k x.tabs[k] (List.getElem?_eq_getElem hkl)
      obtain ⟨b, rfl, _, f0, f1, ⟨bo2, bc2, f2, hm2⟩, ⟨bo3, bc3, f3, hm3⟩, f4⟩ := (hb.below TabAt.fast hbel) k x.tabs[k] (List.getElem?_eq_getElem hkl)
      have i1 : (k : Int) < (x.tabs.length : Int) := by omega
      generalize x.tabs[k] = y at *
      have hsz := hbel.size
      have hl2' := hl2.mono hsz (fun _ _ h => h)
      have hm2' := hm2.mono hsz (fun _ _ h => h)
      have hl3' := hl3.mono hsz (fun _ _ h => idxAt_mono hsz h)
      have hm3' := hm3.mono hsz (fun _ _ h => idxAt_mono hsz h)
      rename World => W2
      have hc : ∀ y' : Low W2, _ := fun y' => table_same y z1 z2 z3 ao2 ac2 ao3 ac3 bo2 bc2 bo3 bc3 y'.wd (liesK_next hl2' y'.low) (liesI_next hl3' y'.low) (liesK_next hm2' y'.low) (liesI_next hm3' y'.low)
      have u1 := fun y' : Low W2 => (y'.cell (cell_lt ga1)).trans ga1
      have u2 := fun y' : Low W2 => (y'.cell (cell_lt gb1)).trans gb1
      have p0 := fun y' : Low W2 => (y'.cell (cell_lt e0)).trans e0
      have p1 := fun y' : Low W2 => (y'.cell (cell_lt e1)).trans e1
      have p2 := fun y' : Low W2 => (y'.cell (cell_lt e2)).trans e2
      have p3 := fun y' : Low W2 => (y'.cell (cell_lt e3)).trans e3
      have p4 := fun y' : Low W2 => (y'.cell (cell_lt e4)).trans e4
      have r0 := fun y' : Low W2 => (y'.cell (cell_lt f0)).trans f0
      have r1 := fun y' : Low W2 => (y'.cell (cell_lt f1)).trans f1
      have r2 := fun y' : Low W2 => (y'.cell (cell_lt f2)).trans f2
      have r3 := fun y' : Low W2 => (y'.cell (cell_lt f3)).trans f3
      have r4 := fun y' : Low W2 => (y'.cell (cell_lt f4)).trans f4
      go_wp2_with fail
      refine wp_region_low (by kernel_rfl) (by kernel_rfl) fun hsome => ?_
      repeat (go_big_quiet_step (first
        | (go_at_call 37; refine Calls.low_of (hc _))))
      refine wpQuiet_nil ?_
      rintro _ ⟨x5, rfl⟩
      clear u1 u2 p0 p1 p2 p3 p4 r0 r1 r2 r3 r4 hc
      go_wp2
      go_roundw
      case rel => exact ⟨k + 1, by omega, by go_num, below_next hbr (Nat.le_refl _) x5.low⟩
      case measure => simp [intOf]; omega
    · go_wp2
      go_ret
      exact ⟨rfl, hbel⟩
end Go.Proofs.Ytndppffcladalaa
