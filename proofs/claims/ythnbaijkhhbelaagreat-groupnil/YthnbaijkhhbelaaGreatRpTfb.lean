/-
  Contracts of a replica at work: it proposes (11.3): where it is full, where it goes through.
-/
import Derived.Test.YthnbaijkhhbelaaGreatRpTe
namespace Go.Proofs.YthnbaijkhhbelaaGreat
open Go.RowKit Num
open scoped Classical
set_option linter.unusedVariables false
set_option maxRecDepth 100000

set_option maxRecDepth 100000 in
set_option maxHeartbeats 1000000 in
theorem prop_full2b (B g : Nat) (r : Rep) (time L : Int) (d : ByteArray) (w : World) (h : Turn B w g r []) (hv : 0 ≤ r.view ∧ r.view < 1099511627776) (hL2 : lastT r.log = L) (hlt : 0 ≤ L ∧ L < 1099511627776) (hyes : (0 ≤ time ∧ time ≤ 1099511627775) ∧ d.size ≤ 20000) (hlead : r.how = 0 ∧ r.view % r.n = r.id) (n1 : time < 1) (n2 : ¬ 1 < L + 1) (q3 : ¬ (r.log.length : Int) < 1000) :
    Calls Tryz.prog 76 #[.pointer (some ⟨g, 0, none⟩), .int .i64 time, .string d] w fun e w' => e = .panicked (boom 4) ∧ Below w.heap.size w w' := by
  have hm := fun W => must_yes 1 W
  have hm2 := fun W => must_yes 17 W
  have hf := fun W => isFrom_any 0 time 1099511627775 W
  have hL := leadsT_any B g r [] w h hv
  rw [← Bool.decide_and, decide_eq_true hlead] at hL
  rw [tru_yes hyes.1] at hf
  have q2 : (d.size : Int) ≤ 20000 := by have := hyes.2; omega
  have hLT := fun W (hb : Below w.heap.size w W) => lastTimeT_any B g r [] W (h.below hb)
  rw [hL2] at hLT
  have hw : IntKind.i64.wrap (L + 1) = L + 1 := by rw [IntKind.wrap_i64]; omega
  have HC : Hid (∀ W, Below w.heap.size w W → ∃ lo lc, W.cell? ⟨g, 5, none⟩ = some (.slice lo r.log.length lc)) := fun W hb => by
    obtain ⟨s, xo, xc, ⟨k0, k1, k2, k3, k4, k5, _⟩, _⟩ := (h.below hb).cells
    exact ⟨_, _, k5⟩
  have hm3 := fun W => must_no 4 W
  have q5 : decide ((r.log.length : Int) < 1000) = false := decide_eq_false q3
  clear h hyes hlead hL2
  go_enter Tryz.func76, Tryz.ntmps76
  go_wp2_with (first
  | (go_at_call 84; refine (hf _).mono ?_; rintro e wn ⟨rfl, hq⟩; have hq' := hq.symm; clear hq; subst hq')
  | (go_at_call 105; have tk := hm; refine (hm _).mono ?_; rintro e wn ⟨rfl, hq⟩; have hq' := hq.symm; clear hq; subst hq'; clear hm tk)
  | (go_at_call 107; refine hL.mono ?_; rintro e w1 ⟨rfl, hb1⟩; have hLx := hLT _ hb1; clear hL)
  | (go_at_call 105; have tk := hm2; refine (hm2 _).mono ?_; rintro e wn ⟨rfl, hq⟩; have hq' := hq.symm; clear hq; subst hq'; clear hm2 tk)
  | (go_at_call 108; refine hLx.mono ?_; rintro e w2 ⟨rfl, hb2⟩; have hb3 := below_next hb1 (Nat.le_refl _) hb2; obtain ⟨lo, lc, c5⟩ := HC.out _ hb3; have c5z := fun ob : Obj => alloc_cell ob c5; clear hLx)
  | (go_at_call 105; refine (hm3 _).mono ?_; rintro e wn ⟨rfl, hq⟩; have hq' := hq.symm; clear hq; subst hq'))
  exact ⟨rfl, rfl, hb3.alloc hb3.size _⟩
set_option maxRecDepth 100000 in
set_option maxHeartbeats 2000000 in
theorem prop_yesb (B g : Nat) (r : Rep) (time L : Int) (d : ByteArray) (w : World) (h : Turn B w g r []) (hv : 0 ≤ r.view ∧ r.view < 1099511627776) (hL2 : lastT r.log = L) (hlt : 0 ≤ L ∧ L < 1099511627776) (hyes : (0 ≤ time ∧ time ≤ 1099511627775) ∧ d.size ≤ 20000) (hlead : r.how = 0 ∧ r.view % r.n = r.id) (n1 : time < 1) (n2 : ¬ 1 < L + 1) (q3 : (r.log.length : Int) < 1000) (q4 : 1 < 1099511627776) :
    Calls Tryz.prog 76 #[.pointer (some ⟨g, 0, none⟩), .int .i64 time, .string d] w fun e w' => e = .returned (.int .i64 ((r.log.length + 1 : Nat) : Int)) ∧ Turn B w' g (propR r ⟨1, d⟩) (propM r ⟨1, d⟩) ∧ Below B w w' := by
  have hm := fun W => must_yes 1 W
  have hm2 := fun W => must_yes 17 W
  have hf := fun W => isFrom_any 0 time 1099511627775 W
  have hL := leadsT_any B g r [] w h hv
  rw [← Bool.decide_and, decide_eq_true hlead] at hL
  rw [tru_yes hyes.1] at hf
  have q2 : (d.size : Int) ≤ 20000 := by have := hyes.2; omega
  have hLT := fun W (hb : Below w.heap.size w W) => lastTimeT_any B g r [] W (h.below hb)
  rw [hL2] at hLT
  have hw : IntKind.i64.wrap (L + 1) = L + 1 := by rw [IntKind.wrap_i64]; omega
  have HC : Hid (∀ W, Below w.heap.size w W → ∃ lo lc, W.cell? ⟨g, 5, none⟩ = some (.slice lo r.log.length lc)) := fun W hb => by
    obtain ⟨s, xo, xc, ⟨k0, k1, k2, k3, k4, k5, _⟩, _⟩ := (h.below hb).cells
    exact ⟨_, _, k5⟩
  have hm3 := fun W => must_yes 4 W
  have HT : Hid (∀ W, Below w.heap.size w W → Turn B W g r []) := fun W hb => h.below hb
  have hB := h.base
  have hnb := one_bounds h.one
  have hal := h.al
  have h1 := h.one
  have hbl := h.bl
  clear h hyes hlead hL2
  go_enter Tryz.func76, Tryz.ntmps76
  go_wp2_with (first
  | (go_at_call 84; refine (hf _).mono ?_; rintro e wn ⟨rfl, hq⟩; have hq' := hq.symm; clear hq; subst hq')
  | (go_at_call 105; have tk := hm; refine (hm _).mono ?_; rintro e wn ⟨rfl, hq⟩; have hq' := hq.symm; clear hq; subst hq'; clear hm tk)
  | (go_at_call 107; refine hL.mono ?_; rintro e w1 ⟨rfl, hb1⟩; have hLx := hLT _ hb1; clear hL)
  | (go_at_call 105; have tk := hm2; refine (hm2 _).mono ?_; rintro e wn ⟨rfl, hq⟩; have hq' := hq.symm; clear hq; subst hq'; clear hm2 tk)
  | (go_at_call 108; refine hLx.mono ?_; rintro e w2 ⟨rfl, hb2⟩; have hb3 := below_next hb1 (Nat.le_refl _) hb2; obtain ⟨lo, lc, c5⟩ := HC.out _ hb3; have c5z := fun ob : Obj => alloc_cell ob c5; clear hLx)
  | (go_at_call 105; refine (hm3 _).mono ?_; rintro e wn ⟨rfl, hq⟩; have hq' := hq.symm; clear hq; subst hq'))
  clear c5 c5z HC
  obtain ⟨s, xo, xc, _, _, _, hH2, hO2⟩ := (HT.out _ hb3).cells
  have hbX : Below w2.heap.size w2 (w2.alloc (.cells #[.int .i64 1, .string d] 78)) := (Below.refl _ w2).alloc (Nat.le_refl _) _
  have bE : (w2.alloc (.cells #[.int .i64 1, .string d] 78)).heap[w2.heap.size]? = some (.cells #[.int .i64 1, .string d] 78 (0, 0)) := heap_new w2 _
  have hgw : g < w2.heap.size := hH2.box.lt
  have hlw : ∀ k, (Value.slice s.lo r.log.length s.lc).ownBlock = some k → k < w2.heap.size := fun k hk => (hH2.rows.log.lt k hk).2
  obtain ⟨ga, ca, hva⟩ := own_someV hH2.rows.ack (by omega)
  have hga : ga < w2.heap.size := (hH2.rows.ack.lt ga (by rw [hva]; rfl)).2
  rw [hva] at hH2
  have hHX := hH2.below hbX
  have hOX := ownO_below hO2 hbX
  have hB2 : B ≤ (w2.alloc (.cells #[.int .i64 1, .string d] 78)).heap.size := Nat.le_trans hB (Nat.le_trans hb3.size hbX.size)
  have hlow : Below B w (w2.alloc (.cells #[.int .i64 1, .string d] 78)) := (hb3.mono hB).trans (hbX.mono (Nat.le_trans hB hb3.size))
  have hszX : w2.heap.size < (w2.alloc (.cells #[.int .i64 1, .string d] 78)).heap.size := by simp
  clear hH2 hO2 hva HT hbX
  generalize w2.alloc (.cells #[.int .i64 1, .string d] 78) = X at *
  have hbY : Below X.heap.size X (X.alloc (.cells #[.int .i64 1, .string d] 78)).drew := ((Below.refl _ X).alloc (Nat.le_refl _) _).drew
  obtain ⟨v', w4, hr, ⟨ao4, cap4, rfl⟩, bx4, hH5, hs4, hb4, hoff⟩ := app_en (hHX.below hbY) (by omega) (by decide) (by decide) (Nat.le_trans hB2 hbY.size) (by omega) [(⟨1, d⟩ : Ent)] (by simp) (some ⟨X.heap.size, 0, none⟩) 1 (en_cells X (⟨1, d⟩ : Ent)) 44
  have hr' : (Builtin.append_ #[44, 44] 44 #[.slice s.lo r.log.length s.lc, .slice (some ⟨X.heap.size, 0, none⟩) 1 1]).run Tryz.prog (X.alloc (.cells #[.int .i64 1, .string d] 78)).drew = _ := hr
  have hK : (r.log ++ [(⟨1, d⟩ : Ent)]).length = r.log.length + 1 := by simp
  have bE4 : w4.heap[w2.heap.size]? = some (.cells #[.int .i64 1, .string d] 78 (0, 0)) := ((hoff _ (Nat.lt_of_lt_of_le hszX hbY.size) (fun e => Nat.lt_irrefl _ (hlw _ e))).trans (hbY.block _ hszX)).trans bE
  have hO4 := ownO_nil_stay (ownO_below hOX hbY) hs4 (by decide)
  have hb4' : Below B X w4 := (hbY.mono hB2).trans hb4
  rw [hK] at hr' hH5
  obtain ⟨K, hKe⟩ : ∃ K, r.log.length + 1 = K := ⟨_, rfl⟩
  have hKi : ((K : Nat) : Int) = (r.log.length : Int) + 1 := by omega
  rw [hKe] at hr' hH5
  have bx5 := hH5.box
  have bE5 : (w4.setCell ⟨g, 5, none⟩ (.slice ao4 K cap4)).heap[w2.heap.size]? = some (.cells #[.int .i64 1, .string d] 78 (0, 0)) := (Below.heap_setCell _ _ _ _ (by show w2.heap.size ≠ g; omega)).trans bE4
  have hO5 := ownO_stay hO4 (bx4.stays 5 (.slice ao4 K cap4)) (by decide) (by decide)
  have hb5 : Below B X (w4.setCell ⟨g, 5, none⟩ (.slice ao4 K cap4)) := hb4'.setCell (p := ⟨g, 5, none⟩) hH5.base _
  obtain ⟨hH6, hs6, hk6⟩ := hold_ack hH5 rfl (by decide) (Nat.le_trans hB2 hb5.size) r.id.toNat (K : Int)
  have hO6 := ownO_stay hO5 hs6 (by decide) (by decide)
  have bE6 : ((w4.setCell ⟨g, 5, none⟩ (.slice ao4 K cap4)).setCell ⟨ga, r.id.toNat, none⟩ (.int .i64 (K : Int))).heap[w2.heap.size]? = some (.cells #[.int .i64 1, .string d] 78 (0, 0)) := (Below.heap_setCell _ _ _ _ (by show w2.heap.size ≠ ga; omega)).trans bE5
  have hb6 := (hlow.trans hb5).trans hk6.low
  have hT6 : Turn B _ g { r with log := r.log ++ [(⟨1, d⟩ : Ent)], acked := r.acked.set r.id.toNat (K : Int) } [] := ⟨⟨_, _, _, _, _, _, hH6, hO6⟩, Nat.le_trans hB hb6.size, h1, by show (r.log ++ [(⟨1, d⟩ : Ent)]).length ≤ 1000; omega, hbl, by show ((r.acked.set r.id.toNat (K : Int)).length : Int) = r.n; rw [List.length_set]; exact hal⟩
  obtain ⟨_, _, _, _, _, k5, _⟩ := hHX.cells (by omega)
  have k5z := fun ob : Obj => alloc_cell ob k5
  have e0 := box_cell bE 0 _ rfl
  have e1 := box_cell bE 1 _ rfl
  have d5 : w4.cell? ⟨g, 5, none⟩ = some (.slice s.lo r.log.length s.lc) := bx4.cell 5 (by omega)
  have y5 := bx4.unfrozen 5
  obtain ⟨f0, f1, f2, f3, f4, f5, f6, f7, _⟩ := hH5.cells (by omega)
  have ca := hH5.rows.ack.cells (g := ga) rfl r.id.toNat (.int .i64 (r.acked[r.id.toNat]'(by omega))) (by simp [inCells])
  rw [Addr.add_lit, Nat.zero_add] at ca
  have za := hH5.rows.ack.frozenAt r.id.toNat
  have n1 : r.id < (r.acked.length : Int) := by omega
  have n2 : ¬ r.id < 0 := by omega
  clear hH6 hO6 hO5 hH5 bx5 bE5 hO4 bE4 hHX hOX hs4 hs6 hk6 hb5 hb4' hb4 bx4 hr hoff hlw bE hbY hszX
  have hke : Hid (r.log.length + 1 = K) := hKe
  clear hKi hKe hK
  have HS : Hid (∀ (Y : World) (q : Rep) (n : Nat), Y.heap.size = n → Turn B Y g q [] → Calls Tryz.prog 109 #[.pointer (some ⟨g, 0, none⟩), .agg #[.int .i64 1, .int .i64 0, .int .i64 0, .int .i64 0, .int .i64 (K : Int), .int .i64 q.commit, .int .i64 0, .slice (some ⟨n, 0, none⟩) 1 1]] (Y.alloc (.cells #[.int .i64 1, .string d] 78)).drew fun e w' => e = .returned (.tuple #[]) ∧ Turn B w' g q (allM q (msg 1 (K : Int) q.commit 0 [(⟨1, d⟩ : Ent)])) ∧ Keep B (Y.alloc (.cells #[.int .i64 1, .string d] 78)).drew w') := fun Y q n hn hq => by
    subst hn
    exact sendAllT_any B g q [] (msg 1 (K : Int) q.commit 0 [(⟨1, d⟩ : Ent)]) (some ⟨Y.heap.size, 0, none⟩) 1 _ (hq.below ((Below.refl _ Y).alloc (Nat.le_refl _) _).drew) (.inr (own_mono (own_below (own_en Y (⟨1, d⟩ : Ent)) (Below.refl _ _).drew) hq.base)) (by simp) (by simp)
  go_region_law (refine step_app_run rfl (.tmp 45) (.tmp 47) 44 rfl (.slice s.lo r.log.length s.lc) (.slice (some ⟨X.heap.size, 0, none⟩) 1 1) (by simp [Act.eval]) (by simp [Act.eval]) hr' ?_)
  all_goals
    clear k5 k5z e0 e1 d5 y5 hr'
    go_wp2
    go_region
    clear f0 f1 f2 f3 f4 f5 f6 f7 ca za
    have hT6 := hT6.drew
    have bE6 := heap_drew bE6
    have hb6 := hb6.drew
    generalize ((w4.setCell ⟨g, 5, none⟩ (.slice ao4 K cap4)).setCell ⟨ga, r.id.toNat, none⟩ (.int .i64 (K : Int))).drew = Z at *
    by_cases hn : r.n = 1
    · have hn2 : (r.n == 1) = true := by simp [hn]
      obtain ⟨s7, xo7, xc7, ⟨_, m1, _, _, _, _, m6, _⟩, mz, _⟩ := hT6.cells
      obtain ⟨hT7, hK7⟩ := turn_sets hT6 [(6, .int .i64 (K : Int))] { r with log := r.log ++ [(⟨1, d⟩ : Ent)], acked := r.acked.set r.id.toNat (K : Int), commit := (K : Int) } (fun _ _ _ _ _ _ f f' e e' => by subst e e'; exact ⟨rfl, rfl, rfl, rfl, rfl, rfl, rfl, rfl, rfl, rfl, rfl, rfl, rfl, rfl⟩) rfl rfl rfl rfl rfl rfl rfl
      have HF : Hid (∀ W, Turn B W g { r with log := r.log ++ [(⟨1, d⟩ : Ent)], acked := r.acked.set r.id.toNat (K : Int), commit := (K : Int) } (allM { r with log := r.log ++ [(⟨1, d⟩ : Ent)], acked := r.acked.set r.id.toNat (K : Int), commit := (K : Int) } (msg 1 (K : Int) (K : Int) 0 [(⟨1, d⟩ : Ent)])) → Turn B W g (propR r (⟨1, d⟩ : Ent)) (propM r (⟨1, d⟩ : Ent))) := fun W h => by
        have e : propR r (⟨1, d⟩ : Ent) = { r with log := r.log ++ [(⟨1, d⟩ : Ent)], acked := r.acked.set r.id.toNat (K : Int), commit := (K : Int) } := by unfold propR; rw [if_pos hn, hke.out]
        unfold propM
        rw [e, hke.out]
        exact h
      have hall := HS.out _ _ Z.heap.size (by simp [sets, World.setCell]) hT7
      have hn' : Hid (r.n = 1) := hn
      clear hn HS
      simp only [sets] at hT7 hK7 hall
      have bE7 : (Z.setCell ⟨g, 6, none⟩ (.int .i64 (K : Int))).heap[w2.heap.size]? = some (.cells #[.int .i64 1, .string d] 78 (0, 0)) := (Below.heap_setCell _ _ _ _ (by show w2.heap.size ≠ g; omega)).trans bE6
      have e0 := box_cell bE7 0 _ rfl
      have e1 := box_cell bE7 1 _ rfl
      obtain ⟨s8, xo8, xc8, ⟨_, _, _, _, _, _, p6, _⟩, _⟩ := hT7.cells
      have p6z := fun ob : Obj => alloc_cell ob p6
      go_wp2
      go_region_law (first
        | (go_simp; go_at_call 109; refine hall.mono ?_; rintro e w8 ⟨rfl, hT8, hK8⟩))
      all_goals
        go_wp2
        go_ret
        exact ⟨by rw [hke.out]; rfl, HF.out _ hT8, ((hb6.trans hK7.low).trans (((Below.refl _ _).alloc (Nat.le_refl _) _).drew.mono hT7.base)).trans hK8.low⟩
    · have hn2 : (r.n == 1) = false := by simp [hn]
      have hn3 : decide (r.n = 1) = false := decide_eq_false hn
      obtain ⟨s7, xo7, xc7, ⟨_, m1, _, _, _, _, m6, _⟩, mz, _⟩ := hT6.cells
      have HF : Hid (∀ W, Turn B W g { r with log := r.log ++ [(⟨1, d⟩ : Ent)], acked := r.acked.set r.id.toNat (K : Int) } (allM { r with log := r.log ++ [(⟨1, d⟩ : Ent)], acked := r.acked.set r.id.toNat (K : Int) } (msg 1 (K : Int) r.commit 0 [(⟨1, d⟩ : Ent)])) → Turn B W g (propR r (⟨1, d⟩ : Ent)) (propM r (⟨1, d⟩ : Ent))) := fun W h => by
        have e : propR r (⟨1, d⟩ : Ent) = { r with log := r.log ++ [(⟨1, d⟩ : Ent)], acked := r.acked.set r.id.toNat (K : Int) } := by unfold propR; rw [if_neg hn, hke.out]
        unfold propM
        rw [e, hke.out]
        exact h
      have hall := HS.out _ _ _ rfl hT6
      clear HS
      have e0 := box_cell bE6 0 _ rfl
      have e1 := box_cell bE6 1 _ rfl
      have m6z := fun ob : Obj => alloc_cell ob m6
      have hTd := hT6
      go_wp2
      go_region_law (first
        | (go_simp; go_at_call 109; refine hall.mono ?_; rintro e w8 ⟨rfl, hT8, hK8⟩))
      all_goals
        go_wp2
        go_ret
        exact ⟨by rw [hke.out]; rfl, HF.out _ hT8, (hb6.trans (((Below.refl _ _).alloc (Nat.le_refl _) _).drew.mono hTd.base)).trans hK8.low⟩
end Go.Proofs.YthnbaijkhhbelaaGreat
