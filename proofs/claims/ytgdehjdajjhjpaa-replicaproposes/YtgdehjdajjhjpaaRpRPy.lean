/-
  Contracts: the document's own Propose, where it goes through.
-/
import Derived.Test.YtgdehjdajjhjpaaRpRPr
namespace Go.Proofs.Ytgdehjdajjhjpaa
open Go.RowKit Num
open scoped Classical
set_option linter.unusedVariables false

set_option maxRecDepth 100000 in
set_option maxHeartbeats 1000000 in
theorem rpro_ye1 (r : Rep) (s : Sl) (hsm : SmallR r) (time : Int) (d : ByteArray) (hyes : May r) (ht : 0 ≤ time ∧ time < 1099511627776) (hd : d.size ≤ 20000) (hh : r.how = 0) (hpm : r.view % r.n = r.id) (T : Int) (hT : propT r time = T) (hne : r.log = []) (hlen : r.log.length < 1000) (hTm : T < 1099511627776) (hn : r.n = 1) (w : World) (hl : LiesR w w.heap.size s r) :
    Calls Try.prog 17 #[repV r s, .int .i64 time, .string d] w fun x w' => ∃ s' xo xc, x = .returned (.tuple #[repV (propR r ⟨T, d⟩) s', .slice xo (propM r ⟨T, d⟩).length xc, .int .i64 ((r.log.length + 1 : Nat) : Int), .int .i64 0]) ∧ LiesR w' w'.heap.size s' (propR r ⟨T, d⟩) ∧ LiesM w' w'.heap.size xo (propM r ⟨T, d⟩) ∧ Below w.heap.size w w' := by
  have hB : Below w.heap.size w ((w.alloc (repO r (.slice s.lo r.log.length s.lc) (.slice s.ao r.acked.length s.ac) (.slice s.vo r.votes.length s.vc) (.slice s.wo r.voters.length s.wc) (.slice s.bo r.best.length s.bc) 25)).alloc (repO0 25)) := ((Below.refl _ w).alloc (Nat.le_refl _) _).alloc (by simp) _
  have hsz : ((w.alloc (repO r (.slice s.lo r.log.length s.lc) (.slice s.ao r.acked.length s.ac) (.slice s.vo r.votes.length s.vc) (.slice s.wo r.voters.length s.wc) (.slice s.bo r.best.length s.bc) 25)).alloc (repO0 25)).heap.size = w.heap.size + 2 := by simp
  have bx0 := (box_rep w r (.slice s.lo r.log.length s.lc) (.slice s.ao r.acked.length s.ac) (.slice s.vo r.votes.length s.vc) (.slice s.wo r.voters.length s.wc) (.slice s.bo r.best.length s.bc) undef 25 w.heap.size rfl).alloc (repO0 25)
  have by0 := box_rep0 (w.alloc (repO r (.slice s.lo r.log.length s.lc) (.slice s.ao r.acked.length s.ac) (.slice s.vo r.votes.length s.vc) (.slice s.wo r.voters.length s.wc) (.slice s.bo r.best.length s.bc) 25)) undef 25 (w.heap.size + 1) (by simp)
  have hmay := rmay_any r s (small_m0 hsm) ((w.alloc (repO r (.slice s.lo r.log.length s.lc) (.slice s.ao r.acked.length s.ac) (.slice s.vo r.votes.length s.vc) (.slice s.wo r.voters.length s.wc) (.slice s.bo r.best.length s.bc) 25)).alloc (repO0 25)) (liesR_next hl hB hB.size)
  rw [tru_yes hyes] at hmay
  have htm := fun W => rtime_any time W
  rw [tru_yes ht] at htm
  have q2 : ¬ (20000 : Int) < (d.size : Int) := by omega
  have hv := hyes.views.1
  have h1 := hyes.one
  have hh1 : (r.how != 0) = false := by simp [hh]
  have hprim := fun W b => rprimary_any w.heap.size r W (vl := .slice s.lo r.log.length s.lc) (va := .slice s.ao r.acked.length s.ac) (vv := .slice s.vo r.votes.length s.vc) (vw := .slice s.wo r.voters.length s.wc) (vb := .slice s.bo r.best.length s.bc) b h1 hv
  rw [decide_eq_true hpm] at hprim
  clear hpm hh
  have m1 : max time 1 = T := by
    have : max (max time 1) (lastT r.log + 1) = T := hT
    rw [hne] at this
    have h0 : lastT ([] : List Ent) = 0 := rfl
    omega
  have i3 : ¬ (0 : Int) < (r.log.length : Int) := by rw [hne]; simp
  clear hT hne
  have j1 : ¬ (1000 : Int) ≤ (r.log.length : Int) := by omega
  have j2 : ¬ (1099511627776 : Int) ≤ T := by omega
  have hal := hyes.ack.1
  have hnb := one_bounds h1
  have hn2 : (r.n == 1) = true := by simp [hn]
  have hn3 : decide (r.n = 1) = true := by simp [hn]
  have n1 : r.id < (r.acked.length : Int) := by omega
  have n2 : ¬ r.id < 0 := by omega
  have hcopy := fun W h => rcopy_any r s hsm W h
  obtain ⟨lg, hlg⟩ : ∃ lg, r.log ++ [(⟨T, d⟩ : Ent)] = lg := ⟨_, rfl⟩
  have hlgl : Hid (lg.length = r.log.length + 1) := by rw [← hlg]; simp [Hid]
  have hPR : Hid (propR r ⟨T, d⟩ = { r with log := lg, acked := r.acked.set r.id.toNat (lg.length : Int), commit := (lg.length : Int) }) := by
    unfold Hid propR
    rw [if_pos hn, hlg, hlgl.out]
  clear hyes hsm hn
  go_enter Try.func17, Try.ntmps17
  go_wp2_with (first
    | (go_at_call 14; refine hmay.mono ?_; rintro e w1 ⟨rfl, hb1⟩
       have bx1 := bx0.below hb1
       have by1 := by0.below hb1
       have hw1 := hB.trans (hb1.mono hB.size)
       have hs1 := hb1.size
       rw [hsz] at hs1
       obtain ⟨a0, a1, a2, a3, a4, a5, a6, a7, a8, a9, a10, a11, a12⟩ := bx1.rep (by omega)
       have hpr := hprim _ bx1
       clear hmay bx0 by0)
    | (go_at_call 34; refine (htm _).mono ?_; rintro e wn ⟨rfl, hq⟩; have hq' := hq.symm; clear hq; subst hq')
    | (go_at_call 40; refine hpr.mono ?_; rintro e w2 ⟨rfl, hb2⟩
       have bx2 := bx1.below hb2
       have by2 := by1.below hb2
       have hw2 := below_next hw1 (Nat.le_refl _) hb2
       have hs2 := Nat.le_trans hs1 hb2.size
       obtain ⟨p0, p1, p2, p3, p4, p5, p6, p7, p8, p9, p10, p11, p12⟩ := bx2.rep (by omega)
       have hcop := hcopy _ (liesR_next hl hw2 hw2.size)
       clear hpr)
    | (go_at_call 15; refine hcop.mono ?_; rintro e w3 ⟨s2, rfl, hR3, hb3⟩
       obtain ⟨ga, ca, hva⟩ := own_someV hR3.ack (by omega)
       have hH4 := holdR_new (B := w.heap.size + 2) hs2 hb3 hR3
       have hb4 : Below w3.heap.size w3 (w3.alloc (repO r (.slice s2.lo r.log.length s2.lc) (.slice s2.ao r.acked.length s2.ac) (.slice s2.vo r.votes.length s2.vc) (.slice s2.wo r.voters.length s2.wc) (.slice s2.bo r.best.length s2.bc) 25)) := (Below.refl _ w3).alloc (Nat.le_refl _) _
       have hb5 : Below (w3.alloc (repO r (.slice s2.lo r.log.length s2.lc) (.slice s2.ao r.acked.length s2.ac) (.slice s2.vo r.votes.length s2.vc) (.slice s2.wo r.voters.length s2.wc) (.slice s2.bo r.best.length s2.bc) 25)).heap.size (w3.alloc (repO r (.slice s2.lo r.log.length s2.lc) (.slice s2.ao r.acked.length s2.ac) (.slice s2.vo r.votes.length s2.vc) (.slice s2.wo r.voters.length s2.wc) (.slice s2.bo r.best.length s2.bc) 25)) ((w3.alloc (repO r (.slice s2.lo r.log.length s2.lc) (.slice s2.ao r.acked.length s2.ac) (.slice s2.vo r.votes.length s2.vc) (.slice s2.wo r.voters.length s2.wc) (.slice s2.bo r.best.length s2.bc) 25)).alloc (.cells #[.int .i64 T, .string d] 63)) := (Below.refl _ _).alloc (Nat.le_refl _) _
       have hb6 : Below ((w3.alloc (repO r (.slice s2.lo r.log.length s2.lc) (.slice s2.ao r.acked.length s2.ac) (.slice s2.vo r.votes.length s2.vc) (.slice s2.wo r.voters.length s2.wc) (.slice s2.bo r.best.length s2.bc) 25)).alloc (.cells #[.int .i64 T, .string d] 63)).heap.size ((w3.alloc (repO r (.slice s2.lo r.log.length s2.lc) (.slice s2.ao r.acked.length s2.ac) (.slice s2.vo r.votes.length s2.vc) (.slice s2.wo r.voters.length s2.wc) (.slice s2.bo r.best.length s2.bc) 25)).alloc (.cells #[.int .i64 T, .string d] 63)) (((w3.alloc (repO r (.slice s2.lo r.log.length s2.lc) (.slice s2.ao r.acked.length s2.ac) (.slice s2.vo r.votes.length s2.vc) (.slice s2.wo r.voters.length s2.wc) (.slice s2.bo r.best.length s2.bc) 25)).alloc (.cells #[.int .i64 T, .string d] 63)).alloc (.cells #[.int .i64 T, .string d] 63)) := (Below.refl _ _).alloc (Nat.le_refl _) _
       have b36 : Below w3.heap.size w3 (((w3.alloc (repO r (.slice s2.lo r.log.length s2.lc) (.slice s2.ao r.acked.length s2.ac) (.slice s2.vo r.votes.length s2.vc) (.slice s2.wo r.voters.length s2.wc) (.slice s2.bo r.best.length s2.bc) 25)).alloc (.cells #[.int .i64 T, .string d] 63)).alloc (.cells #[.int .i64 T, .string d] 63)) := below_next (below_next hb4 (Nat.le_refl _) hb5) (Nat.le_refl _) hb6
       have hw6 := below_next (below_next hw2 (Nat.le_refl _) hb3) (Nat.le_refl _) b36
       have by6 := (by2.below hb3).below b36
       have hs3 := Nat.le_trans hs2 hb3.size
       have hB6 : w.heap.size + 2 ≤ (((w3.alloc (repO r (.slice s2.lo r.log.length s2.lc) (.slice s2.ao r.acked.length s2.ac) (.slice s2.vo r.votes.length s2.vc) (.slice s2.wo r.voters.length s2.wc) (.slice s2.bo r.best.length s2.bc) 25)).alloc (.cells #[.int .i64 T, .string d] 63)).alloc (.cells #[.int .i64 T, .string d] 63)).heap.size := Nat.le_trans hs3 b36.size
       have hlw : ∀ k, (Value.slice s2.lo r.log.length s2.lc).ownBlock = some k → k < w3.heap.size := fun k hk => (hR3.log.lt k hk).2
       have hga : w.heap.size + 2 ≤ ga ∧ ga < w3.heap.size := ⟨Nat.le_trans hs2 (hR3.ack.lt ga (by rw [hva]; rfl)).1, (hR3.ack.lt ga (by rw [hva]; rfl)).2⟩
       have bE6 : (((w3.alloc (repO r (.slice s2.lo r.log.length s2.lc) (.slice s2.ao r.acked.length s2.ac) (.slice s2.vo r.votes.length s2.vc) (.slice s2.wo r.voters.length s2.wc) (.slice s2.bo r.best.length s2.bc) 25)).alloc (.cells #[.int .i64 T, .string d] 63)).alloc (.cells #[.int .i64 T, .string d] 63)).heap[w3.heap.size + 1]? = some (.cells #[.int .i64 T, .string d] 63 (0, 0)) := alloc_box _ (heap_newB (w3.alloc (repO r (.slice s2.lo r.log.length s2.lc) (.slice s2.ao r.acked.length s2.ac) (.slice s2.vo r.votes.length s2.vc) (.slice s2.wo r.voters.length s2.wc) (.slice s2.bo r.best.length s2.bc) 25)) _ _ (by simp))
       have hH6 := (hH4.below hb5).below hb6
       obtain ⟨v', w7, hr, ⟨ao7, cap7, rfl⟩, bx7, hH8, hs7, hb7, hoff⟩ := app_en hH6 (by omega) (by decide) (by decide) hB6 (by omega) [(⟨T, d⟩ : Ent)] (by simp) (some ⟨w3.heap.size + 1 + 1, 0, none⟩) 1 (en_held ((w3.alloc (repO r (.slice s2.lo r.log.length s2.lc) (.slice s2.ao r.acked.length s2.ac) (.slice s2.vo r.votes.length s2.vc) (.slice s2.wo r.voters.length s2.wc) (.slice s2.bo r.best.length s2.bc) 25)).alloc (.cells #[.int .i64 T, .string d] 63)) (⟨T, d⟩ : Ent) _ (by simp)) 22
       have hr' : (Builtin.append_ #[22, 22] 22 #[.slice s2.lo r.log.length s2.lc, .slice (some ⟨w3.heap.size + 1 + 1, 0, none⟩) 1 1]).run Try.prog (((w3.alloc (repO r (.slice s2.lo r.log.length s2.lc) (.slice s2.ao r.acked.length s2.ac) (.slice s2.vo r.votes.length s2.vc) (.slice s2.wo r.voters.length s2.wc) (.slice s2.bo r.best.length s2.bc) 25)).alloc (.cells #[.int .i64 T, .string d] 63)).alloc (.cells #[.int .i64 T, .string d] 63)) = _ := hr
       have bE7 : w7.heap[w3.heap.size + 1]? = some (.cells #[.int .i64 T, .string d] 63 (0, 0)) := (hoff _ (by simp) (fun e => by have := hlw _ e; omega)).trans bE6
       have by7 := by6.kept (hb7.block (w.heap.size + 1) (by omega))
       have hw7 := hw6.trans (hb7.mono (show w.heap.size ≤ w.heap.size + 2 by omega))
       have hb7s := hb7.size
       have d5 := bx7.cell 5 (by omega)
       have y5 := bx7.unfrozen 5
       rw [hlg] at hr' hH8
       rw [hva] at hH8
       have hB8 : w.heap.size + 2 ≤ (w7.setCell ⟨w3.heap.size, 5, none⟩ (.slice ao7 lg.length cap7)).heap.size := by rw [World.size_setCell]; exact Nat.le_trans hB6 hb7s
       have bE8 : (w7.setCell ⟨w3.heap.size, 5, none⟩ (.slice ao7 lg.length cap7)).heap[w3.heap.size + 1]? = some (.cells #[.int .i64 T, .string d] 63 (0, 0)) := (Below.heap_setCell _ _ _ _ (by simp)).trans bE7
       have by8 := by7.kept (Below.heap_setCell w7 ⟨w3.heap.size, 5, none⟩ (.slice ao7 lg.length cap7) _ (by show w.heap.size + 1 ≠ w3.heap.size; omega))
       have hw8 := hw7.setCell (p := ⟨w3.heap.size, 5, none⟩) (show w.heap.size ≤ w3.heap.size by omega) (.slice ao7 lg.length cap7)
       obtain ⟨f0, f1, f2, f3, f4, f5, f6, f7, _⟩ := hH8.cells (by omega)
       have ca7 := hH8.rows.ack.cells (g := ga) rfl r.id.toNat (.int .i64 (r.acked[r.id.toNat]'(by omega))) (by simp [inCells])
       rw [Addr.add_lit, Nat.zero_add] at ca7
       have za := hH8.rows.ack.frozenAt r.id.toNat
       obtain ⟨hH9, hs9, hk9⟩ := hold_ack hH8 rfl (by decide) hB8 r.id.toNat (lg.length : Int)
       have bE9 : ((w7.setCell ⟨w3.heap.size, 5, none⟩ (.slice ao7 lg.length cap7)).setCell ⟨ga, r.id.toNat, none⟩ (.int .i64 (lg.length : Int))).heap[w3.heap.size + 1]? = some (.cells #[.int .i64 T, .string d] 63 (0, 0)) := (Below.heap_setCell _ _ _ _ (by show w3.heap.size + 1 ≠ ga; omega)).trans bE8
       have by9 := by8.kept (Below.heap_setCell (w7.setCell ⟨w3.heap.size, 5, none⟩ (.slice ao7 lg.length cap7)) ⟨ga, r.id.toNat, none⟩ (.int .i64 (lg.length : Int)) _ (by show w.heap.size + 1 ≠ ga; omega))
       have hw9 := hw8.setCell (p := ⟨ga, r.id.toNat, none⟩) (show w.heap.size ≤ ga by omega) (.int .i64 (lg.length : Int))
       obtain ⟨m0, m1x, m2x, m3, m4, m5, m6, m7, m8, m9, m10, m11, m12⟩ := hH9.cells (by omega)
       have mz := hH9.box.unfrozen
       clear hcop hH4 hH6 hH8 hR3 hb3 hb4 hb5 hb6 b36 hw6 by6 hB6 hB8 hb7s hlw bE6 hr bx7 hs7 hb7 hoff bE7 by7 hw7 bE8 by8 hw8 hs9 hk9 hva)
    | (at_builtin; refine Lib.wpList_append_run _ rfl _ _ _ _ rfl _ _ rfl rfl _ _ hr' ?_))
  have hH10 := hold_sets hH9 (by omega) (by decide) (by decide) [(6, .int .i64 (lg.length : Int))] (r' := { r with log := lg, acked := r.acked.set r.id.toNat (lg.length : Int), commit := (lg.length : Int) }) (x' := undef) hH9.rows (fun f f' e e' => by subst e e'; exact ⟨rfl, rfl, rfl, rfl, rfl, rfl, rfl, rfl, rfl, rfl, rfl, rfl, rfl, rfl⟩)
  simp only [sets] at hH10
  have bEx : (((w7.setCell ⟨w3.heap.size, 5, none⟩ (.slice ao7 lg.length cap7)).setCell ⟨ga, r.id.toNat, none⟩ (.int .i64 (lg.length : Int))).setCell ⟨w3.heap.size, 6, none⟩ (.int .i64 (lg.length : Int))).heap[w3.heap.size + 1]? = some (.cells #[.int .i64 T, .string d] 63 (0, 0)) := (Below.heap_setCell _ _ _ _ (by simp)).trans bE9
  have byx := by9.kept (Below.heap_setCell ((w7.setCell ⟨w3.heap.size, 5, none⟩ (.slice ao7 lg.length cap7)).setCell ⟨ga, r.id.toNat, none⟩ (.int .i64 (lg.length : Int))) ⟨w3.heap.size, 6, none⟩ (.int .i64 (lg.length : Int)) _ (by show w.heap.size + 1 ≠ w3.heap.size; omega))
  have hwx := hw9.setCell (p := ⟨w3.heap.size, 6, none⟩) (show w.heap.size ≤ w3.heap.size by omega) (.int .i64 (lg.length : Int))
  clear m0 m1x m2x m3 m4 m5 m6 m7 m8 m9 m10 m11 m12 mz hH9 bE9 by9 hw9 f0 f1 f2 f3 f4 f5 f6 f7 ca7 za d5 y5 hr'
  generalize (((w7.setCell ⟨w3.heap.size, 5, none⟩ (.slice ao7 lg.length cap7)).setCell ⟨ga, r.id.toNat, none⟩ (.int .i64 (lg.length : Int))).setCell ⟨w3.heap.size, 6, none⟩ (.int .i64 (lg.length : Int))) = Z at *
  obtain ⟨q, hq⟩ : ∃ q : Rep, q = { r with log := lg, acked := r.acked.set r.id.toNat (lg.length : Int), commit := (lg.length : Int) } := ⟨_, rfl⟩
  have hq1 : q.log = lg := by rw [hq]
  have hq2 : q.id = r.id ∧ q.n = r.n := by rw [hq]; exact ⟨rfl, rfl⟩
  have hHq : Hold 25 13 undef (w.heap.size + 2) Z w3.heap.size q (.slice ao7 q.log.length cap7) (.slice (some ⟨ga, 0, none⟩) q.acked.length ca) (.slice s2.vo q.votes.length s2.vc) (.slice s2.wo q.voters.length s2.wc) (.slice s2.bo q.best.length s2.bc) := by
    rw [hq]
    show Hold 25 13 undef (w.heap.size + 2) Z w3.heap.size _ (.slice ao7 lg.length cap7) (.slice (some ⟨ga, 0, none⟩) (r.acked.set r.id.toNat (lg.length : Int)).length ca) _ _ _
    rw [List.length_set]
    exact hH10
  have hE : Hid (propR r ⟨T, d⟩ = q ∧ propM r ⟨T, d⟩ = allM q (msg 1 (q.log.length : Int) q.commit 0 [(⟨T, d⟩ : Ent)]) ∧ ((r.log.length + 1 : Nat) : Int) = (q.log.length : Int)) := by
    have e1 : propR r ⟨T, d⟩ = q := by rw [hPR.out, hq]
    refine ⟨e1, ?_, by rw [hq1, hlgl.out]⟩
    unfold propM
    rw [e1, hq1, hlgl.out]
  have hZ1 : OneOf q.id q.n := by rw [hq2.1, hq2.2]; exact h1
  have hZo : Below Z.heap.size Z (Z.alloc (.cells #[.int .i64 T, .string d] 63)).drew := ((Below.refl _ Z).alloc (Nat.le_refl _) _).drew
  have hall := rall_low w3.heap.size q (msg 1 (q.log.length : Int) q.commit 0 [(⟨T, d⟩ : Ent)]) (some ⟨Z.heap.size, 0, none⟩) 1 (Z.alloc (.cells #[.int .i64 T, .string d] 63)).drew (hHq.box.below hZo) hZ1 (ownE_liesX (own_below (own_en Z (⟨T, d⟩ : Ent)) (Below.refl _ _).drew)) (by simp)
  clear hH10 hq hq1 hq2 hPR hlgl hlg
  generalize hO : allM q (msg 1 (q.log.length : Int) q.commit 0 [(⟨T, d⟩ : Ent)]) = o at *
  obtain ⟨k0, k1, k2, k3, k4, k5, k6, k7, k8, k9, k10, k11, k12⟩ := hHq.cells (by omega)
  have hcell : ∀ W : World, BoxF W w3.heap.size 25 13 (repF q (.slice ao7 q.log.length cap7) (.slice (some ⟨ga, 0, none⟩) q.acked.length ca) (.slice s2.vo q.votes.length s2.vc) (.slice s2.wo q.voters.length s2.wc) (.slice s2.bo q.best.length s2.bc) undef) → W.heap[w3.heap.size + 1]? = some (.cells #[.int .i64 T, .string d] 63 (0, 0)) → (fun w' : World => w'.cell? ⟨w3.heap.size, 0, none⟩ = some (.int .i64 q.id) ∧ w'.cell? ⟨w3.heap.size, 1, none⟩ = some (.int .i64 q.n) ∧ w'.cell? ⟨w3.heap.size, 2, none⟩ = some (.int .i64 q.view) ∧ w'.cell? ⟨w3.heap.size, 3, none⟩ = some (.int .i64 q.normal) ∧ w'.cell? ⟨w3.heap.size, 4, none⟩ = some (.int .i64 q.how) ∧ w'.cell? ⟨w3.heap.size, 5, none⟩ = some (.slice ao7 q.log.length cap7) ∧ w'.cell? ⟨w3.heap.size, 6, none⟩ = some (.int .i64 q.commit) ∧ w'.cell? ⟨w3.heap.size, 7, none⟩ = some (.slice (some ⟨ga, 0, none⟩) q.acked.length ca) ∧ w'.cell? ⟨w3.heap.size, 8, none⟩ = some (.slice s2.vo q.votes.length s2.vc) ∧ w'.cell? ⟨w3.heap.size, 9, none⟩ = some (.slice s2.wo q.voters.length s2.wc) ∧ w'.cell? ⟨w3.heap.size, 10, none⟩ = some (.slice s2.bo q.best.length s2.bc) ∧ w'.cell? ⟨w3.heap.size, 11, none⟩ = some (.int .i64 q.bestView) ∧ w'.cell? ⟨w3.heap.size, 12, none⟩ = some (.int .i64 q.bestDone) ∧ w'.cell? ⟨w3.heap.size + 1, 0, none⟩ = some (.int .i64 T) ∧ w'.cell? ⟨w3.heap.size + 1, 1, none⟩ = some (.string d)) W := fun W h1 h2 => by
    obtain ⟨t0, t1, t2, t3, t4, t5, t6, t7, t8, t9, t10, t11, t12⟩ := h1.rep (by omega)
    exact ⟨t0, t1, t2, t3, t4, t5, t6, t7, t8, t9, t10, t11, t12, box_cell h2 0 _ rfl, box_cell h2 1 _ rfl⟩
  have hwo := below_next hwx (Nat.le_refl _) hZo
  have bEo := below_box hZo bEx
  have bQo := hHq.box.below hZo
  have hS0 := hcell _ hHq.box bEx
  have hS1 := hcell _ bQo bEo
  have hS6 := hcell _ hHq.box.drew (heap_drew bEx)
  have hS7 := hcell _ (hHq.box.drew.alloc (.cells #[.int .i64 T, .string d] 63)) (alloc_box (.cells #[.int .i64 T, .string d] 63) (heap_drew bEx))
  have hS2 := hcell _ (hHq.box.alloc (.cells #[.int .i64 T, .string d] 63)) (alloc_box (.cells #[.int .i64 T, .string d] 63) bEx)
  have hlt3 : w.heap.size + 1 ≠ w3.heap.size ∧ w.heap.size + 1 ≠ w3.heap.size + 1 := by omega
  clear k0 k1 k2 k3 k4 k5 k6 k7 k8 k9 k10 k11 k12
  go_region_held_law (fun w' : World => w'.cell? ⟨w3.heap.size, 0, none⟩ = some (.int .i64 q.id) ∧ w'.cell? ⟨w3.heap.size, 1, none⟩ = some (.int .i64 q.n) ∧ w'.cell? ⟨w3.heap.size, 2, none⟩ = some (.int .i64 q.view) ∧ w'.cell? ⟨w3.heap.size, 3, none⟩ = some (.int .i64 q.normal) ∧ w'.cell? ⟨w3.heap.size, 4, none⟩ = some (.int .i64 q.how) ∧ w'.cell? ⟨w3.heap.size, 5, none⟩ = some (.slice ao7 q.log.length cap7) ∧ w'.cell? ⟨w3.heap.size, 6, none⟩ = some (.int .i64 q.commit) ∧ w'.cell? ⟨w3.heap.size, 7, none⟩ = some (.slice (some ⟨ga, 0, none⟩) q.acked.length ca) ∧ w'.cell? ⟨w3.heap.size, 8, none⟩ = some (.slice s2.vo q.votes.length s2.vc) ∧ w'.cell? ⟨w3.heap.size, 9, none⟩ = some (.slice s2.wo q.voters.length s2.wc) ∧ w'.cell? ⟨w3.heap.size, 10, none⟩ = some (.slice s2.bo q.best.length s2.bc) ∧ w'.cell? ⟨w3.heap.size, 11, none⟩ = some (.int .i64 q.bestView) ∧ w'.cell? ⟨w3.heap.size, 12, none⟩ = some (.int .i64 q.bestDone) ∧ w'.cell? ⟨w3.heap.size + 1, 0, none⟩ = some (.int .i64 T) ∧ w'.cell? ⟨w3.heap.size + 1, 1, none⟩ = some (.string d)) (first | with_reducible exact hS0 | with_reducible exact hS6 | with_reducible exact hS7 | with_reducible exact hS1 | with_reducible exact hS2 | with_reducible exact hS3 | with_reducible exact hS4 | with_reducible exact hS5)
    (first
    | (go_at_call 41; refine hall.mono ?_; rintro e w11 ⟨v, rfl, hO11, hb11⟩
       obtain ⟨xo, xc, rfl⟩ := hO11.shape
       have hw11 := below_next hwo (Nat.le_refl _) hb11
       have bz := (byx.below hZo).below hb11
       have hHf := (hHq.below hZo).below hb11
       obtain ⟨bG, hS, hwG⟩ := res_box (show w.heap.size ≤ w.heap.size + 1 by omega) bz hw11 q ⟨ao7, cap7, some ⟨ga, 0, none⟩, ca, s2.vo, s2.vc, s2.wo, s2.wc, s2.bo, s2.bc⟩
       have hRG := rowsS_lies ((show RowsS (w.heap.size + 2) w11 q ⟨ao7, cap7, some ⟨ga, 0, none⟩, ca, s2.vo, s2.vc, s2.wo, s2.wc, s2.bo, s2.bc⟩ from hHf.rows).stay hS (by decide) (by decide))
       have hOG := ownO_liesM (ownO_stay hO11 hS (by decide) (by decide))
       have hS3 := hcell _ hHf.box (below_box hb11 bEo)
       have hS4 := hcell _ (hHf.box.kept (sets_far hlt3.1.symm [(0, .int .i64 q.id), (1, .int .i64 q.n), (2, .int .i64 q.view), (3, .int .i64 q.normal), (4, .int .i64 q.how), (5, .slice ao7 q.log.length cap7), (6, .int .i64 q.commit), (7, .slice (some ⟨ga, 0, none⟩) q.acked.length ca), (8, .slice s2.vo q.votes.length s2.vc), (9, .slice s2.wo q.voters.length s2.wc), (10, .slice s2.bo q.best.length s2.bc), (11, .int .i64 q.bestView), (12, .int .i64 q.bestDone)] w11)) ((sets_far hlt3.2.symm [(0, .int .i64 q.id), (1, .int .i64 q.n), (2, .int .i64 q.view), (3, .int .i64 q.normal), (4, .int .i64 q.how), (5, .slice ao7 q.log.length cap7), (6, .int .i64 q.commit), (7, .slice (some ⟨ga, 0, none⟩) q.acked.length ca), (8, .slice s2.vo q.votes.length s2.vc), (9, .slice s2.wo q.voters.length s2.wc), (10, .slice s2.bo q.best.length s2.bc), (11, .int .i64 q.bestView), (12, .int .i64 q.bestDone)] w11).trans (below_box hb11 bEo))
       have hS5 := hcell _ (hHf.box.kept (sets_far hlt3.1.symm [(0, .int .i64 q.id), (1, .int .i64 q.n), (2, .int .i64 q.view), (3, .int .i64 q.normal), (4, .int .i64 q.how), (5, .slice ao7 q.log.length cap7), (6, .int .i64 q.commit), (7, .slice (some ⟨ga, 0, none⟩) q.acked.length ca), (8, .slice s2.vo q.votes.length s2.vc), (9, .slice s2.wo q.voters.length s2.wc), (10, .slice s2.bo q.best.length s2.bc), (11, .int .i64 q.bestView), (12, .int .i64 q.bestDone)] w11)).drew (heap_drew ((sets_far hlt3.2.symm [(0, .int .i64 q.id), (1, .int .i64 q.n), (2, .int .i64 q.view), (3, .int .i64 q.normal), (4, .int .i64 q.how), (5, .slice ao7 q.log.length cap7), (6, .int .i64 q.commit), (7, .slice (some ⟨ga, 0, none⟩) q.acked.length ca), (8, .slice s2.vo q.votes.length s2.vc), (9, .slice s2.wo q.voters.length s2.wc), (10, .slice s2.bo q.best.length s2.bc), (11, .int .i64 q.bestView), (12, .int .i64 q.bestDone)] w11).trans (below_box hb11 bEo)))
       obtain ⟨d0, d1, d2, d3, d4, d5, d6, d7, d8, d9, d10, d11, d12⟩ := bz.rep (by omega)
       have dz := bz.unfrozen
       have HG : Hid _ := bG.rep (by omega)
       simp only [sets] at hRG hOG hwG hS4 hS5
       clear hS bG bz hHf hw11 hall))
  all_goals
    go_wp2
    obtain ⟨g0, g1, g2, g3, g4, g5, g6, g7, g8, g9, g10, g11, g12⟩ := HG.out
    simp only [sets] at g0 g1 g2 g3 g4 g5 g6 g7 g8 g9 g10 g11 g12
    refine bodyPost_ret (v := .tuple #[repV q ⟨ao7, cap7, some ⟨ga, 0, none⟩, ca, s2.vo, s2.vc, s2.wo, s2.wc, s2.bo, s2.bc⟩, .slice xo o.length xc, .int .i64 (q.log.length : Int), .int .i64 0]) (by simp [results, Try.results17, go_sem, g0, g1, g2, g3, g4, g5, g6, g7, g8, g9, g10, g11, g12]) rfl ⟨⟨ao7, cap7, some ⟨ga, 0, none⟩, ca, s2.vo, s2.vc, s2.wo, s2.wc, s2.bo, s2.bc⟩, xo, xc, by rw [hE.out.1, hE.out.2.1, hE.out.2.2], by rw [hE.out.1]; exact hRG, by rw [hE.out.2.1]; exact hOG, hwG⟩
set_option maxRecDepth 100000 in
set_option maxHeartbeats 1000000 in
theorem rpro_yem (r : Rep) (s : Sl) (hsm : SmallR r) (time : Int) (d : ByteArray) (hyes : May r) (ht : 0 ≤ time ∧ time < 1099511627776) (hd : d.size ≤ 20000) (hh : r.how = 0) (hpm : r.view % r.n = r.id) (T : Int) (hT : propT r time = T) (hne : r.log = []) (hlen : r.log.length < 1000) (hTm : T < 1099511627776) (hn : ¬ r.n = 1) (w : World) (hl : LiesR w w.heap.size s r) :
    Calls Try.prog 17 #[repV r s, .int .i64 time, .string d] w fun x w' => ∃ s' xo xc, x = .returned (.tuple #[repV (propR r ⟨T, d⟩) s', .slice xo (propM r ⟨T, d⟩).length xc, .int .i64 ((r.log.length + 1 : Nat) : Int), .int .i64 0]) ∧ LiesR w' w'.heap.size s' (propR r ⟨T, d⟩) ∧ LiesM w' w'.heap.size xo (propM r ⟨T, d⟩) ∧ Below w.heap.size w w' := by
  have hB : Below w.heap.size w ((w.alloc (repO r (.slice s.lo r.log.length s.lc) (.slice s.ao r.acked.length s.ac) (.slice s.vo r.votes.length s.vc) (.slice s.wo r.voters.length s.wc) (.slice s.bo r.best.length s.bc) 25)).alloc (repO0 25)) := ((Below.refl _ w).alloc (Nat.le_refl _) _).alloc (by simp) _
  have hsz : ((w.alloc (repO r (.slice s.lo r.log.length s.lc) (.slice s.ao r.acked.length s.ac) (.slice s.vo r.votes.length s.vc) (.slice s.wo r.voters.length s.wc) (.slice s.bo r.best.length s.bc) 25)).alloc (repO0 25)).heap.size = w.heap.size + 2 := by simp
  have bx0 := (box_rep w r (.slice s.lo r.log.length s.lc) (.slice s.ao r.acked.length s.ac) (.slice s.vo r.votes.length s.vc) (.slice s.wo r.voters.length s.wc) (.slice s.bo r.best.length s.bc) undef 25 w.heap.size rfl).alloc (repO0 25)
  have by0 := box_rep0 (w.alloc (repO r (.slice s.lo r.log.length s.lc) (.slice s.ao r.acked.length s.ac) (.slice s.vo r.votes.length s.vc) (.slice s.wo r.voters.length s.wc) (.slice s.bo r.best.length s.bc) 25)) undef 25 (w.heap.size + 1) (by simp)
  have hmay := rmay_any r s (small_m0 hsm) ((w.alloc (repO r (.slice s.lo r.log.length s.lc) (.slice s.ao r.acked.length s.ac) (.slice s.vo r.votes.length s.vc) (.slice s.wo r.voters.length s.wc) (.slice s.bo r.best.length s.bc) 25)).alloc (repO0 25)) (liesR_next hl hB hB.size)
  rw [tru_yes hyes] at hmay
  have htm := fun W => rtime_any time W
  rw [tru_yes ht] at htm
  have q2 : ¬ (20000 : Int) < (d.size : Int) := by omega
  have hv := hyes.views.1
  have h1 := hyes.one
  have hh1 : (r.how != 0) = false := by simp [hh]
  have hprim := fun W b => rprimary_any w.heap.size r W (vl := .slice s.lo r.log.length s.lc) (va := .slice s.ao r.acked.length s.ac) (vv := .slice s.vo r.votes.length s.vc) (vw := .slice s.wo r.voters.length s.wc) (vb := .slice s.bo r.best.length s.bc) b h1 hv
  rw [decide_eq_true hpm] at hprim
  clear hpm hh
  have m1 : max time 1 = T := by
    have : max (max time 1) (lastT r.log + 1) = T := hT
    rw [hne] at this
    have h0 : lastT ([] : List Ent) = 0 := rfl
    omega
  have i3 : ¬ (0 : Int) < (r.log.length : Int) := by rw [hne]; simp
  clear hT hne
  have j1 : ¬ (1000 : Int) ≤ (r.log.length : Int) := by omega
  have j2 : ¬ (1099511627776 : Int) ≤ T := by omega
  have hal := hyes.ack.1
  have hnb := one_bounds h1
  have hn2 : (r.n == 1) = false := by simp [hn]
  have hn3 : decide (r.n = 1) = false := by simp [hn]
  have n1 : r.id < (r.acked.length : Int) := by omega
  have n2 : ¬ r.id < 0 := by omega
  have hcopy := fun W h => rcopy_any r s hsm W h
  obtain ⟨lg, hlg⟩ : ∃ lg, r.log ++ [(⟨T, d⟩ : Ent)] = lg := ⟨_, rfl⟩
  have hlgl : Hid (lg.length = r.log.length + 1) := by rw [← hlg]; simp [Hid]
  have hPR : Hid (propR r ⟨T, d⟩ = { r with log := lg, acked := r.acked.set r.id.toNat (lg.length : Int) }) := by
    unfold Hid propR
    rw [if_neg hn, hlg, hlgl.out]
  clear hyes hsm 
  go_enter Try.func17, Try.ntmps17
  go_wp2_with (first
    | (go_at_call 14; refine hmay.mono ?_; rintro e w1 ⟨rfl, hb1⟩
       have bx1 := bx0.below hb1
       have by1 := by0.below hb1
       have hw1 := hB.trans (hb1.mono hB.size)
       have hs1 := hb1.size
       rw [hsz] at hs1
       obtain ⟨a0, a1, a2, a3, a4, a5, a6, a7, a8, a9, a10, a11, a12⟩ := bx1.rep (by omega)
       have hpr := hprim _ bx1
       clear hmay bx0 by0)
    | (go_at_call 34; refine (htm _).mono ?_; rintro e wn ⟨rfl, hq⟩; have hq' := hq.symm; clear hq; subst hq')
    | (go_at_call 40; refine hpr.mono ?_; rintro e w2 ⟨rfl, hb2⟩
       have bx2 := bx1.below hb2
       have by2 := by1.below hb2
       have hw2 := below_next hw1 (Nat.le_refl _) hb2
       have hs2 := Nat.le_trans hs1 hb2.size
       obtain ⟨p0, p1, p2, p3, p4, p5, p6, p7, p8, p9, p10, p11, p12⟩ := bx2.rep (by omega)
       have hcop := hcopy _ (liesR_next hl hw2 hw2.size)
       clear hpr)
    | (go_at_call 15; refine hcop.mono ?_; rintro e w3 ⟨s2, rfl, hR3, hb3⟩
       obtain ⟨ga, ca, hva⟩ := own_someV hR3.ack (by omega)
       have hH4 := holdR_new (B := w.heap.size + 2) hs2 hb3 hR3
       have hb4 : Below w3.heap.size w3 (w3.alloc (repO r (.slice s2.lo r.log.length s2.lc) (.slice s2.ao r.acked.length s2.ac) (.slice s2.vo r.votes.length s2.vc) (.slice s2.wo r.voters.length s2.wc) (.slice s2.bo r.best.length s2.bc) 25)) := (Below.refl _ w3).alloc (Nat.le_refl _) _
       have hb5 : Below (w3.alloc (repO r (.slice s2.lo r.log.length s2.lc) (.slice s2.ao r.acked.length s2.ac) (.slice s2.vo r.votes.length s2.vc) (.slice s2.wo r.voters.length s2.wc) (.slice s2.bo r.best.length s2.bc) 25)).heap.size (w3.alloc (repO r (.slice s2.lo r.log.length s2.lc) (.slice s2.ao r.acked.length s2.ac) (.slice s2.vo r.votes.length s2.vc) (.slice s2.wo r.voters.length s2.wc) (.slice s2.bo r.best.length s2.bc) 25)) ((w3.alloc (repO r (.slice s2.lo r.log.length s2.lc) (.slice s2.ao r.acked.length s2.ac) (.slice s2.vo r.votes.length s2.vc) (.slice s2.wo r.voters.length s2.wc) (.slice s2.bo r.best.length s2.bc) 25)).alloc (.cells #[.int .i64 T, .string d] 63)) := (Below.refl _ _).alloc (Nat.le_refl _) _
       have hb6 : Below ((w3.alloc (repO r (.slice s2.lo r.log.length s2.lc) (.slice s2.ao r.acked.length s2.ac) (.slice s2.vo r.votes.length s2.vc) (.slice s2.wo r.voters.length s2.wc) (.slice s2.bo r.best.length s2.bc) 25)).alloc (.cells #[.int .i64 T, .string d] 63)).heap.size ((w3.alloc (repO r (.slice s2.lo r.log.length s2.lc) (.slice s2.ao r.acked.length s2.ac) (.slice s2.vo r.votes.length s2.vc) (.slice s2.wo r.voters.length s2.wc) (.slice s2.bo r.best.length s2.bc) 25)).alloc (.cells #[.int .i64 T, .string d] 63)) (((w3.alloc (repO r (.slice s2.lo r.log.length s2.lc) (.slice s2.ao r.acked.length s2.ac) (.slice s2.vo r.votes.length s2.vc) (.slice s2.wo r.voters.length s2.wc) (.slice s2.bo r.best.length s2.bc) 25)).alloc (.cells #[.int .i64 T, .string d] 63)).alloc (.cells #[.int .i64 T, .string d] 63)) := (Below.refl _ _).alloc (Nat.le_refl _) _
       have b36 : Below w3.heap.size w3 (((w3.alloc (repO r (.slice s2.lo r.log.length s2.lc) (.slice s2.ao r.acked.length s2.ac) (.slice s2.vo r.votes.length s2.vc) (.slice s2.wo r.voters.length s2.wc) (.slice s2.bo r.best.length s2.bc) 25)).alloc (.cells #[.int .i64 T, .string d] 63)).alloc (.cells #[.int .i64 T, .string d] 63)) := below_next (below_next hb4 (Nat.le_refl _) hb5) (Nat.le_refl _) hb6
       have hw6 := below_next (below_next hw2 (Nat.le_refl _) hb3) (Nat.le_refl _) b36
       have by6 := (by2.below hb3).below b36
       have hs3 := Nat.le_trans hs2 hb3.size
       have hB6 : w.heap.size + 2 ≤ (((w3.alloc (repO r (.slice s2.lo r.log.length s2.lc) (.slice s2.ao r.acked.length s2.ac) (.slice s2.vo r.votes.length s2.vc) (.slice s2.wo r.voters.length s2.wc) (.slice s2.bo r.best.length s2.bc) 25)).alloc (.cells #[.int .i64 T, .string d] 63)).alloc (.cells #[.int .i64 T, .string d] 63)).heap.size := Nat.le_trans hs3 b36.size
       have hlw : ∀ k, (Value.slice s2.lo r.log.length s2.lc).ownBlock = some k → k < w3.heap.size := fun k hk => (hR3.log.lt k hk).2
       have hga : w.heap.size + 2 ≤ ga ∧ ga < w3.heap.size := ⟨Nat.le_trans hs2 (hR3.ack.lt ga (by rw [hva]; rfl)).1, (hR3.ack.lt ga (by rw [hva]; rfl)).2⟩
       have bE6 : (((w3.alloc (repO r (.slice s2.lo r.log.length s2.lc) (.slice s2.ao r.acked.length s2.ac) (.slice s2.vo r.votes.length s2.vc) (.slice s2.wo r.voters.length s2.wc) (.slice s2.bo r.best.length s2.bc) 25)).alloc (.cells #[.int .i64 T, .string d] 63)).alloc (.cells #[.int .i64 T, .string d] 63)).heap[w3.heap.size + 1]? = some (.cells #[.int .i64 T, .string d] 63 (0, 0)) := alloc_box _ (heap_newB (w3.alloc (repO r (.slice s2.lo r.log.length s2.lc) (.slice s2.ao r.acked.length s2.ac) (.slice s2.vo r.votes.length s2.vc) (.slice s2.wo r.voters.length s2.wc) (.slice s2.bo r.best.length s2.bc) 25)) _ _ (by simp))
       have hH6 := (hH4.below hb5).below hb6
       obtain ⟨v', w7, hr, ⟨ao7, cap7, rfl⟩, bx7, hH8, hs7, hb7, hoff⟩ := app_en hH6 (by omega) (by decide) (by decide) hB6 (by omega) [(⟨T, d⟩ : Ent)] (by simp) (some ⟨w3.heap.size + 1 + 1, 0, none⟩) 1 (en_held ((w3.alloc (repO r (.slice s2.lo r.log.length s2.lc) (.slice s2.ao r.acked.length s2.ac) (.slice s2.vo r.votes.length s2.vc) (.slice s2.wo r.voters.length s2.wc) (.slice s2.bo r.best.length s2.bc) 25)).alloc (.cells #[.int .i64 T, .string d] 63)) (⟨T, d⟩ : Ent) _ (by simp)) 22
       have hr' : (Builtin.append_ #[22, 22] 22 #[.slice s2.lo r.log.length s2.lc, .slice (some ⟨w3.heap.size + 1 + 1, 0, none⟩) 1 1]).run Try.prog (((w3.alloc (repO r (.slice s2.lo r.log.length s2.lc) (.slice s2.ao r.acked.length s2.ac) (.slice s2.vo r.votes.length s2.vc) (.slice s2.wo r.voters.length s2.wc) (.slice s2.bo r.best.length s2.bc) 25)).alloc (.cells #[.int .i64 T, .string d] 63)).alloc (.cells #[.int .i64 T, .string d] 63)) = _ := hr
       have bE7 : w7.heap[w3.heap.size + 1]? = some (.cells #[.int .i64 T, .string d] 63 (0, 0)) := (hoff _ (by simp) (fun e => by have := hlw _ e; omega)).trans bE6
       have by7 := by6.kept (hb7.block (w.heap.size + 1) (by omega))
       have hw7 := hw6.trans (hb7.mono (show w.heap.size ≤ w.heap.size + 2 by omega))
       have hb7s := hb7.size
       have d5 := bx7.cell 5 (by omega)
       have y5 := bx7.unfrozen 5
       rw [hlg] at hr' hH8
       rw [hva] at hH8
       have hB8 : w.heap.size + 2 ≤ (w7.setCell ⟨w3.heap.size, 5, none⟩ (.slice ao7 lg.length cap7)).heap.size := by rw [World.size_setCell]; exact Nat.le_trans hB6 hb7s
       have bE8 : (w7.setCell ⟨w3.heap.size, 5, none⟩ (.slice ao7 lg.length cap7)).heap[w3.heap.size + 1]? = some (.cells #[.int .i64 T, .string d] 63 (0, 0)) := (Below.heap_setCell _ _ _ _ (by simp)).trans bE7
       have by8 := by7.kept (Below.heap_setCell w7 ⟨w3.heap.size, 5, none⟩ (.slice ao7 lg.length cap7) _ (by show w.heap.size + 1 ≠ w3.heap.size; omega))
       have hw8 := hw7.setCell (p := ⟨w3.heap.size, 5, none⟩) (show w.heap.size ≤ w3.heap.size by omega) (.slice ao7 lg.length cap7)
       obtain ⟨f0, f1, f2, f3, f4, f5, f6, f7, _⟩ := hH8.cells (by omega)
       have ca7 := hH8.rows.ack.cells (g := ga) rfl r.id.toNat (.int .i64 (r.acked[r.id.toNat]'(by omega))) (by simp [inCells])
       rw [Addr.add_lit, Nat.zero_add] at ca7
       have za := hH8.rows.ack.frozenAt r.id.toNat
       obtain ⟨hH9, hs9, hk9⟩ := hold_ack hH8 rfl (by decide) hB8 r.id.toNat (lg.length : Int)
       have bE9 : ((w7.setCell ⟨w3.heap.size, 5, none⟩ (.slice ao7 lg.length cap7)).setCell ⟨ga, r.id.toNat, none⟩ (.int .i64 (lg.length : Int))).heap[w3.heap.size + 1]? = some (.cells #[.int .i64 T, .string d] 63 (0, 0)) := (Below.heap_setCell _ _ _ _ (by show w3.heap.size + 1 ≠ ga; omega)).trans bE8
       have by9 := by8.kept (Below.heap_setCell (w7.setCell ⟨w3.heap.size, 5, none⟩ (.slice ao7 lg.length cap7)) ⟨ga, r.id.toNat, none⟩ (.int .i64 (lg.length : Int)) _ (by show w.heap.size + 1 ≠ ga; omega))
       have hw9 := hw8.setCell (p := ⟨ga, r.id.toNat, none⟩) (show w.heap.size ≤ ga by omega) (.int .i64 (lg.length : Int))
       obtain ⟨m0, m1x, m2x, m3, m4, m5, m6, m7, m8, m9, m10, m11, m12⟩ := hH9.cells (by omega)
       have mz := hH9.box.unfrozen
       clear hcop hH4 hH6 hH8 hR3 hb3 hb4 hb5 hb6 b36 hw6 by6 hB6 hB8 hb7s hlw bE6 hr bx7 hs7 hb7 hoff bE7 by7 hw7 bE8 by8 hw8 hs9 hk9 hva)
    | (at_builtin; refine Lib.wpList_append_run _ rfl _ _ _ _ rfl _ _ rfl rfl _ _ hr' ?_))
  have hH10 := hH9
  have bEx := bE9
  have byx := by9
  have hwx := hw9
  clear m0 m1x m2x m3 m4 m5 m6 m7 m8 m9 m10 m11 m12 mz hH9 bE9 by9 hw9 f0 f1 f2 f3 f4 f5 f6 f7 ca7 za d5 y5 hr'
  generalize ((w7.setCell ⟨w3.heap.size, 5, none⟩ (.slice ao7 lg.length cap7)).setCell ⟨ga, r.id.toNat, none⟩ (.int .i64 (lg.length : Int))) = Z at *
  obtain ⟨q, hq⟩ : ∃ q : Rep, q = { r with log := lg, acked := r.acked.set r.id.toNat (lg.length : Int) } := ⟨_, rfl⟩
  have hq1 : q.log = lg := by rw [hq]
  have hq2 : q.id = r.id ∧ q.n = r.n := by rw [hq]; exact ⟨rfl, rfl⟩
  have hHq : Hold 25 13 undef (w.heap.size + 2) Z w3.heap.size q (.slice ao7 q.log.length cap7) (.slice (some ⟨ga, 0, none⟩) q.acked.length ca) (.slice s2.vo q.votes.length s2.vc) (.slice s2.wo q.voters.length s2.wc) (.slice s2.bo q.best.length s2.bc) := by
    rw [hq]
    show Hold 25 13 undef (w.heap.size + 2) Z w3.heap.size _ (.slice ao7 lg.length cap7) (.slice (some ⟨ga, 0, none⟩) (r.acked.set r.id.toNat (lg.length : Int)).length ca) _ _ _
    rw [List.length_set]
    exact hH10
  have hE : Hid (propR r ⟨T, d⟩ = q ∧ propM r ⟨T, d⟩ = allM q (msg 1 (q.log.length : Int) q.commit 0 [(⟨T, d⟩ : Ent)]) ∧ ((r.log.length + 1 : Nat) : Int) = (q.log.length : Int)) := by
    have e1 : propR r ⟨T, d⟩ = q := by rw [hPR.out, hq]
    refine ⟨e1, ?_, by rw [hq1, hlgl.out]⟩
    unfold propM
    rw [e1, hq1, hlgl.out]
  have hZ1 : OneOf q.id q.n := by rw [hq2.1, hq2.2]; exact h1
  have hZo : Below Z.heap.size Z (Z.alloc (.cells #[.int .i64 T, .string d] 63)).drew := ((Below.refl _ Z).alloc (Nat.le_refl _) _).drew
  have hall := rall_low w3.heap.size q (msg 1 (q.log.length : Int) q.commit 0 [(⟨T, d⟩ : Ent)]) (some ⟨Z.heap.size, 0, none⟩) 1 (Z.alloc (.cells #[.int .i64 T, .string d] 63)).drew (hHq.box.below hZo) hZ1 (ownE_liesX (own_below (own_en Z (⟨T, d⟩ : Ent)) (Below.refl _ _).drew)) (by simp)
  clear hH10 hq hq1 hq2 hPR hlgl hlg
  generalize hO : allM q (msg 1 (q.log.length : Int) q.commit 0 [(⟨T, d⟩ : Ent)]) = o at *
  obtain ⟨k0, k1, k2, k3, k4, k5, k6, k7, k8, k9, k10, k11, k12⟩ := hHq.cells (by omega)
  have hcell : ∀ W : World, BoxF W w3.heap.size 25 13 (repF q (.slice ao7 q.log.length cap7) (.slice (some ⟨ga, 0, none⟩) q.acked.length ca) (.slice s2.vo q.votes.length s2.vc) (.slice s2.wo q.voters.length s2.wc) (.slice s2.bo q.best.length s2.bc) undef) → W.heap[w3.heap.size + 1]? = some (.cells #[.int .i64 T, .string d] 63 (0, 0)) → (fun w' : World => w'.cell? ⟨w3.heap.size, 0, none⟩ = some (.int .i64 q.id) ∧ w'.cell? ⟨w3.heap.size, 1, none⟩ = some (.int .i64 q.n) ∧ w'.cell? ⟨w3.heap.size, 2, none⟩ = some (.int .i64 q.view) ∧ w'.cell? ⟨w3.heap.size, 3, none⟩ = some (.int .i64 q.normal) ∧ w'.cell? ⟨w3.heap.size, 4, none⟩ = some (.int .i64 q.how) ∧ w'.cell? ⟨w3.heap.size, 5, none⟩ = some (.slice ao7 q.log.length cap7) ∧ w'.cell? ⟨w3.heap.size, 6, none⟩ = some (.int .i64 q.commit) ∧ w'.cell? ⟨w3.heap.size, 7, none⟩ = some (.slice (some ⟨ga, 0, none⟩) q.acked.length ca) ∧ w'.cell? ⟨w3.heap.size, 8, none⟩ = some (.slice s2.vo q.votes.length s2.vc) ∧ w'.cell? ⟨w3.heap.size, 9, none⟩ = some (.slice s2.wo q.voters.length s2.wc) ∧ w'.cell? ⟨w3.heap.size, 10, none⟩ = some (.slice s2.bo q.best.length s2.bc) ∧ w'.cell? ⟨w3.heap.size, 11, none⟩ = some (.int .i64 q.bestView) ∧ w'.cell? ⟨w3.heap.size, 12, none⟩ = some (.int .i64 q.bestDone) ∧ w'.cell? ⟨w3.heap.size + 1, 0, none⟩ = some (.int .i64 T) ∧ w'.cell? ⟨w3.heap.size + 1, 1, none⟩ = some (.string d)) W := fun W h1 h2 => by
    obtain ⟨t0, t1, t2, t3, t4, t5, t6, t7, t8, t9, t10, t11, t12⟩ := h1.rep (by omega)
    exact ⟨t0, t1, t2, t3, t4, t5, t6, t7, t8, t9, t10, t11, t12, box_cell h2 0 _ rfl, box_cell h2 1 _ rfl⟩
  have hwo := below_next hwx (Nat.le_refl _) hZo
  have bEo := below_box hZo bEx
  have bQo := hHq.box.below hZo
  have hS0 := hcell _ hHq.box bEx
  have hS1 := hcell _ bQo bEo
  have hS6 := hcell _ hHq.box.drew (heap_drew bEx)
  have hS7 := hcell _ (hHq.box.drew.alloc (.cells #[.int .i64 T, .string d] 63)) (alloc_box (.cells #[.int .i64 T, .string d] 63) (heap_drew bEx))
  have hS2 := hcell _ (hHq.box.alloc (.cells #[.int .i64 T, .string d] 63)) (alloc_box (.cells #[.int .i64 T, .string d] 63) bEx)
  have hlt3 : w.heap.size + 1 ≠ w3.heap.size ∧ w.heap.size + 1 ≠ w3.heap.size + 1 := by omega
  clear k0 k1 k2 k3 k4 k5 k6 k7 k8 k9 k10 k11 k12
  go_region_held_law (fun w' : World => w'.cell? ⟨w3.heap.size, 0, none⟩ = some (.int .i64 q.id) ∧ w'.cell? ⟨w3.heap.size, 1, none⟩ = some (.int .i64 q.n) ∧ w'.cell? ⟨w3.heap.size, 2, none⟩ = some (.int .i64 q.view) ∧ w'.cell? ⟨w3.heap.size, 3, none⟩ = some (.int .i64 q.normal) ∧ w'.cell? ⟨w3.heap.size, 4, none⟩ = some (.int .i64 q.how) ∧ w'.cell? ⟨w3.heap.size, 5, none⟩ = some (.slice ao7 q.log.length cap7) ∧ w'.cell? ⟨w3.heap.size, 6, none⟩ = some (.int .i64 q.commit) ∧ w'.cell? ⟨w3.heap.size, 7, none⟩ = some (.slice (some ⟨ga, 0, none⟩) q.acked.length ca) ∧ w'.cell? ⟨w3.heap.size, 8, none⟩ = some (.slice s2.vo q.votes.length s2.vc) ∧ w'.cell? ⟨w3.heap.size, 9, none⟩ = some (.slice s2.wo q.voters.length s2.wc) ∧ w'.cell? ⟨w3.heap.size, 10, none⟩ = some (.slice s2.bo q.best.length s2.bc) ∧ w'.cell? ⟨w3.heap.size, 11, none⟩ = some (.int .i64 q.bestView) ∧ w'.cell? ⟨w3.heap.size, 12, none⟩ = some (.int .i64 q.bestDone) ∧ w'.cell? ⟨w3.heap.size + 1, 0, none⟩ = some (.int .i64 T) ∧ w'.cell? ⟨w3.heap.size + 1, 1, none⟩ = some (.string d)) (first | with_reducible exact hS0 | with_reducible exact hS6 | with_reducible exact hS7 | with_reducible exact hS1 | with_reducible exact hS2 | with_reducible exact hS3 | with_reducible exact hS4 | with_reducible exact hS5)
    (first
    | (go_at_call 41; refine hall.mono ?_; rintro e w11 ⟨v, rfl, hO11, hb11⟩
       obtain ⟨xo, xc, rfl⟩ := hO11.shape
       have hw11 := below_next hwo (Nat.le_refl _) hb11
       have bz := (byx.below hZo).below hb11
       have hHf := (hHq.below hZo).below hb11
       obtain ⟨bG, hS, hwG⟩ := res_box (show w.heap.size ≤ w.heap.size + 1 by omega) bz hw11 q ⟨ao7, cap7, some ⟨ga, 0, none⟩, ca, s2.vo, s2.vc, s2.wo, s2.wc, s2.bo, s2.bc⟩
       have hRG := rowsS_lies ((show RowsS (w.heap.size + 2) w11 q ⟨ao7, cap7, some ⟨ga, 0, none⟩, ca, s2.vo, s2.vc, s2.wo, s2.wc, s2.bo, s2.bc⟩ from hHf.rows).stay hS (by decide) (by decide))
       have hOG := ownO_liesM (ownO_stay hO11 hS (by decide) (by decide))
       have hS3 := hcell _ hHf.box (below_box hb11 bEo)
       have hS4 := hcell _ (hHf.box.kept (sets_far hlt3.1.symm [(0, .int .i64 q.id), (1, .int .i64 q.n), (2, .int .i64 q.view), (3, .int .i64 q.normal), (4, .int .i64 q.how), (5, .slice ao7 q.log.length cap7), (6, .int .i64 q.commit), (7, .slice (some ⟨ga, 0, none⟩) q.acked.length ca), (8, .slice s2.vo q.votes.length s2.vc), (9, .slice s2.wo q.voters.length s2.wc), (10, .slice s2.bo q.best.length s2.bc), (11, .int .i64 q.bestView), (12, .int .i64 q.bestDone)] w11)) ((sets_far hlt3.2.symm [(0, .int .i64 q.id), (1, .int .i64 q.n), (2, .int .i64 q.view), (3, .int .i64 q.normal), (4, .int .i64 q.how), (5, .slice ao7 q.log.length cap7), (6, .int .i64 q.commit), (7, .slice (some ⟨ga, 0, none⟩) q.acked.length ca), (8, .slice s2.vo q.votes.length s2.vc), (9, .slice s2.wo q.voters.length s2.wc), (10, .slice s2.bo q.best.length s2.bc), (11, .int .i64 q.bestView), (12, .int .i64 q.bestDone)] w11).trans (below_box hb11 bEo))
       have hS5 := hcell _ (hHf.box.kept (sets_far hlt3.1.symm [(0, .int .i64 q.id), (1, .int .i64 q.n), (2, .int .i64 q.view), (3, .int .i64 q.normal), (4, .int .i64 q.how), (5, .slice ao7 q.log.length cap7), (6, .int .i64 q.commit), (7, .slice (some ⟨ga, 0, none⟩) q.acked.length ca), (8, .slice s2.vo q.votes.length s2.vc), (9, .slice s2.wo q.voters.length s2.wc), (10, .slice s2.bo q.best.length s2.bc), (11, .int .i64 q.bestView), (12, .int .i64 q.bestDone)] w11)).drew (heap_drew ((sets_far hlt3.2.symm [(0, .int .i64 q.id), (1, .int .i64 q.n), (2, .int .i64 q.view), (3, .int .i64 q.normal), (4, .int .i64 q.how), (5, .slice ao7 q.log.length cap7), (6, .int .i64 q.commit), (7, .slice (some ⟨ga, 0, none⟩) q.acked.length ca), (8, .slice s2.vo q.votes.length s2.vc), (9, .slice s2.wo q.voters.length s2.wc), (10, .slice s2.bo q.best.length s2.bc), (11, .int .i64 q.bestView), (12, .int .i64 q.bestDone)] w11).trans (below_box hb11 bEo)))
       obtain ⟨d0, d1, d2, d3, d4, d5, d6, d7, d8, d9, d10, d11, d12⟩ := bz.rep (by omega)
       have dz := bz.unfrozen
       have HG : Hid _ := bG.rep (by omega)
       simp only [sets] at hRG hOG hwG hS4 hS5
       clear hS bG bz hHf hw11 hall))
  all_goals
    go_wp2
    obtain ⟨g0, g1, g2, g3, g4, g5, g6, g7, g8, g9, g10, g11, g12⟩ := HG.out
    simp only [sets] at g0 g1 g2 g3 g4 g5 g6 g7 g8 g9 g10 g11 g12
    refine bodyPost_ret (v := .tuple #[repV q ⟨ao7, cap7, some ⟨ga, 0, none⟩, ca, s2.vo, s2.vc, s2.wo, s2.wc, s2.bo, s2.bc⟩, .slice xo o.length xc, .int .i64 (q.log.length : Int), .int .i64 0]) (by simp [results, Try.results17, go_sem, g0, g1, g2, g3, g4, g5, g6, g7, g8, g9, g10, g11, g12]) rfl ⟨⟨ao7, cap7, some ⟨ga, 0, none⟩, ca, s2.vo, s2.vc, s2.wo, s2.wc, s2.bo, s2.bc⟩, xo, xc, by rw [hE.out.1, hE.out.2.1, hE.out.2.2], by rw [hE.out.1]; exact hRG, by rw [hE.out.2.1]; exact hOG, hwG⟩
end Go.Proofs.Ytgdehjdajjhjpaa
