/-
  Contracts of the document's own replica: Take, by what is made of each kind of message.
-/
import Derived.Test.YtgdehjdajjhjpaaGreatRpSt
import Derived.Deep.CutRange
import Derived.Deep.RegionHeldLaw
import Derived.BigQuiet
import Derived.WalkSmall
import Derived.Deep.RegionWith
namespace Go.Proofs.YtgdehjdajjhjpaaGreat
open Go.RowKit Num
open scoped Classical
set_option linter.unusedVariables false
set_option maxRecDepth 100000
set_option maxRecDepth 100000 in
set_option maxHeartbeats 1000000 in
theorem rtake_1 (r : Rep) (s : Sl) (m : Msg) (bo : Option Addr) (c : Nat) (hsm : SmallR r) (hyes : May r) (hok : MsgD r m) (hk : m.a0 = 1) (q : Rep) (o : Msgs) (hF : ∀ (B g : Nat) (W : World), TurnR B W g r → SrcE B W bo c m.log → Calls Tryz.prog 27 #[.pointer (some ⟨g, 0, none⟩), msV m bo c] W fun e w' => ∃ v, e = .returned v ∧ OwnO B w' v o ∧ TurnR B w' g q ∧ Below B W w')
    (w : World) (hl : LiesR w w.heap.size s r) (hm : LiesE w w.heap.size bo m.log) :
    Calls Tryz.prog 13 #[repV r s, msV m bo c] w fun x w' => ∃ s' xo xc, x = .returned (.tuple #[repV q s', .slice xo o.length xc, .int .i64 0]) ∧ LiesR w' w'.heap.size s' q ∧ LiesM w' w'.heap.size xo o ∧ Below w.heap.size w w' := by
  have hB : Below w.heap.size w (((w.alloc (repO r (.slice s.lo r.log.length s.lc) (.slice s.ao r.acked.length s.ac) (.slice s.vo r.votes.length s.vc) (.slice s.wo r.voters.length s.wc) (.slice s.bo r.best.length s.bc) 25)).alloc (.cells #[.int .i64 m.a0, .int .i64 m.a1, .int .i64 m.a2, .int .i64 m.a3, .int .i64 m.a4, .int .i64 m.a5, .int .i64 m.a6, .slice bo m.log.length c] 27)).alloc (repO0 25)) := (((Below.refl _ w).alloc (Nat.le_refl _) _).alloc (by simp) _).alloc (by simp; omega) _
  have hsz : (((w.alloc (repO r (.slice s.lo r.log.length s.lc) (.slice s.ao r.acked.length s.ac) (.slice s.vo r.votes.length s.vc) (.slice s.wo r.voters.length s.wc) (.slice s.bo r.best.length s.bc) 25)).alloc (.cells #[.int .i64 m.a0, .int .i64 m.a1, .int .i64 m.a2, .int .i64 m.a3, .int .i64 m.a4, .int .i64 m.a5, .int .i64 m.a6, .slice bo m.log.length c] 27)).alloc (repO0 25)).heap.size = w.heap.size + 3 := by simp
  have bx0 := ((box_rep w r (.slice s.lo r.log.length s.lc) (.slice s.ao r.acked.length s.ac) (.slice s.vo r.votes.length s.vc) (.slice s.wo r.voters.length s.wc) (.slice s.bo r.best.length s.bc) undef 25 w.heap.size rfl).alloc (.cells #[.int .i64 m.a0, .int .i64 m.a1, .int .i64 m.a2, .int .i64 m.a3, .int .i64 m.a4, .int .i64 m.a5, .int .i64 m.a6, .slice bo m.log.length c] 27)).alloc (repO0 25)
  have hm0 : (((w.alloc (repO r (.slice s.lo r.log.length s.lc) (.slice s.ao r.acked.length s.ac) (.slice s.vo r.votes.length s.vc) (.slice s.wo r.voters.length s.wc) (.slice s.bo r.best.length s.bc) 25)).alloc (.cells #[.int .i64 m.a0, .int .i64 m.a1, .int .i64 m.a2, .int .i64 m.a3, .int .i64 m.a4, .int .i64 m.a5, .int .i64 m.a6, .slice bo m.log.length c] 27)).alloc (repO0 25)).heap[w.heap.size + 1]? = some (.cells #[.int .i64 m.a0, .int .i64 m.a1, .int .i64 m.a2, .int .i64 m.a3, .int .i64 m.a4, .int .i64 m.a5, .int .i64 m.a6, .slice bo m.log.length c] 27 (0, 0)) := ((Below.refl _ ((w.alloc (repO r (.slice s.lo r.log.length s.lc) (.slice s.ao r.acked.length s.ac) (.slice s.vo r.votes.length s.vc) (.slice s.wo r.voters.length s.wc) (.slice s.bo r.best.length s.bc) 25)).alloc (.cells #[.int .i64 m.a0, .int .i64 m.a1, .int .i64 m.a2, .int .i64 m.a3, .int .i64 m.a4, .int .i64 m.a5, .int .i64 m.a6, .slice bo m.log.length c] 27))).alloc (Nat.le_refl _) _).block (w.heap.size + 1) (by simp) |>.trans (heap_newB _ _ _ (by simp))
  have by0 := box_rep0 ((w.alloc (repO r (.slice s.lo r.log.length s.lc) (.slice s.ao r.acked.length s.ac) (.slice s.vo r.votes.length s.vc) (.slice s.wo r.voters.length s.wc) (.slice s.bo r.best.length s.bc) 25)).alloc (.cells #[.int .i64 m.a0, .int .i64 m.a1, .int .i64 m.a2, .int .i64 m.a3, .int .i64 m.a4, .int .i64 m.a5, .int .i64 m.a6, .slice bo m.log.length c] 27)) undef 25 (w.heap.size + 2) (by simp)
  have hmay := rmay_any r s (small_m0 hsm) (((w.alloc (repO r (.slice s.lo r.log.length s.lc) (.slice s.ao r.acked.length s.ac) (.slice s.vo r.votes.length s.vc) (.slice s.wo r.voters.length s.wc) (.slice s.bo r.best.length s.bc) 25)).alloc (.cells #[.int .i64 m.a0, .int .i64 m.a1, .int .i64 m.a2, .int .i64 m.a3, .int .i64 m.a4, .int .i64 m.a5, .int .i64 m.a6, .slice bo m.log.length c] 27)).alloc (repO0 25)) (liesR_next hl hB hB.size)
  rw [tru_yes hyes] at hmay
  have HY : Hid (May r) := hyes
  have HOK : Hid (MsgD r m) := hok
  clear hok hyes
  have f4 : (m.a0 == 4) = false := by simp [hk]
  have d4 : decide (m.a0 = 4) = false := by simp [hk]
  have f5 : (m.a0 == 5) = false := by simp [hk]
  have d5 : decide (m.a0 = 5) = false := by simp [hk]
  have f6 : (m.a0 == 6) = false := by simp [hk]
  have d6 : decide (m.a0 = 6) = false := by simp [hk]
  have f1 : (m.a0 == 1) = true := by simp [hk]
  have d1 : decide (m.a0 = 1) = true := by simp [hk]
  clear hk
  go_enter Tryz.func13, Tryz.ntmps13
  go_wp2_with (first
    | (go_at_call 17; refine hmay.mono ?_; rintro e w1 ⟨rfl, hb1⟩
       have bx1 := bx0.below hb1
       have by1 := by0.below hb1
       have hm1 := (hb1.block (w.heap.size + 1) (by rw [hsz]; omega)).trans hm0
       have hw1 := hB.trans (hb1.mono hB.size)
       have hs1 := hb1.size
       rw [hsz] at hs1
       obtain ⟨a0, a1, a2, a3, a4, a5, a6, a7, a8, a9, a10, a11, a12⟩ := bx1.rep (by omega)
       obtain ⟨c0, c1, c2, c3, c4, c5, c6, c7⟩ := msg_cellsS hm1
       have hmes := rmessage_any r s m bo c w1 (liesE_next hm hw1 hw1.size)
       rw [tru_yes HOK.out] at hmes
       clear hmay bx0 by0 hm0)
    | (go_at_call 23; refine hmes.mono ?_; rintro e w2 ⟨rfl, hb2⟩
       have bx2 := bx1.below hb2
       have by2 := by1.below hb2
       have hm2 := (hb2.block (w.heap.size + 1) (by omega)).trans hm1
       have hw2 := below_next hw1 (Nat.le_refl _) hb2
       have hs2 := Nat.le_trans hs1 hb2.size
       clear a0 a1 a2 a3 a4 a5 a6 a7 a8 a9 a10 a11 a12 c0 c1 c2 c3 c4 c5 c6 c7
       obtain ⟨a0, a1, a2, a3, a4, a5, a6, a7, a8, a9, a10, a11, a12⟩ := bx2.rep (by omega)
       have hcop := rcopy_any r s hsm w2 (liesR_next hl hw2 hw2.size)
       clear hmes bx1 by1 hm1 hw1 hs1)
    | (go_at_call 11; refine hcop.mono ?_; rintro e w3 ⟨s2, rfl, hR2, hb3⟩
       have hT4 := turnR_new (B := w.heap.size + 3) HY.out hs2 hb3 hR2
       have hbA := (Below.refl _ w3).alloc (Nat.le_refl _) (repO r (.slice s2.lo r.log.length s2.lc) (.slice s2.ao r.acked.length s2.ac) (.slice s2.vo r.votes.length s2.vc) (.slice s2.wo r.voters.length s2.wc) (.slice s2.bo r.best.length s2.bc) 25)
       have by4 := (by2.below hb3).below hbA
       have hm4 := (hbA.block (w.heap.size + 1) (by have := hb3.size; omega)).trans ((hb3.block (w.heap.size + 1) (by omega)).trans hm2)
       have hw4 := below_next (below_next hw2 (Nat.le_refl _) hb3) (Nat.le_refl _) hbA
       obtain ⟨c0, c1, c2, c3, c4, c5, c6, c7⟩ := msg_cellsS hm4
       have hf := hF (w.heap.size + 3) w3.heap.size _ hT4 (.inl (liesE_next hm hw4 (by omega)))
       clear hcop hR2 hb3)
    | (go_at_call 27; refine hf.mono ?_; rintro e w5 ⟨v, rfl, hO5, hT5, hb5⟩
       obtain ⟨xo, xc, rfl⟩ := hO5.shape
       obtain ⟨s3, ⟨b0, b1, b2, b3, b4, b5, b6, b7, b8, b9, b10, b11, b12⟩, _, _, hH⟩ := hT5.cells
       have bz := by4.kept (hb5.block (w.heap.size + 2) (by omega))
       have hwV := hw4.trans (hb5.mono (show w.heap.size ≤ w.heap.size + 3 by omega))
       obtain ⟨bG, hS, hwG⟩ := res_box (show w.heap.size ≤ w.heap.size + 2 by omega) bz hwV q s3
       have hRG := rowsS_lies ((show RowsS (w.heap.size + 3) w5 q s3 from hH.rows).stay hS (by decide) (by decide))
       obtain ⟨d0, d1, d2, d3, d4, d5, d6, d7, d8, d9, d10, d11, d12⟩ := bz.rep (by omega)
       have dz := bz.unfrozen
       obtain ⟨g0, g1, g2, g3, g4, g5, g6, g7, g8, g9, g10, g11, g12⟩ := bG.rep (by omega)
       simp only [sets] at hRG hwG g0 g1 g2 g3 g4 g5 g6 g7 g8 g9 g10 g11 g12
       have hOG := ownO_liesM (ownO_stay hO5 hS (by decide) (by decide))
       simp only [sets] at hOG
       clear hS bG bz hwV hH hT5 hO5 hf hF))
  refine bodyPost_ret (v := .tuple #[repV q s3, .slice xo o.length xc, .int .i64 0]) (by simp [results, Tryz.results13, go_sem, g0, g1, g2, g3, g4, g5, g6, g7, g8, g9, g10, g11, g12]) rfl ⟨s3, xo, xc, rfl, hRG, hOG, hwG⟩
set_option maxRecDepth 100000 in
set_option maxHeartbeats 1000000 in
theorem rtake_2 (r : Rep) (s : Sl) (m : Msg) (bo : Option Addr) (c : Nat) (hsm : SmallR r) (hyes : May r) (hok : MsgD r m) (hk : m.a0 = 2) (q : Rep) (o : Msgs) (hF : ∀ (B g : Nat) (W : World), TurnR B W g r → SrcE B W bo c m.log → Calls Tryz.prog 28 #[.pointer (some ⟨g, 0, none⟩), msV m bo c] W fun e w' => ∃ v, e = .returned v ∧ OwnO B w' v o ∧ TurnR B w' g q ∧ Below B W w')
    (w : World) (hl : LiesR w w.heap.size s r) (hm : LiesE w w.heap.size bo m.log) :
    Calls Tryz.prog 13 #[repV r s, msV m bo c] w fun x w' => ∃ s' xo xc, x = .returned (.tuple #[repV q s', .slice xo o.length xc, .int .i64 0]) ∧ LiesR w' w'.heap.size s' q ∧ LiesM w' w'.heap.size xo o ∧ Below w.heap.size w w' := by
  have hB : Below w.heap.size w (((w.alloc (repO r (.slice s.lo r.log.length s.lc) (.slice s.ao r.acked.length s.ac) (.slice s.vo r.votes.length s.vc) (.slice s.wo r.voters.length s.wc) (.slice s.bo r.best.length s.bc) 25)).alloc (.cells #[.int .i64 m.a0, .int .i64 m.a1, .int .i64 m.a2, .int .i64 m.a3, .int .i64 m.a4, .int .i64 m.a5, .int .i64 m.a6, .slice bo m.log.length c] 27)).alloc (repO0 25)) := (((Below.refl _ w).alloc (Nat.le_refl _) _).alloc (by simp) _).alloc (by simp; omega) _
  have hsz : (((w.alloc (repO r (.slice s.lo r.log.length s.lc) (.slice s.ao r.acked.length s.ac) (.slice s.vo r.votes.length s.vc) (.slice s.wo r.voters.length s.wc) (.slice s.bo r.best.length s.bc) 25)).alloc (.cells #[.int .i64 m.a0, .int .i64 m.a1, .int .i64 m.a2, .int .i64 m.a3, .int .i64 m.a4, .int .i64 m.a5, .int .i64 m.a6, .slice bo m.log.length c] 27)).alloc (repO0 25)).heap.size = w.heap.size + 3 := by simp
  have bx0 := ((box_rep w r (.slice s.lo r.log.length s.lc) (.slice s.ao r.acked.length s.ac) (.slice s.vo r.votes.length s.vc) (.slice s.wo r.voters.length s.wc) (.slice s.bo r.best.length s.bc) undef 25 w.heap.size rfl).alloc (.cells #[.int .i64 m.a0, .int .i64 m.a1, .int .i64 m.a2, .int .i64 m.a3, .int .i64 m.a4, .int .i64 m.a5, .int .i64 m.a6, .slice bo m.log.length c] 27)).alloc (repO0 25)
  have hm0 : (((w.alloc (repO r (.slice s.lo r.log.length s.lc) (.slice s.ao r.acked.length s.ac) (.slice s.vo r.votes.length s.vc) (.slice s.wo r.voters.length s.wc) (.slice s.bo r.best.length s.bc) 25)).alloc (.cells #[.int .i64 m.a0, .int .i64 m.a1, .int .i64 m.a2, .int .i64 m.a3, .int .i64 m.a4, .int .i64 m.a5, .int .i64 m.a6, .slice bo m.log.length c] 27)).alloc (repO0 25)).heap[w.heap.size + 1]? = some (.cells #[.int .i64 m.a0, .int .i64 m.a1, .int .i64 m.a2, .int .i64 m.a3, .int .i64 m.a4, .int .i64 m.a5, .int .i64 m.a6, .slice bo m.log.length c] 27 (0, 0)) := ((Below.refl _ ((w.alloc (repO r (.slice s.lo r.log.length s.lc) (.slice s.ao r.acked.length s.ac) (.slice s.vo r.votes.length s.vc) (.slice s.wo r.voters.length s.wc) (.slice s.bo r.best.length s.bc) 25)).alloc (.cells #[.int .i64 m.a0, .int .i64 m.a1, .int .i64 m.a2, .int .i64 m.a3, .int .i64 m.a4, .int .i64 m.a5, .int .i64 m.a6, .slice bo m.log.length c] 27))).alloc (Nat.le_refl _) _).block (w.heap.size + 1) (by simp) |>.trans (heap_newB _ _ _ (by simp))
  have by0 := box_rep0 ((w.alloc (repO r (.slice s.lo r.log.length s.lc) (.slice s.ao r.acked.length s.ac) (.slice s.vo r.votes.length s.vc) (.slice s.wo r.voters.length s.wc) (.slice s.bo r.best.length s.bc) 25)).alloc (.cells #[.int .i64 m.a0, .int .i64 m.a1, .int .i64 m.a2, .int .i64 m.a3, .int .i64 m.a4, .int .i64 m.a5, .int .i64 m.a6, .slice bo m.log.length c] 27)) undef 25 (w.heap.size + 2) (by simp)
  have hmay := rmay_any r s (small_m0 hsm) (((w.alloc (repO r (.slice s.lo r.log.length s.lc) (.slice s.ao r.acked.length s.ac) (.slice s.vo r.votes.length s.vc) (.slice s.wo r.voters.length s.wc) (.slice s.bo r.best.length s.bc) 25)).alloc (.cells #[.int .i64 m.a0, .int .i64 m.a1, .int .i64 m.a2, .int .i64 m.a3, .int .i64 m.a4, .int .i64 m.a5, .int .i64 m.a6, .slice bo m.log.length c] 27)).alloc (repO0 25)) (liesR_next hl hB hB.size)
  rw [tru_yes hyes] at hmay
  have HY : Hid (May r) := hyes
  have HOK : Hid (MsgD r m) := hok
  clear hok hyes
  have f4 : (m.a0 == 4) = false := by simp [hk]
  have d4 : decide (m.a0 = 4) = false := by simp [hk]
  have f5 : (m.a0 == 5) = false := by simp [hk]
  have d5 : decide (m.a0 = 5) = false := by simp [hk]
  have f6 : (m.a0 == 6) = false := by simp [hk]
  have d6 : decide (m.a0 = 6) = false := by simp [hk]
  have f1 : (m.a0 == 1) = false := by simp [hk]
  have d1 : decide (m.a0 = 1) = false := by simp [hk]
  have f3 : (m.a0 == 3) = false := by simp [hk]
  have d3 : decide (m.a0 = 3) = false := by simp [hk]
  have f2 : (m.a0 == 2) = true := by simp [hk]
  have d2 : decide (m.a0 = 2) = true := by simp [hk]
  clear hk
  go_enter Tryz.func13, Tryz.ntmps13
  go_wp2_with (first
    | (go_at_call 17; refine hmay.mono ?_; rintro e w1 ⟨rfl, hb1⟩
       have bx1 := bx0.below hb1
       have by1 := by0.below hb1
       have hm1 := (hb1.block (w.heap.size + 1) (by rw [hsz]; omega)).trans hm0
       have hw1 := hB.trans (hb1.mono hB.size)
       have hs1 := hb1.size
       rw [hsz] at hs1
       obtain ⟨a0, a1, a2, a3, a4, a5, a6, a7, a8, a9, a10, a11, a12⟩ := bx1.rep (by omega)
       obtain ⟨c0, c1, c2, c3, c4, c5, c6, c7⟩ := msg_cellsS hm1
       have hmes := rmessage_any r s m bo c w1 (liesE_next hm hw1 hw1.size)
       rw [tru_yes HOK.out] at hmes
       clear hmay bx0 by0 hm0)
    | (go_at_call 23; refine hmes.mono ?_; rintro e w2 ⟨rfl, hb2⟩
       have bx2 := bx1.below hb2
       have by2 := by1.below hb2
       have hm2 := (hb2.block (w.heap.size + 1) (by omega)).trans hm1
       have hw2 := below_next hw1 (Nat.le_refl _) hb2
       have hs2 := Nat.le_trans hs1 hb2.size
       clear a0 a1 a2 a3 a4 a5 a6 a7 a8 a9 a10 a11 a12 c0 c1 c2 c3 c4 c5 c6 c7
       obtain ⟨a0, a1, a2, a3, a4, a5, a6, a7, a8, a9, a10, a11, a12⟩ := bx2.rep (by omega)
       have hcop := rcopy_any r s hsm w2 (liesR_next hl hw2 hw2.size)
       clear hmes bx1 by1 hm1 hw1 hs1)
    | (go_at_call 11; refine hcop.mono ?_; rintro e w3 ⟨s2, rfl, hR2, hb3⟩
       have hT4 := turnR_new (B := w.heap.size + 3) HY.out hs2 hb3 hR2
       have hbA := (Below.refl _ w3).alloc (Nat.le_refl _) (repO r (.slice s2.lo r.log.length s2.lc) (.slice s2.ao r.acked.length s2.ac) (.slice s2.vo r.votes.length s2.vc) (.slice s2.wo r.voters.length s2.wc) (.slice s2.bo r.best.length s2.bc) 25)
       have by4 := (by2.below hb3).below hbA
       have hm4 := (hbA.block (w.heap.size + 1) (by have := hb3.size; omega)).trans ((hb3.block (w.heap.size + 1) (by omega)).trans hm2)
       have hw4 := below_next (below_next hw2 (Nat.le_refl _) hb3) (Nat.le_refl _) hbA
       obtain ⟨c0, c1, c2, c3, c4, c5, c6, c7⟩ := msg_cellsS hm4
       have hf := hF (w.heap.size + 3) w3.heap.size _ hT4 (.inl (liesE_next hm hw4 (by omega)))
       clear hcop hR2 hb3)
    | (go_at_call 28; refine hf.mono ?_; rintro e w5 ⟨v, rfl, hO5, hT5, hb5⟩
       obtain ⟨xo, xc, rfl⟩ := hO5.shape
       obtain ⟨s3, ⟨b0, b1, b2, b3, b4, b5, b6, b7, b8, b9, b10, b11, b12⟩, _, _, hH⟩ := hT5.cells
       have bz := by4.kept (hb5.block (w.heap.size + 2) (by omega))
       have hwV := hw4.trans (hb5.mono (show w.heap.size ≤ w.heap.size + 3 by omega))
       obtain ⟨bG, hS, hwG⟩ := res_box (show w.heap.size ≤ w.heap.size + 2 by omega) bz hwV q s3
       have hRG := rowsS_lies ((show RowsS (w.heap.size + 3) w5 q s3 from hH.rows).stay hS (by decide) (by decide))
       obtain ⟨d0, d1, d2, d3, d4, d5, d6, d7, d8, d9, d10, d11, d12⟩ := bz.rep (by omega)
       have dz := bz.unfrozen
       obtain ⟨g0, g1, g2, g3, g4, g5, g6, g7, g8, g9, g10, g11, g12⟩ := bG.rep (by omega)
       simp only [sets] at hRG hwG g0 g1 g2 g3 g4 g5 g6 g7 g8 g9 g10 g11 g12
       have hOG := ownO_liesM (ownO_stay hO5 hS (by decide) (by decide))
       simp only [sets] at hOG
       clear hS bG bz hwV hH hT5 hO5 hf hF))
  refine bodyPost_ret (v := .tuple #[repV q s3, .slice xo o.length xc, .int .i64 0]) (by simp [results, Tryz.results13, go_sem, g0, g1, g2, g3, g4, g5, g6, g7, g8, g9, g10, g11, g12]) rfl ⟨s3, xo, xc, rfl, hRG, hOG, hwG⟩
set_option maxRecDepth 100000 in
set_option maxHeartbeats 1000000 in
theorem rtake_3 (r : Rep) (s : Sl) (m : Msg) (bo : Option Addr) (c : Nat) (hsm : SmallR r) (hyes : May r) (hok : MsgD r m) (hk : m.a0 = 3) (q : Rep) (o : Msgs) (hF : ∀ (B g : Nat) (W : World), TurnR B W g r → SrcE B W bo c m.log → Calls Tryz.prog 27 #[.pointer (some ⟨g, 0, none⟩), msV m bo c] W fun e w' => ∃ v, e = .returned v ∧ OwnO B w' v o ∧ TurnR B w' g q ∧ Below B W w')
    (w : World) (hl : LiesR w w.heap.size s r) (hm : LiesE w w.heap.size bo m.log) :
    Calls Tryz.prog 13 #[repV r s, msV m bo c] w fun x w' => ∃ s' xo xc, x = .returned (.tuple #[repV q s', .slice xo o.length xc, .int .i64 0]) ∧ LiesR w' w'.heap.size s' q ∧ LiesM w' w'.heap.size xo o ∧ Below w.heap.size w w' := by
  have hB : Below w.heap.size w (((w.alloc (repO r (.slice s.lo r.log.length s.lc) (.slice s.ao r.acked.length s.ac) (.slice s.vo r.votes.length s.vc) (.slice s.wo r.voters.length s.wc) (.slice s.bo r.best.length s.bc) 25)).alloc (.cells #[.int .i64 m.a0, .int .i64 m.a1, .int .i64 m.a2, .int .i64 m.a3, .int .i64 m.a4, .int .i64 m.a5, .int .i64 m.a6, .slice bo m.log.length c] 27)).alloc (repO0 25)) := (((Below.refl _ w).alloc (Nat.le_refl _) _).alloc (by simp) _).alloc (by simp; omega) _
  have hsz : (((w.alloc (repO r (.slice s.lo r.log.length s.lc) (.slice s.ao r.acked.length s.ac) (.slice s.vo r.votes.length s.vc) (.slice s.wo r.voters.length s.wc) (.slice s.bo r.best.length s.bc) 25)).alloc (.cells #[.int .i64 m.a0, .int .i64 m.a1, .int .i64 m.a2, .int .i64 m.a3, .int .i64 m.a4, .int .i64 m.a5, .int .i64 m.a6, .slice bo m.log.length c] 27)).alloc (repO0 25)).heap.size = w.heap.size + 3 := by simp
  have bx0 := ((box_rep w r (.slice s.lo r.log.length s.lc) (.slice s.ao r.acked.length s.ac) (.slice s.vo r.votes.length s.vc) (.slice s.wo r.voters.length s.wc) (.slice s.bo r.best.length s.bc) undef 25 w.heap.size rfl).alloc (.cells #[.int .i64 m.a0, .int .i64 m.a1, .int .i64 m.a2, .int .i64 m.a3, .int .i64 m.a4, .int .i64 m.a5, .int .i64 m.a6, .slice bo m.log.length c] 27)).alloc (repO0 25)
  have hm0 : (((w.alloc (repO r (.slice s.lo r.log.length s.lc) (.slice s.ao r.acked.length s.ac) (.slice s.vo r.votes.length s.vc) (.slice s.wo r.voters.length s.wc) (.slice s.bo r.best.length s.bc) 25)).alloc (.cells #[.int .i64 m.a0, .int .i64 m.a1, .int .i64 m.a2, .int .i64 m.a3, .int .i64 m.a4, .int .i64 m.a5, .int .i64 m.a6, .slice bo m.log.length c] 27)).alloc (repO0 25)).heap[w.heap.size + 1]? = some (.cells #[.int .i64 m.a0, .int .i64 m.a1, .int .i64 m.a2, .int .i64 m.a3, .int .i64 m.a4, .int .i64 m.a5, .int .i64 m.a6, .slice bo m.log.length c] 27 (0, 0)) := ((Below.refl _ ((w.alloc (repO r (.slice s.lo r.log.length s.lc) (.slice s.ao r.acked.length s.ac) (.slice s.vo r.votes.length s.vc) (.slice s.wo r.voters.length s.wc) (.slice s.bo r.best.length s.bc) 25)).alloc (.cells #[.int .i64 m.a0, .int .i64 m.a1, .int .i64 m.a2, .int .i64 m.a3, .int .i64 m.a4, .int .i64 m.a5, .int .i64 m.a6, .slice bo m.log.length c] 27))).alloc (Nat.le_refl _) _).block (w.heap.size + 1) (by simp) |>.trans (heap_newB _ _ _ (by simp))
  have by0 := box_rep0 ((w.alloc (repO r (.slice s.lo r.log.length s.lc) (.slice s.ao r.acked.length s.ac) (.slice s.vo r.votes.length s.vc) (.slice s.wo r.voters.length s.wc) (.slice s.bo r.best.length s.bc) 25)).alloc (.cells #[.int .i64 m.a0, .int .i64 m.a1, .int .i64 m.a2, .int .i64 m.a3, .int .i64 m.a4, .int .i64 m.a5, .int .i64 m.a6, .slice bo m.log.length c] 27)) undef 25 (w.heap.size + 2) (by simp)
  have hmay := rmay_any r s (small_m0 hsm) (((w.alloc (repO r (.slice s.lo r.log.length s.lc) (.slice s.ao r.acked.length s.ac) (.slice s.vo r.votes.length s.vc) (.slice s.wo r.voters.length s.wc) (.slice s.bo r.best.length s.bc) 25)).alloc (.cells #[.int .i64 m.a0, .int .i64 m.a1, .int .i64 m.a2, .int .i64 m.a3, .int .i64 m.a4, .int .i64 m.a5, .int .i64 m.a6, .slice bo m.log.length c] 27)).alloc (repO0 25)) (liesR_next hl hB hB.size)
  rw [tru_yes hyes] at hmay
  have HY : Hid (May r) := hyes
  have HOK : Hid (MsgD r m) := hok
  clear hok hyes
  have f4 : (m.a0 == 4) = false := by simp [hk]
  have d4 : decide (m.a0 = 4) = false := by simp [hk]
  have f5 : (m.a0 == 5) = false := by simp [hk]
  have d5 : decide (m.a0 = 5) = false := by simp [hk]
  have f6 : (m.a0 == 6) = false := by simp [hk]
  have d6 : decide (m.a0 = 6) = false := by simp [hk]
  have f1 : (m.a0 == 1) = false := by simp [hk]
  have d1 : decide (m.a0 = 1) = false := by simp [hk]
  have f3 : (m.a0 == 3) = true := by simp [hk]
  have d3 : decide (m.a0 = 3) = true := by simp [hk]
  clear hk
  go_enter Tryz.func13, Tryz.ntmps13
  go_wp2_with (first
    | (go_at_call 17; refine hmay.mono ?_; rintro e w1 ⟨rfl, hb1⟩
       have bx1 := bx0.below hb1
       have by1 := by0.below hb1
       have hm1 := (hb1.block (w.heap.size + 1) (by rw [hsz]; omega)).trans hm0
       have hw1 := hB.trans (hb1.mono hB.size)
       have hs1 := hb1.size
       rw [hsz] at hs1
       obtain ⟨a0, a1, a2, a3, a4, a5, a6, a7, a8, a9, a10, a11, a12⟩ := bx1.rep (by omega)
       obtain ⟨c0, c1, c2, c3, c4, c5, c6, c7⟩ := msg_cellsS hm1
       have hmes := rmessage_any r s m bo c w1 (liesE_next hm hw1 hw1.size)
       rw [tru_yes HOK.out] at hmes
       clear hmay bx0 by0 hm0)
    | (go_at_call 23; refine hmes.mono ?_; rintro e w2 ⟨rfl, hb2⟩
       have bx2 := bx1.below hb2
       have by2 := by1.below hb2
       have hm2 := (hb2.block (w.heap.size + 1) (by omega)).trans hm1
       have hw2 := below_next hw1 (Nat.le_refl _) hb2
       have hs2 := Nat.le_trans hs1 hb2.size
       clear a0 a1 a2 a3 a4 a5 a6 a7 a8 a9 a10 a11 a12 c0 c1 c2 c3 c4 c5 c6 c7
       obtain ⟨a0, a1, a2, a3, a4, a5, a6, a7, a8, a9, a10, a11, a12⟩ := bx2.rep (by omega)
       have hcop := rcopy_any r s hsm w2 (liesR_next hl hw2 hw2.size)
       clear hmes bx1 by1 hm1 hw1 hs1)
    | (go_at_call 11; refine hcop.mono ?_; rintro e w3 ⟨s2, rfl, hR2, hb3⟩
       have hT4 := turnR_new (B := w.heap.size + 3) HY.out hs2 hb3 hR2
       have hbA := (Below.refl _ w3).alloc (Nat.le_refl _) (repO r (.slice s2.lo r.log.length s2.lc) (.slice s2.ao r.acked.length s2.ac) (.slice s2.vo r.votes.length s2.vc) (.slice s2.wo r.voters.length s2.wc) (.slice s2.bo r.best.length s2.bc) 25)
       have by4 := (by2.below hb3).below hbA
       have hm4 := (hbA.block (w.heap.size + 1) (by have := hb3.size; omega)).trans ((hb3.block (w.heap.size + 1) (by omega)).trans hm2)
       have hw4 := below_next (below_next hw2 (Nat.le_refl _) hb3) (Nat.le_refl _) hbA
       obtain ⟨c0, c1, c2, c3, c4, c5, c6, c7⟩ := msg_cellsS hm4
       have hf := hF (w.heap.size + 3) w3.heap.size _ hT4 (.inl (liesE_next hm hw4 (by omega)))
       clear hcop hR2 hb3)
    | (go_at_call 27; refine hf.mono ?_; rintro e w5 ⟨v, rfl, hO5, hT5, hb5⟩
       obtain ⟨xo, xc, rfl⟩ := hO5.shape
       obtain ⟨s3, ⟨b0, b1, b2, b3, b4, b5, b6, b7, b8, b9, b10, b11, b12⟩, _, _, hH⟩ := hT5.cells
       have bz := by4.kept (hb5.block (w.heap.size + 2) (by omega))
       have hwV := hw4.trans (hb5.mono (show w.heap.size ≤ w.heap.size + 3 by omega))
       obtain ⟨bG, hS, hwG⟩ := res_box (show w.heap.size ≤ w.heap.size + 2 by omega) bz hwV q s3
       have hRG := rowsS_lies ((show RowsS (w.heap.size + 3) w5 q s3 from hH.rows).stay hS (by decide) (by decide))
       obtain ⟨d0, d1, d2, d3, d4, d5, d6, d7, d8, d9, d10, d11, d12⟩ := bz.rep (by omega)
       have dz := bz.unfrozen
       obtain ⟨g0, g1, g2, g3, g4, g5, g6, g7, g8, g9, g10, g11, g12⟩ := bG.rep (by omega)
       simp only [sets] at hRG hwG g0 g1 g2 g3 g4 g5 g6 g7 g8 g9 g10 g11 g12
       have hOG := ownO_liesM (ownO_stay hO5 hS (by decide) (by decide))
       simp only [sets] at hOG
       clear hS bG bz hwV hH hT5 hO5 hf hF))
  refine bodyPost_ret (v := .tuple #[repV q s3, .slice xo o.length xc, .int .i64 0]) (by simp [results, Tryz.results13, go_sem, g0, g1, g2, g3, g4, g5, g6, g7, g8, g9, g10, g11, g12]) rfl ⟨s3, xo, xc, rfl, hRG, hOG, hwG⟩
set_option maxRecDepth 100000 in
set_option maxHeartbeats 1000000 in
theorem rtake_4 (r : Rep) (s : Sl) (m : Msg) (bo : Option Addr) (c : Nat) (hsm : SmallR r) (hyes : May r) (hok : MsgD r m) (hk : m.a0 = 4) (q : Rep) (o : Msgs) (hF : ∀ (B g : Nat) (W : World), TurnR B W g r → SrcE B W bo c m.log → Calls Tryz.prog 24 #[.pointer (some ⟨g, 0, none⟩), msV m bo c] W fun e w' => ∃ v, e = .returned v ∧ OwnO B w' v o ∧ TurnR B w' g q ∧ Below B W w')
    (w : World) (hl : LiesR w w.heap.size s r) (hm : LiesE w w.heap.size bo m.log) :
    Calls Tryz.prog 13 #[repV r s, msV m bo c] w fun x w' => ∃ s' xo xc, x = .returned (.tuple #[repV q s', .slice xo o.length xc, .int .i64 0]) ∧ LiesR w' w'.heap.size s' q ∧ LiesM w' w'.heap.size xo o ∧ Below w.heap.size w w' := by
  have hB : Below w.heap.size w (((w.alloc (repO r (.slice s.lo r.log.length s.lc) (.slice s.ao r.acked.length s.ac) (.slice s.vo r.votes.length s.vc) (.slice s.wo r.voters.length s.wc) (.slice s.bo r.best.length s.bc) 25)).alloc (.cells #[.int .i64 m.a0, .int .i64 m.a1, .int .i64 m.a2, .int .i64 m.a3, .int .i64 m.a4, .int .i64 m.a5, .int .i64 m.a6, .slice bo m.log.length c] 27)).alloc (repO0 25)) := (((Below.refl _ w).alloc (Nat.le_refl _) _).alloc (by simp) _).alloc (by simp; omega) _
  have hsz : (((w.alloc (repO r (.slice s.lo r.log.length s.lc) (.slice s.ao r.acked.length s.ac) (.slice s.vo r.votes.length s.vc) (.slice s.wo r.voters.length s.wc) (.slice s.bo r.best.length s.bc) 25)).alloc (.cells #[.int .i64 m.a0, .int .i64 m.a1, .int .i64 m.a2, .int .i64 m.a3, .int .i64 m.a4, .int .i64 m.a5, .int .i64 m.a6, .slice bo m.log.length c] 27)).alloc (repO0 25)).heap.size = w.heap.size + 3 := by simp
  have bx0 := ((box_rep w r (.slice s.lo r.log.length s.lc) (.slice s.ao r.acked.length s.ac) (.slice s.vo r.votes.length s.vc) (.slice s.wo r.voters.length s.wc) (.slice s.bo r.best.length s.bc) undef 25 w.heap.size rfl).alloc (.cells #[.int .i64 m.a0, .int .i64 m.a1, .int .i64 m.a2, .int .i64 m.a3, .int .i64 m.a4, .int .i64 m.a5, .int .i64 m.a6, .slice bo m.log.length c] 27)).alloc (repO0 25)
  have hm0 : (((w.alloc (repO r (.slice s.lo r.log.length s.lc) (.slice s.ao r.acked.length s.ac) (.slice s.vo r.votes.length s.vc) (.slice s.wo r.voters.length s.wc) (.slice s.bo r.best.length s.bc) 25)).alloc (.cells #[.int .i64 m.a0, .int .i64 m.a1, .int .i64 m.a2, .int .i64 m.a3, .int .i64 m.a4, .int .i64 m.a5, .int .i64 m.a6, .slice bo m.log.length c] 27)).alloc (repO0 25)).heap[w.heap.size + 1]? = some (.cells #[.int .i64 m.a0, .int .i64 m.a1, .int .i64 m.a2, .int .i64 m.a3, .int .i64 m.a4, .int .i64 m.a5, .int .i64 m.a6, .slice bo m.log.length c] 27 (0, 0)) := ((Below.refl _ ((w.alloc (repO r (.slice s.lo r.log.length s.lc) (.slice s.ao r.acked.length s.ac) (.slice s.vo r.votes.length s.vc) (.slice s.wo r.voters.length s.wc) (.slice s.bo r.best.length s.bc) 25)).alloc (.cells #[.int .i64 m.a0, .int .i64 m.a1, .int .i64 m.a2, .int .i64 m.a3, .int .i64 m.a4, .int .i64 m.a5, .int .i64 m.a6, .slice bo m.log.length c] 27))).alloc (Nat.le_refl _) _).block (w.heap.size + 1) (by simp) |>.trans (heap_newB _ _ _ (by simp))
  have by0 := box_rep0 ((w.alloc (repO r (.slice s.lo r.log.length s.lc) (.slice s.ao r.acked.length s.ac) (.slice s.vo r.votes.length s.vc) (.slice s.wo r.voters.length s.wc) (.slice s.bo r.best.length s.bc) 25)).alloc (.cells #[.int .i64 m.a0, .int .i64 m.a1, .int .i64 m.a2, .int .i64 m.a3, .int .i64 m.a4, .int .i64 m.a5, .int .i64 m.a6, .slice bo m.log.length c] 27)) undef 25 (w.heap.size + 2) (by simp)
  have hmay := rmay_any r s (small_m0 hsm) (((w.alloc (repO r (.slice s.lo r.log.length s.lc) (.slice s.ao r.acked.length s.ac) (.slice s.vo r.votes.length s.vc) (.slice s.wo r.voters.length s.wc) (.slice s.bo r.best.length s.bc) 25)).alloc (.cells #[.int .i64 m.a0, .int .i64 m.a1, .int .i64 m.a2, .int .i64 m.a3, .int .i64 m.a4, .int .i64 m.a5, .int .i64 m.a6, .slice bo m.log.length c] 27)).alloc (repO0 25)) (liesR_next hl hB hB.size)
  rw [tru_yes hyes] at hmay
  have HY : Hid (May r) := hyes
  have HOK : Hid (MsgD r m) := hok
  clear hok hyes
  have f4 : (m.a0 == 4) = true := by simp [hk]
  have d4 : decide (m.a0 = 4) = true := by simp [hk]
  clear hk
  go_enter Tryz.func13, Tryz.ntmps13
  go_wp2_with (first
    | (go_at_call 17; refine hmay.mono ?_; rintro e w1 ⟨rfl, hb1⟩
       have bx1 := bx0.below hb1
       have by1 := by0.below hb1
       have hm1 := (hb1.block (w.heap.size + 1) (by rw [hsz]; omega)).trans hm0
       have hw1 := hB.trans (hb1.mono hB.size)
       have hs1 := hb1.size
       rw [hsz] at hs1
       obtain ⟨a0, a1, a2, a3, a4, a5, a6, a7, a8, a9, a10, a11, a12⟩ := bx1.rep (by omega)
       obtain ⟨c0, c1, c2, c3, c4, c5, c6, c7⟩ := msg_cellsS hm1
       have hmes := rmessage_any r s m bo c w1 (liesE_next hm hw1 hw1.size)
       rw [tru_yes HOK.out] at hmes
       clear hmay bx0 by0 hm0)
    | (go_at_call 23; refine hmes.mono ?_; rintro e w2 ⟨rfl, hb2⟩
       have bx2 := bx1.below hb2
       have by2 := by1.below hb2
       have hm2 := (hb2.block (w.heap.size + 1) (by omega)).trans hm1
       have hw2 := below_next hw1 (Nat.le_refl _) hb2
       have hs2 := Nat.le_trans hs1 hb2.size
       clear a0 a1 a2 a3 a4 a5 a6 a7 a8 a9 a10 a11 a12 c0 c1 c2 c3 c4 c5 c6 c7
       obtain ⟨a0, a1, a2, a3, a4, a5, a6, a7, a8, a9, a10, a11, a12⟩ := bx2.rep (by omega)
       have hcop := rcopy_any r s hsm w2 (liesR_next hl hw2 hw2.size)
       clear hmes bx1 by1 hm1 hw1 hs1)
    | (go_at_call 11; refine hcop.mono ?_; rintro e w3 ⟨s2, rfl, hR2, hb3⟩
       have hT4 := turnR_new (B := w.heap.size + 3) HY.out hs2 hb3 hR2
       have hbA := (Below.refl _ w3).alloc (Nat.le_refl _) (repO r (.slice s2.lo r.log.length s2.lc) (.slice s2.ao r.acked.length s2.ac) (.slice s2.vo r.votes.length s2.vc) (.slice s2.wo r.voters.length s2.wc) (.slice s2.bo r.best.length s2.bc) 25)
       have by4 := (by2.below hb3).below hbA
       have hm4 := (hbA.block (w.heap.size + 1) (by have := hb3.size; omega)).trans ((hb3.block (w.heap.size + 1) (by omega)).trans hm2)
       have hw4 := below_next (below_next hw2 (Nat.le_refl _) hb3) (Nat.le_refl _) hbA
       obtain ⟨c0, c1, c2, c3, c4, c5, c6, c7⟩ := msg_cellsS hm4
       have hf := hF (w.heap.size + 3) w3.heap.size _ hT4 (.inl (liesE_next hm hw4 (by omega)))
       clear hcop hR2 hb3)
    | (go_at_call 24; refine hf.mono ?_; rintro e w5 ⟨v, rfl, hO5, hT5, hb5⟩
       obtain ⟨xo, xc, rfl⟩ := hO5.shape
       obtain ⟨s3, ⟨b0, b1, b2, b3, b4, b5, b6, b7, b8, b9, b10, b11, b12⟩, _, _, hH⟩ := hT5.cells
       have bz := by4.kept (hb5.block (w.heap.size + 2) (by omega))
       have hwV := hw4.trans (hb5.mono (show w.heap.size ≤ w.heap.size + 3 by omega))
       obtain ⟨bG, hS, hwG⟩ := res_box (show w.heap.size ≤ w.heap.size + 2 by omega) bz hwV q s3
       have hRG := rowsS_lies ((show RowsS (w.heap.size + 3) w5 q s3 from hH.rows).stay hS (by decide) (by decide))
       obtain ⟨d0, d1, d2, d3, d4, d5, d6, d7, d8, d9, d10, d11, d12⟩ := bz.rep (by omega)
       have dz := bz.unfrozen
       obtain ⟨g0, g1, g2, g3, g4, g5, g6, g7, g8, g9, g10, g11, g12⟩ := bG.rep (by omega)
       simp only [sets] at hRG hwG g0 g1 g2 g3 g4 g5 g6 g7 g8 g9 g10 g11 g12
       have hOG := ownO_liesM (ownO_stay hO5 hS (by decide) (by decide))
       simp only [sets] at hOG
       clear hS bG bz hwV hH hT5 hO5 hf hF))
  refine bodyPost_ret (v := .tuple #[repV q s3, .slice xo o.length xc, .int .i64 0]) (by simp [results, Tryz.results13, go_sem, g0, g1, g2, g3, g4, g5, g6, g7, g8, g9, g10, g11, g12]) rfl ⟨s3, xo, xc, rfl, hRG, hOG, hwG⟩
set_option maxRecDepth 100000 in
set_option maxHeartbeats 1000000 in
theorem rtake_5 (r : Rep) (s : Sl) (m : Msg) (bo : Option Addr) (c : Nat) (hsm : SmallR r) (hyes : May r) (hok : MsgD r m) (hk : m.a0 = 5) (q : Rep) (o : Msgs) (hF : ∀ (B g : Nat) (W : World), TurnR B W g r → SrcE B W bo c m.log → Calls Tryz.prog 25 #[.pointer (some ⟨g, 0, none⟩), msV m bo c] W fun e w' => ∃ v, e = .returned v ∧ OwnO B w' v o ∧ TurnR B w' g q ∧ Below B W w')
    (w : World) (hl : LiesR w w.heap.size s r) (hm : LiesE w w.heap.size bo m.log) :
    Calls Tryz.prog 13 #[repV r s, msV m bo c] w fun x w' => ∃ s' xo xc, x = .returned (.tuple #[repV q s', .slice xo o.length xc, .int .i64 0]) ∧ LiesR w' w'.heap.size s' q ∧ LiesM w' w'.heap.size xo o ∧ Below w.heap.size w w' := by
  have hB : Below w.heap.size w (((w.alloc (repO r (.slice s.lo r.log.length s.lc) (.slice s.ao r.acked.length s.ac) (.slice s.vo r.votes.length s.vc) (.slice s.wo r.voters.length s.wc) (.slice s.bo r.best.length s.bc) 25)).alloc (.cells #[.int .i64 m.a0, .int .i64 m.a1, .int .i64 m.a2, .int .i64 m.a3, .int .i64 m.a4, .int .i64 m.a5, .int .i64 m.a6, .slice bo m.log.length c] 27)).alloc (repO0 25)) := (((Below.refl _ w).alloc (Nat.le_refl _) _).alloc (by simp) _).alloc (by simp; omega) _
  have hsz : (((w.alloc (repO r (.slice s.lo r.log.length s.lc) (.slice s.ao r.acked.length s.ac) (.slice s.vo r.votes.length s.vc) (.slice s.wo r.voters.length s.wc) (.slice s.bo r.best.length s.bc) 25)).alloc (.cells #[.int .i64 m.a0, .int .i64 m.a1, .int .i64 m.a2, .int .i64 m.a3, .int .i64 m.a4, .int .i64 m.a5, .int .i64 m.a6, .slice bo m.log.length c] 27)).alloc (repO0 25)).heap.size = w.heap.size + 3 := by simp
  have bx0 := ((box_rep w r (.slice s.lo r.log.length s.lc) (.slice s.ao r.acked.length s.ac) (.slice s.vo r.votes.length s.vc) (.slice s.wo r.voters.length s.wc) (.slice s.bo r.best.length s.bc) undef 25 w.heap.size rfl).alloc (.cells #[.int .i64 m.a0, .int .i64 m.a1, .int .i64 m.a2, .int .i64 m.a3, .int .i64 m.a4, .int .i64 m.a5, .int .i64 m.a6, .slice bo m.log.length c] 27)).alloc (repO0 25)
  have hm0 : (((w.alloc (repO r (.slice s.lo r.log.length s.lc) (.slice s.ao r.acked.length s.ac) (.slice s.vo r.votes.length s.vc) (.slice s.wo r.voters.length s.wc) (.slice s.bo r.best.length s.bc) 25)).alloc (.cells #[.int .i64 m.a0, .int .i64 m.a1, .int .i64 m.a2, .int .i64 m.a3, .int .i64 m.a4, .int .i64 m.a5, .int .i64 m.a6, .slice bo m.log.length c] 27)).alloc (repO0 25)).heap[w.heap.size + 1]? = some (.cells #[.int .i64 m.a0, .int .i64 m.a1, .int .i64 m.a2, .int .i64 m.a3, .int .i64 m.a4, .int .i64 m.a5, .int .i64 m.a6, .slice bo m.log.length c] 27 (0, 0)) := ((Below.refl _ ((w.alloc (repO r (.slice s.lo r.log.length s.lc) (.slice s.ao r.acked.length s.ac) (.slice s.vo r.votes.length s.vc) (.slice s.wo r.voters.length s.wc) (.slice s.bo r.best.length s.bc) 25)).alloc (.cells #[.int .i64 m.a0, .int .i64 m.a1, .int .i64 m.a2, .int .i64 m.a3, .int .i64 m.a4, .int .i64 m.a5, .int .i64 m.a6, .slice bo m.log.length c] 27))).alloc (Nat.le_refl _) _).block (w.heap.size + 1) (by simp) |>.trans (heap_newB _ _ _ (by simp))
  have by0 := box_rep0 ((w.alloc (repO r (.slice s.lo r.log.length s.lc) (.slice s.ao r.acked.length s.ac) (.slice s.vo r.votes.length s.vc) (.slice s.wo r.voters.length s.wc) (.slice s.bo r.best.length s.bc) 25)).alloc (.cells #[.int .i64 m.a0, .int .i64 m.a1, .int .i64 m.a2, .int .i64 m.a3, .int .i64 m.a4, .int .i64 m.a5, .int .i64 m.a6, .slice bo m.log.length c] 27)) undef 25 (w.heap.size + 2) (by simp)
  have hmay := rmay_any r s (small_m0 hsm) (((w.alloc (repO r (.slice s.lo r.log.length s.lc) (.slice s.ao r.acked.length s.ac) (.slice s.vo r.votes.length s.vc) (.slice s.wo r.voters.length s.wc) (.slice s.bo r.best.length s.bc) 25)).alloc (.cells #[.int .i64 m.a0, .int .i64 m.a1, .int .i64 m.a2, .int .i64 m.a3, .int .i64 m.a4, .int .i64 m.a5, .int .i64 m.a6, .slice bo m.log.length c] 27)).alloc (repO0 25)) (liesR_next hl hB hB.size)
  rw [tru_yes hyes] at hmay
  have HY : Hid (May r) := hyes
  have HOK : Hid (MsgD r m) := hok
  clear hok hyes
  have f4 : (m.a0 == 4) = false := by simp [hk]
  have d4 : decide (m.a0 = 4) = false := by simp [hk]
  have f5 : (m.a0 == 5) = true := by simp [hk]
  have d5 : decide (m.a0 = 5) = true := by simp [hk]
  clear hk
  go_enter Tryz.func13, Tryz.ntmps13
  go_wp2_with (first
    | (go_at_call 17; refine hmay.mono ?_; rintro e w1 ⟨rfl, hb1⟩
       have bx1 := bx0.below hb1
       have by1 := by0.below hb1
       have hm1 := (hb1.block (w.heap.size + 1) (by rw [hsz]; omega)).trans hm0
       have hw1 := hB.trans (hb1.mono hB.size)
       have hs1 := hb1.size
       rw [hsz] at hs1
       obtain ⟨a0, a1, a2, a3, a4, a5, a6, a7, a8, a9, a10, a11, a12⟩ := bx1.rep (by omega)
       obtain ⟨c0, c1, c2, c3, c4, c5, c6, c7⟩ := msg_cellsS hm1
       have hmes := rmessage_any r s m bo c w1 (liesE_next hm hw1 hw1.size)
       rw [tru_yes HOK.out] at hmes
       clear hmay bx0 by0 hm0)
    | (go_at_call 23; refine hmes.mono ?_; rintro e w2 ⟨rfl, hb2⟩
       have bx2 := bx1.below hb2
       have by2 := by1.below hb2
       have hm2 := (hb2.block (w.heap.size + 1) (by omega)).trans hm1
       have hw2 := below_next hw1 (Nat.le_refl _) hb2
       have hs2 := Nat.le_trans hs1 hb2.size
       clear a0 a1 a2 a3 a4 a5 a6 a7 a8 a9 a10 a11 a12 c0 c1 c2 c3 c4 c5 c6 c7
       obtain ⟨a0, a1, a2, a3, a4, a5, a6, a7, a8, a9, a10, a11, a12⟩ := bx2.rep (by omega)
       have hcop := rcopy_any r s hsm w2 (liesR_next hl hw2 hw2.size)
       clear hmes bx1 by1 hm1 hw1 hs1)
    | (go_at_call 11; refine hcop.mono ?_; rintro e w3 ⟨s2, rfl, hR2, hb3⟩
       have hT4 := turnR_new (B := w.heap.size + 3) HY.out hs2 hb3 hR2
       have hbA := (Below.refl _ w3).alloc (Nat.le_refl _) (repO r (.slice s2.lo r.log.length s2.lc) (.slice s2.ao r.acked.length s2.ac) (.slice s2.vo r.votes.length s2.vc) (.slice s2.wo r.voters.length s2.wc) (.slice s2.bo r.best.length s2.bc) 25)
       have by4 := (by2.below hb3).below hbA
       have hm4 := (hbA.block (w.heap.size + 1) (by have := hb3.size; omega)).trans ((hb3.block (w.heap.size + 1) (by omega)).trans hm2)
       have hw4 := below_next (below_next hw2 (Nat.le_refl _) hb3) (Nat.le_refl _) hbA
       obtain ⟨c0, c1, c2, c3, c4, c5, c6, c7⟩ := msg_cellsS hm4
       have hf := hF (w.heap.size + 3) w3.heap.size _ hT4 (.inl (liesE_next hm hw4 (by omega)))
       clear hcop hR2 hb3)
    | (go_at_call 25; refine hf.mono ?_; rintro e w5 ⟨v, rfl, hO5, hT5, hb5⟩
       obtain ⟨xo, xc, rfl⟩ := hO5.shape
       obtain ⟨s3, ⟨b0, b1, b2, b3, b4, b5, b6, b7, b8, b9, b10, b11, b12⟩, _, _, hH⟩ := hT5.cells
       have bz := by4.kept (hb5.block (w.heap.size + 2) (by omega))
       have hwV := hw4.trans (hb5.mono (show w.heap.size ≤ w.heap.size + 3 by omega))
       obtain ⟨bG, hS, hwG⟩ := res_box (show w.heap.size ≤ w.heap.size + 2 by omega) bz hwV q s3
       have hRG := rowsS_lies ((show RowsS (w.heap.size + 3) w5 q s3 from hH.rows).stay hS (by decide) (by decide))
       obtain ⟨d0, d1, d2, d3, d4, d5, d6, d7, d8, d9, d10, d11, d12⟩ := bz.rep (by omega)
       have dz := bz.unfrozen
       obtain ⟨g0, g1, g2, g3, g4, g5, g6, g7, g8, g9, g10, g11, g12⟩ := bG.rep (by omega)
       simp only [sets] at hRG hwG g0 g1 g2 g3 g4 g5 g6 g7 g8 g9 g10 g11 g12
       have hOG := ownO_liesM (ownO_stay hO5 hS (by decide) (by decide))
       simp only [sets] at hOG
       clear hS bG bz hwV hH hT5 hO5 hf hF))
  refine bodyPost_ret (v := .tuple #[repV q s3, .slice xo o.length xc, .int .i64 0]) (by simp [results, Tryz.results13, go_sem, g0, g1, g2, g3, g4, g5, g6, g7, g8, g9, g10, g11, g12]) rfl ⟨s3, xo, xc, rfl, hRG, hOG, hwG⟩
set_option maxRecDepth 100000 in
set_option maxHeartbeats 1000000 in
theorem rtake_6 (r : Rep) (s : Sl) (m : Msg) (bo : Option Addr) (c : Nat) (hsm : SmallR r) (hyes : May r) (hok : MsgD r m) (hk : m.a0 = 6) (q : Rep) (o : Msgs) (hF : ∀ (B g : Nat) (W : World), TurnR B W g r → SrcE B W bo c m.log → Calls Tryz.prog 26 #[.pointer (some ⟨g, 0, none⟩), msV m bo c] W fun e w' => ∃ v, e = .returned v ∧ OwnO B w' v o ∧ TurnR B w' g q ∧ Below B W w')
    (w : World) (hl : LiesR w w.heap.size s r) (hm : LiesE w w.heap.size bo m.log) :
    Calls Tryz.prog 13 #[repV r s, msV m bo c] w fun x w' => ∃ s' xo xc, x = .returned (.tuple #[repV q s', .slice xo o.length xc, .int .i64 0]) ∧ LiesR w' w'.heap.size s' q ∧ LiesM w' w'.heap.size xo o ∧ Below w.heap.size w w' := by
  have hB : Below w.heap.size w (((w.alloc (repO r (.slice s.lo r.log.length s.lc) (.slice s.ao r.acked.length s.ac) (.slice s.vo r.votes.length s.vc) (.slice s.wo r.voters.length s.wc) (.slice s.bo r.best.length s.bc) 25)).alloc (.cells #[.int .i64 m.a0, .int .i64 m.a1, .int .i64 m.a2, .int .i64 m.a3, .int .i64 m.a4, .int .i64 m.a5, .int .i64 m.a6, .slice bo m.log.length c] 27)).alloc (repO0 25)) := (((Below.refl _ w).alloc (Nat.le_refl _) _).alloc (by simp) _).alloc (by simp; omega) _
  have hsz : (((w.alloc (repO r (.slice s.lo r.log.length s.lc) (.slice s.ao r.acked.length s.ac) (.slice s.vo r.votes.length s.vc) (.slice s.wo r.voters.length s.wc) (.slice s.bo r.best.length s.bc) 25)).alloc (.cells #[.int .i64 m.a0, .int .i64 m.a1, .int .i64 m.a2, .int .i64 m.a3, .int .i64 m.a4, .int .i64 m.a5, .int .i64 m.a6, .slice bo m.log.length c] 27)).alloc (repO0 25)).heap.size = w.heap.size + 3 := by simp
  have bx0 := ((box_rep w r (.slice s.lo r.log.length s.lc) (.slice s.ao r.acked.length s.ac) (.slice s.vo r.votes.length s.vc) (.slice s.wo r.voters.length s.wc) (.slice s.bo r.best.length s.bc) undef 25 w.heap.size rfl).alloc (.cells #[.int .i64 m.a0, .int .i64 m.a1, .int .i64 m.a2, .int .i64 m.a3, .int .i64 m.a4, .int .i64 m.a5, .int .i64 m.a6, .slice bo m.log.length c] 27)).alloc (repO0 25)
  have hm0 : (((w.alloc (repO r (.slice s.lo r.log.length s.lc) (.slice s.ao r.acked.length s.ac) (.slice s.vo r.votes.length s.vc) (.slice s.wo r.voters.length s.wc) (.slice s.bo r.best.length s.bc) 25)).alloc (.cells #[.int .i64 m.a0, .int .i64 m.a1, .int .i64 m.a2, .int .i64 m.a3, .int .i64 m.a4, .int .i64 m.a5, .int .i64 m.a6, .slice bo m.log.length c] 27)).alloc (repO0 25)).heap[w.heap.size + 1]? = some (.cells #[.int .i64 m.a0, .int .i64 m.a1, .int .i64 m.a2, .int .i64 m.a3, .int .i64 m.a4, .int .i64 m.a5, .int .i64 m.a6, .slice bo m.log.length c] 27 (0, 0)) := ((Below.refl _ ((w.alloc (repO r (.slice s.lo r.log.length s.lc) (.slice s.ao r.acked.length s.ac) (.slice s.vo r.votes.length s.vc) (.slice s.wo r.voters.length s.wc) (.slice s.bo r.best.length s.bc) 25)).alloc (.cells #[.int .i64 m.a0, .int .i64 m.a1, .int .i64 m.a2, .int .i64 m.a3, .int .i64 m.a4, .int .i64 m.a5, .int .i64 m.a6, .slice bo m.log.length c] 27))).alloc (Nat.le_refl _) _).block (w.heap.size + 1) (by simp) |>.trans (heap_newB _ _ _ (by simp))
  have by0 := box_rep0 ((w.alloc (repO r (.slice s.lo r.log.length s.lc) (.slice s.ao r.acked.length s.ac) (.slice s.vo r.votes.length s.vc) (.slice s.wo r.voters.length s.wc) (.slice s.bo r.best.length s.bc) 25)).alloc (.cells #[.int .i64 m.a0, .int .i64 m.a1, .int .i64 m.a2, .int .i64 m.a3, .int .i64 m.a4, .int .i64 m.a5, .int .i64 m.a6, .slice bo m.log.length c] 27)) undef 25 (w.heap.size + 2) (by simp)
  have hmay := rmay_any r s (small_m0 hsm) (((w.alloc (repO r (.slice s.lo r.log.length s.lc) (.slice s.ao r.acked.length s.ac) (.slice s.vo r.votes.length s.vc) (.slice s.wo r.voters.length s.wc) (.slice s.bo r.best.length s.bc) 25)).alloc (.cells #[.int .i64 m.a0, .int .i64 m.a1, .int .i64 m.a2, .int .i64 m.a3, .int .i64 m.a4, .int .i64 m.a5, .int .i64 m.a6, .slice bo m.log.length c] 27)).alloc (repO0 25)) (liesR_next hl hB hB.size)
  rw [tru_yes hyes] at hmay
  have HY : Hid (May r) := hyes
  have HOK : Hid (MsgD r m) := hok
  clear hok hyes
  have f4 : (m.a0 == 4) = false := by simp [hk]
  have d4 : decide (m.a0 = 4) = false := by simp [hk]
  have f5 : (m.a0 == 5) = false := by simp [hk]
  have d5 : decide (m.a0 = 5) = false := by simp [hk]
  have f6 : (m.a0 == 6) = true := by simp [hk]
  have d6 : decide (m.a0 = 6) = true := by simp [hk]
  clear hk
  go_enter Tryz.func13, Tryz.ntmps13
  go_wp2_with (first
    | (go_at_call 17; refine hmay.mono ?_; rintro e w1 ⟨rfl, hb1⟩
       have bx1 := bx0.below hb1
       have by1 := by0.below hb1
       have hm1 := (hb1.block (w.heap.size + 1) (by rw [hsz]; omega)).trans hm0
       have hw1 := hB.trans (hb1.mono hB.size)
       have hs1 := hb1.size
       rw [hsz] at hs1
       obtain ⟨a0, a1, a2, a3, a4, a5, a6, a7, a8, a9, a10, a11, a12⟩ := bx1.rep (by omega)
       obtain ⟨c0, c1, c2, c3, c4, c5, c6, c7⟩ := msg_cellsS hm1
       have hmes := rmessage_any r s m bo c w1 (liesE_next hm hw1 hw1.size)
       rw [tru_yes HOK.out] at hmes
       clear hmay bx0 by0 hm0)
    | (go_at_call 23; refine hmes.mono ?_; rintro e w2 ⟨rfl, hb2⟩
       have bx2 := bx1.below hb2
       have by2 := by1.below hb2
       have hm2 := (hb2.block (w.heap.size + 1) (by omega)).trans hm1
       have hw2 := below_next hw1 (Nat.le_refl _) hb2
       have hs2 := Nat.le_trans hs1 hb2.size
       clear a0 a1 a2 a3 a4 a5 a6 a7 a8 a9 a10 a11 a12 c0 c1 c2 c3 c4 c5 c6 c7
       obtain ⟨a0, a1, a2, a3, a4, a5, a6, a7, a8, a9, a10, a11, a12⟩ := bx2.rep (by omega)
       have hcop := rcopy_any r s hsm w2 (liesR_next hl hw2 hw2.size)
       clear hmes bx1 by1 hm1 hw1 hs1)
    | (go_at_call 11; refine hcop.mono ?_; rintro e w3 ⟨s2, rfl, hR2, hb3⟩
       have hT4 := turnR_new (B := w.heap.size + 3) HY.out hs2 hb3 hR2
       have hbA := (Below.refl _ w3).alloc (Nat.le_refl _) (repO r (.slice s2.lo r.log.length s2.lc) (.slice s2.ao r.acked.length s2.ac) (.slice s2.vo r.votes.length s2.vc) (.slice s2.wo r.voters.length s2.wc) (.slice s2.bo r.best.length s2.bc) 25)
       have by4 := (by2.below hb3).below hbA
       have hm4 := (hbA.block (w.heap.size + 1) (by have := hb3.size; omega)).trans ((hb3.block (w.heap.size + 1) (by omega)).trans hm2)
       have hw4 := below_next (below_next hw2 (Nat.le_refl _) hb3) (Nat.le_refl _) hbA
       obtain ⟨c0, c1, c2, c3, c4, c5, c6, c7⟩ := msg_cellsS hm4
       have hf := hF (w.heap.size + 3) w3.heap.size _ hT4 (.inl (liesE_next hm hw4 (by omega)))
       clear hcop hR2 hb3)
    | (go_at_call 26; refine hf.mono ?_; rintro e w5 ⟨v, rfl, hO5, hT5, hb5⟩
       obtain ⟨xo, xc, rfl⟩ := hO5.shape
       obtain ⟨s3, ⟨b0, b1, b2, b3, b4, b5, b6, b7, b8, b9, b10, b11, b12⟩, _, _, hH⟩ := hT5.cells
       have bz := by4.kept (hb5.block (w.heap.size + 2) (by omega))
       have hwV := hw4.trans (hb5.mono (show w.heap.size ≤ w.heap.size + 3 by omega))
       obtain ⟨bG, hS, hwG⟩ := res_box (show w.heap.size ≤ w.heap.size + 2 by omega) bz hwV q s3
       have hRG := rowsS_lies ((show RowsS (w.heap.size + 3) w5 q s3 from hH.rows).stay hS (by decide) (by decide))
       obtain ⟨d0, d1, d2, d3, d4, d5, d6, d7, d8, d9, d10, d11, d12⟩ := bz.rep (by omega)
       have dz := bz.unfrozen
       obtain ⟨g0, g1, g2, g3, g4, g5, g6, g7, g8, g9, g10, g11, g12⟩ := bG.rep (by omega)
       simp only [sets] at hRG hwG g0 g1 g2 g3 g4 g5 g6 g7 g8 g9 g10 g11 g12
       have hOG := ownO_liesM (ownO_stay hO5 hS (by decide) (by decide))
       simp only [sets] at hOG
       clear hS bG bz hwV hH hT5 hO5 hf hF))
  refine bodyPost_ret (v := .tuple #[repV q s3, .slice xo o.length xc, .int .i64 0]) (by simp [results, Tryz.results13, go_sem, g0, g1, g2, g3, g4, g5, g6, g7, g8, g9, g10, g11, g12]) rfl ⟨s3, xo, xc, rfl, hRG, hOG, hwG⟩
set_option maxRecDepth 100000 in
set_option maxHeartbeats 1000000 in
theorem rtake_8 (r : Rep) (s : Sl) (m : Msg) (bo : Option Addr) (c : Nat) (hsm : SmallR r) (hyes : May r) (hok : MsgD r m) (hk : m.a0 = 8) (q : Rep) (o : Msgs) (hF : ∀ (B g : Nat) (W : World), TurnR B W g r → SrcE B W bo c m.log → Calls Tryz.prog 30 #[.pointer (some ⟨g, 0, none⟩), msV m bo c] W fun e w' => ∃ v, e = .returned v ∧ OwnO B w' v o ∧ TurnR B w' g q ∧ Below B W w')
    (w : World) (hl : LiesR w w.heap.size s r) (hm : LiesE w w.heap.size bo m.log) :
    Calls Tryz.prog 13 #[repV r s, msV m bo c] w fun x w' => ∃ s' xo xc, x = .returned (.tuple #[repV q s', .slice xo o.length xc, .int .i64 0]) ∧ LiesR w' w'.heap.size s' q ∧ LiesM w' w'.heap.size xo o ∧ Below w.heap.size w w' := by
  have hB : Below w.heap.size w (((w.alloc (repO r (.slice s.lo r.log.length s.lc) (.slice s.ao r.acked.length s.ac) (.slice s.vo r.votes.length s.vc) (.slice s.wo r.voters.length s.wc) (.slice s.bo r.best.length s.bc) 25)).alloc (.cells #[.int .i64 m.a0, .int .i64 m.a1, .int .i64 m.a2, .int .i64 m.a3, .int .i64 m.a4, .int .i64 m.a5, .int .i64 m.a6, .slice bo m.log.length c] 27)).alloc (repO0 25)) := (((Below.refl _ w).alloc (Nat.le_refl _) _).alloc (by simp) _).alloc (by simp; omega) _
  have hsz : (((w.alloc (repO r (.slice s.lo r.log.length s.lc) (.slice s.ao r.acked.length s.ac) (.slice s.vo r.votes.length s.vc) (.slice s.wo r.voters.length s.wc) (.slice s.bo r.best.length s.bc) 25)).alloc (.cells #[.int .i64 m.a0, .int .i64 m.a1, .int .i64 m.a2, .int .i64 m.a3, .int .i64 m.a4, .int .i64 m.a5, .int .i64 m.a6, .slice bo m.log.length c] 27)).alloc (repO0 25)).heap.size = w.heap.size + 3 := by simp
  have bx0 := ((box_rep w r (.slice s.lo r.log.length s.lc) (.slice s.ao r.acked.length s.ac) (.slice s.vo r.votes.length s.vc) (.slice s.wo r.voters.length s.wc) (.slice s.bo r.best.length s.bc) undef 25 w.heap.size rfl).alloc (.cells #[.int .i64 m.a0, .int .i64 m.a1, .int .i64 m.a2, .int .i64 m.a3, .int .i64 m.a4, .int .i64 m.a5, .int .i64 m.a6, .slice bo m.log.length c] 27)).alloc (repO0 25)
  have hm0 : (((w.alloc (repO r (.slice s.lo r.log.length s.lc) (.slice s.ao r.acked.length s.ac) (.slice s.vo r.votes.length s.vc) (.slice s.wo r.voters.length s.wc) (.slice s.bo r.best.length s.bc) 25)).alloc (.cells #[.int .i64 m.a0, .int .i64 m.a1, .int .i64 m.a2, .int .i64 m.a3, .int .i64 m.a4, .int .i64 m.a5, .int .i64 m.a6, .slice bo m.log.length c] 27)).alloc (repO0 25)).heap[w.heap.size + 1]? = some (.cells #[.int .i64 m.a0, .int .i64 m.a1, .int .i64 m.a2, .int .i64 m.a3, .int .i64 m.a4, .int .i64 m.a5, .int .i64 m.a6, .slice bo m.log.length c] 27 (0, 0)) := ((Below.refl _ ((w.alloc (repO r (.slice s.lo r.log.length s.lc) (.slice s.ao r.acked.length s.ac) (.slice s.vo r.votes.length s.vc) (.slice s.wo r.voters.length s.wc) (.slice s.bo r.best.length s.bc) 25)).alloc (.cells #[.int .i64 m.a0, .int .i64 m.a1, .int .i64 m.a2, .int .i64 m.a3, .int .i64 m.a4, .int .i64 m.a5, .int .i64 m.a6, .slice bo m.log.length c] 27))).alloc (Nat.le_refl _) _).block (w.heap.size + 1) (by simp) |>.trans (heap_newB _ _ _ (by simp))
  have by0 := box_rep0 ((w.alloc (repO r (.slice s.lo r.log.length s.lc) (.slice s.ao r.acked.length s.ac) (.slice s.vo r.votes.length s.vc) (.slice s.wo r.voters.length s.wc) (.slice s.bo r.best.length s.bc) 25)).alloc (.cells #[.int .i64 m.a0, .int .i64 m.a1, .int .i64 m.a2, .int .i64 m.a3, .int .i64 m.a4, .int .i64 m.a5, .int .i64 m.a6, .slice bo m.log.length c] 27)) undef 25 (w.heap.size + 2) (by simp)
  have hmay := rmay_any r s (small_m0 hsm) (((w.alloc (repO r (.slice s.lo r.log.length s.lc) (.slice s.ao r.acked.length s.ac) (.slice s.vo r.votes.length s.vc) (.slice s.wo r.voters.length s.wc) (.slice s.bo r.best.length s.bc) 25)).alloc (.cells #[.int .i64 m.a0, .int .i64 m.a1, .int .i64 m.a2, .int .i64 m.a3, .int .i64 m.a4, .int .i64 m.a5, .int .i64 m.a6, .slice bo m.log.length c] 27)).alloc (repO0 25)) (liesR_next hl hB hB.size)
  rw [tru_yes hyes] at hmay
  have HY : Hid (May r) := hyes
  have HOK : Hid (MsgD r m) := hok
  clear hok hyes
  have f4 : (m.a0 == 4) = false := by simp [hk]
  have d4 : decide (m.a0 = 4) = false := by simp [hk]
  have f5 : (m.a0 == 5) = false := by simp [hk]
  have d5 : decide (m.a0 = 5) = false := by simp [hk]
  have f6 : (m.a0 == 6) = false := by simp [hk]
  have d6 : decide (m.a0 = 6) = false := by simp [hk]
  have f1 : (m.a0 == 1) = false := by simp [hk]
  have d1 : decide (m.a0 = 1) = false := by simp [hk]
  have f3 : (m.a0 == 3) = false := by simp [hk]
  have d3 : decide (m.a0 = 3) = false := by simp [hk]
  have f2 : (m.a0 == 2) = false := by simp [hk]
  have d2 : decide (m.a0 = 2) = false := by simp [hk]
  have f7 : (m.a0 == 7) = false := by simp [hk]
  have d7 : decide (m.a0 = 7) = false := by simp [hk]
  have f8 : (m.a0 == 8) = true := by simp [hk]
  have d8 : decide (m.a0 = 8) = true := by simp [hk]
  clear hk
  go_enter Tryz.func13, Tryz.ntmps13
  go_wp2_with (first
    | (go_at_call 17; refine hmay.mono ?_; rintro e w1 ⟨rfl, hb1⟩
       have bx1 := bx0.below hb1
       have by1 := by0.below hb1
       have hm1 := (hb1.block (w.heap.size + 1) (by rw [hsz]; omega)).trans hm0
       have hw1 := hB.trans (hb1.mono hB.size)
       have hs1 := hb1.size
       rw [hsz] at hs1
       obtain ⟨a0, a1, a2, a3, a4, a5, a6, a7, a8, a9, a10, a11, a12⟩ := bx1.rep (by omega)
       obtain ⟨c0, c1, c2, c3, c4, c5, c6, c7⟩ := msg_cellsS hm1
       have hmes := rmessage_any r s m bo c w1 (liesE_next hm hw1 hw1.size)
       rw [tru_yes HOK.out] at hmes
       clear hmay bx0 by0 hm0)
    | (go_at_call 23; refine hmes.mono ?_; rintro e w2 ⟨rfl, hb2⟩
       have bx2 := bx1.below hb2
       have by2 := by1.below hb2
       have hm2 := (hb2.block (w.heap.size + 1) (by omega)).trans hm1
       have hw2 := below_next hw1 (Nat.le_refl _) hb2
       have hs2 := Nat.le_trans hs1 hb2.size
       clear a0 a1 a2 a3 a4 a5 a6 a7 a8 a9 a10 a11 a12 c0 c1 c2 c3 c4 c5 c6 c7
       obtain ⟨a0, a1, a2, a3, a4, a5, a6, a7, a8, a9, a10, a11, a12⟩ := bx2.rep (by omega)
       have hcop := rcopy_any r s hsm w2 (liesR_next hl hw2 hw2.size)
       clear hmes bx1 by1 hm1 hw1 hs1)
    | (go_at_call 11; refine hcop.mono ?_; rintro e w3 ⟨s2, rfl, hR2, hb3⟩
       have hT4 := turnR_new (B := w.heap.size + 3) HY.out hs2 hb3 hR2
       have hbA := (Below.refl _ w3).alloc (Nat.le_refl _) (repO r (.slice s2.lo r.log.length s2.lc) (.slice s2.ao r.acked.length s2.ac) (.slice s2.vo r.votes.length s2.vc) (.slice s2.wo r.voters.length s2.wc) (.slice s2.bo r.best.length s2.bc) 25)
       have by4 := (by2.below hb3).below hbA
       have hm4 := (hbA.block (w.heap.size + 1) (by have := hb3.size; omega)).trans ((hb3.block (w.heap.size + 1) (by omega)).trans hm2)
       have hw4 := below_next (below_next hw2 (Nat.le_refl _) hb3) (Nat.le_refl _) hbA
       obtain ⟨c0, c1, c2, c3, c4, c5, c6, c7⟩ := msg_cellsS hm4
       have hf := hF (w.heap.size + 3) w3.heap.size _ hT4 (.inl (liesE_next hm hw4 (by omega)))
       clear hcop hR2 hb3)
    | (go_at_call 30; refine hf.mono ?_; rintro e w5 ⟨v, rfl, hO5, hT5, hb5⟩
       obtain ⟨xo, xc, rfl⟩ := hO5.shape
       obtain ⟨s3, ⟨b0, b1, b2, b3, b4, b5, b6, b7, b8, b9, b10, b11, b12⟩, _, _, hH⟩ := hT5.cells
       have bz := by4.kept (hb5.block (w.heap.size + 2) (by omega))
       have hwV := hw4.trans (hb5.mono (show w.heap.size ≤ w.heap.size + 3 by omega))
       obtain ⟨bG, hS, hwG⟩ := res_box (show w.heap.size ≤ w.heap.size + 2 by omega) bz hwV q s3
       have hRG := rowsS_lies ((show RowsS (w.heap.size + 3) w5 q s3 from hH.rows).stay hS (by decide) (by decide))
       obtain ⟨d0, d1, d2, d3, d4, d5, d6, d7, d8, d9, d10, d11, d12⟩ := bz.rep (by omega)
       have dz := bz.unfrozen
       obtain ⟨g0, g1, g2, g3, g4, g5, g6, g7, g8, g9, g10, g11, g12⟩ := bG.rep (by omega)
       simp only [sets] at hRG hwG g0 g1 g2 g3 g4 g5 g6 g7 g8 g9 g10 g11 g12
       have hOG := ownO_liesM (ownO_stay hO5 hS (by decide) (by decide))
       simp only [sets] at hOG
       clear hS bG bz hwV hH hT5 hO5 hf hF))
  refine bodyPost_ret (v := .tuple #[repV q s3, .slice xo o.length xc, .int .i64 0]) (by simp [results, Tryz.results13, go_sem, g0, g1, g2, g3, g4, g5, g6, g7, g8, g9, g10, g11, g12]) rfl ⟨s3, xo, xc, rfl, hRG, hOG, hwG⟩
end Go.Proofs.YtgdehjdajjhjpaaGreat
