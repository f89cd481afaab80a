/-
  Contracts: the document's own Suspect and Restart.
-/
import Derived.Test.YtgdehjdajjhjpaaRpRCp
import Derived.Test.YtgdehjdajjhjpaaRpPrS
import Derived.Test.YtgdehjdajjhjpaaRpRf
import Derived.Test.YtgdehjdajjhjpaaRpRMb
namespace Go.Proofs.Ytgdehjdajjhjpaa
open Go.RowKit Num
open scoped Classical
set_option linter.unusedVariables false

set_option maxRecDepth 100000 in
set_option maxHeartbeats 1000000 in
theorem rsus_a (r : Rep) (s : Sl) (hsm : SmallR r) (hno : ¬ May r) (w : World) (hl : LiesR w w.heap.size s r) :
    Calls Try.prog 20 #[repV r s] w fun x w' => ∃ s' xo xc, x = .returned (.tuple #[repV r s', .slice xo ([] : Msgs).length xc, .int .i64 1]) ∧ LiesR w' w'.heap.size s' r ∧ LiesM w' w'.heap.size xo ([] : Msgs) ∧ Below w.heap.size w w' := by
  have hB : Below w.heap.size w ((w.alloc (repO r (.slice s.lo r.log.length s.lc) (.slice s.ao r.acked.length s.ac) (.slice s.vo r.votes.length s.vc) (.slice s.wo r.voters.length s.wc) (.slice s.bo r.best.length s.bc) 25)).alloc (repO0 25)) := ((Below.refl _ w).alloc (Nat.le_refl _) _).alloc (by simp) _
  have hsz : ((w.alloc (repO r (.slice s.lo r.log.length s.lc) (.slice s.ao r.acked.length s.ac) (.slice s.vo r.votes.length s.vc) (.slice s.wo r.voters.length s.wc) (.slice s.bo r.best.length s.bc) 25)).alloc (repO0 25)).heap.size = w.heap.size + 2 := by simp
  have bx0 := (box_rep w r (.slice s.lo r.log.length s.lc) (.slice s.ao r.acked.length s.ac) (.slice s.vo r.votes.length s.vc) (.slice s.wo r.voters.length s.wc) (.slice s.bo r.best.length s.bc) undef 25 w.heap.size rfl).alloc (repO0 25)
  have by0 := box_rep0 (w.alloc (repO r (.slice s.lo r.log.length s.lc) (.slice s.ao r.acked.length s.ac) (.slice s.vo r.votes.length s.vc) (.slice s.wo r.voters.length s.wc) (.slice s.bo r.best.length s.bc) 25)) undef 25 (w.heap.size + 1) (by simp)
  have hmay := rmay_any r s (small_m0 hsm) ((w.alloc (repO r (.slice s.lo r.log.length s.lc) (.slice s.ao r.acked.length s.ac) (.slice s.vo r.votes.length s.vc) (.slice s.wo r.voters.length s.wc) (.slice s.bo r.best.length s.bc) 25)).alloc (repO0 25)) (liesR_next hl hB hB.size)
  rw [tru_no hno] at hmay
  clear hno
  go_enter Try.func20, Try.ntmps20
  go_wp2_with (first
    | (go_at_call 14; refine hmay.mono ?_; rintro e w1 ⟨rfl, hb1⟩
       have bx1 := bx0.below hb1
       have by1 := by0.below hb1
       have hw1 := hB.trans (hb1.mono hB.size)
       have hs1 := hb1.size
       rw [hsz] at hs1
       obtain ⟨a0, a1, a2, a3, a4, a5, a6, a7, a8, a9, a10, a11, a12⟩ := bx1.rep (by omega)
       obtain ⟨bG, hS, hwG⟩ := res_box (show w.heap.size ≤ w.heap.size + 1 by omega) by1 hw1 r s
       have hRG := liesR_next hl hwG hwG.size
       obtain ⟨d0, d1, d2, d3, d4, d5, d6, d7, d8, d9, d10, d11, d12⟩ := by1.rep (by omega)
       have dz := by1.unfrozen
       obtain ⟨g0, g1, g2, g3, g4, g5, g6, g7, g8, g9, g10, g11, g12⟩ := bG.rep (by omega)
       simp only [sets] at hRG hwG g0 g1 g2 g3 g4 g5 g6 g7 g8 g9 g10 g11 g12
       clear hS bG bx1 by1 hw1 hl
       clear hmay bx0 by0))
  refine bodyPost_ret (v := .tuple #[repV r s, .slice none 0 0, .int .i64 1]) (by simp [results, Try.results20, go_sem, g0, g1, g2, g3, g4, g5, g6, g7, g8, g9, g10, g11, g12]) rfl ⟨s, none, 0, rfl, hRG, liesM_nil _ _ _, hwG⟩
set_option maxRecDepth 100000 in
set_option maxHeartbeats 1000000 in
theorem rsus_b (r : Rep) (s : Sl) (hsm : SmallR r) (hyes : May r) (hv : ¬ r.view + 1 < 1099511627776) (w : World) (hl : LiesR w w.heap.size s r) :
    Calls Try.prog 20 #[repV r s] w fun x w' => ∃ s' xo xc, x = .returned (.tuple #[repV r s', .slice xo ([] : Msgs).length xc, .int .i64 4]) ∧ LiesR w' w'.heap.size s' r ∧ LiesM w' w'.heap.size xo ([] : Msgs) ∧ Below w.heap.size w w' := by
  have hB : Below w.heap.size w ((w.alloc (repO r (.slice s.lo r.log.length s.lc) (.slice s.ao r.acked.length s.ac) (.slice s.vo r.votes.length s.vc) (.slice s.wo r.voters.length s.wc) (.slice s.bo r.best.length s.bc) 25)).alloc (repO0 25)) := ((Below.refl _ w).alloc (Nat.le_refl _) _).alloc (by simp) _
  have hsz : ((w.alloc (repO r (.slice s.lo r.log.length s.lc) (.slice s.ao r.acked.length s.ac) (.slice s.vo r.votes.length s.vc) (.slice s.wo r.voters.length s.wc) (.slice s.bo r.best.length s.bc) 25)).alloc (repO0 25)).heap.size = w.heap.size + 2 := by simp
  have bx0 := (box_rep w r (.slice s.lo r.log.length s.lc) (.slice s.ao r.acked.length s.ac) (.slice s.vo r.votes.length s.vc) (.slice s.wo r.voters.length s.wc) (.slice s.bo r.best.length s.bc) undef 25 w.heap.size rfl).alloc (repO0 25)
  have by0 := box_rep0 (w.alloc (repO r (.slice s.lo r.log.length s.lc) (.slice s.ao r.acked.length s.ac) (.slice s.vo r.votes.length s.vc) (.slice s.wo r.voters.length s.wc) (.slice s.bo r.best.length s.bc) 25)) undef 25 (w.heap.size + 1) (by simp)
  have hmay := rmay_any r s (small_m0 hsm) ((w.alloc (repO r (.slice s.lo r.log.length s.lc) (.slice s.ao r.acked.length s.ac) (.slice s.vo r.votes.length s.vc) (.slice s.wo r.voters.length s.wc) (.slice s.bo r.best.length s.bc) 25)).alloc (repO0 25)) (liesR_next hl hB hB.size)
  rw [tru_yes hyes] at hmay
  have hd : decide (1099511627775 ≤ r.view) = true := decide_eq_true (by omega)
  have hd2 : 1099511627775 ≤ r.view := by omega
  clear hyes
  go_enter Try.func20, Try.ntmps20
  go_wp2_with (first
    | (go_at_call 14; refine hmay.mono ?_; rintro e w1 ⟨rfl, hb1⟩
       have bx1 := bx0.below hb1
       have by1 := by0.below hb1
       have hw1 := hB.trans (hb1.mono hB.size)
       have hs1 := hb1.size
       rw [hsz] at hs1
       obtain ⟨a0, a1, a2, a3, a4, a5, a6, a7, a8, a9, a10, a11, a12⟩ := bx1.rep (by omega)
       obtain ⟨bG, hS, hwG⟩ := res_box (show w.heap.size ≤ w.heap.size + 1 by omega) by1 hw1 r s
       have hRG := liesR_next hl hwG hwG.size
       obtain ⟨d0, d1, d2, d3, d4, d5, d6, d7, d8, d9, d10, d11, d12⟩ := by1.rep (by omega)
       have dz := by1.unfrozen
       obtain ⟨g0, g1, g2, g3, g4, g5, g6, g7, g8, g9, g10, g11, g12⟩ := bG.rep (by omega)
       simp only [sets] at hRG hwG g0 g1 g2 g3 g4 g5 g6 g7 g8 g9 g10 g11 g12
       clear hS bG bx1 by1 hw1 hl
       clear hmay bx0 by0))
  refine bodyPost_ret (v := .tuple #[repV r s, .slice none 0 0, .int .i64 4]) (by simp [results, Try.results20, go_sem, g0, g1, g2, g3, g4, g5, g6, g7, g8, g9, g10, g11, g12]) rfl ⟨s, none, 0, rfl, hRG, liesM_nil _ _ _, hwG⟩
set_option maxRecDepth 100000 in
set_option maxHeartbeats 1000000 in
theorem rres_a (r : Rep) (s : Sl) (hsm : SmallR r) (hno : ¬ May r) (w : World) (hl : LiesR w w.heap.size s r) :
    Calls Try.prog 22 #[repV r s] w fun x w' => ∃ s', x = .returned (.tuple #[repV r s', .int .i64 1]) ∧ LiesR w' w'.heap.size s' r ∧ Below w.heap.size w w' := by
  have hB : Below w.heap.size w ((w.alloc (repO r (.slice s.lo r.log.length s.lc) (.slice s.ao r.acked.length s.ac) (.slice s.vo r.votes.length s.vc) (.slice s.wo r.voters.length s.wc) (.slice s.bo r.best.length s.bc) 25)).alloc (repO0 25)) := ((Below.refl _ w).alloc (Nat.le_refl _) _).alloc (by simp) _
  have hsz : ((w.alloc (repO r (.slice s.lo r.log.length s.lc) (.slice s.ao r.acked.length s.ac) (.slice s.vo r.votes.length s.vc) (.slice s.wo r.voters.length s.wc) (.slice s.bo r.best.length s.bc) 25)).alloc (repO0 25)).heap.size = w.heap.size + 2 := by simp
  have bx0 := (box_rep w r (.slice s.lo r.log.length s.lc) (.slice s.ao r.acked.length s.ac) (.slice s.vo r.votes.length s.vc) (.slice s.wo r.voters.length s.wc) (.slice s.bo r.best.length s.bc) undef 25 w.heap.size rfl).alloc (repO0 25)
  have by0 := box_rep0 (w.alloc (repO r (.slice s.lo r.log.length s.lc) (.slice s.ao r.acked.length s.ac) (.slice s.vo r.votes.length s.vc) (.slice s.wo r.voters.length s.wc) (.slice s.bo r.best.length s.bc) 25)) undef 25 (w.heap.size + 1) (by simp)
  have hmay := rmay_any r s (small_m0 hsm) ((w.alloc (repO r (.slice s.lo r.log.length s.lc) (.slice s.ao r.acked.length s.ac) (.slice s.vo r.votes.length s.vc) (.slice s.wo r.voters.length s.wc) (.slice s.bo r.best.length s.bc) 25)).alloc (repO0 25)) (liesR_next hl hB hB.size)
  rw [tru_no hno] at hmay
  clear hno
  go_enter Try.func22, Try.ntmps22
  go_wp2_with (first
    | (go_at_call 14; refine hmay.mono ?_; rintro e w1 ⟨rfl, hb1⟩
       have bx1 := bx0.below hb1
       have by1 := by0.below hb1
       have hw1 := hB.trans (hb1.mono hB.size)
       have hs1 := hb1.size
       rw [hsz] at hs1
       obtain ⟨a0, a1, a2, a3, a4, a5, a6, a7, a8, a9, a10, a11, a12⟩ := bx1.rep (by omega)
       obtain ⟨bG, hS, hwG⟩ := res_box (show w.heap.size ≤ w.heap.size + 1 by omega) by1 hw1 r s
       have hRG := liesR_next hl hwG hwG.size
       obtain ⟨d0, d1, d2, d3, d4, d5, d6, d7, d8, d9, d10, d11, d12⟩ := by1.rep (by omega)
       have dz := by1.unfrozen
       obtain ⟨g0, g1, g2, g3, g4, g5, g6, g7, g8, g9, g10, g11, g12⟩ := bG.rep (by omega)
       simp only [sets] at hRG hwG g0 g1 g2 g3 g4 g5 g6 g7 g8 g9 g10 g11 g12
       clear hS bG bx1 by1 hw1 hl
       clear hmay bx0 by0))
  refine bodyPost_ret (v := .tuple #[repV r s, .int .i64 1]) (by simp [results, Try.results22, go_sem, g0, g1, g2, g3, g4, g5, g6, g7, g8, g9, g10, g11, g12]) rfl ⟨s, rfl, hRG, hwG⟩
set_option maxRecDepth 100000 in
set_option maxHeartbeats 1000000 in
theorem rsus_d (r : Rep) (s : Sl) (hsm : SmallR r) (hyes : May r) (hv : r.view + 1 < 1099511627776) (hn : ¬ r.n = 1) (w : World) (hl : LiesR w w.heap.size s r) :
    Calls Try.prog 20 #[repV r s] w fun x w' => ∃ s' xo xc, x = .returned (.tuple #[repV (changeR r (r.view + 1)) s', .slice xo (allM (changeR r (r.view + 1)) (msg 4 0 0 0 [])).length xc, .int .i64 0]) ∧ LiesR w' w'.heap.size s' (changeR r (r.view + 1)) ∧ LiesM w' w'.heap.size xo (allM (changeR r (r.view + 1)) (msg 4 0 0 0 [])) ∧ Below w.heap.size w w' := by
  have hB : Below w.heap.size w ((w.alloc (repO r (.slice s.lo r.log.length s.lc) (.slice s.ao r.acked.length s.ac) (.slice s.vo r.votes.length s.vc) (.slice s.wo r.voters.length s.wc) (.slice s.bo r.best.length s.bc) 25)).alloc (repO0 25)) := ((Below.refl _ w).alloc (Nat.le_refl _) _).alloc (by simp) _
  have hsz : ((w.alloc (repO r (.slice s.lo r.log.length s.lc) (.slice s.ao r.acked.length s.ac) (.slice s.vo r.votes.length s.vc) (.slice s.wo r.voters.length s.wc) (.slice s.bo r.best.length s.bc) 25)).alloc (repO0 25)).heap.size = w.heap.size + 2 := by simp
  have bx0 := (box_rep w r (.slice s.lo r.log.length s.lc) (.slice s.ao r.acked.length s.ac) (.slice s.vo r.votes.length s.vc) (.slice s.wo r.voters.length s.wc) (.slice s.bo r.best.length s.bc) undef 25 w.heap.size rfl).alloc (repO0 25)
  have by0 := box_rep0 (w.alloc (repO r (.slice s.lo r.log.length s.lc) (.slice s.ao r.acked.length s.ac) (.slice s.vo r.votes.length s.vc) (.slice s.wo r.voters.length s.wc) (.slice s.bo r.best.length s.bc) 25)) undef 25 (w.heap.size + 1) (by simp)
  have hmay := rmay_any r s (small_m0 hsm) ((w.alloc (repO r (.slice s.lo r.log.length s.lc) (.slice s.ao r.acked.length s.ac) (.slice s.vo r.votes.length s.vc) (.slice s.wo r.voters.length s.wc) (.slice s.bo r.best.length s.bc) 25)).alloc (repO0 25)) (liesR_next hl hB hB.size)
  rw [tru_yes hyes] at hmay
  have hv0 := hyes.views.1.1
  have hd : decide (1099511627775 ≤ r.view) = false := decide_eq_false (by omega)
  have hd2 : ¬ 1099511627775 ≤ r.view := by omega
  have hw : IntKind.i64.wrap (r.view + 1) = r.view + 1 := by rw [IntKind.wrap_i64]; omega
  have HY : Hid (May r) := hyes
  clear hyes hv0
  have hch := fun W g hT => rchanges_any (w.heap.size + 2) g r (r.view + 1) W hT
  have hq : (changeR r (r.view + 1)).n = r.n := rfl
  have hn2 : ((changeR r (r.view + 1)).n == 1) = false := by simp [hq, hn]
  have hn3 : decide ((changeR r (r.view + 1)).n = 1) = false := by simp [hq, hn]
  have hn4 : ¬ (changeR r (r.view + 1)).n = 1 := hn
  generalize changeR r (r.view + 1) = q at *
  generalize allM q (msg 4 0 0 0 []) = o at *
  clear hq hn
  go_enter Try.func20, Try.ntmps20
  go_wp2_with (first
    | (go_at_call 14; refine hmay.mono ?_; rintro e w1 ⟨rfl, hb1⟩
       have bx1 := bx0.below hb1
       have by1 := by0.below hb1
       have hw1 := hB.trans (hb1.mono hB.size)
       have hs1 := hb1.size
       rw [hsz] at hs1
       obtain ⟨a0, a1, a2, a3, a4, a5, a6, a7, a8, a9, a10, a11, a12⟩ := bx1.rep (by omega)
       have hcop := rcopy_any r s hsm w1 (liesR_next hl hw1 hw1.size)
       clear hmay bx0 by0)
    | (go_at_call 15; refine hcop.mono ?_; rintro e w2 ⟨s2, rfl, hR2, hb2⟩
       have hT3 := turnR_new (B := w.heap.size + 2) HY.out hs1 hb2 hR2
       have hbA := (Below.refl _ w2).alloc (Nat.le_refl _) (repO r (.slice s2.lo r.log.length s2.lc) (.slice s2.ao r.acked.length s2.ac) (.slice s2.vo r.votes.length s2.vc) (.slice s2.wo r.voters.length s2.wc) (.slice s2.bo r.best.length s2.bc) 25)
       have by2 := (by1.below hb2).below hbA
       have hw3 := below_next (below_next hw1 (Nat.le_refl _) hb2) (Nat.le_refl _) hbA
       obtain ⟨s4, ⟨e0, e1, e2, e3, e4, e5, e6, e7, e8, e9, e10, e11, e12⟩, _⟩ := hT3.cells
       have hc := hch _ _ hT3
       clear hcop hR2 hb2)
    | (go_at_call 43; refine hc.mono ?_; rintro e w4 ⟨v, rfl, hO4, hT4, hK4⟩
       obtain ⟨xo, xc, rfl⟩ := hO4.shape
       obtain ⟨s3, ⟨b0, b1, b2, b3, b4, b5, b6, b7, b8, b9, b10, b11, b12⟩, _, _, hH⟩ := hT4.cells
       have bz := by2.kept (hK4.low.block (w.heap.size + 1) (by omega))
       have hwV := hw3.trans (hK4.low.mono (show w.heap.size ≤ w.heap.size + 2 by omega))
       obtain ⟨bG, hS, hwG⟩ := res_box (show w.heap.size ≤ w.heap.size + 1 by omega) bz hwV q s3
       have hRG := rowsS_lies ((show RowsS (w.heap.size + 2) w4 q s3 from hH.rows).stay hS (by decide) (by decide))
       obtain ⟨d0, d1, d2, d3, d4, d5, d6, d7, d8, d9, d10, d11, d12⟩ := bz.rep (by omega)
       have dz := bz.unfrozen
       obtain ⟨g0, g1, g2, g3, g4, g5, g6, g7, g8, g9, g10, g11, g12⟩ := bG.rep (by omega)
       simp only [sets] at hRG hwG g0 g1 g2 g3 g4 g5 g6 g7 g8 g9 g10 g11 g12
       have hOG := ownO_liesM (ownO_stay hO4 hS (by decide) (by decide))
       simp only [sets] at hOG
       clear hS bG bz hwV hH hT4 hO4 hc hch))
  refine bodyPost_ret (v := .tuple #[repV q s3, .slice xo o.length xc, .int .i64 0]) (by simp [results, Try.results20, go_sem, g0, g1, g2, g3, g4, g5, g6, g7, g8, g9, g10, g11, g12]) rfl ⟨s3, xo, xc, rfl, hRG, hOG, hwG⟩
set_option maxRecDepth 100000 in
set_option maxHeartbeats 1000000 in
theorem rsus_c (r : Rep) (s : Sl) (hsm : SmallR r) (hyes : May r) (hv : r.view + 1 < 1099511627776) (hn : r.n = 1) (w : World) (hl : LiesR w w.heap.size s r) :
    Calls Try.prog 20 #[repV r s] w fun x w' => ∃ s' xo xc, x = .returned (.tuple #[repV (normalR r r.log (r.view + 1) r.commit) s', .slice xo ([] : Msgs).length xc, .int .i64 0]) ∧ LiesR w' w'.heap.size s' (normalR r r.log (r.view + 1) r.commit) ∧ LiesM w' w'.heap.size xo ([] : Msgs) ∧ Below w.heap.size w w' := by
  have hB : Below w.heap.size w ((w.alloc (repO r (.slice s.lo r.log.length s.lc) (.slice s.ao r.acked.length s.ac) (.slice s.vo r.votes.length s.vc) (.slice s.wo r.voters.length s.wc) (.slice s.bo r.best.length s.bc) 25)).alloc (repO0 25)) := ((Below.refl _ w).alloc (Nat.le_refl _) _).alloc (by simp) _
  have hsz : ((w.alloc (repO r (.slice s.lo r.log.length s.lc) (.slice s.ao r.acked.length s.ac) (.slice s.vo r.votes.length s.vc) (.slice s.wo r.voters.length s.wc) (.slice s.bo r.best.length s.bc) 25)).alloc (repO0 25)).heap.size = w.heap.size + 2 := by simp
  have bx0 := (box_rep w r (.slice s.lo r.log.length s.lc) (.slice s.ao r.acked.length s.ac) (.slice s.vo r.votes.length s.vc) (.slice s.wo r.voters.length s.wc) (.slice s.bo r.best.length s.bc) undef 25 w.heap.size rfl).alloc (repO0 25)
  have by0 := box_rep0 (w.alloc (repO r (.slice s.lo r.log.length s.lc) (.slice s.ao r.acked.length s.ac) (.slice s.vo r.votes.length s.vc) (.slice s.wo r.voters.length s.wc) (.slice s.bo r.best.length s.bc) 25)) undef 25 (w.heap.size + 1) (by simp)
  have hmay := rmay_any r s (small_m0 hsm) ((w.alloc (repO r (.slice s.lo r.log.length s.lc) (.slice s.ao r.acked.length s.ac) (.slice s.vo r.votes.length s.vc) (.slice s.wo r.voters.length s.wc) (.slice s.bo r.best.length s.bc) 25)).alloc (repO0 25)) (liesR_next hl hB hB.size)
  rw [tru_yes hyes] at hmay
  have hv0 := hyes.views.1.1
  have hd : decide (1099511627775 ≤ r.view) = false := decide_eq_false (by omega)
  have hd2 : ¬ 1099511627775 ≤ r.view := by omega
  have hw : IntKind.i64.wrap (r.view + 1) = r.view + 1 := by rw [IntKind.wrap_i64]; omega
  have HY : Hid (May r) := hyes
  clear hyes hv0
  have hch := fun W g hT => rchanges_any (w.heap.size + 2) g r (r.view + 1) W hT
  have hq : (changeR r (r.view + 1)).n = r.n := rfl
  have hn2 : ((changeR r (r.view + 1)).n == 1) = true := by simp [hq, hn]
  have hn3 : decide ((changeR r (r.view + 1)).n = 1) = true := by simp [hq, hn]
  have e1 : normalR r r.log (r.view + 1) r.commit = normalR (changeR r (r.view + 1)) (changeR r (r.view + 1)).log (changeR r (r.view + 1)).view (changeR r (r.view + 1)).commit := rfl
  rw [e1]
  clear e1
  generalize changeR r (r.view + 1) = q at *
  have hno := fun bo c W g hT hs hl => rnormal_any (w.heap.size + 2) g q q.log bo c q.view q.commit W hT hs hl
  generalize allM q (msg 4 0 0 0 []) = o at *
  generalize normalR q q.log q.view q.commit = q2 at *
  clear hq hn
  go_enter Try.func20, Try.ntmps20
  go_wp2_with (first
    | (go_at_call 14; refine hmay.mono ?_; rintro e w1 ⟨rfl, hb1⟩
       have bx1 := bx0.below hb1
       have by1 := by0.below hb1
       have hw1 := hB.trans (hb1.mono hB.size)
       have hs1 := hb1.size
       rw [hsz] at hs1
       obtain ⟨a0, a1, a2, a3, a4, a5, a6, a7, a8, a9, a10, a11, a12⟩ := bx1.rep (by omega)
       have hcop := rcopy_any r s hsm w1 (liesR_next hl hw1 hw1.size)
       clear hmay bx0 by0)
    | (go_at_call 15; refine hcop.mono ?_; rintro e w2 ⟨s2, rfl, hR2, hb2⟩
       have hT3 := turnR_new (B := w.heap.size + 2) HY.out hs1 hb2 hR2
       have hbA := (Below.refl _ w2).alloc (Nat.le_refl _) (repO r (.slice s2.lo r.log.length s2.lc) (.slice s2.ao r.acked.length s2.ac) (.slice s2.vo r.votes.length s2.vc) (.slice s2.wo r.voters.length s2.wc) (.slice s2.bo r.best.length s2.bc) 25)
       have by2 := (by1.below hb2).below hbA
       have hw3 := below_next (below_next hw1 (Nat.le_refl _) hb2) (Nat.le_refl _) hbA
       obtain ⟨s4, ⟨e0, e1, e2, e3, e4, e5, e6, e7, e8, e9, e10, e11, e12⟩, _⟩ := hT3.cells
       have hc := hch _ _ hT3
       clear hcop hR2 hb2)
    | (go_at_call 43; refine hc.mono ?_; rintro e w4 ⟨v, rfl, hO4, hT4, hK4⟩
       obtain ⟨xo, xc, rfl⟩ := hO4.shape
       obtain ⟨s5, ⟨f0, f1, f2, f3, f4, f5, f6, f7, f8, f9, f10, f11, f12⟩, _, _, hH5⟩ := hT4.cells
       have hN := hno s5.lo s5.lc w4 _ hT4 (.inr hH5.rows.log) hT4.ll
       clear hH5 hO4 hc hch hno)
    | (go_at_call 44; refine hN.mono ?_; rintro e w5 ⟨rfl, hT5, hK5⟩
       have hK6 := hK4.trans hK5
       obtain ⟨s3, ⟨b0, b1, b2, b3, b4, b5, b6, b7, b8, b9, b10, b11, b12⟩, _, _, hH⟩ := hT5.cells
       have bz := by2.kept (hK6.low.block (w.heap.size + 1) (by omega))
       have hwV := hw3.trans (hK6.low.mono (show w.heap.size ≤ w.heap.size + 2 by omega))
       obtain ⟨bG, hS, hwG⟩ := res_box (show w.heap.size ≤ w.heap.size + 1 by omega) bz hwV q2 s3
       have hRG := rowsS_lies ((show RowsS (w.heap.size + 2) w5 q2 s3 from hH.rows).stay hS (by decide) (by decide))
       obtain ⟨d0, d1, d2, d3, d4, d5, d6, d7, d8, d9, d10, d11, d12⟩ := bz.rep (by omega)
       have dz := bz.unfrozen
       obtain ⟨g0, g1, g2, g3, g4, g5, g6, g7, g8, g9, g10, g11, g12⟩ := bG.rep (by omega)
       simp only [sets] at hRG hwG g0 g1 g2 g3 g4 g5 g6 g7 g8 g9 g10 g11 g12
       clear hS bG bz hwV hH hT5 hN))
  refine bodyPost_ret (v := .tuple #[repV q2 s3, .slice none 0 0, .int .i64 0]) (by simp [results, Try.results20, go_sem, g0, g1, g2, g3, g4, g5, g6, g7, g8, g9, g10, g11, g12]) rfl ⟨s3, none, 0, rfl, hRG, liesM_nil _ _ _, hwG⟩
theorem rsuspect_any (r : Rep) (s : Sl) (hsm : SmallR r) (w : World) (hl : LiesR w w.heap.size s r) :
    Calls Try.prog 20 #[repV r s] w fun x w' => ∃ s' xo xc, x = .returned (.tuple #[repV (susR r).1 s', .slice xo (susR r).2.1.length xc, .int .i64 (susR r).2.2]) ∧ LiesR w' w'.heap.size s' (susR r).1 ∧ LiesM w' w'.heap.size xo (susR r).2.1 ∧ Below w.heap.size w w' := by
  unfold susR
  by_cases h1 : May r
  · rw [if_pos h1]
    by_cases h2 : r.view + 1 < 1099511627776
    · rw [if_pos h2]
      by_cases h3 : r.n = 1
      · rw [if_pos h3]
        exact rsus_c r s hsm h1 h2 h3 w hl
      · rw [if_neg h3]
        exact rsus_d r s hsm h1 h2 h3 w hl
    · rw [if_neg h2]
      exact rsus_b r s hsm h1 h2 w hl
  · rw [if_neg h1]
    exact rsus_a r s hsm h1 w hl
set_option maxRecDepth 100000 in
set_option maxHeartbeats 1000000 in
theorem rres_c (r : Rep) (s : Sl) (hsm : SmallR r) (hyes : May r) (hh : r.how = 1) (w : World) (hl : LiesR w w.heap.size s r) :
    Calls Try.prog 22 #[repV r s] w fun x w' => ∃ s', x = .returned (.tuple #[repV (restartR r) s', .int .i64 0]) ∧ LiesR w' w'.heap.size s' (restartR r) ∧ Below w.heap.size w w' := by
  have hB : Below w.heap.size w ((w.alloc (repO r (.slice s.lo r.log.length s.lc) (.slice s.ao r.acked.length s.ac) (.slice s.vo r.votes.length s.vc) (.slice s.wo r.voters.length s.wc) (.slice s.bo r.best.length s.bc) 25)).alloc (repO0 25)) := ((Below.refl _ w).alloc (Nat.le_refl _) _).alloc (by simp) _
  have hsz : ((w.alloc (repO r (.slice s.lo r.log.length s.lc) (.slice s.ao r.acked.length s.ac) (.slice s.vo r.votes.length s.vc) (.slice s.wo r.voters.length s.wc) (.slice s.bo r.best.length s.bc) 25)).alloc (repO0 25)).heap.size = w.heap.size + 2 := by simp
  have bx0 := (box_rep w r (.slice s.lo r.log.length s.lc) (.slice s.ao r.acked.length s.ac) (.slice s.vo r.votes.length s.vc) (.slice s.wo r.voters.length s.wc) (.slice s.bo r.best.length s.bc) undef 25 w.heap.size rfl).alloc (repO0 25)
  have by0 := box_rep0 (w.alloc (repO r (.slice s.lo r.log.length s.lc) (.slice s.ao r.acked.length s.ac) (.slice s.vo r.votes.length s.vc) (.slice s.wo r.voters.length s.wc) (.slice s.bo r.best.length s.bc) 25)) undef 25 (w.heap.size + 1) (by simp)
  have hmay := rmay_any r s (small_m0 hsm) ((w.alloc (repO r (.slice s.lo r.log.length s.lc) (.slice s.ao r.acked.length s.ac) (.slice s.vo r.votes.length s.vc) (.slice s.wo r.voters.length s.wc) (.slice s.bo r.best.length s.bc) 25)).alloc (repO0 25)) (liesR_next hl hB hB.size)
  rw [tru_yes hyes] at hmay
  have HY : Hid (May r) := hyes
  clear hyes
  have hcl := fun W g hT => rclear_any (w.heap.size + 2) g r W hT
  have hfr := fun W g hT => rfresh_any (w.heap.size + 2) g { clearR r with votes := [r.id] } W hT
  have hq : freshR { clearR r with votes := [r.id] } = restartR r := by unfold restartR; rw [if_pos hh]
  rw [hq] at hfr
  have h2 : (r.how == 1) = true := by simp [hh]
  have h3 : decide (r.how = 1) = true := decide_eq_true hh
  clear hh
  generalize restartR r = q at *
  clear hq
  go_enter Try.func22, Try.ntmps22
  go_wp2_with (first
    | (go_at_call 14; refine hmay.mono ?_; rintro e w1 ⟨rfl, hb1⟩
       have bx1 := bx0.below hb1
       have by1 := by0.below hb1
       have hw1 := hB.trans (hb1.mono hB.size)
       have hs1 := hb1.size
       rw [hsz] at hs1
       obtain ⟨a0, a1, a2, a3, a4, a5, a6, a7, a8, a9, a10, a11, a12⟩ := bx1.rep (by omega)
       have hcop := rcopy_any r s hsm w1 (liesR_next hl hw1 hw1.size)
       clear hmay bx0 by0)
    | (go_at_call 15; refine hcop.mono ?_; rintro e w2 ⟨s2, rfl, hR2, hb2⟩
       have hT3 := turnR_new (B := w.heap.size + 2) HY.out hs1 hb2 hR2
       have hbA := (Below.refl _ w2).alloc (Nat.le_refl _) (repO r (.slice s2.lo r.log.length s2.lc) (.slice s2.ao r.acked.length s2.ac) (.slice s2.vo r.votes.length s2.vc) (.slice s2.wo r.voters.length s2.wc) (.slice s2.bo r.best.length s2.bc) 25)
       have by2 := (by1.below hb2).below hbA
       have hw3 := below_next (below_next hw1 (Nat.le_refl _) hb2) (Nat.le_refl _) hbA
       obtain ⟨s4, ⟨e0, e1, e2, e3, e4, e5, e6, e7, e8, e9, e10, e11, e12⟩, _⟩ := hT3.cells
       have hc := hcl _ _ hT3
       clear hcop hR2 hb2)
    | (go_at_call 46; refine hc.mono ?_; rintro e w4 ⟨rfl, hT4, hK4⟩
       obtain ⟨s5, ⟨f0, _, _, _, f4, _, _, _, f8, _⟩, fz, _, _⟩ := hT4.cells
       have f0' : w4.cell? ⟨w2.heap.size, 0, none⟩ = some (.int .i64 r.id) := f0
       have f4' : w4.cell? ⟨w2.heap.size, 4, none⟩ = some (.int .i64 r.how) := f4
       clear f0 f4
       obtain ⟨hT6, hK6⟩ := turnR_votes1 hT4
       have e8 := alloc_cell (.cells #[.int .i64 r.id] 3) f8
       have ez := ((hT4.below ((Below.refl _ _).alloc (Nat.le_refl _) (.cells #[.int .i64 r.id] 3))).cells).choose_spec.2.1 8
       have hfF := hfr _ _ hT6
       have hK7 := hK4.trans hK6
       clear hT6 hc hcl hfr)
    | (go_at_call 47; refine hfF.mono ?_; rintro e w5 ⟨rfl, hT5, hK5⟩
       have hK8 := hK7.trans hK5
       obtain ⟨s3, ⟨b0, b1, b2, b3, b4, b5, b6, b7, b8, b9, b10, b11, b12⟩, _, _, hH⟩ := hT5.cells
       have bz := by2.kept (hK8.low.block (w.heap.size + 1) (by omega))
       have hwV := hw3.trans (hK8.low.mono (show w.heap.size ≤ w.heap.size + 2 by omega))
       obtain ⟨bG, hS, hwG⟩ := res_box (show w.heap.size ≤ w.heap.size + 1 by omega) bz hwV q s3
       have hRG := rowsS_lies ((show RowsS (w.heap.size + 2) w5 q s3 from hH.rows).stay hS (by decide) (by decide))
       obtain ⟨d0, d1, d2, d3, d4, d5, d6, d7, d8, d9, d10, d11, d12⟩ := bz.rep (by omega)
       have dz := bz.unfrozen
       obtain ⟨g0, g1, g2, g3, g4, g5, g6, g7, g8, g9, g10, g11, g12⟩ := bG.rep (by omega)
       simp only [sets] at hRG hwG g0 g1 g2 g3 g4 g5 g6 g7 g8 g9 g10 g11 g12
       clear hS bG bz hwV hH hT5))
  refine bodyPost_ret (v := .tuple #[repV q s3, .int .i64 0]) (by simp [results, Try.results22, go_sem, g0, g1, g2, g3, g4, g5, g6, g7, g8, g9, g10, g11, g12]) rfl ⟨s3, rfl, hRG, hwG⟩
set_option maxRecDepth 100000 in
set_option maxHeartbeats 1000000 in
theorem rres_d (r : Rep) (s : Sl) (hsm : SmallR r) (hyes : May r) (hh : ¬ r.how = 1) (w : World) (hl : LiesR w w.heap.size s r) :
    Calls Try.prog 22 #[repV r s] w fun x w' => ∃ s', x = .returned (.tuple #[repV (restartR r) s', .int .i64 0]) ∧ LiesR w' w'.heap.size s' (restartR r) ∧ Below w.heap.size w w' := by
  have hB : Below w.heap.size w ((w.alloc (repO r (.slice s.lo r.log.length s.lc) (.slice s.ao r.acked.length s.ac) (.slice s.vo r.votes.length s.vc) (.slice s.wo r.voters.length s.wc) (.slice s.bo r.best.length s.bc) 25)).alloc (repO0 25)) := ((Below.refl _ w).alloc (Nat.le_refl _) _).alloc (by simp) _
  have hsz : ((w.alloc (repO r (.slice s.lo r.log.length s.lc) (.slice s.ao r.acked.length s.ac) (.slice s.vo r.votes.length s.vc) (.slice s.wo r.voters.length s.wc) (.slice s.bo r.best.length s.bc) 25)).alloc (repO0 25)).heap.size = w.heap.size + 2 := by simp
  have bx0 := (box_rep w r (.slice s.lo r.log.length s.lc) (.slice s.ao r.acked.length s.ac) (.slice s.vo r.votes.length s.vc) (.slice s.wo r.voters.length s.wc) (.slice s.bo r.best.length s.bc) undef 25 w.heap.size rfl).alloc (repO0 25)
  have by0 := box_rep0 (w.alloc (repO r (.slice s.lo r.log.length s.lc) (.slice s.ao r.acked.length s.ac) (.slice s.vo r.votes.length s.vc) (.slice s.wo r.voters.length s.wc) (.slice s.bo r.best.length s.bc) 25)) undef 25 (w.heap.size + 1) (by simp)
  have hmay := rmay_any r s (small_m0 hsm) ((w.alloc (repO r (.slice s.lo r.log.length s.lc) (.slice s.ao r.acked.length s.ac) (.slice s.vo r.votes.length s.vc) (.slice s.wo r.voters.length s.wc) (.slice s.bo r.best.length s.bc) 25)).alloc (repO0 25)) (liesR_next hl hB hB.size)
  rw [tru_yes hyes] at hmay
  have HY : Hid (May r) := hyes
  clear hyes
  have hcl := fun W g hT => rclear_any (w.heap.size + 2) g r W hT
  have hfr := fun W g hT => rfresh_any (w.heap.size + 2) g (clearR r) W hT
  have hq : freshR (clearR r) = restartR r := by unfold restartR; rw [if_neg hh]; rfl
  rw [hq] at hfr
  have h2 : (r.how == 1) = false := by simp [hh]
  have h3 : decide (r.how = 1) = false := decide_eq_false hh
  skip
  generalize restartR r = q at *
  clear hq
  go_enter Try.func22, Try.ntmps22
  go_wp2_with (first
    | (go_at_call 14; refine hmay.mono ?_; rintro e w1 ⟨rfl, hb1⟩
       have bx1 := bx0.below hb1
       have by1 := by0.below hb1
       have hw1 := hB.trans (hb1.mono hB.size)
       have hs1 := hb1.size
       rw [hsz] at hs1
       obtain ⟨a0, a1, a2, a3, a4, a5, a6, a7, a8, a9, a10, a11, a12⟩ := bx1.rep (by omega)
       have hcop := rcopy_any r s hsm w1 (liesR_next hl hw1 hw1.size)
       clear hmay bx0 by0)
    | (go_at_call 15; refine hcop.mono ?_; rintro e w2 ⟨s2, rfl, hR2, hb2⟩
       have hT3 := turnR_new (B := w.heap.size + 2) HY.out hs1 hb2 hR2
       have hbA := (Below.refl _ w2).alloc (Nat.le_refl _) (repO r (.slice s2.lo r.log.length s2.lc) (.slice s2.ao r.acked.length s2.ac) (.slice s2.vo r.votes.length s2.vc) (.slice s2.wo r.voters.length s2.wc) (.slice s2.bo r.best.length s2.bc) 25)
       have by2 := (by1.below hb2).below hbA
       have hw3 := below_next (below_next hw1 (Nat.le_refl _) hb2) (Nat.le_refl _) hbA
       obtain ⟨s4, ⟨e0, e1, e2, e3, e4, e5, e6, e7, e8, e9, e10, e11, e12⟩, _⟩ := hT3.cells
       have hc := hcl _ _ hT3
       clear hcop hR2 hb2)
    | (go_at_call 46; refine hc.mono ?_; rintro e w4 ⟨rfl, hT4, hK4⟩
       obtain ⟨s5, ⟨f0, _, _, _, f4, _, _, _, f8, _⟩, fz, _, _⟩ := hT4.cells
       have f0' : w4.cell? ⟨w2.heap.size, 0, none⟩ = some (.int .i64 r.id) := f0
       have f4' : w4.cell? ⟨w2.heap.size, 4, none⟩ = some (.int .i64 r.how) := f4
       clear f0 f4
       have hfF := hfr _ _ hT4
       have hK7 := hK4
       clear hc hcl hfr)
    | (go_at_call 47; refine hfF.mono ?_; rintro e w5 ⟨rfl, hT5, hK5⟩
       have hK8 := hK7.trans hK5
       obtain ⟨s3, ⟨b0, b1, b2, b3, b4, b5, b6, b7, b8, b9, b10, b11, b12⟩, _, _, hH⟩ := hT5.cells
       have bz := by2.kept (hK8.low.block (w.heap.size + 1) (by omega))
       have hwV := hw3.trans (hK8.low.mono (show w.heap.size ≤ w.heap.size + 2 by omega))
       obtain ⟨bG, hS, hwG⟩ := res_box (show w.heap.size ≤ w.heap.size + 1 by omega) bz hwV q s3
       have hRG := rowsS_lies ((show RowsS (w.heap.size + 2) w5 q s3 from hH.rows).stay hS (by decide) (by decide))
       obtain ⟨d0, d1, d2, d3, d4, d5, d6, d7, d8, d9, d10, d11, d12⟩ := bz.rep (by omega)
       have dz := bz.unfrozen
       obtain ⟨g0, g1, g2, g3, g4, g5, g6, g7, g8, g9, g10, g11, g12⟩ := bG.rep (by omega)
       simp only [sets] at hRG hwG g0 g1 g2 g3 g4 g5 g6 g7 g8 g9 g10 g11 g12
       clear hS bG bz hwV hH hT5))
  refine bodyPost_ret (v := .tuple #[repV q s3, .int .i64 0]) (by simp [results, Try.results22, go_sem, g0, g1, g2, g3, g4, g5, g6, g7, g8, g9, g10, g11, g12]) rfl ⟨s3, rfl, hRG, hwG⟩
theorem rrestart_any (r : Rep) (s : Sl) (hsm : SmallR r) (w : World) (hl : LiesR w w.heap.size s r) :
    Calls Try.prog 22 #[repV r s] w fun x w' => ∃ s', x = .returned (.tuple #[repV (resR r).1 s', .int .i64 (resR r).2]) ∧ LiesR w' w'.heap.size s' (resR r).1 ∧ Below w.heap.size w w' := by
  unfold resR
  by_cases h1 : May r
  · rw [if_pos h1]
    by_cases h2 : r.how = 1
    · exact rres_c r s hsm h1 h2 w hl
    · exact rres_d r s hsm h1 h2 w hl
  · rw [if_neg h1]
    exact rres_a r s hsm h1 w hl
theorem sus_small {r : Rep} (h : SmallR r) : (susR r).1.log.length ≤ 1000000 ∧ (susR r).1.best.length ≤ 1000000 ∧ (susR r).1.acked.length ≤ 1000000 ∧ (susR r).1.votes.length ≤ 1000000 ∧ (susR r).1.voters.length ≤ 1000000 := by
  have h1 := h.log
  have h2 := h.best
  have h3 := h.ack
  have h4 := h.votes
  have h5 := h.voters
  unfold susR
  by_cases q1 : May r
  · have hn := q1.one.1
    rw [if_pos q1]
    by_cases q2 : r.view + 1 < 1099511627776
    · rw [if_pos q2]
      by_cases q3 : r.n = 1
      · rw [if_pos q3]
        refine ⟨by show r.log.length ≤ _; omega, by show (0 : Nat) ≤ _; omega, ?_, by show (0 : Nat) ≤ _; omega, by show (0 : Nat) ≤ _; omega⟩
        show (ackL r.n.toNat _ _).length ≤ _
        rw [ackL_len]
        omega
      · rw [if_neg q3]
        exact ⟨by show r.log.length ≤ _; omega, by show (0 : Nat) ≤ _; omega, by show r.acked.length ≤ _; omega, by show (1 : Nat) ≤ _; omega, by show (0 : Nat) ≤ _; omega⟩
    · rw [if_neg q2]
      exact ⟨by show r.log.length ≤ _; omega, by show r.best.length ≤ _; omega, by show r.acked.length ≤ _; omega, by show r.votes.length ≤ _; omega, by show r.voters.length ≤ _; omega⟩
  · rw [if_neg q1]
    exact ⟨by show r.log.length ≤ _; omega, by show r.best.length ≤ _; omega, by show r.acked.length ≤ _; omega, by show r.votes.length ≤ _; omega, by show r.voters.length ≤ _; omega⟩
theorem sus_smallM {r : Rep} (h : SmallR r) : (susR r).2.1.length ≤ 1000000 ∧ ∀ m ∈ (susR r).2.1, m.log.length ≤ 1000000 := by
  unfold susR
  by_cases q1 : May r
  · have hn := q1.one.1
    rw [if_pos q1]
    by_cases q2 : r.view + 1 < 1099511627776
    · rw [if_pos q2]
      by_cases q3 : r.n = 1
      · rw [if_pos q3]
        exact ⟨by show (0 : Nat) ≤ _; omega, fun m hm => by simp at hm⟩
      · rw [if_neg q3]
        refine ⟨?_, fun m hm => ?_⟩
        · show (allM _ _).length ≤ _
          have := restM_len (changeR r (r.view + 1)) (msg 4 0 0 0 []) 0
          have e : (changeR r (r.view + 1)).n = r.n := rfl
          rw [e] at this
          unfold allM
          omega
        · have : m.log = [] := restM_log (show m ∈ restM (changeR r (r.view + 1)) (msg 4 0 0 0 []) 0 from hm)
          rw [this]
          exact Nat.zero_le _
    · rw [if_neg q2]
      exact ⟨by show (0 : Nat) ≤ _; omega, fun m hm => by simp at hm⟩
  · rw [if_neg q1]
    exact ⟨by show (0 : Nat) ≤ _; omega, fun m hm => by simp at hm⟩
theorem res_small {r : Rep} (h : SmallR r) : (resR r).1.log.length ≤ 1000000 ∧ (resR r).1.best.length ≤ 1000000 ∧ (resR r).1.acked.length ≤ 1000000 ∧ (resR r).1.votes.length ≤ 1000000 ∧ (resR r).1.voters.length ≤ 1000000 := by
  have h1 := h.log
  have h2 := h.best
  have h3 := h.ack
  have h4 := h.votes
  have h5 := h.voters
  unfold resR
  by_cases q1 : May r
  · have hn := q1.one.1
    rw [if_pos q1]
    refine ⟨by show r.log.length ≤ _; omega, by show (0 : Nat) ≤ _; omega, ?_, ?_, by show (0 : Nat) ≤ _; omega⟩
    · show (ackL r.n.toNat _ _).length ≤ _
      rw [ackL_len]
      omega
    · show (if r.how = 1 then [r.id] else []).length ≤ _
      split
      · show (1 : Nat) ≤ _
        omega
      · show (0 : Nat) ≤ _
        omega
  · rw [if_neg q1]
    exact ⟨by show r.log.length ≤ _; omega, by show r.best.length ≤ _; omega, by show r.acked.length ≤ _; omega, by show r.votes.length ≤ _; omega, by show r.voters.length ≤ _; omega⟩
end Go.Proofs.Ytgdehjdajjhjpaa
