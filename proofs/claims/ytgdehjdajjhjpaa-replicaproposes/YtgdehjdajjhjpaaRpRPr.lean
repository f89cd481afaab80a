/-
  Contracts: the document's own primary and Propose.
-/
import Derived.Test.YtgdehjdajjhjpaaRpRSu
import Derived.Test.YtgdehjdajjhjpaaRpTe
import Derived.Deep.RegionHeldLaw
namespace Go.Proofs.Ytgdehjdajjhjpaa
open Go.RowKit Num
open scoped Classical
set_option linter.unusedVariables false

set_option maxRecDepth 100000 in
set_option maxHeartbeats 1000000 in
theorem rpro_a0 (r : Rep) (s : Sl) (hsm : SmallR r) (time : Int) (d : ByteArray) (hno : ¬ May r) (w : World) (hl : LiesR w w.heap.size s r) :
    Calls Try.prog 17 #[repV r s, .int .i64 time, .string d] w fun x w' => ∃ s' xo xc, x = .returned (.tuple #[repV r s', .slice xo ([] : Msgs).length xc, .int .i64 0, .int .i64 1]) ∧ LiesR w' w'.heap.size s' r ∧ LiesM w' w'.heap.size xo ([] : Msgs) ∧ Below w.heap.size w w' := by
  have hB : Below w.heap.size w ((w.alloc (repO r (.slice s.lo r.log.length s.lc) (.slice s.ao r.acked.length s.ac) (.slice s.vo r.votes.length s.vc) (.slice s.wo r.voters.length s.wc) (.slice s.bo r.best.length s.bc) 25)).alloc (repO0 25)) := ((Below.refl _ w).alloc (Nat.le_refl _) _).alloc (by simp) _
  have hsz : ((w.alloc (repO r (.slice s.lo r.log.length s.lc) (.slice s.ao r.acked.length s.ac) (.slice s.vo r.votes.length s.vc) (.slice s.wo r.voters.length s.wc) (.slice s.bo r.best.length s.bc) 25)).alloc (repO0 25)).heap.size = w.heap.size + 2 := by simp
  have bx0 := (box_rep w r (.slice s.lo r.log.length s.lc) (.slice s.ao r.acked.length s.ac) (.slice s.vo r.votes.length s.vc) (.slice s.wo r.voters.length s.wc) (.slice s.bo r.best.length s.bc) undef 25 w.heap.size rfl).alloc (repO0 25)
  have by0 := box_rep0 (w.alloc (repO r (.slice s.lo r.log.length s.lc) (.slice s.ao r.acked.length s.ac) (.slice s.vo r.votes.length s.vc) (.slice s.wo r.voters.length s.wc) (.slice s.bo r.best.length s.bc) 25)) undef 25 (w.heap.size + 1) (by simp)
  have hmay := rmay_any r s (small_m0 hsm) ((w.alloc (repO r (.slice s.lo r.log.length s.lc) (.slice s.ao r.acked.length s.ac) (.slice s.vo r.votes.length s.vc) (.slice s.wo r.voters.length s.wc) (.slice s.bo r.best.length s.bc) 25)).alloc (repO0 25)) (liesR_next hl hB hB.size)
  rw [tru_no hno] at hmay
  clear hno
  go_enter Try.func17, Try.ntmps17
  go_wp2_with (first
    | (go_at_call 14; refine hmay.mono ?_; rintro e w1 ⟨rfl, hb1⟩
       have bx1 := bx0.below hb1
       have by1 := by0.below hb1
       have hw1 := hB.trans (hb1.mono hB.size)
       have hs1 := hb1.size
       rw [hsz] at hs1
       obtain ⟨a0, a1, a2, a3, a4, a5, a6, a7, a8, a9, a10, a11, a12⟩ := bx1.rep (by omega)
       obtain ⟨bG, hS, hwG⟩ := res_box (show w.heap.size ≤ w.heap.size + 1 by omega) by1 hw1 r s
       have hRG := liesR_next hl hwG hwG.size
       obtain ⟨d0, d1, d2, d3, d4, d5, d6, d7, d8, d9, d10, d11, d12⟩ := by1.rep (by omega)
       have dz := by1.unfrozen
       have HG : Hid _ := bG.rep (by omega)
       simp only [sets] at hRG hwG
       clear hS bG
       clear hmay bx0 by0))
  obtain ⟨g0, g1, g2, g3, g4, g5, g6, g7, g8, g9, g10, g11, g12⟩ := HG.out
  simp only [sets] at g0 g1 g2 g3 g4 g5 g6 g7 g8 g9 g10 g11 g12
  refine bodyPost_ret (v := .tuple #[repV r s, .slice none 0 0, .int .i64 0, .int .i64 1]) (by simp [results, Try.results17, go_sem, g0, g1, g2, g3, g4, g5, g6, g7, g8, g9, g10, g11, g12]) rfl ⟨s, none, 0, rfl, hRG, liesM_nil _ _ _, hwG⟩
set_option maxRecDepth 100000 in
set_option maxHeartbeats 1000000 in
theorem rpro_a1 (r : Rep) (s : Sl) (hsm : SmallR r) (time : Int) (d : ByteArray) (hyes : May r) (hno : ¬ (0 ≤ time ∧ time < 1099511627776)) (w : World) (hl : LiesR w w.heap.size s r) :
    Calls Try.prog 17 #[repV r s, .int .i64 time, .string d] w fun x w' => ∃ s' xo xc, x = .returned (.tuple #[repV r s', .slice xo ([] : Msgs).length xc, .int .i64 0, .int .i64 1]) ∧ LiesR w' w'.heap.size s' r ∧ LiesM w' w'.heap.size xo ([] : Msgs) ∧ Below w.heap.size w w' := by
  have hB : Below w.heap.size w ((w.alloc (repO r (.slice s.lo r.log.length s.lc) (.slice s.ao r.acked.length s.ac) (.slice s.vo r.votes.length s.vc) (.slice s.wo r.voters.length s.wc) (.slice s.bo r.best.length s.bc) 25)).alloc (repO0 25)) := ((Below.refl _ w).alloc (Nat.le_refl _) _).alloc (by simp) _
  have hsz : ((w.alloc (repO r (.slice s.lo r.log.length s.lc) (.slice s.ao r.acked.length s.ac) (.slice s.vo r.votes.length s.vc) (.slice s.wo r.voters.length s.wc) (.slice s.bo r.best.length s.bc) 25)).alloc (repO0 25)).heap.size = w.heap.size + 2 := by simp
  have bx0 := (box_rep w r (.slice s.lo r.log.length s.lc) (.slice s.ao r.acked.length s.ac) (.slice s.vo r.votes.length s.vc) (.slice s.wo r.voters.length s.wc) (.slice s.bo r.best.length s.bc) undef 25 w.heap.size rfl).alloc (repO0 25)
  have by0 := box_rep0 (w.alloc (repO r (.slice s.lo r.log.length s.lc) (.slice s.ao r.acked.length s.ac) (.slice s.vo r.votes.length s.vc) (.slice s.wo r.voters.length s.wc) (.slice s.bo r.best.length s.bc) 25)) undef 25 (w.heap.size + 1) (by simp)
  have hmay := rmay_any r s (small_m0 hsm) ((w.alloc (repO r (.slice s.lo r.log.length s.lc) (.slice s.ao r.acked.length s.ac) (.slice s.vo r.votes.length s.vc) (.slice s.wo r.voters.length s.wc) (.slice s.bo r.best.length s.bc) 25)).alloc (repO0 25)) (liesR_next hl hB hB.size)
  rw [tru_yes hyes] at hmay
  have htm := fun W => rtime_any time W
  rw [tru_no hno] at htm
  clear hno hyes
  go_enter Try.func17, Try.ntmps17
  go_wp2_with (first
    | (go_at_call 14; refine hmay.mono ?_; rintro e w1 ⟨rfl, hb1⟩
       have bx1 := bx0.below hb1
       have by1 := by0.below hb1
       have hw1 := hB.trans (hb1.mono hB.size)
       have hs1 := hb1.size
       rw [hsz] at hs1
       obtain ⟨a0, a1, a2, a3, a4, a5, a6, a7, a8, a9, a10, a11, a12⟩ := bx1.rep (by omega)
       obtain ⟨bG, hS, hwG⟩ := res_box (show w.heap.size ≤ w.heap.size + 1 by omega) by1 hw1 r s
       have hRG := liesR_next hl hwG hwG.size
       obtain ⟨d0, d1, d2, d3, d4, d5, d6, d7, d8, d9, d10, d11, d12⟩ := by1.rep (by omega)
       have dz := by1.unfrozen
       have HG : Hid _ := bG.rep (by omega)
       simp only [sets] at hRG hwG
       clear hS bG
       clear hmay bx0 by0)
    | (go_at_call 34; refine (htm _).mono ?_; rintro e wn ⟨rfl, hq⟩; have hq' := hq.symm; clear hq; subst hq'))
  obtain ⟨g0, g1, g2, g3, g4, g5, g6, g7, g8, g9, g10, g11, g12⟩ := HG.out
  simp only [sets] at g0 g1 g2 g3 g4 g5 g6 g7 g8 g9 g10 g11 g12
  refine bodyPost_ret (v := .tuple #[repV r s, .slice none 0 0, .int .i64 0, .int .i64 1]) (by simp [results, Try.results17, go_sem, g0, g1, g2, g3, g4, g5, g6, g7, g8, g9, g10, g11, g12]) rfl ⟨s, none, 0, rfl, hRG, liesM_nil _ _ _, hwG⟩
set_option maxRecDepth 100000 in
set_option maxHeartbeats 1000000 in
theorem rpro_a2 (r : Rep) (s : Sl) (hsm : SmallR r) (time : Int) (d : ByteArray) (hyes : May r) (ht : 0 ≤ time ∧ time < 1099511627776) (hno : ¬ d.size ≤ 20000) (w : World) (hl : LiesR w w.heap.size s r) :
    Calls Try.prog 17 #[repV r s, .int .i64 time, .string d] w fun x w' => ∃ s' xo xc, x = .returned (.tuple #[repV r s', .slice xo ([] : Msgs).length xc, .int .i64 0, .int .i64 1]) ∧ LiesR w' w'.heap.size s' r ∧ LiesM w' w'.heap.size xo ([] : Msgs) ∧ Below w.heap.size w w' := by
  have hB : Below w.heap.size w ((w.alloc (repO r (.slice s.lo r.log.length s.lc) (.slice s.ao r.acked.length s.ac) (.slice s.vo r.votes.length s.vc) (.slice s.wo r.voters.length s.wc) (.slice s.bo r.best.length s.bc) 25)).alloc (repO0 25)) := ((Below.refl _ w).alloc (Nat.le_refl _) _).alloc (by simp) _
  have hsz : ((w.alloc (repO r (.slice s.lo r.log.length s.lc) (.slice s.ao r.acked.length s.ac) (.slice s.vo r.votes.length s.vc) (.slice s.wo r.voters.length s.wc) (.slice s.bo r.best.length s.bc) 25)).alloc (repO0 25)).heap.size = w.heap.size + 2 := by simp
  have bx0 := (box_rep w r (.slice s.lo r.log.length s.lc) (.slice s.ao r.acked.length s.ac) (.slice s.vo r.votes.length s.vc) (.slice s.wo r.voters.length s.wc) (.slice s.bo r.best.length s.bc) undef 25 w.heap.size rfl).alloc (repO0 25)
  have by0 := box_rep0 (w.alloc (repO r (.slice s.lo r.log.length s.lc) (.slice s.ao r.acked.length s.ac) (.slice s.vo r.votes.length s.vc) (.slice s.wo r.voters.length s.wc) (.slice s.bo r.best.length s.bc) 25)) undef 25 (w.heap.size + 1) (by simp)
  have hmay := rmay_any r s (small_m0 hsm) ((w.alloc (repO r (.slice s.lo r.log.length s.lc) (.slice s.ao r.acked.length s.ac) (.slice s.vo r.votes.length s.vc) (.slice s.wo r.voters.length s.wc) (.slice s.bo r.best.length s.bc) 25)).alloc (repO0 25)) (liesR_next hl hB hB.size)
  rw [tru_yes hyes] at hmay
  have htm := fun W => rtime_any time W
  rw [tru_yes ht] at htm
  have q2 : (20000 : Int) < (d.size : Int) := by omega
  clear hno hyes
  go_enter Try.func17, Try.ntmps17
  go_wp2_with (first
    | (go_at_call 14; refine hmay.mono ?_; rintro e w1 ⟨rfl, hb1⟩
       have bx1 := bx0.below hb1
       have by1 := by0.below hb1
       have hw1 := hB.trans (hb1.mono hB.size)
       have hs1 := hb1.size
       rw [hsz] at hs1
       obtain ⟨a0, a1, a2, a3, a4, a5, a6, a7, a8, a9, a10, a11, a12⟩ := bx1.rep (by omega)
       obtain ⟨bG, hS, hwG⟩ := res_box (show w.heap.size ≤ w.heap.size + 1 by omega) by1 hw1 r s
       have hRG := liesR_next hl hwG hwG.size
       obtain ⟨d0, d1, d2, d3, d4, d5, d6, d7, d8, d9, d10, d11, d12⟩ := by1.rep (by omega)
       have dz := by1.unfrozen
       have HG : Hid _ := bG.rep (by omega)
       simp only [sets] at hRG hwG
       clear hS bG
       clear hmay bx0 by0)
    | (go_at_call 34; refine (htm _).mono ?_; rintro e wn ⟨rfl, hq⟩; have hq' := hq.symm; clear hq; subst hq'))
  obtain ⟨g0, g1, g2, g3, g4, g5, g6, g7, g8, g9, g10, g11, g12⟩ := HG.out
  simp only [sets] at g0 g1 g2 g3 g4 g5 g6 g7 g8 g9 g10 g11 g12
  refine bodyPost_ret (v := .tuple #[repV r s, .slice none 0 0, .int .i64 0, .int .i64 1]) (by simp [results, Try.results17, go_sem, g0, g1, g2, g3, g4, g5, g6, g7, g8, g9, g10, g11, g12]) rfl ⟨s, none, 0, rfl, hRG, liesM_nil _ _ _, hwG⟩
set_option maxRecDepth 100000 in
set_option maxHeartbeats 1000000 in
theorem rpro_b0 (r : Rep) (s : Sl) (hsm : SmallR r) (time : Int) (d : ByteArray) (hyes : May r) (ht : 0 ≤ time ∧ time < 1099511627776) (hd : d.size ≤ 20000) (hno : ¬ r.how = 0) (w : World) (hl : LiesR w w.heap.size s r) :
    Calls Try.prog 17 #[repV r s, .int .i64 time, .string d] w fun x w' => ∃ s' xo xc, x = .returned (.tuple #[repV r s', .slice xo ([] : Msgs).length xc, .int .i64 0, .int .i64 17]) ∧ LiesR w' w'.heap.size s' r ∧ LiesM w' w'.heap.size xo ([] : Msgs) ∧ Below w.heap.size w w' := by
  have hB : Below w.heap.size w ((w.alloc (repO r (.slice s.lo r.log.length s.lc) (.slice s.ao r.acked.length s.ac) (.slice s.vo r.votes.length s.vc) (.slice s.wo r.voters.length s.wc) (.slice s.bo r.best.length s.bc) 25)).alloc (repO0 25)) := ((Below.refl _ w).alloc (Nat.le_refl _) _).alloc (by simp) _
  have hsz : ((w.alloc (repO r (.slice s.lo r.log.length s.lc) (.slice s.ao r.acked.length s.ac) (.slice s.vo r.votes.length s.vc) (.slice s.wo r.voters.length s.wc) (.slice s.bo r.best.length s.bc) 25)).alloc (repO0 25)).heap.size = w.heap.size + 2 := by simp
  have bx0 := (box_rep w r (.slice s.lo r.log.length s.lc) (.slice s.ao r.acked.length s.ac) (.slice s.vo r.votes.length s.vc) (.slice s.wo r.voters.length s.wc) (.slice s.bo r.best.length s.bc) undef 25 w.heap.size rfl).alloc (repO0 25)
  have by0 := box_rep0 (w.alloc (repO r (.slice s.lo r.log.length s.lc) (.slice s.ao r.acked.length s.ac) (.slice s.vo r.votes.length s.vc) (.slice s.wo r.voters.length s.wc) (.slice s.bo r.best.length s.bc) 25)) undef 25 (w.heap.size + 1) (by simp)
  have hmay := rmay_any r s (small_m0 hsm) ((w.alloc (repO r (.slice s.lo r.log.length s.lc) (.slice s.ao r.acked.length s.ac) (.slice s.vo r.votes.length s.vc) (.slice s.wo r.voters.length s.wc) (.slice s.bo r.best.length s.bc) 25)).alloc (repO0 25)) (liesR_next hl hB hB.size)
  rw [tru_yes hyes] at hmay
  have htm := fun W => rtime_any time W
  rw [tru_yes ht] at htm
  have q2 : ¬ (20000 : Int) < (d.size : Int) := by omega
  have hv := hyes.views.1
  have h1 := hyes.one
  have hh : (r.how != 0) = true := by simp [hno]
  have hh2 : decide (r.how = 0) = false := decide_eq_false hno
  clear hyes
  go_enter Try.func17, Try.ntmps17
  go_wp2_with (first
    | (go_at_call 14; refine hmay.mono ?_; rintro e w1 ⟨rfl, hb1⟩
       have bx1 := bx0.below hb1
       have by1 := by0.below hb1
       have hw1 := hB.trans (hb1.mono hB.size)
       have hs1 := hb1.size
       rw [hsz] at hs1
       obtain ⟨a0, a1, a2, a3, a4, a5, a6, a7, a8, a9, a10, a11, a12⟩ := bx1.rep (by omega)
       obtain ⟨bG, hS, hwG⟩ := res_box (show w.heap.size ≤ w.heap.size + 1 by omega) by1 hw1 r s
       have hRG := liesR_next hl hwG hwG.size
       obtain ⟨d0, d1, d2, d3, d4, d5, d6, d7, d8, d9, d10, d11, d12⟩ := by1.rep (by omega)
       have dz := by1.unfrozen
       have HG : Hid _ := bG.rep (by omega)
       simp only [sets] at hRG hwG
       clear hS bG
       clear hmay bx0 by0)
    | (go_at_call 34; refine (htm _).mono ?_; rintro e wn ⟨rfl, hq⟩; have hq' := hq.symm; clear hq; subst hq'))
  obtain ⟨g0, g1, g2, g3, g4, g5, g6, g7, g8, g9, g10, g11, g12⟩ := HG.out
  simp only [sets] at g0 g1 g2 g3 g4 g5 g6 g7 g8 g9 g10 g11 g12
  refine bodyPost_ret (v := .tuple #[repV r s, .slice none 0 0, .int .i64 0, .int .i64 17]) (by simp [results, Try.results17, go_sem, g0, g1, g2, g3, g4, g5, g6, g7, g8, g9, g10, g11, g12]) rfl ⟨s, none, 0, rfl, hRG, liesM_nil _ _ _, hwG⟩
set_option maxRecDepth 100000 in
set_option maxHeartbeats 1000000 in
theorem rpro_b1 (r : Rep) (s : Sl) (hsm : SmallR r) (time : Int) (d : ByteArray) (hyes : May r) (ht : 0 ≤ time ∧ time < 1099511627776) (hd : d.size ≤ 20000) (hh : r.how = 0) (hno : ¬ r.view % r.n = r.id) (w : World) (hl : LiesR w w.heap.size s r) :
    Calls Try.prog 17 #[repV r s, .int .i64 time, .string d] w fun x w' => ∃ s' xo xc, x = .returned (.tuple #[repV r s', .slice xo ([] : Msgs).length xc, .int .i64 0, .int .i64 17]) ∧ LiesR w' w'.heap.size s' r ∧ LiesM w' w'.heap.size xo ([] : Msgs) ∧ Below w.heap.size w w' := by
  have hB : Below w.heap.size w ((w.alloc (repO r (.slice s.lo r.log.length s.lc) (.slice s.ao r.acked.length s.ac) (.slice s.vo r.votes.length s.vc) (.slice s.wo r.voters.length s.wc) (.slice s.bo r.best.length s.bc) 25)).alloc (repO0 25)) := ((Below.refl _ w).alloc (Nat.le_refl _) _).alloc (by simp) _
  have hsz : ((w.alloc (repO r (.slice s.lo r.log.length s.lc) (.slice s.ao r.acked.length s.ac) (.slice s.vo r.votes.length s.vc) (.slice s.wo r.voters.length s.wc) (.slice s.bo r.best.length s.bc) 25)).alloc (repO0 25)).heap.size = w.heap.size + 2 := by simp
  have bx0 := (box_rep w r (.slice s.lo r.log.length s.lc) (.slice s.ao r.acked.length s.ac) (.slice s.vo r.votes.length s.vc) (.slice s.wo r.voters.length s.wc) (.slice s.bo r.best.length s.bc) undef 25 w.heap.size rfl).alloc (repO0 25)
  have by0 := box_rep0 (w.alloc (repO r (.slice s.lo r.log.length s.lc) (.slice s.ao r.acked.length s.ac) (.slice s.vo r.votes.length s.vc) (.slice s.wo r.voters.length s.wc) (.slice s.bo r.best.length s.bc) 25)) undef 25 (w.heap.size + 1) (by simp)
  have hmay := rmay_any r s (small_m0 hsm) ((w.alloc (repO r (.slice s.lo r.log.length s.lc) (.slice s.ao r.acked.length s.ac) (.slice s.vo r.votes.length s.vc) (.slice s.wo r.voters.length s.wc) (.slice s.bo r.best.length s.bc) 25)).alloc (repO0 25)) (liesR_next hl hB hB.size)
  rw [tru_yes hyes] at hmay
  have htm := fun W => rtime_any time W
  rw [tru_yes ht] at htm
  have q2 : ¬ (20000 : Int) < (d.size : Int) := by omega
  have hv := hyes.views.1
  have h1 := hyes.one
  have hh1 : (r.how != 0) = false := by simp [hh]
  have hprim := fun W b => rprimary_any w.heap.size r W (vl := .slice s.lo r.log.length s.lc) (va := .slice s.ao r.acked.length s.ac) (vv := .slice s.vo r.votes.length s.vc) (vw := .slice s.wo r.voters.length s.wc) (vb := .slice s.bo r.best.length s.bc) b h1 hv
  rw [decide_eq_false hno] at hprim
  clear hyes hno hh
  go_enter Try.func17, Try.ntmps17
  go_wp2_with (first
    | (go_at_call 14; refine hmay.mono ?_; rintro e w1 ⟨rfl, hb1⟩
       have bx1 := bx0.below hb1
       have by1 := by0.below hb1
       have hw1 := hB.trans (hb1.mono hB.size)
       have hs1 := hb1.size
       rw [hsz] at hs1
       obtain ⟨a0, a1, a2, a3, a4, a5, a6, a7, a8, a9, a10, a11, a12⟩ := bx1.rep (by omega)
       have hpr := hprim _ bx1
       clear hmay bx0 by0)
    | (go_at_call 34; refine (htm _).mono ?_; rintro e wn ⟨rfl, hq⟩; have hq' := hq.symm; clear hq; subst hq')
    | (go_at_call 40; refine hpr.mono ?_; rintro e w2 ⟨rfl, hb2⟩
       have bx2 := bx1.below hb2
       have by2 := by1.below hb2
       have hw2 := below_next hw1 (Nat.le_refl _) hb2
       have hs2 := Nat.le_trans hs1 hb2.size
       obtain ⟨p0, p1, p2, p3, p4, p5, p6, p7, p8, p9, p10, p11, p12⟩ := bx2.rep (by omega)
       obtain ⟨bG, hS, hwG⟩ := res_box (show w.heap.size ≤ w.heap.size + 1 by omega) by2 hw2 r s
       have hRG := liesR_next hl hwG hwG.size
       obtain ⟨d0, d1, d2, d3, d4, d5, d6, d7, d8, d9, d10, d11, d12⟩ := by2.rep (by omega)
       have dz := by2.unfrozen
       have HG : Hid _ := bG.rep (by omega)
       simp only [sets] at hRG hwG
       clear hS bG
       clear hpr))
  obtain ⟨g0, g1, g2, g3, g4, g5, g6, g7, g8, g9, g10, g11, g12⟩ := HG.out
  simp only [sets] at g0 g1 g2 g3 g4 g5 g6 g7 g8 g9 g10 g11 g12
  refine bodyPost_ret (v := .tuple #[repV r s, .slice none 0 0, .int .i64 0, .int .i64 17]) (by simp [results, Try.results17, go_sem, g0, g1, g2, g3, g4, g5, g6, g7, g8, g9, g10, g11, g12]) rfl ⟨s, none, 0, rfl, hRG, liesM_nil _ _ _, hwG⟩
set_option maxRecDepth 100000 in
set_option maxHeartbeats 1000000 in
theorem rpro_c1 (r : Rep) (la : Addr) (lc : Nat) (ao : Option Addr) (ac : Nat) (vo : Option Addr) (vc : Nat) (wo : Option Addr) (wc : Nat) (bo : Option Addr) (bc : Nat) (hsm : SmallR r) (time : Int) (d : ByteArray) (hyes : May r) (ht : 0 ≤ time ∧ time < 1099511627776) (hd : d.size ≤ 20000) (hh : r.how = 0) (hpm : r.view % r.n = r.id) (T : Int) (hT : propT r time = T) (hne : r.log ≠ []) (hno : ¬ r.log.length < 1000) (w : World) (hl : LiesR w w.heap.size ⟨some la, lc, ao, ac, vo, vc, wo, wc, bo, bc⟩ r) :
    Calls Try.prog 17 #[repV r ⟨some la, lc, ao, ac, vo, vc, wo, wc, bo, bc⟩, .int .i64 time, .string d] w fun x w' => ∃ s' xo xc, x = .returned (.tuple #[repV r s', .slice xo ([] : Msgs).length xc, .int .i64 0, .int .i64 4]) ∧ LiesR w' w'.heap.size s' r ∧ LiesM w' w'.heap.size xo ([] : Msgs) ∧ Below w.heap.size w w' := by
  have hB : Below w.heap.size w ((w.alloc (repO r (.slice (some la) r.log.length lc) (.slice ao r.acked.length ac) (.slice vo r.votes.length vc) (.slice wo r.voters.length wc) (.slice bo r.best.length bc) 25)).alloc (repO0 25)) := ((Below.refl _ w).alloc (Nat.le_refl _) _).alloc (by simp) _
  have hsz : ((w.alloc (repO r (.slice (some la) r.log.length lc) (.slice ao r.acked.length ac) (.slice vo r.votes.length vc) (.slice wo r.voters.length wc) (.slice bo r.best.length bc) 25)).alloc (repO0 25)).heap.size = w.heap.size + 2 := by simp
  have bx0 := (box_rep w r (.slice (some la) r.log.length lc) (.slice ao r.acked.length ac) (.slice vo r.votes.length vc) (.slice wo r.voters.length wc) (.slice bo r.best.length bc) undef 25 w.heap.size rfl).alloc (repO0 25)
  have by0 := box_rep0 (w.alloc (repO r (.slice (some la) r.log.length lc) (.slice ao r.acked.length ac) (.slice vo r.votes.length vc) (.slice wo r.voters.length wc) (.slice bo r.best.length bc) 25)) undef 25 (w.heap.size + 1) (by simp)
  have hmay := rmay_any r ⟨some la, lc, ao, ac, vo, vc, wo, wc, bo, bc⟩ (small_m0 hsm) ((w.alloc (repO r (.slice (some la) r.log.length lc) (.slice ao r.acked.length ac) (.slice vo r.votes.length vc) (.slice wo r.voters.length wc) (.slice bo r.best.length bc) 25)).alloc (repO0 25)) (liesR_next hl hB hB.size)
  rw [tru_yes hyes] at hmay
  have htm := fun W => rtime_any time W
  rw [tru_yes ht] at htm
  have q2 : ¬ (20000 : Int) < (d.size : Int) := by omega
  have hv := hyes.views.1
  have h1 := hyes.one
  have hh1 : (r.how != 0) = false := by simp [hh]
  have hprim := fun W b => rprimary_any w.heap.size r W (vl := .slice (some la) r.log.length lc) (va := .slice ao r.acked.length ac) (vv := .slice vo r.votes.length vc) (vw := .slice wo r.voters.length wc) (vb := .slice bo r.best.length bc) b h1 hv
  rw [decide_eq_true hpm] at hprim
  clear hpm hh
  have hLb : 0 ≤ lastT r.log ∧ lastT r.log < 1099511627776 := prevT_in hyes.log.2 r.log.length
  obtain ⟨y, hy, hye⟩ := lastT_some hne
  have hpos : 0 < r.log.length := List.length_pos_iff.2 hne
  obtain ⟨K, hK⟩ : ∃ K : Nat, K = r.log.length - 1 := ⟨_, rfl⟩
  rw [← hK] at hy
  have HC : Hid (∀ W, Below w.heap.size w W → W.cell? (la.add (K * 2)) = some (.int .i64 (lastT r.log))) := fun W hb => by
    obtain ⟨a', e', _, c', _⟩ := (liesE_next hl.log hb hb.size) K y hy
    have e2 : some la = some a' := e'
    cases e2
    rw [hye]
    exact c'
  have hTe : max (max time 1) (lastT r.log + 1) = T := hT
  clear hy hye hT
  generalize lastT r.log = L at *
  obtain ⟨T1, m1⟩ : ∃ T1, max time 1 = T1 := ⟨_, rfl⟩
  rw [m1] at hTe
  have i1 : IntKind.i64.wrap ((r.log.length : Int) - 1) = (K : Int) := by rw [IntKind.wrap_i64]; have := hsm.log; omega
  have i2 : (r.log.length : Int) - 1 = (K : Int) := by omega
  have i3 : (0 : Int) < (r.log.length : Int) := by omega
  have i4 : (K : Int) < (r.log.length : Int) := by omega
  have i6 : K < r.log.length := by omega
  have i8 : r.log.length ≤ 1200 := hsm.log
  have i7 : decide ((K : Int) < (r.log.length : Int)) = true := decide_eq_true i4
  have i5 : IntKind.i64.wrap (L + 1) = L + 1 := by rw [IntKind.wrap_i64]; omega
  clear hK hpos hne hLb
  have j1 : (1000 : Int) ≤ (r.log.length : Int) := by omega
  clear hno
  clear hyes
  go_enter Try.func17, Try.ntmps17
  go_wp2_with (first
    | (go_at_call 14; refine hmay.mono ?_; rintro e w1 ⟨rfl, hb1⟩
       have bx1 := bx0.below hb1
       have by1 := by0.below hb1
       have hw1 := hB.trans (hb1.mono hB.size)
       have hs1 := hb1.size
       rw [hsz] at hs1
       obtain ⟨a0, a1, a2, a3, a4, a5, a6, a7, a8, a9, a10, a11, a12⟩ := bx1.rep (by omega)
       have hpr := hprim _ bx1
       clear hmay bx0 by0)
    | (go_at_call 34; refine (htm _).mono ?_; rintro e wn ⟨rfl, hq⟩; have hq' := hq.symm; clear hq; subst hq')
    | (go_at_call 40; refine hpr.mono ?_; rintro e w2 ⟨rfl, hb2⟩
       have bx2 := bx1.below hb2
       have by2 := by1.below hb2
       have hw2 := below_next hw1 (Nat.le_refl _) hb2
       have hs2 := Nat.le_trans hs1 hb2.size
       obtain ⟨p0, p1, p2, p3, p4, p5, p6, p7, p8, p9, p10, p11, p12⟩ := bx2.rep (by omega)
       have cL := HC.out _ hw2
       obtain ⟨bG, hS, hwG⟩ := res_box (show w.heap.size ≤ w.heap.size + 1 by omega) by2 hw2 r ⟨some la, lc, ao, ac, vo, vc, wo, wc, bo, bc⟩
       have hRG := liesR_next hl hwG hwG.size
       obtain ⟨d0, d1, d2, d3, d4, d5, d6, d7, d8, d9, d10, d11, d12⟩ := by2.rep (by omega)
       have dz := by2.unfrozen
       have HG : Hid _ := bG.rep (by omega)
       simp only [sets] at hRG hwG
       clear hS bG
       clear hpr))
  obtain ⟨g0, g1, g2, g3, g4, g5, g6, g7, g8, g9, g10, g11, g12⟩ := HG.out
  simp only [sets] at g0 g1 g2 g3 g4 g5 g6 g7 g8 g9 g10 g11 g12
  refine bodyPost_ret (v := .tuple #[repV r ⟨some la, lc, ao, ac, vo, vc, wo, wc, bo, bc⟩, .slice none 0 0, .int .i64 0, .int .i64 4]) (by simp [results, Try.results17, go_sem, g0, g1, g2, g3, g4, g5, g6, g7, g8, g9, g10, g11, g12]) rfl ⟨⟨some la, lc, ao, ac, vo, vc, wo, wc, bo, bc⟩, none, 0, rfl, hRG, liesM_nil _ _ _, hwG⟩
set_option maxRecDepth 100000 in
set_option maxHeartbeats 1000000 in
theorem rpro_c2 (r : Rep) (la : Addr) (lc : Nat) (ao : Option Addr) (ac : Nat) (vo : Option Addr) (vc : Nat) (wo : Option Addr) (wc : Nat) (bo : Option Addr) (bc : Nat) (hsm : SmallR r) (time : Int) (d : ByteArray) (hyes : May r) (ht : 0 ≤ time ∧ time < 1099511627776) (hd : d.size ≤ 20000) (hh : r.how = 0) (hpm : r.view % r.n = r.id) (T : Int) (hT : propT r time = T) (hne : r.log ≠ []) (hlen : r.log.length < 1000) (hno : ¬ T < 1099511627776) (w : World) (hl : LiesR w w.heap.size ⟨some la, lc, ao, ac, vo, vc, wo, wc, bo, bc⟩ r) :
    Calls Try.prog 17 #[repV r ⟨some la, lc, ao, ac, vo, vc, wo, wc, bo, bc⟩, .int .i64 time, .string d] w fun x w' => ∃ s' xo xc, x = .returned (.tuple #[repV r s', .slice xo ([] : Msgs).length xc, .int .i64 0, .int .i64 4]) ∧ LiesR w' w'.heap.size s' r ∧ LiesM w' w'.heap.size xo ([] : Msgs) ∧ Below w.heap.size w w' := by
  have hB : Below w.heap.size w ((w.alloc (repO r (.slice (some la) r.log.length lc) (.slice ao r.acked.length ac) (.slice vo r.votes.length vc) (.slice wo r.voters.length wc) (.slice bo r.best.length bc) 25)).alloc (repO0 25)) := ((Below.refl _ w).alloc (Nat.le_refl _) _).alloc (by simp) _
  have hsz : ((w.alloc (repO r (.slice (some la) r.log.length lc) (.slice ao r.acked.length ac) (.slice vo r.votes.length vc) (.slice wo r.voters.length wc) (.slice bo r.best.length bc) 25)).alloc (repO0 25)).heap.size = w.heap.size + 2 := by simp
  have bx0 := (box_rep w r (.slice (some la) r.log.length lc) (.slice ao r.acked.length ac) (.slice vo r.votes.length vc) (.slice wo r.voters.length wc) (.slice bo r.best.length bc) undef 25 w.heap.size rfl).alloc (repO0 25)
  have by0 := box_rep0 (w.alloc (repO r (.slice (some la) r.log.length lc) (.slice ao r.acked.length ac) (.slice vo r.votes.length vc) (.slice wo r.voters.length wc) (.slice bo r.best.length bc) 25)) undef 25 (w.heap.size + 1) (by simp)
  have hmay := rmay_any r ⟨some la, lc, ao, ac, vo, vc, wo, wc, bo, bc⟩ (small_m0 hsm) ((w.alloc (repO r (.slice (some la) r.log.length lc) (.slice ao r.acked.length ac) (.slice vo r.votes.length vc) (.slice wo r.voters.length wc) (.slice bo r.best.length bc) 25)).alloc (repO0 25)) (liesR_next hl hB hB.size)
  rw [tru_yes hyes] at hmay
  have htm := fun W => rtime_any time W
  rw [tru_yes ht] at htm
  have q2 : ¬ (20000 : Int) < (d.size : Int) := by omega
  have hv := hyes.views.1
  have h1 := hyes.one
  have hh1 : (r.how != 0) = false := by simp [hh]
  have hprim := fun W b => rprimary_any w.heap.size r W (vl := .slice (some la) r.log.length lc) (va := .slice ao r.acked.length ac) (vv := .slice vo r.votes.length vc) (vw := .slice wo r.voters.length wc) (vb := .slice bo r.best.length bc) b h1 hv
  rw [decide_eq_true hpm] at hprim
  clear hpm hh
  have hLb : 0 ≤ lastT r.log ∧ lastT r.log < 1099511627776 := prevT_in hyes.log.2 r.log.length
  obtain ⟨y, hy, hye⟩ := lastT_some hne
  have hpos : 0 < r.log.length := List.length_pos_iff.2 hne
  obtain ⟨K, hK⟩ : ∃ K : Nat, K = r.log.length - 1 := ⟨_, rfl⟩
  rw [← hK] at hy
  have HC : Hid (∀ W, Below w.heap.size w W → W.cell? (la.add (K * 2)) = some (.int .i64 (lastT r.log))) := fun W hb => by
    obtain ⟨a', e', _, c', _⟩ := (liesE_next hl.log hb hb.size) K y hy
    have e2 : some la = some a' := e'
    cases e2
    rw [hye]
    exact c'
  have hTe : max (max time 1) (lastT r.log + 1) = T := hT
  clear hy hye hT
  generalize lastT r.log = L at *
  obtain ⟨T1, m1⟩ : ∃ T1, max time 1 = T1 := ⟨_, rfl⟩
  rw [m1] at hTe
  have i1 : IntKind.i64.wrap ((r.log.length : Int) - 1) = (K : Int) := by rw [IntKind.wrap_i64]; have := hsm.log; omega
  have i2 : (r.log.length : Int) - 1 = (K : Int) := by omega
  have i3 : (0 : Int) < (r.log.length : Int) := by omega
  have i4 : (K : Int) < (r.log.length : Int) := by omega
  have i6 : K < r.log.length := by omega
  have i8 : r.log.length ≤ 1200 := hsm.log
  have i7 : decide ((K : Int) < (r.log.length : Int)) = true := decide_eq_true i4
  have i5 : IntKind.i64.wrap (L + 1) = L + 1 := by rw [IntKind.wrap_i64]; omega
  clear hK hpos hne hLb
  have j1 : ¬ (1000 : Int) ≤ (r.log.length : Int) := by omega
  have j2 : (1099511627776 : Int) ≤ T := by omega
  clear hyes
  go_enter Try.func17, Try.ntmps17
  go_wp2_with (first
    | (go_at_call 14; refine hmay.mono ?_; rintro e w1 ⟨rfl, hb1⟩
       have bx1 := bx0.below hb1
       have by1 := by0.below hb1
       have hw1 := hB.trans (hb1.mono hB.size)
       have hs1 := hb1.size
       rw [hsz] at hs1
       obtain ⟨a0, a1, a2, a3, a4, a5, a6, a7, a8, a9, a10, a11, a12⟩ := bx1.rep (by omega)
       have hpr := hprim _ bx1
       clear hmay bx0 by0)
    | (go_at_call 34; refine (htm _).mono ?_; rintro e wn ⟨rfl, hq⟩; have hq' := hq.symm; clear hq; subst hq')
    | (go_at_call 40; refine hpr.mono ?_; rintro e w2 ⟨rfl, hb2⟩
       have bx2 := bx1.below hb2
       have by2 := by1.below hb2
       have hw2 := below_next hw1 (Nat.le_refl _) hb2
       have hs2 := Nat.le_trans hs1 hb2.size
       obtain ⟨p0, p1, p2, p3, p4, p5, p6, p7, p8, p9, p10, p11, p12⟩ := bx2.rep (by omega)
       have cL := HC.out _ hw2
       obtain ⟨bG, hS, hwG⟩ := res_box (show w.heap.size ≤ w.heap.size + 1 by omega) by2 hw2 r ⟨some la, lc, ao, ac, vo, vc, wo, wc, bo, bc⟩
       have hRG := liesR_next hl hwG hwG.size
       obtain ⟨d0, d1, d2, d3, d4, d5, d6, d7, d8, d9, d10, d11, d12⟩ := by2.rep (by omega)
       have dz := by2.unfrozen
       have HG : Hid _ := bG.rep (by omega)
       simp only [sets] at hRG hwG
       clear hS bG
       clear hpr))
  obtain ⟨g0, g1, g2, g3, g4, g5, g6, g7, g8, g9, g10, g11, g12⟩ := HG.out
  simp only [sets] at g0 g1 g2 g3 g4 g5 g6 g7 g8 g9 g10 g11 g12
  refine bodyPost_ret (v := .tuple #[repV r ⟨some la, lc, ao, ac, vo, vc, wo, wc, bo, bc⟩, .slice none 0 0, .int .i64 0, .int .i64 4]) (by simp [results, Try.results17, go_sem, g0, g1, g2, g3, g4, g5, g6, g7, g8, g9, g10, g11, g12]) rfl ⟨⟨some la, lc, ao, ac, vo, vc, wo, wc, bo, bc⟩, none, 0, rfl, hRG, liesM_nil _ _ _, hwG⟩
end Go.Proofs.Ytgdehjdajjhjpaa
