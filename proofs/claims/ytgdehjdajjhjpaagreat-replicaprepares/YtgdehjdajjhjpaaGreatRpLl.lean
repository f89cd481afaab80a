/-
  Contract: what a replica makes of a message is the document's, by what both make of it.
-/
import Derived.Test.YtgdehjdajjhjpaaGreatRpG3
import Derived.Test.YtgdehjdajjhjpaaGreatRpG5
import Derived.Test.YtgdehjdajjhjpaaGreatRpG7
import Derived.Test.YtgdehjdajjhjpaaGreatRpG9
import Derived.Test.YtgdehjdajjhjpaaGreatRpRCp
import Derived.Test.YtgdehjdajjhjpaaGreatRpG8
import Derived.Test.YtgdehjdajjhjpaaGreatRpG2
namespace Go.Proofs.YtgdehjdajjhjpaaGreat
open Go.RowKit Num
open scoped Classical
set_option linter.unusedVariables false
set_option maxRecDepth 100000
theorem msg_cellsT {w : World} {k : Nat} {m : Msg} {bo : Option Addr} {c : Nat} (h : w.heap[k]? = some (.cells #[.int .i64 m.a0, .int .i64 m.a1, .int .i64 m.a2, .int .i64 m.a3, .int .i64 m.a4, .int .i64 m.a5, .int .i64 m.a6, .slice bo m.log.length c] 27 (0, 0))) : w.cell? ⟨k, 0, none⟩ = some (.int .i64 m.a0) ∧ w.cell? ⟨k, 1, none⟩ = some (.int .i64 m.a1) ∧ w.cell? ⟨k, 2, none⟩ = some (.int .i64 m.a2) ∧ w.cell? ⟨k, 3, none⟩ = some (.int .i64 m.a3) ∧ w.cell? ⟨k, 4, none⟩ = some (.int .i64 m.a4) ∧ w.cell? ⟨k, 5, none⟩ = some (.int .i64 m.a5) ∧ w.cell? ⟨k, 6, none⟩ = some (.int .i64 m.a6) ∧ w.cell? ⟨k, 7, none⟩ = some (.slice bo m.log.length c) :=
  ⟨box_cell h 0 _ rfl, box_cell h 1 _ rfl, box_cell h 2 _ rfl, box_cell h 3 _ rfl, box_cell h 4 _ rfl, box_cell h 5 _ rfl, box_cell h 6 _ rfl, box_cell h 7 _ rfl⟩
set_option maxRecDepth 100000 in
set_option maxHeartbeats 1000000 in
theorem takes_g (r : Rep) (s : Sl) (m : Msg) (bo : Option Addr) (c : Nat) (hg : greatB r = true) (w : World) (hl : LiesR w w.heap.size s r) (hm : LiesE w w.heap.size bo m.log) :
    Calls Tryz.prog 5 #[repV r s, msV m bo c] w fun e w' => e = .returned (.bool true) ∧ Below w.heap.size w w' := by
  have hb0 : Below w.heap.size w ((w.alloc (repO r (.slice s.lo r.log.length s.lc) (.slice s.ao r.acked.length s.ac) (.slice s.vo r.votes.length s.vc) (.slice s.wo r.voters.length s.wc) (.slice s.bo r.best.length s.bc) 25)).alloc (.cells #[.int .i64 m.a0, .int .i64 m.a1, .int .i64 m.a2, .int .i64 m.a3, .int .i64 m.a4, .int .i64 m.a5, .int .i64 m.a6, .slice bo m.log.length c] 27)) := ((Below.refl _ w).alloc (Nat.le_refl _) _).alloc (by simp) _
  have hG := great_any r s ((w.alloc (repO r (.slice s.lo r.log.length s.lc) (.slice s.ao r.acked.length s.ac) (.slice s.vo r.votes.length s.vc) (.slice s.wo r.voters.length s.wc) (.slice s.bo r.best.length s.bc) 25)).alloc (.cells #[.int .i64 m.a0, .int .i64 m.a1, .int .i64 m.a2, .int .i64 m.a3, .int .i64 m.a4, .int .i64 m.a5, .int .i64 m.a6, .slice bo m.log.length c] 27)) (liesR_next hl hb0 hb0.size)
  have bx0 := (box_rep w r (.slice s.lo r.log.length s.lc) (.slice s.ao r.acked.length s.ac) (.slice s.vo r.votes.length s.vc) (.slice s.wo r.voters.length s.wc) (.slice s.bo r.best.length s.bc) undef 25 w.heap.size rfl).alloc (.cells #[.int .i64 m.a0, .int .i64 m.a1, .int .i64 m.a2, .int .i64 m.a3, .int .i64 m.a4, .int .i64 m.a5, .int .i64 m.a6, .slice bo m.log.length c] 27)
  have hm0 : ((w.alloc (repO r (.slice s.lo r.log.length s.lc) (.slice s.ao r.acked.length s.ac) (.slice s.vo r.votes.length s.vc) (.slice s.wo r.voters.length s.wc) (.slice s.bo r.best.length s.bc) 25)).alloc (.cells #[.int .i64 m.a0, .int .i64 m.a1, .int .i64 m.a2, .int .i64 m.a3, .int .i64 m.a4, .int .i64 m.a5, .int .i64 m.a6, .slice bo m.log.length c] 27)).heap[w.heap.size + 1]? = some (.cells #[.int .i64 m.a0, .int .i64 m.a1, .int .i64 m.a2, .int .i64 m.a3, .int .i64 m.a4, .int .i64 m.a5, .int .i64 m.a6, .slice bo m.log.length c] 27 (0, 0)) := heap_newB _ _ _ (by simp)
  have hA := fun W => awake_any W
  rw [hg] at hG
  clear hg
  go_enter Tryz.func5, Tryz.ntmps5
  go_wp2_with (first
    | (go_at_call 8; refine hG.mono ?_; rintro e w1 ⟨rfl, hb1⟩
       have hw1 := hb0.trans (hb1.mono hb0.size)
       have bx1 := bx0.below hb1
       have hm1 := (hb1.block (w.heap.size + 1) (by simp)).trans hm0
       obtain ⟨a0, a1, a2, a3, a4, a5, a6, a7, a8, a9, a10, a11, a12⟩ := bx1.rep (by omega)
       obtain ⟨c0, c1, c2, c3, c4, c5, c6, c7⟩ := msg_cellsT hm1
       skip
       clear hG bx0 hm0)
    | (go_at_call 10; refine (hA _).mono ?_; rintro e w9 ⟨rfl, hb9⟩; have hw9 := below_next hw1 (Nat.le_refl _) hb9))
  go_ret
  exact ⟨rfl, hw9⟩
set_option maxRecDepth 100000 in
set_option maxHeartbeats 1000000 in
theorem takes_e (r : Rep) (s : Sl) (m : Msg) (bo : Option Addr) (c : Nat) (hg : greatB r = false) (he : entB m.log = true) (w : World) (hl : LiesR w w.heap.size s r) (hm : LiesE w w.heap.size bo m.log) :
    Calls Tryz.prog 5 #[repV r s, msV m bo c] w fun e w' => e = .returned (.bool true) ∧ Below w.heap.size w w' := by
  have hb0 : Below w.heap.size w ((w.alloc (repO r (.slice s.lo r.log.length s.lc) (.slice s.ao r.acked.length s.ac) (.slice s.vo r.votes.length s.vc) (.slice s.wo r.voters.length s.wc) (.slice s.bo r.best.length s.bc) 25)).alloc (.cells #[.int .i64 m.a0, .int .i64 m.a1, .int .i64 m.a2, .int .i64 m.a3, .int .i64 m.a4, .int .i64 m.a5, .int .i64 m.a6, .slice bo m.log.length c] 27)) := ((Below.refl _ w).alloc (Nat.le_refl _) _).alloc (by simp) _
  have hG := great_any r s ((w.alloc (repO r (.slice s.lo r.log.length s.lc) (.slice s.ao r.acked.length s.ac) (.slice s.vo r.votes.length s.vc) (.slice s.wo r.voters.length s.wc) (.slice s.bo r.best.length s.bc) 25)).alloc (.cells #[.int .i64 m.a0, .int .i64 m.a1, .int .i64 m.a2, .int .i64 m.a3, .int .i64 m.a4, .int .i64 m.a5, .int .i64 m.a6, .slice bo m.log.length c] 27)) (liesR_next hl hb0 hb0.size)
  have bx0 := (box_rep w r (.slice s.lo r.log.length s.lc) (.slice s.ao r.acked.length s.ac) (.slice s.vo r.votes.length s.vc) (.slice s.wo r.voters.length s.wc) (.slice s.bo r.best.length s.bc) undef 25 w.heap.size rfl).alloc (.cells #[.int .i64 m.a0, .int .i64 m.a1, .int .i64 m.a2, .int .i64 m.a3, .int .i64 m.a4, .int .i64 m.a5, .int .i64 m.a6, .slice bo m.log.length c] 27)
  have hm0 : ((w.alloc (repO r (.slice s.lo r.log.length s.lc) (.slice s.ao r.acked.length s.ac) (.slice s.vo r.votes.length s.vc) (.slice s.wo r.voters.length s.wc) (.slice s.bo r.best.length s.bc) 25)).alloc (.cells #[.int .i64 m.a0, .int .i64 m.a1, .int .i64 m.a2, .int .i64 m.a3, .int .i64 m.a4, .int .i64 m.a5, .int .i64 m.a6, .slice bo m.log.length c] 27)).heap[w.heap.size + 1]? = some (.cells #[.int .i64 m.a0, .int .i64 m.a1, .int .i64 m.a2, .int .i64 m.a3, .int .i64 m.a4, .int .i64 m.a5, .int .i64 m.a6, .slice bo m.log.length c] 27 (0, 0)) := heap_newB _ _ _ (by simp)
  have hA := fun W => awake_any W
  rw [hg] at hG
  clear hg
  have HE : Hid (entB m.log = true) := he
  clear he
  go_enter Tryz.func5, Tryz.ntmps5
  go_wp2_with (first
    | (go_at_call 8; refine hG.mono ?_; rintro e w1 ⟨rfl, hb1⟩
       have hw1 := hb0.trans (hb1.mono hb0.size)
       have bx1 := bx0.below hb1
       have hm1 := (hb1.block (w.heap.size + 1) (by simp)).trans hm0
       obtain ⟨a0, a1, a2, a3, a4, a5, a6, a7, a8, a9, a10, a11, a12⟩ := bx1.rep (by omega)
       obtain ⟨c0, c1, c2, c3, c4, c5, c6, c7⟩ := msg_cellsT hm1
       have hen := entries_any m.log bo c w1 (liesE_next hm hw1 hw1.size)
       rw [HE.out] at hen
       clear hG bx0 hm0)
    | (go_at_call 9; refine hen.mono ?_; rintro e wn ⟨rfl, hqq⟩; have hqq' := hqq.symm; clear hqq; subst hqq')
    | (go_at_call 10; refine (hA _).mono ?_; rintro e w9 ⟨rfl, hb9⟩; have hw9 := below_next hw1 (Nat.le_refl _) hb9))
  go_ret
  exact ⟨rfl, hw9⟩
set_option maxRecDepth 100000 in
set_option maxHeartbeats 4000000 in
theorem takes_n (r : Rep) (s : Sl) (m : Msg) (bo : Option Addr) (c : Nat) (q : Rep × Msgs × Int) (hP : SmallR r → ∀ W : World, LiesR W W.heap.size s r → LiesE W W.heap.size bo m.log → Calls Tryz.prog 12 #[repV r s, msV m bo c] W fun x w' => ∃ s' xo xc, x = .returned (.tuple #[repV q.1 s', .slice xo q.2.1.length xc, .int .i64 q.2.2]) ∧ RowsS W.heap.size w' q.1 s' ∧ OwnO W.heap.size w' (.slice xo q.2.1.length xc) q.2.1 ∧ Below W.heap.size W w')
    (hD : SmallR r → ∀ W : World, LiesR W W.heap.size s r → LiesE W W.heap.size bo m.log → Calls Tryz.prog 13 #[repV r s, msV m bo c] W fun x w' => ∃ s' xo xc, x = .returned (.tuple #[repV q.1 s', .slice xo q.2.1.length xc, .int .i64 q.2.2]) ∧ LiesR w' w'.heap.size s' q.1 ∧ LiesM w' w'.heap.size xo q.2.1 ∧ Below W.heap.size W w')
    (hz : SmallR r → m.log.length ≤ 100000 → Sz 1000000 q.1 ∧ SzM 1000000 q.2.1) (hg : greatB r = false) (he : entB m.log = false) (w : World) (hl : LiesR w w.heap.size s r) (hm : LiesE w w.heap.size bo m.log) :
    Calls Tryz.prog 5 #[repV r s, msV m bo c] w fun e w' => e = .returned (.bool true) ∧ Below w.heap.size w w' := by
  have hb0 : Below w.heap.size w ((w.alloc (repO r (.slice s.lo r.log.length s.lc) (.slice s.ao r.acked.length s.ac) (.slice s.vo r.votes.length s.vc) (.slice s.wo r.voters.length s.wc) (.slice s.bo r.best.length s.bc) 25)).alloc (.cells #[.int .i64 m.a0, .int .i64 m.a1, .int .i64 m.a2, .int .i64 m.a3, .int .i64 m.a4, .int .i64 m.a5, .int .i64 m.a6, .slice bo m.log.length c] 27)) := ((Below.refl _ w).alloc (Nat.le_refl _) _).alloc (by simp) _
  have hG := great_any r s ((w.alloc (repO r (.slice s.lo r.log.length s.lc) (.slice s.ao r.acked.length s.ac) (.slice s.vo r.votes.length s.vc) (.slice s.wo r.voters.length s.wc) (.slice s.bo r.best.length s.bc) 25)).alloc (.cells #[.int .i64 m.a0, .int .i64 m.a1, .int .i64 m.a2, .int .i64 m.a3, .int .i64 m.a4, .int .i64 m.a5, .int .i64 m.a6, .slice bo m.log.length c] 27)) (liesR_next hl hb0 hb0.size)
  have bx0 := (box_rep w r (.slice s.lo r.log.length s.lc) (.slice s.ao r.acked.length s.ac) (.slice s.vo r.votes.length s.vc) (.slice s.wo r.voters.length s.wc) (.slice s.bo r.best.length s.bc) undef 25 w.heap.size rfl).alloc (.cells #[.int .i64 m.a0, .int .i64 m.a1, .int .i64 m.a2, .int .i64 m.a3, .int .i64 m.a4, .int .i64 m.a5, .int .i64 m.a6, .slice bo m.log.length c] 27)
  have hm0 : ((w.alloc (repO r (.slice s.lo r.log.length s.lc) (.slice s.ao r.acked.length s.ac) (.slice s.vo r.votes.length s.vc) (.slice s.wo r.voters.length s.wc) (.slice s.bo r.best.length s.bc) 25)).alloc (.cells #[.int .i64 m.a0, .int .i64 m.a1, .int .i64 m.a2, .int .i64 m.a3, .int .i64 m.a4, .int .i64 m.a5, .int .i64 m.a6, .slice bo m.log.length c] 27)).heap[w.heap.size + 1]? = some (.cells #[.int .i64 m.a0, .int .i64 m.a1, .int .i64 m.a2, .int .i64 m.a3, .int .i64 m.a4, .int .i64 m.a5, .int .i64 m.a6, .slice bo m.log.length c] 27 (0, 0)) := heap_newB _ _ _ (by simp)
  have hA := fun W => awake_any W
  have hsm := great_small hg
  have hml := ent_small he
  rw [hg] at hG
  clear hg
  have HE : Hid (entB m.log = false) := he
  clear he
  have hP := hP hsm
  have hD := hD hsm
  obtain ⟨z1, z2⟩ := hz hsm (by omega)
  clear hz
  obtain ⟨p, o, E⟩ := q
  simp only at hP hD z1 z2
  have hsame := fun s u W h1 h2 => same_any p s u z1.log z1.best z1.ack z1.vot z1.vor W h1 h2
  have hsame2 := fun s u W h1 h2 => same_any r s u (by have := hsm.log; omega) (by have := hsm.best; omega) (by have := hsm.ack; omega) (by have := hsm.votes; omega) (by have := hsm.voters; omega) W h1 h2
  have hmsg := fun ao bo ac bc W h1 h2 => msgs_same ao bo ac bc o z2.1 z2.2 W h1 h2
  have hpl := z1.log
  have hol := z2.1
  have HOL : Hid (∀ x ∈ o, x.log.length ≤ 1000000) := z2.2
  clear z1 z2
  have hnum := fun n W => num_any n W
  have hcopf := fun W h => rcopy_any r s hsm W h
  clear hsm hml
  go_enter Tryz.func5, Tryz.ntmps5
  go_wp2_with (first
    | (go_at_call 8; refine hG.mono ?_; rintro e w1 ⟨rfl, hb1⟩
       have hw1 := hb0.trans (hb1.mono hb0.size)
       have bx1 := bx0.below hb1
       have hm1 := (hb1.block (w.heap.size + 1) (by simp)).trans hm0
       obtain ⟨a0, a1, a2, a3, a4, a5, a6, a7, a8, a9, a10, a11, a12⟩ := bx1.rep (by omega)
       obtain ⟨c0, c1, c2, c3, c4, c5, c6, c7⟩ := msg_cellsT hm1
       have hen := entries_any m.log bo c w1 (liesE_next hm hw1 hw1.size)
       rw [HE.out] at hen
       have hcop := hcopf w1 (liesR_next hl hw1 hw1.size)
       clear hG bx0 hm0)
    | (go_at_call 9; refine hen.mono ?_; rintro e wn ⟨rfl, hqq⟩; have hqq' := hqq.symm; clear hqq; subst hqq')
    | (go_at_call 11; refine hcop.mono ?_; rintro e w2 ⟨s2, rfl, hR2, hb2⟩
       have hA2 := (Below.refl _ w2).alloc (Nat.le_refl _) (repO r (.slice s2.lo r.log.length s2.lc) (.slice s2.ao r.acked.length s2.ac) (.slice s2.vo r.votes.length s2.vc) (.slice s2.wo r.voters.length s2.wc) (.slice s2.bo r.best.length s2.bc) 25)
       have hc2 := below_next hb2 (Nat.le_refl _) hA2
       have hw2 := below_next hw1 (Nat.le_refl _) hc2
       have y2 := box_rep w2 r (.slice s2.lo r.log.length s2.lc) (.slice s2.ao r.acked.length s2.ac) (.slice s2.vo r.votes.length s2.vc) (.slice s2.wo r.voters.length s2.wc) (.slice s2.bo r.best.length s2.bc) undef 25 w2.heap.size rfl
       have hR2 := liesR_next (rowsS_lies hR2) hA2 hA2.size
       have bx2 := bx1.below hc2
       have hm2 := (hc2.block (w.heap.size + 1) (Array.getElem?_eq_some_iff.1 hm1).1).trans hm1
       clear a0 a1 a2 a3 a4 a5 a6 a7 a8 a9 a10 a11 a12 c0 c1 c2 c3 c4 c5 c6 c7
       obtain ⟨a0, a1, a2, a3, a4, a5, a6, a7, a8, a9, a10, a11, a12⟩ := bx2.rep (by omega)
       obtain ⟨c0, c1, c2, c3, c4, c5, c6, c7⟩ := msg_cellsT hm2
       have hS := hP _ (liesR_next hl hw2 hw2.size) (liesE_next hm hw2 hw2.size)
       clear hcop hcopf bx1 hm1 hP hen)
    | (go_at_call 12; refine hS.mono ?_; rintro e w3 ⟨s3, xo3, xc3, rfl, hRW3, hO3, hb3⟩
       have hA3 := (Below.refl _ w3).alloc (Nat.le_refl _) (repO p (.slice s3.lo p.log.length s3.lc) (.slice s3.ao p.acked.length s3.ac) (.slice s3.vo p.votes.length s3.vc) (.slice s3.wo p.voters.length s3.wc) (.slice s3.bo p.best.length s3.bc) 25)
       have hc3 := below_next hb3 (Nat.le_refl _) hA3
       have hw3 := below_next hw2 (Nat.le_refl _) hc3
       have y3 := box_rep w3 p (.slice s3.lo p.log.length s3.lc) (.slice s3.ao p.acked.length s3.ac) (.slice s3.vo p.votes.length s3.vc) (.slice s3.wo p.voters.length s3.wc) (.slice s3.bo p.best.length s3.bc) undef 25 w3.heap.size rfl
       have bx3 := bx2.below hc3
       have y23 := y2.below hc3
       have hm3 := (hc3.block (w.heap.size + 1) (Array.getElem?_eq_some_iff.1 hm2).1).trans hm2
       clear a0 a1 a2 a3 a4 a5 a6 a7 a8 a9 a10 a11 a12 c0 c1 c2 c3 c4 c5 c6 c7
       obtain ⟨a0, a1, a2, a3, a4, a5, a6, a7, a8, a9, a10, a11, a12⟩ := bx3.rep (by omega)
       obtain ⟨c0, c1, c2, c3, c4, c5, c6, c7⟩ := msg_cellsT hm3
       have hRW3 := hRW3.below hA3
       have hO3 := ownO_below hO3 hA3
       have hS2 := hD _ (liesR_next hl hw3 hw3.size) (liesE_next hm hw3 hw3.size)
       clear hS bx2 hm2 hD y2)
    | (go_at_call 13; refine hS2.mono ?_; rintro e w4 ⟨s4, xo4, xc4, rfl, hR4, hM4, hb4⟩
       have hA4 := (Below.refl _ w4).alloc (Nat.le_refl _) (repO p (.slice s4.lo p.log.length s4.lc) (.slice s4.ao p.acked.length s4.ac) (.slice s4.vo p.votes.length s4.vc) (.slice s4.wo p.voters.length s4.wc) (.slice s4.bo p.best.length s4.bc) 25)
       have hc4 := below_next hb4 (Nat.le_refl _) hA4
       have hw4 := below_next hw3 (Nat.le_refl _) hc4
       have y4 := box_rep w4 p (.slice s4.lo p.log.length s4.lc) (.slice s4.ao p.acked.length s4.ac) (.slice s4.vo p.votes.length s4.vc) (.slice s4.wo p.voters.length s4.wc) (.slice s4.bo p.best.length s4.bc) undef 25 w4.heap.size rfl
       have bx4 := bx3.below hc4
       have y24 := y23.below hc4
       have y34 := y3.below hc4
       have hRW4 := hRW3.below hc4
       have hO4 := ownO_below hO3 hc4
       have hR4 := liesR_next hR4 hA4 hA4.size
       have hM4 := liesM_next hM4 hA4 hA4.size
       clear a0 a1 a2 a3 a4 a5 a6 a7 a8 a9 a10 a11 a12 c0 c1 c2 c3 c4 c5 c6 c7
       obtain ⟨d0, d1, d2, d3, d4, d5, d6, d7, d8, d9, d10, d11, d12⟩ := y34.rep (by omega)
       obtain ⟨e0, e1, e2, e3, e4, e5, e6, e7, e8, e9, e10, e11, e12⟩ := y4.rep (by omega)
       have hQ := hsame s3 s4 _ (rowsS_lies hRW4) hR4
       clear hS2 bx3 y3 y23)
    | (go_at_call 14; have tk := hQ; refine hQ.mono ?_; rintro e w5 ⟨rfl, hb5⟩
       have hw5 := below_next hw4 (Nat.le_refl _) hb5
       have hX := hmsg xo3 xo4 xc3 xc4 _ (ownO_liesM (ownO_below hO4 hb5)) (liesM_next hM4 hb5 hb5.size)
       clear tk hQ hsame hmsg d0 d1 d2 d3 d4 d5 d6 d7 d8 d9 d10 d11 d12 e0 e1 e2 e3 e4 e5 e6 e7 e8 e9 e10 e11 e12)
    | (go_at_call 15; refine hX.mono ?_; rintro e w6 ⟨rfl, hb6⟩
       have hw6 := below_next hw5 (Nat.le_refl _) hb6
       have hb56 := below_next hb5 (Nat.le_refl _) hb6
       have bx6 := bx4.below hb56
       have y26 := y24.below hb56
       obtain ⟨d0, d1, d2, d3, d4, d5, d6, d7, d8, d9, d10, d11, d12⟩ := bx6.rep (by omega)
       obtain ⟨e0, e1, e2, e3, e4, e5, e6, e7, e8, e9, e10, e11, e12⟩ := y26.rep (by omega)
       have hc46 := below_next hc4 (Nat.le_refl _) hb56
       have hc36 := below_next hc3 (Nat.le_refl _) hc46
       have hQ2 := hsame2 s s2 _ (liesR_next hl hw6 hw6.size) (liesR_next hR2 hc36 hc36.size)
       clear hX)
    | (go_at_call 16; refine (hnum _ _).mono ?_; rintro e wn ⟨rfl, hqq⟩; have hqq' := hqq.symm; clear hqq; subst hqq')
    | (go_at_call 14; refine hQ2.mono ?_; rintro e w7 ⟨rfl, hb7⟩
       have hw7 := below_next hw6 (Nat.le_refl _) hb7
       have hb57 := below_next hb56 (Nat.le_refl _) hb7
       have bx7 := bx6.below hb7
       have y27 := y26.below hb7
       have y37 := y34.below hb57
       have hRW7 := hRW4.below hb57
       have hO7 := ownO_below hO4 hb57
       have hc37 := below_next hc36 (Nat.le_refl _) hb7
       clear hQ2 hnum d0 d1 d2 d3 d4 d5 d6 d7 d8 d9 d10 d11 d12 e0 e1 e2 e3 e4 e5 e6 e7 e8 e9 e10 e11 e12))
  have hB3 : w3.heap.size = w3.heap.size := rfl
  obtain ⟨B, hB⟩ : ∃ B, B = (w2.alloc (repO r (.slice s2.lo r.log.length s2.lc) (.slice s2.ao r.acked.length s2.ac) (.slice s2.vo r.votes.length s2.vc) (.slice s2.wo r.voters.length s2.wc) (.slice s2.bo r.best.length s2.bc) 25)).heap.size := ⟨_, rfl⟩
  rw [← hB] at hRW7 hO7 hc37
  have hlB : LiesR w7 B s r := by
    rw [hB] at hc37 ⊢
    exact liesR_next (liesR_next hl hw2 hw2.size) hc37 (Nat.le_refl _)
  have hR2B : LiesR w7 B s2 r := by
    rw [hB] at hc37 ⊢
    exact liesR_next hR2 hc37 (Nat.le_refl _)
  have hBw : w.heap.size ≤ B := by rw [hB]; exact hw2.size
  have hB7 : B ≤ w7.heap.size := by rw [hB]; exact hc37.size
  have HF : Hid (∀ wr, Sp B w7 wr → (Calls Tryz.prog 14 #[repV r s, repV r s2] wr fun e w' => e = .returned (.bool true) ∧ Below wr.heap.size wr w') ∧ BoxF wr w.heap.size 25 13 (repF r (.slice s.lo r.log.length s.lc) (.slice s.ao r.acked.length s.ac) (.slice s.vo r.votes.length s.vc) (.slice s.wo r.voters.length s.wc) (.slice s.bo r.best.length s.bc) undef) ∧ BoxF wr w2.heap.size 25 13 (repF r (.slice s2.lo r.log.length s2.lc) (.slice s2.ao r.acked.length s2.ac) (.slice s2.vo r.votes.length s2.vc) (.slice s2.wo r.voters.length s2.wc) (.slice s2.bo r.best.length s2.bc) undef) ∧ BoxF wr w3.heap.size 25 13 (repF p (.slice s3.lo p.log.length s3.lc) (.slice s3.ao p.acked.length s3.ac) (.slice s3.vo p.votes.length s3.vc) (.slice s3.wo p.voters.length s3.wc) (.slice s3.bo p.best.length s3.bc) undef) ∧ Below w.heap.size w wr) := fun wr hsp =>
    ⟨hsame2 s s2 wr (liesR_next hlB hsp.low (Nat.le_trans hB7 hsp.low.size)) (liesR_next hR2B hsp.low (Nat.le_trans hB7 hsp.low.size)), bx7.stay hsp.stay (by decide), y27.stay hsp.stay (by decide), y37.stay hsp.stay (by decide), hw7.trans (hsp.low.mono hBw)⟩
  have HROW := own_rowE hRW7.log
  have HROWH : Hid (p.log.length = 0 ∨ ∃ g cur, s3.lo = some ⟨g, 0, none⟩ ∧ B ≤ g ∧ w7.heap[g]? = some (.cells cur 46 (0, 0)) ∧ p.log.length * 2 ≤ cur.size) := HROW
  have HMSG : Hid (∀ (i : Nat) (x : Msg), o[i]? = some x → ∃ (gm : Nat) (cm : Array Value) (bo : Option Addr) (c : Nat), xo3 = some ⟨gm, 0, none⟩ ∧ w7.heap[gm]? = some (.cells cm 27 (0, 0)) ∧ w7.cell? ⟨gm, i * 8 + 7, none⟩ = some (.slice bo x.log.length c) ∧ w7.ownsRow B 46 2 (.slice bo x.log.length c) x.log.length (enCells x.log)) := fun i x hi => own_msg_at hO7 hi
  clear HROW hsame2 hlB hR2B bx7 y27 y37 hRW7 hO7 hc37 hB hB3 hw1 hw2 hw3 hw4 hw5 hw6 hw7 hA2 hA3 hA4 hc2 hc3 hc4 hc36 hc46 hb0 hb1 hb2 hb3 hb4 hb5 hb6 hb56 hb57 hb7 hR2 hR4 hM4 hRW3 hRW4 hO3 hO4 bx4 bx6 y4 y24 y26 y34 hm3 hl hm
  go_loopw [12] (fun i wr => ∃ k : Nat, k ≤ p.log.length ∧ i = .int .i64 (k : Int) ∧ Hid (Sp B w7 wr)) (fun i _ => p.log.length - (intOf i).toNat)
  case atStart => exact ⟨0, Nat.zero_le _, rfl, sp_refl _ _⟩
  case round =>
    obtain ⟨k, hk, rfl, HS⟩ := hrel
    obtain ⟨_, _, _, y3, _⟩ := HF.out wr HS.out
    have d5 := (y3.rep (by omega)).2.2.2.2.2.1
    clear y3
    by_cases hkn : k < p.log.length
    · have i1 : (k : Int) < (p.log.length : Int) := by omega
      rcases HROWH.out with h0 | ⟨gl, cur, hlo, hgB, hcur, hsz⟩
      · omega
      · obtain ⟨⟨u, hu⟩, hfz⟩ := sp_cell (i := k * 2) HS.out hcur (by omega)
        have HS2 : Hid (Sp B w7 (wr.setCell ⟨gl, k * 2, none⟩ (.int .i64 (-1)))) := sp_step HS.out hcur hgB (k * 2) _
        rw [hlo] at d5
        clear hcur hsz
        go_wp2
        go_roundw
        case rel => exact ⟨k + 1, by omega, by go_num, HS2⟩
        case measure => simp [intOf]; omega
    · obtain rfl : k = p.log.length := by omega
      have i1 : ¬ (p.log.length : Int) < (p.log.length : Int) := by omega
      clear hkn hk
      go_wp2
      clear d5
      have HS0 := HS
      go_loopw [13] (fun i wr => ∃ k : Nat, k ≤ o.length ∧ i = .int .i64 (k : Int) ∧ Hid (Sp B w7 wr)) (fun i _ => o.length - (intOf i).toNat)
      case atStart => exact ⟨0, Nat.zero_le _, rfl, HS0⟩
      case round =>
        obtain ⟨k, hk, rfl, HS1⟩ := hrel
        by_cases hkn : k < o.length
        · have i2 : (k : Int) < (o.length : Int) := by omega
          have HX : Hid (o[k]? = some o[k] ∧ o[k].log.length ≤ 1000000) := ⟨List.getElem?_eq_getElem hkn, HOL.out _ (List.getElem_mem hkn)⟩
          obtain ⟨gm, cm, bx, cx, hxo, hgm, hc7, hown⟩ := HMSG.out k o[k] HX.out.1
          have hxl := HX.out.2
          have HC : Hid (∀ W, Sp B w7 W → W.cell? ⟨gm, k * 8 + 7, none⟩ = some (.slice bx o[k].log.length cx)) := fun W hW => (World.cell?_of_block (hW.stay.keep gm (Array.getElem?_eq_some_iff.1 hgm).1 id (fun cs' fr' h' => by rw [hgm] at h'; cases h'))).trans hc7
          have HRW : Hid (o[k].log.length = 0 ∨ ∃ g cur, bx = some ⟨g, 0, none⟩ ∧ B ≤ g ∧ w7.heap[g]? = some (.cells cur 46 (0, 0)) ∧ o[k].log.length * 2 ≤ cur.size) := own_rowE hown
          clear HX hgm hc7 hown
          generalize o[k].log.length = nx at *
          subst hxo
          go_wp2
          go_loopw [14] (fun j wr => ∃ k2 : Nat, k2 ≤ nx ∧ j = .int .i64 (k2 : Int) ∧ Hid (Sp B w7 wr)) (fun j _ => nx - (intOf j).toNat)
          case atStart => exact ⟨0, Nat.zero_le _, rfl, HS1⟩
          case round =>
            obtain ⟨k2, hk2, rfl, HS2⟩ := hrel
            rename_i wr3 _
            have e7 := HC.out _ HS2.out
            by_cases hk2n : k2 < nx
            · have i3 : (k2 : Int) < (nx : Int) := by omega
              rcases HRW.out with h0 | ⟨gl, cur, hlo, hgB, hcur, hsz⟩
              · omega
              · obtain ⟨⟨u, hu⟩, hfz⟩ := sp_cell (i := k2 * 2) HS2.out hcur (by omega)
                have HS3 : Hid (Sp B w7 (World.setCell _ ⟨gl, k2 * 2, none⟩ (.int .i64 (-1)))) := sp_step HS2.out hcur hgB (k2 * 2) _
                rw [hlo] at e7
                clear hcur hsz
                go_wp2
                go_roundw
                case rel => exact ⟨k2 + 1, by omega, by go_num, HS3⟩
                case measure => simp [intOf]; omega
            · obtain rfl : k2 = nx := by omega
              have i3 : ¬ (k2 : Int) < (k2 : Int) := by omega
              go_wp2
              go_roundw
              case rel => exact ⟨k + 1, by omega, by go_num, HS2⟩
              case measure => simp [intOf]; omega
        · obtain rfl : k = o.length := by omega
          have i2 : ¬ (o.length : Int) < (o.length : Int) := by omega
          obtain ⟨hQ3, bxF, y2F, _, hwF⟩ := HF.out _ HS1.out
          obtain ⟨d0, d1, d2, d3, d4, d5, d6, d7, d8, d9, d10, d11, d12⟩ := bxF.rep (by omega)
          obtain ⟨e0, e1, e2, e3, e4, e5, e6, e7, e8, e9, e10, e11, e12⟩ := y2F.rep (by omega)
          clear bxF y2F
          go_wp2_with (first
            | (go_at_call 14; refine hQ3.mono ?_; rintro e w8 ⟨rfl, hb8⟩; have hw8 := below_next hwF (Nat.le_refl _) hb8)
            | (go_at_call 10; refine (hA _).mono ?_; rintro e w9 ⟨rfl, hb9⟩; have hw9 := below_next hw8 (Nat.le_refl _) hb9))
          go_ret
          exact ⟨rfl, hw9⟩
theorem takes_by (r : Rep) (s : Sl) (m : Msg) (bo : Option Addr) (c : Nat) (q : Rep × Msgs × Int) (hP : SmallR r → ∀ W : World, LiesR W W.heap.size s r → LiesE W W.heap.size bo m.log → Calls Tryz.prog 12 #[repV r s, msV m bo c] W fun x w' => ∃ s' xo xc, x = .returned (.tuple #[repV q.1 s', .slice xo q.2.1.length xc, .int .i64 q.2.2]) ∧ RowsS W.heap.size w' q.1 s' ∧ OwnO W.heap.size w' (.slice xo q.2.1.length xc) q.2.1 ∧ Below W.heap.size W w')
    (hD : SmallR r → ∀ W : World, LiesR W W.heap.size s r → LiesE W W.heap.size bo m.log → Calls Tryz.prog 13 #[repV r s, msV m bo c] W fun x w' => ∃ s' xo xc, x = .returned (.tuple #[repV q.1 s', .slice xo q.2.1.length xc, .int .i64 q.2.2]) ∧ LiesR w' w'.heap.size s' q.1 ∧ LiesM w' w'.heap.size xo q.2.1 ∧ Below W.heap.size W w')
    (hz : SmallR r → m.log.length ≤ 100000 → Sz 1000000 q.1 ∧ SzM 1000000 q.2.1) (w : World) (hl : LiesR w w.heap.size s r) (hm : LiesE w w.heap.size bo m.log) :
    Calls Tryz.prog 5 #[repV r s, msV m bo c] w fun e w' => e = .returned (.bool true) ∧ Below w.heap.size w w' := by
  cases hg : greatB r with
  | true => exact takes_g r s m bo c hg w hl hm
  | false =>
    cases he : entB m.log with
    | true => exact takes_e r s m bo c hg he w hl hm
    | false => exact takes_n r s m bo c q hP hD hz hg he w hl hm
end Go.Proofs.YtgdehjdajjhjpaaGreat
