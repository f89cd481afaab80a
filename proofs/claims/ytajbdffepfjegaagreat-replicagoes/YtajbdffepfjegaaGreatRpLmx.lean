/-
  Contracts of the statements: a message made to fit; so of a kind of message.
-/
import Derived.Test.YtajbdffepfjegaaGreatRpMay
import Derived.Test.YtajbdffepfjegaaGreatRpG14
import Derived.Test.YtajbdffepfjegaaGreatRpRMc
namespace Go.Proofs.YtajbdffepfjegaaGreat
open Go.RowKit Num
open scoped Classical
set_option linter.unusedVariables false
set_option maxRecDepth 100000
/-- A message is written whole into a box of its own. -/
theorem msg_whole {V : World} {g : Nat} {cs : Array Value} (h : V.heap[g]? = some (.cells cs 27 (0, 0))) (hs : cs.size = 8) (x : Msg) (bo : Option Addr) (c : Nat) {B : Nat} (hB : B ≤ g) :
    (sets V g [(0, .int .i64 x.a0), (1, .int .i64 x.a1), (2, .int .i64 x.a2), (3, .int .i64 x.a3), (4, .int .i64 x.a4), (5, .int .i64 x.a5), (6, .int .i64 x.a6), (7, .slice bo x.log.length c)]).heap[g]? = some (.cells #[.int .i64 x.a0, .int .i64 x.a1, .int .i64 x.a2, .int .i64 x.a3, .int .i64 x.a4, .int .i64 x.a5, .int .i64 x.a6, .slice bo x.log.length c] 27 (0, 0)) ∧ Below B V (sets V g [(0, .int .i64 x.a0), (1, .int .i64 x.a1), (2, .int .i64 x.a2), (3, .int .i64 x.a3), (4, .int .i64 x.a4), (5, .int .i64 x.a5), (6, .int .i64 x.a6), (7, .slice bo x.log.length c)]) := by
  obtain ⟨v0, v1, v2, v3, v4, v5, v6, v7, rfl⟩ := array8 hs
  refine ⟨?_, sets_below hB _ V⟩
  simp only [sets]
  have h1 := (heap_setCell_same V g 0 _ _ (.int .i64 x.a0) h)
  have h2 := (heap_setCell_same _ g 1 _ _ (.int .i64 x.a1) h1)
  have h3 := (heap_setCell_same _ g 2 _ _ (.int .i64 x.a2) h2)
  have h4 := (heap_setCell_same _ g 3 _ _ (.int .i64 x.a3) h3)
  have h5 := (heap_setCell_same _ g 4 _ _ (.int .i64 x.a4) h4)
  have h6 := (heap_setCell_same _ g 5 _ _ (.int .i64 x.a5) h5)
  have h7 := (heap_setCell_same _ g 6 _ _ (.int .i64 x.a6) h6)
  have h8 := (heap_setCell_same _ g 7 _ _ (.slice bo x.log.length c) h7)
  exact h8.trans (by simp)
theorem place_modR (a : Int) (m : Nat) (hm : 0 < m) : ∃ u k : Nat, IntKind.u64.wrap a = (u : Int) ∧ (u : Int) % (m : Int) = (k : Int) ∧ k < m := by
  obtain ⟨u, hu⟩ : ∃ u : Nat, IntKind.u64.wrap a = (u : Int) := ⟨(IntKind.u64.wrap a).toNat, by rw [IntKind.wrap_u64]; omega⟩
  exact ⟨u, u % m, hu, by omega, Nat.mod_lt _ hm⟩
theorem msgz_cells {w : World} {k : Nat} (h : w.heap[k]? = some (.cells #[.int .i64 0, .int .i64 0, .int .i64 0, .int .i64 0, .int .i64 0, .int .i64 0, .int .i64 0, .slice none 0 0] 27 (0, 0))) : w.cell? ⟨k, 0, none⟩ = some (.int .i64 0) ∧ w.cell? ⟨k, 1, none⟩ = some (.int .i64 0) ∧ w.cell? ⟨k, 2, none⟩ = some (.int .i64 0) ∧ w.cell? ⟨k, 3, none⟩ = some (.int .i64 0) ∧ w.cell? ⟨k, 4, none⟩ = some (.int .i64 0) ∧ w.cell? ⟨k, 5, none⟩ = some (.int .i64 0) ∧ w.cell? ⟨k, 6, none⟩ = some (.int .i64 0) ∧ w.cell? ⟨k, 7, none⟩ = some (.slice none 0 0) :=
  ⟨box_cell h 0 _ rfl, box_cell h 1 _ rfl, box_cell h 2 _ rfl, box_cell h 3 _ rfl, box_cell h 4 _ rfl, box_cell h 5 _ rfl, box_cell h 6 _ rfl, box_cell h 7 _ rfl⟩
set_option maxRecDepth 100000 in
set_option maxHeartbeats 1000000 in
theorem fitted_bad (r : Rep) (s : Sl) (m : Msg) (bo : Option Addr) (c : Nat) (hsm : WideM0 r) (hno : ¬ May r) (w : World) (hl : LiesR w w.heap.size s r) :
    Calls Tryz.prog 11 #[repV r s, msV m bo c, .bool true] w fun e w' => ∃ m', e = .returned (msV m' bo c) ∧ m'.log = m.log ∧ m'.a0 = m.a0 ∧ Below w.heap.size w w' := by
  have hB : Below w.heap.size w (((w.alloc (repO r (.slice s.lo r.log.length s.lc) (.slice s.ao r.acked.length s.ac) (.slice s.vo r.votes.length s.vc) (.slice s.wo r.voters.length s.wc) (.slice s.bo r.best.length s.bc) 25)).alloc (.cells #[.int .i64 m.a0, .int .i64 m.a1, .int .i64 m.a2, .int .i64 m.a3, .int .i64 m.a4, .int .i64 m.a5, .int .i64 m.a6, .slice bo m.log.length c] 27)).alloc (.cells #[.int .i64 0, .int .i64 0, .int .i64 0, .int .i64 0, .int .i64 0, .int .i64 0, .int .i64 0, .slice none 0 0] 27)) := (((Below.refl _ w).alloc (Nat.le_refl _) _).alloc (by simp) _).alloc (by simp; omega) _
  have hsz : (((w.alloc (repO r (.slice s.lo r.log.length s.lc) (.slice s.ao r.acked.length s.ac) (.slice s.vo r.votes.length s.vc) (.slice s.wo r.voters.length s.wc) (.slice s.bo r.best.length s.bc) 25)).alloc (.cells #[.int .i64 m.a0, .int .i64 m.a1, .int .i64 m.a2, .int .i64 m.a3, .int .i64 m.a4, .int .i64 m.a5, .int .i64 m.a6, .slice bo m.log.length c] 27)).alloc (.cells #[.int .i64 0, .int .i64 0, .int .i64 0, .int .i64 0, .int .i64 0, .int .i64 0, .int .i64 0, .slice none 0 0] 27)).heap.size = w.heap.size + 3 := by simp
  have bx0 := ((box_rep w r (.slice s.lo r.log.length s.lc) (.slice s.ao r.acked.length s.ac) (.slice s.vo r.votes.length s.vc) (.slice s.wo r.voters.length s.wc) (.slice s.bo r.best.length s.bc) undef 25 w.heap.size rfl).alloc (.cells #[.int .i64 m.a0, .int .i64 m.a1, .int .i64 m.a2, .int .i64 m.a3, .int .i64 m.a4, .int .i64 m.a5, .int .i64 m.a6, .slice bo m.log.length c] 27)).alloc (.cells #[.int .i64 0, .int .i64 0, .int .i64 0, .int .i64 0, .int .i64 0, .int .i64 0, .int .i64 0, .slice none 0 0] 27)
  have hm0 : (((w.alloc (repO r (.slice s.lo r.log.length s.lc) (.slice s.ao r.acked.length s.ac) (.slice s.vo r.votes.length s.vc) (.slice s.wo r.voters.length s.wc) (.slice s.bo r.best.length s.bc) 25)).alloc (.cells #[.int .i64 m.a0, .int .i64 m.a1, .int .i64 m.a2, .int .i64 m.a3, .int .i64 m.a4, .int .i64 m.a5, .int .i64 m.a6, .slice bo m.log.length c] 27)).alloc (.cells #[.int .i64 0, .int .i64 0, .int .i64 0, .int .i64 0, .int .i64 0, .int .i64 0, .int .i64 0, .slice none 0 0] 27)).heap[w.heap.size + 1]? = some (.cells #[.int .i64 m.a0, .int .i64 m.a1, .int .i64 m.a2, .int .i64 m.a3, .int .i64 m.a4, .int .i64 m.a5, .int .i64 m.a6, .slice bo m.log.length c] 27 (0, 0)) := ((Below.refl _ ((w.alloc (repO r (.slice s.lo r.log.length s.lc) (.slice s.ao r.acked.length s.ac) (.slice s.vo r.votes.length s.vc) (.slice s.wo r.voters.length s.wc) (.slice s.bo r.best.length s.bc) 25)).alloc (.cells #[.int .i64 m.a0, .int .i64 m.a1, .int .i64 m.a2, .int .i64 m.a3, .int .i64 m.a4, .int .i64 m.a5, .int .i64 m.a6, .slice bo m.log.length c] 27))).alloc (Nat.le_refl _) _).block (w.heap.size + 1) (by simp) |>.trans (heap_newB _ _ _ (by simp))
  have hr0 : (((w.alloc (repO r (.slice s.lo r.log.length s.lc) (.slice s.ao r.acked.length s.ac) (.slice s.vo r.votes.length s.vc) (.slice s.wo r.voters.length s.wc) (.slice s.bo r.best.length s.bc) 25)).alloc (.cells #[.int .i64 m.a0, .int .i64 m.a1, .int .i64 m.a2, .int .i64 m.a3, .int .i64 m.a4, .int .i64 m.a5, .int .i64 m.a6, .slice bo m.log.length c] 27)).alloc (.cells #[.int .i64 0, .int .i64 0, .int .i64 0, .int .i64 0, .int .i64 0, .int .i64 0, .int .i64 0, .slice none 0 0] 27)).heap[w.heap.size + 2]? = some (.cells #[.int .i64 0, .int .i64 0, .int .i64 0, .int .i64 0, .int .i64 0, .int .i64 0, .int .i64 0, .slice none 0 0] 27 (0, 0)) := heap_newB _ _ _ (by simp)
  have hmay := rmayW_any r s hsm (((w.alloc (repO r (.slice s.lo r.log.length s.lc) (.slice s.ao r.acked.length s.ac) (.slice s.vo r.votes.length s.vc) (.slice s.wo r.voters.length s.wc) (.slice s.bo r.best.length s.bc) 25)).alloc (.cells #[.int .i64 m.a0, .int .i64 m.a1, .int .i64 m.a2, .int .i64 m.a3, .int .i64 m.a4, .int .i64 m.a5, .int .i64 m.a6, .slice bo m.log.length c] 27)).alloc (.cells #[.int .i64 0, .int .i64 0, .int .i64 0, .int .i64 0, .int .i64 0, .int .i64 0, .int .i64 0, .slice none 0 0] 27)) (liesR_next hl hB hB.size)
  rw [tru_no hno] at hmay
  clear hno
  go_enter Tryz.func11, Tryz.ntmps11
  go_wp2_with (first
    | (go_at_call 8; refine hmay.mono ?_; rintro e w1 ⟨rfl, hb1⟩
       have hw1 := hB.trans (hb1.mono hB.size)
       have bx1 := bx0.below hb1
       have hm1 := (hb1.block (w.heap.size + 1) (by rw [hsz]; omega)).trans hm0
       have hr1 := (hb1.block (w.heap.size + 2) (by rw [hsz]; omega)).trans hr0
       obtain ⟨a0, a1, a2, a3, a4, a5, a6, a7, a8, a9, a10, a11, a12⟩ := bx1.rep (by omega)
       obtain ⟨c0, c1, c2, c3, c4, c5, c6, c7⟩ := msg_cells hm1
       have cz := box_open hm1
       obtain ⟨bG, hwG⟩ := msg_whole hr1 rfl m bo c (show w.heap.size ≤ w.heap.size + 1 + 1 by omega)
       have hwF := hw1.trans hwG
       obtain ⟨d0, d1, d2, d3, d4, d5, d6, d7⟩ := msgz_cells hr1
       have dz := box_open hr1
       obtain ⟨g0, g1, g2, g3, g4, g5, g6, g7⟩ := msg_cells bG
       simp only [sets] at hwF g0 g1 g2 g3 g4 g5 g6 g7
       clear bG hwG
       clear hmay bx0 hm0 hr0))
  refine bodyPost_ret (v := msV m bo c) (by simp [results, Tryz.results11, go_sem, g0, g1, g2, g3, g4, g5, g6, g7]) rfl ⟨m, rfl, rfl, rfl, hwF⟩
set_option maxRecDepth 100000 in
set_option maxHeartbeats 1000000 in
theorem fitted_one (r : Rep) (s : Sl) (m : Msg) (bo : Option Addr) (c : Nat) (hsm : WideM0 r) (hyes : May r) (h1 : r.n = 1) (w : World) (hl : LiesR w w.heap.size s r) :
    Calls Tryz.prog 11 #[repV r s, msV m bo c, .bool true] w fun e w' => ∃ m', e = .returned (msV m' bo c) ∧ m'.log = m.log ∧ m'.a0 = m.a0 ∧ Below w.heap.size w w' := by
  have hB : Below w.heap.size w (((w.alloc (repO r (.slice s.lo r.log.length s.lc) (.slice s.ao r.acked.length s.ac) (.slice s.vo r.votes.length s.vc) (.slice s.wo r.voters.length s.wc) (.slice s.bo r.best.length s.bc) 25)).alloc (.cells #[.int .i64 m.a0, .int .i64 m.a1, .int .i64 m.a2, .int .i64 m.a3, .int .i64 m.a4, .int .i64 m.a5, .int .i64 m.a6, .slice bo m.log.length c] 27)).alloc (.cells #[.int .i64 0, .int .i64 0, .int .i64 0, .int .i64 0, .int .i64 0, .int .i64 0, .int .i64 0, .slice none 0 0] 27)) := (((Below.refl _ w).alloc (Nat.le_refl _) _).alloc (by simp) _).alloc (by simp; omega) _
  have hsz : (((w.alloc (repO r (.slice s.lo r.log.length s.lc) (.slice s.ao r.acked.length s.ac) (.slice s.vo r.votes.length s.vc) (.slice s.wo r.voters.length s.wc) (.slice s.bo r.best.length s.bc) 25)).alloc (.cells #[.int .i64 m.a0, .int .i64 m.a1, .int .i64 m.a2, .int .i64 m.a3, .int .i64 m.a4, .int .i64 m.a5, .int .i64 m.a6, .slice bo m.log.length c] 27)).alloc (.cells #[.int .i64 0, .int .i64 0, .int .i64 0, .int .i64 0, .int .i64 0, .int .i64 0, .int .i64 0, .slice none 0 0] 27)).heap.size = w.heap.size + 3 := by simp
  have bx0 := ((box_rep w r (.slice s.lo r.log.length s.lc) (.slice s.ao r.acked.length s.ac) (.slice s.vo r.votes.length s.vc) (.slice s.wo r.voters.length s.wc) (.slice s.bo r.best.length s.bc) undef 25 w.heap.size rfl).alloc (.cells #[.int .i64 m.a0, .int .i64 m.a1, .int .i64 m.a2, .int .i64 m.a3, .int .i64 m.a4, .int .i64 m.a5, .int .i64 m.a6, .slice bo m.log.length c] 27)).alloc (.cells #[.int .i64 0, .int .i64 0, .int .i64 0, .int .i64 0, .int .i64 0, .int .i64 0, .int .i64 0, .slice none 0 0] 27)
  have hm0 : (((w.alloc (repO r (.slice s.lo r.log.length s.lc) (.slice s.ao r.acked.length s.ac) (.slice s.vo r.votes.length s.vc) (.slice s.wo r.voters.length s.wc) (.slice s.bo r.best.length s.bc) 25)).alloc (.cells #[.int .i64 m.a0, .int .i64 m.a1, .int .i64 m.a2, .int .i64 m.a3, .int .i64 m.a4, .int .i64 m.a5, .int .i64 m.a6, .slice bo m.log.length c] 27)).alloc (.cells #[.int .i64 0, .int .i64 0, .int .i64 0, .int .i64 0, .int .i64 0, .int .i64 0, .int .i64 0, .slice none 0 0] 27)).heap[w.heap.size + 1]? = some (.cells #[.int .i64 m.a0, .int .i64 m.a1, .int .i64 m.a2, .int .i64 m.a3, .int .i64 m.a4, .int .i64 m.a5, .int .i64 m.a6, .slice bo m.log.length c] 27 (0, 0)) := ((Below.refl _ ((w.alloc (repO r (.slice s.lo r.log.length s.lc) (.slice s.ao r.acked.length s.ac) (.slice s.vo r.votes.length s.vc) (.slice s.wo r.voters.length s.wc) (.slice s.bo r.best.length s.bc) 25)).alloc (.cells #[.int .i64 m.a0, .int .i64 m.a1, .int .i64 m.a2, .int .i64 m.a3, .int .i64 m.a4, .int .i64 m.a5, .int .i64 m.a6, .slice bo m.log.length c] 27))).alloc (Nat.le_refl _) _).block (w.heap.size + 1) (by simp) |>.trans (heap_newB _ _ _ (by simp))
  have hr0 : (((w.alloc (repO r (.slice s.lo r.log.length s.lc) (.slice s.ao r.acked.length s.ac) (.slice s.vo r.votes.length s.vc) (.slice s.wo r.voters.length s.wc) (.slice s.bo r.best.length s.bc) 25)).alloc (.cells #[.int .i64 m.a0, .int .i64 m.a1, .int .i64 m.a2, .int .i64 m.a3, .int .i64 m.a4, .int .i64 m.a5, .int .i64 m.a6, .slice bo m.log.length c] 27)).alloc (.cells #[.int .i64 0, .int .i64 0, .int .i64 0, .int .i64 0, .int .i64 0, .int .i64 0, .int .i64 0, .slice none 0 0] 27)).heap[w.heap.size + 2]? = some (.cells #[.int .i64 0, .int .i64 0, .int .i64 0, .int .i64 0, .int .i64 0, .int .i64 0, .int .i64 0, .slice none 0 0] 27 (0, 0)) := heap_newB _ _ _ (by simp)
  have hmay := rmayW_any r s hsm (((w.alloc (repO r (.slice s.lo r.log.length s.lc) (.slice s.ao r.acked.length s.ac) (.slice s.vo r.votes.length s.vc) (.slice s.wo r.voters.length s.wc) (.slice s.bo r.best.length s.bc) 25)).alloc (.cells #[.int .i64 m.a0, .int .i64 m.a1, .int .i64 m.a2, .int .i64 m.a3, .int .i64 m.a4, .int .i64 m.a5, .int .i64 m.a6, .slice bo m.log.length c] 27)).alloc (.cells #[.int .i64 0, .int .i64 0, .int .i64 0, .int .i64 0, .int .i64 0, .int .i64 0, .int .i64 0, .slice none 0 0] 27)) (liesR_next hl hB hB.size)
  rw [tru_yes hyes] at hmay
  have d1 : (r.n == 1) = true := by simp [h1]
  have d2 : decide (r.n = 1) = true := decide_eq_true h1
  clear hyes h1
  go_enter Tryz.func11, Tryz.ntmps11
  go_wp2_with (first
    | (go_at_call 8; refine hmay.mono ?_; rintro e w1 ⟨rfl, hb1⟩
       have hw1 := hB.trans (hb1.mono hB.size)
       have bx1 := bx0.below hb1
       have hm1 := (hb1.block (w.heap.size + 1) (by rw [hsz]; omega)).trans hm0
       have hr1 := (hb1.block (w.heap.size + 2) (by rw [hsz]; omega)).trans hr0
       obtain ⟨a0, a1, a2, a3, a4, a5, a6, a7, a8, a9, a10, a11, a12⟩ := bx1.rep (by omega)
       obtain ⟨c0, c1, c2, c3, c4, c5, c6, c7⟩ := msg_cells hm1
       have cz := box_open hm1
       obtain ⟨bG, hwG⟩ := msg_whole hr1 rfl m bo c (show w.heap.size ≤ w.heap.size + 1 + 1 by omega)
       have hwF := hw1.trans hwG
       obtain ⟨d0, d1, d2, d3, d4, d5, d6, d7⟩ := msgz_cells hr1
       have dz := box_open hr1
       obtain ⟨g0, g1, g2, g3, g4, g5, g6, g7⟩ := msg_cells bG
       simp only [sets] at hwF g0 g1 g2 g3 g4 g5 g6 g7
       clear bG hwG
       clear hmay bx0 hm0 hr0))
  refine bodyPost_ret (v := msV m bo c) (by simp [results, Tryz.results11, go_sem, g0, g1, g2, g3, g4, g5, g6, g7]) rfl ⟨m, rfl, rfl, rfl, hwF⟩
set_option maxRecDepth 100000 in
set_option maxHeartbeats 1000000 in
theorem fitted_a (r : Rep) (s : Sl) (m : Msg) (bo : Option Addr) (c : Nat) (hsm : WideM0 r) (hyes : May r) (h1 : ¬ r.n = 1) (h2 : m.a1 < 0) (w : World) (hl : LiesR w w.heap.size s r) :
    Calls Tryz.prog 11 #[repV r s, msV m bo c, .bool true] w fun e w' => ∃ m', e = .returned (msV m' bo c) ∧ m'.log = m.log ∧ m'.a0 = m.a0 ∧ Below w.heap.size w w' := by
  have hB : Below w.heap.size w (((w.alloc (repO r (.slice s.lo r.log.length s.lc) (.slice s.ao r.acked.length s.ac) (.slice s.vo r.votes.length s.vc) (.slice s.wo r.voters.length s.wc) (.slice s.bo r.best.length s.bc) 25)).alloc (.cells #[.int .i64 m.a0, .int .i64 m.a1, .int .i64 m.a2, .int .i64 m.a3, .int .i64 m.a4, .int .i64 m.a5, .int .i64 m.a6, .slice bo m.log.length c] 27)).alloc (.cells #[.int .i64 0, .int .i64 0, .int .i64 0, .int .i64 0, .int .i64 0, .int .i64 0, .int .i64 0, .slice none 0 0] 27)) := (((Below.refl _ w).alloc (Nat.le_refl _) _).alloc (by simp) _).alloc (by simp; omega) _
  have hsz : (((w.alloc (repO r (.slice s.lo r.log.length s.lc) (.slice s.ao r.acked.length s.ac) (.slice s.vo r.votes.length s.vc) (.slice s.wo r.voters.length s.wc) (.slice s.bo r.best.length s.bc) 25)).alloc (.cells #[.int .i64 m.a0, .int .i64 m.a1, .int .i64 m.a2, .int .i64 m.a3, .int .i64 m.a4, .int .i64 m.a5, .int .i64 m.a6, .slice bo m.log.length c] 27)).alloc (.cells #[.int .i64 0, .int .i64 0, .int .i64 0, .int .i64 0, .int .i64 0, .int .i64 0, .int .i64 0, .slice none 0 0] 27)).heap.size = w.heap.size + 3 := by simp
  have bx0 := ((box_rep w r (.slice s.lo r.log.length s.lc) (.slice s.ao r.acked.length s.ac) (.slice s.vo r.votes.length s.vc) (.slice s.wo r.voters.length s.wc) (.slice s.bo r.best.length s.bc) undef 25 w.heap.size rfl).alloc (.cells #[.int .i64 m.a0, .int .i64 m.a1, .int .i64 m.a2, .int .i64 m.a3, .int .i64 m.a4, .int .i64 m.a5, .int .i64 m.a6, .slice bo m.log.length c] 27)).alloc (.cells #[.int .i64 0, .int .i64 0, .int .i64 0, .int .i64 0, .int .i64 0, .int .i64 0, .int .i64 0, .slice none 0 0] 27)
  have hm0 : (((w.alloc (repO r (.slice s.lo r.log.length s.lc) (.slice s.ao r.acked.length s.ac) (.slice s.vo r.votes.length s.vc) (.slice s.wo r.voters.length s.wc) (.slice s.bo r.best.length s.bc) 25)).alloc (.cells #[.int .i64 m.a0, .int .i64 m.a1, .int .i64 m.a2, .int .i64 m.a3, .int .i64 m.a4, .int .i64 m.a5, .int .i64 m.a6, .slice bo m.log.length c] 27)).alloc (.cells #[.int .i64 0, .int .i64 0, .int .i64 0, .int .i64 0, .int .i64 0, .int .i64 0, .int .i64 0, .slice none 0 0] 27)).heap[w.heap.size + 1]? = some (.cells #[.int .i64 m.a0, .int .i64 m.a1, .int .i64 m.a2, .int .i64 m.a3, .int .i64 m.a4, .int .i64 m.a5, .int .i64 m.a6, .slice bo m.log.length c] 27 (0, 0)) := ((Below.refl _ ((w.alloc (repO r (.slice s.lo r.log.length s.lc) (.slice s.ao r.acked.length s.ac) (.slice s.vo r.votes.length s.vc) (.slice s.wo r.voters.length s.wc) (.slice s.bo r.best.length s.bc) 25)).alloc (.cells #[.int .i64 m.a0, .int .i64 m.a1, .int .i64 m.a2, .int .i64 m.a3, .int .i64 m.a4, .int .i64 m.a5, .int .i64 m.a6, .slice bo m.log.length c] 27))).alloc (Nat.le_refl _) _).block (w.heap.size + 1) (by simp) |>.trans (heap_newB _ _ _ (by simp))
  have hr0 : (((w.alloc (repO r (.slice s.lo r.log.length s.lc) (.slice s.ao r.acked.length s.ac) (.slice s.vo r.votes.length s.vc) (.slice s.wo r.voters.length s.wc) (.slice s.bo r.best.length s.bc) 25)).alloc (.cells #[.int .i64 m.a0, .int .i64 m.a1, .int .i64 m.a2, .int .i64 m.a3, .int .i64 m.a4, .int .i64 m.a5, .int .i64 m.a6, .slice bo m.log.length c] 27)).alloc (.cells #[.int .i64 0, .int .i64 0, .int .i64 0, .int .i64 0, .int .i64 0, .int .i64 0, .int .i64 0, .slice none 0 0] 27)).heap[w.heap.size + 2]? = some (.cells #[.int .i64 0, .int .i64 0, .int .i64 0, .int .i64 0, .int .i64 0, .int .i64 0, .int .i64 0, .slice none 0 0] 27 (0, 0)) := heap_newB _ _ _ (by simp)
  have hmay := rmayW_any r s hsm (((w.alloc (repO r (.slice s.lo r.log.length s.lc) (.slice s.ao r.acked.length s.ac) (.slice s.vo r.votes.length s.vc) (.slice s.wo r.voters.length s.wc) (.slice s.bo r.best.length s.bc) 25)).alloc (.cells #[.int .i64 m.a0, .int .i64 m.a1, .int .i64 m.a2, .int .i64 m.a3, .int .i64 m.a4, .int .i64 m.a5, .int .i64 m.a6, .slice bo m.log.length c] 27)).alloc (.cells #[.int .i64 0, .int .i64 0, .int .i64 0, .int .i64 0, .int .i64 0, .int .i64 0, .int .i64 0, .slice none 0 0] 27)) (liesR_next hl hB hB.size)
  rw [tru_yes hyes] at hmay
  have hn := one_bounds hyes.one
  have hvw := hyes.views.1
  have d1 : (r.n == 1) = false := by simp [h1]
  have d2 : decide (r.n = 1) = false := decide_eq_false h1
  have e1 : decide (m.a1 < 0) = true := decide_eq_true h2
  have hne : ¬ r.n = 0 := by omega
  have iw : IntKind.i64.wrap (r.id + 1) = r.id + 1 := by rw [IntKind.wrap_i64]; omega
  obtain ⟨u, k, hu, hk3, hk⟩ := place_modR m.a3 3 (by omega)
  have hk3' : (u : Int) % 3 = (k : Int) := hk3
  have hk4 : Int.tmod (u : Int) 3 = (k : Int) := by rw [Int.tmod_eq_emod_of_nonneg (by omega)]; exact hk3
  have iu : IntKind.u64.wrap (k : Int) = (k : Int) := by rw [IntKind.wrap_u64]; omega
  have ik : IntKind.i64.wrap (k : Int) = (k : Int) := by rw [IntKind.wrap_i64]; omega
  have iv : IntKind.i64.wrap (r.view + (k : Int)) = r.view + (k : Int) := by rw [IntKind.wrap_i64]; omega
  have iv2 : IntKind.i64.wrap (r.view + (k : Int) - 1) = r.view + (k : Int) - 1 := by rw [IntKind.wrap_i64]; omega
  have hmd : Int.tmod (r.id + 1) r.n = (r.id + 1) % r.n := Int.tmod_eq_emod_of_nonneg (by omega)
  clear hyes h1 h2
  go_enter Tryz.func11, Tryz.ntmps11
  go_wp2_with (first
    | (go_at_call 8; refine hmay.mono ?_; rintro e w1 ⟨rfl, hb1⟩
       have hw1 := hB.trans (hb1.mono hB.size)
       have bx1 := bx0.below hb1
       have hm1 := (hb1.block (w.heap.size + 1) (by rw [hsz]; omega)).trans hm0
       have hr1 := (hb1.block (w.heap.size + 2) (by rw [hsz]; omega)).trans hr0
       obtain ⟨a0, a1, a2, a3, a4, a5, a6, a7, a8, a9, a10, a11, a12⟩ := bx1.rep (by omega)
       obtain ⟨c0, c1, c2, c3, c4, c5, c6, c7⟩ := msg_cells hm1
       have cz := box_open hm1
       have hrV : (((w1.setCell ⟨w.heap.size + 1, 2, none⟩ (.int .i64 r.id)).setCell ⟨w.heap.size + 1, 1, none⟩ (.int .i64 ((r.id + 1) % r.n))).setCell ⟨w.heap.size + 1, 3, none⟩ (.int .i64 (max 0 (min (r.view + (k : Int) - 1) 1099511627775)))).heap[w.heap.size + 1 + 1]? = some (.cells #[.int .i64 0, .int .i64 0, .int .i64 0, .int .i64 0, .int .i64 0, .int .i64 0, .int .i64 0, .slice none 0 0] 27 (0, 0)) := ((Below.heap_setCell _ _ _ _ (fun e => by simp at e)).trans ((Below.heap_setCell _ _ _ _ (fun e => by simp at e)).trans ((Below.heap_setCell _ _ _ _ (fun e => by simp at e)).trans hr1)))
       have hwV : Below w.heap.size w (((w1.setCell ⟨w.heap.size + 1, 2, none⟩ (.int .i64 r.id)).setCell ⟨w.heap.size + 1, 1, none⟩ (.int .i64 ((r.id + 1) % r.n))).setCell ⟨w.heap.size + 1, 3, none⟩ (.int .i64 (max 0 (min (r.view + (k : Int) - 1) 1099511627775)))) := (((hw1.setCell (p := ⟨w.heap.size + 1, 2, none⟩) (show w.heap.size ≤ w.heap.size + 1 by omega) _).setCell (p := ⟨w.heap.size + 1, 1, none⟩) (show w.heap.size ≤ w.heap.size + 1 by omega) _).setCell (p := ⟨w.heap.size + 1, 3, none⟩) (show w.heap.size ≤ w.heap.size + 1 by omega) _)
       obtain ⟨bG, hwG⟩ := msg_whole hrV rfl (⟨m.a0, ((r.id + 1) % r.n), r.id, (max 0 (min (r.view + (k : Int) - 1) 1099511627775)), m.a4, m.a5, m.a6, m.log⟩ : Msg) bo c (show w.heap.size ≤ w.heap.size + 1 + 1 by omega)
       have hwF := hwV.trans hwG
       obtain ⟨d0, d1, d2, d3, d4, d5, d6, d7⟩ := msgz_cells hr1
       have dz := box_open hr1
       obtain ⟨g0, g1, g2, g3, g4, g5, g6, g7⟩ := msg_cells bG
       simp only [sets] at hwF g0 g1 g2 g3 g4 g5 g6 g7
       clear bG hwG hwV hrV
       clear hmay bx0 hm0 hr0))
  refine bodyPost_ret (v := msV (⟨m.a0, ((r.id + 1) % r.n), r.id, (max 0 (min (r.view + (k : Int) - 1) 1099511627775)), m.a4, m.a5, m.a6, m.log⟩ : Msg) bo c) (by simp [results, Tryz.results11, go_sem, g0, g1, g2, g3, g4, g5, g6, g7]) rfl ⟨(⟨m.a0, ((r.id + 1) % r.n), r.id, (max 0 (min (r.view + (k : Int) - 1) 1099511627775)), m.a4, m.a5, m.a6, m.log⟩ : Msg), rfl, rfl, rfl, hwF⟩
set_option maxRecDepth 100000 in
set_option maxHeartbeats 1000000 in
theorem fitted_b (r : Rep) (s : Sl) (m : Msg) (bo : Option Addr) (c : Nat) (hsm : WideM0 r) (hyes : May r) (h1 : ¬ r.n = 1) (h2 : ¬ m.a1 < 0) (h3 : r.n ≤ m.a1) (w : World) (hl : LiesR w w.heap.size s r) :
    Calls Tryz.prog 11 #[repV r s, msV m bo c, .bool true] w fun e w' => ∃ m', e = .returned (msV m' bo c) ∧ m'.log = m.log ∧ m'.a0 = m.a0 ∧ Below w.heap.size w w' := by
  have hB : Below w.heap.size w (((w.alloc (repO r (.slice s.lo r.log.length s.lc) (.slice s.ao r.acked.length s.ac) (.slice s.vo r.votes.length s.vc) (.slice s.wo r.voters.length s.wc) (.slice s.bo r.best.length s.bc) 25)).alloc (.cells #[.int .i64 m.a0, .int .i64 m.a1, .int .i64 m.a2, .int .i64 m.a3, .int .i64 m.a4, .int .i64 m.a5, .int .i64 m.a6, .slice bo m.log.length c] 27)).alloc (.cells #[.int .i64 0, .int .i64 0, .int .i64 0, .int .i64 0, .int .i64 0, .int .i64 0, .int .i64 0, .slice none 0 0] 27)) := (((Below.refl _ w).alloc (Nat.le_refl _) _).alloc (by simp) _).alloc (by simp; omega) _
  have hsz : (((w.alloc (repO r (.slice s.lo r.log.length s.lc) (.slice s.ao r.acked.length s.ac) (.slice s.vo r.votes.length s.vc) (.slice s.wo r.voters.length s.wc) (.slice s.bo r.best.length s.bc) 25)).alloc (.cells #[.int .i64 m.a0, .int .i64 m.a1, .int .i64 m.a2, .int .i64 m.a3, .int .i64 m.a4, .int .i64 m.a5, .int .i64 m.a6, .slice bo m.log.length c] 27)).alloc (.cells #[.int .i64 0, .int .i64 0, .int .i64 0, .int .i64 0, .int .i64 0, .int .i64 0, .int .i64 0, .slice none 0 0] 27)).heap.size = w.heap.size + 3 := by simp
  have bx0 := ((box_rep w r (.slice s.lo r.log.length s.lc) (.slice s.ao r.acked.length s.ac) (.slice s.vo r.votes.length s.vc) (.slice s.wo r.voters.length s.wc) (.slice s.bo r.best.length s.bc) undef 25 w.heap.size rfl).alloc (.cells #[.int .i64 m.a0, .int .i64 m.a1, .int .i64 m.a2, .int .i64 m.a3, .int .i64 m.a4, .int .i64 m.a5, .int .i64 m.a6, .slice bo m.log.length c] 27)).alloc (.cells #[.int .i64 0, .int .i64 0, .int .i64 0, .int .i64 0, .int .i64 0, .int .i64 0, .int .i64 0, .slice none 0 0] 27)
  have hm0 : (((w.alloc (repO r (.slice s.lo r.log.length s.lc) (.slice s.ao r.acked.length s.ac) (.slice s.vo r.votes.length s.vc) (.slice s.wo r.voters.length s.wc) (.slice s.bo r.best.length s.bc) 25)).alloc (.cells #[.int .i64 m.a0, .int .i64 m.a1, .int .i64 m.a2, .int .i64 m.a3, .int .i64 m.a4, .int .i64 m.a5, .int .i64 m.a6, .slice bo m.log.length c] 27)).alloc (.cells #[.int .i64 0, .int .i64 0, .int .i64 0, .int .i64 0, .int .i64 0, .int .i64 0, .int .i64 0, .slice none 0 0] 27)).heap[w.heap.size + 1]? = some (.cells #[.int .i64 m.a0, .int .i64 m.a1, .int .i64 m.a2, .int .i64 m.a3, .int .i64 m.a4, .int .i64 m.a5, .int .i64 m.a6, .slice bo m.log.length c] 27 (0, 0)) := ((Below.refl _ ((w.alloc (repO r (.slice s.lo r.log.length s.lc) (.slice s.ao r.acked.length s.ac) (.slice s.vo r.votes.length s.vc) (.slice s.wo r.voters.length s.wc) (.slice s.bo r.best.length s.bc) 25)).alloc (.cells #[.int .i64 m.a0, .int .i64 m.a1, .int .i64 m.a2, .int .i64 m.a3, .int .i64 m.a4, .int .i64 m.a5, .int .i64 m.a6, .slice bo m.log.length c] 27))).alloc (Nat.le_refl _) _).block (w.heap.size + 1) (by simp) |>.trans (heap_newB _ _ _ (by simp))
  have hr0 : (((w.alloc (repO r (.slice s.lo r.log.length s.lc) (.slice s.ao r.acked.length s.ac) (.slice s.vo r.votes.length s.vc) (.slice s.wo r.voters.length s.wc) (.slice s.bo r.best.length s.bc) 25)).alloc (.cells #[.int .i64 m.a0, .int .i64 m.a1, .int .i64 m.a2, .int .i64 m.a3, .int .i64 m.a4, .int .i64 m.a5, .int .i64 m.a6, .slice bo m.log.length c] 27)).alloc (.cells #[.int .i64 0, .int .i64 0, .int .i64 0, .int .i64 0, .int .i64 0, .int .i64 0, .int .i64 0, .slice none 0 0] 27)).heap[w.heap.size + 2]? = some (.cells #[.int .i64 0, .int .i64 0, .int .i64 0, .int .i64 0, .int .i64 0, .int .i64 0, .int .i64 0, .slice none 0 0] 27 (0, 0)) := heap_newB _ _ _ (by simp)
  have hmay := rmayW_any r s hsm (((w.alloc (repO r (.slice s.lo r.log.length s.lc) (.slice s.ao r.acked.length s.ac) (.slice s.vo r.votes.length s.vc) (.slice s.wo r.voters.length s.wc) (.slice s.bo r.best.length s.bc) 25)).alloc (.cells #[.int .i64 m.a0, .int .i64 m.a1, .int .i64 m.a2, .int .i64 m.a3, .int .i64 m.a4, .int .i64 m.a5, .int .i64 m.a6, .slice bo m.log.length c] 27)).alloc (.cells #[.int .i64 0, .int .i64 0, .int .i64 0, .int .i64 0, .int .i64 0, .int .i64 0, .int .i64 0, .slice none 0 0] 27)) (liesR_next hl hB hB.size)
  rw [tru_yes hyes] at hmay
  have hn := one_bounds hyes.one
  have hvw := hyes.views.1
  have d1 : (r.n == 1) = false := by simp [h1]
  have d2 : decide (r.n = 1) = false := decide_eq_false h1
  have e1 : decide (m.a1 < 0) = false := decide_eq_false h2
  have e2 : decide (r.n ≤ m.a1) = true := decide_eq_true h3
  have hne : ¬ r.n = 0 := by omega
  have iw : IntKind.i64.wrap (r.id + 1) = r.id + 1 := by rw [IntKind.wrap_i64]; omega
  obtain ⟨u, k, hu, hk3, hk⟩ := place_modR m.a3 3 (by omega)
  have hk3' : (u : Int) % 3 = (k : Int) := hk3
  have hk4 : Int.tmod (u : Int) 3 = (k : Int) := by rw [Int.tmod_eq_emod_of_nonneg (by omega)]; exact hk3
  have iu : IntKind.u64.wrap (k : Int) = (k : Int) := by rw [IntKind.wrap_u64]; omega
  have ik : IntKind.i64.wrap (k : Int) = (k : Int) := by rw [IntKind.wrap_i64]; omega
  have iv : IntKind.i64.wrap (r.view + (k : Int)) = r.view + (k : Int) := by rw [IntKind.wrap_i64]; omega
  have iv2 : IntKind.i64.wrap (r.view + (k : Int) - 1) = r.view + (k : Int) - 1 := by rw [IntKind.wrap_i64]; omega
  have hmd : Int.tmod (r.id + 1) r.n = (r.id + 1) % r.n := Int.tmod_eq_emod_of_nonneg (by omega)
  clear hyes h1 h2 h3
  go_enter Tryz.func11, Tryz.ntmps11
  go_wp2_with (first
    | (go_at_call 8; refine hmay.mono ?_; rintro e w1 ⟨rfl, hb1⟩
       have hw1 := hB.trans (hb1.mono hB.size)
       have bx1 := bx0.below hb1
       have hm1 := (hb1.block (w.heap.size + 1) (by rw [hsz]; omega)).trans hm0
       have hr1 := (hb1.block (w.heap.size + 2) (by rw [hsz]; omega)).trans hr0
       obtain ⟨a0, a1, a2, a3, a4, a5, a6, a7, a8, a9, a10, a11, a12⟩ := bx1.rep (by omega)
       obtain ⟨c0, c1, c2, c3, c4, c5, c6, c7⟩ := msg_cells hm1
       have cz := box_open hm1
       have hrV : (((w1.setCell ⟨w.heap.size + 1, 2, none⟩ (.int .i64 r.id)).setCell ⟨w.heap.size + 1, 1, none⟩ (.int .i64 ((r.id + 1) % r.n))).setCell ⟨w.heap.size + 1, 3, none⟩ (.int .i64 (max 0 (min (r.view + (k : Int) - 1) 1099511627775)))).heap[w.heap.size + 1 + 1]? = some (.cells #[.int .i64 0, .int .i64 0, .int .i64 0, .int .i64 0, .int .i64 0, .int .i64 0, .int .i64 0, .slice none 0 0] 27 (0, 0)) := ((Below.heap_setCell _ _ _ _ (fun e => by simp at e)).trans ((Below.heap_setCell _ _ _ _ (fun e => by simp at e)).trans ((Below.heap_setCell _ _ _ _ (fun e => by simp at e)).trans hr1)))
       have hwV : Below w.heap.size w (((w1.setCell ⟨w.heap.size + 1, 2, none⟩ (.int .i64 r.id)).setCell ⟨w.heap.size + 1, 1, none⟩ (.int .i64 ((r.id + 1) % r.n))).setCell ⟨w.heap.size + 1, 3, none⟩ (.int .i64 (max 0 (min (r.view + (k : Int) - 1) 1099511627775)))) := (((hw1.setCell (p := ⟨w.heap.size + 1, 2, none⟩) (show w.heap.size ≤ w.heap.size + 1 by omega) _).setCell (p := ⟨w.heap.size + 1, 1, none⟩) (show w.heap.size ≤ w.heap.size + 1 by omega) _).setCell (p := ⟨w.heap.size + 1, 3, none⟩) (show w.heap.size ≤ w.heap.size + 1 by omega) _)
       obtain ⟨bG, hwG⟩ := msg_whole hrV rfl (⟨m.a0, ((r.id + 1) % r.n), r.id, (max 0 (min (r.view + (k : Int) - 1) 1099511627775)), m.a4, m.a5, m.a6, m.log⟩ : Msg) bo c (show w.heap.size ≤ w.heap.size + 1 + 1 by omega)
       have hwF := hwV.trans hwG
       obtain ⟨d0, d1, d2, d3, d4, d5, d6, d7⟩ := msgz_cells hr1
       have dz := box_open hr1
       obtain ⟨g0, g1, g2, g3, g4, g5, g6, g7⟩ := msg_cells bG
       simp only [sets] at hwF g0 g1 g2 g3 g4 g5 g6 g7
       clear bG hwG hwV hrV
       clear hmay bx0 hm0 hr0))
  refine bodyPost_ret (v := msV (⟨m.a0, ((r.id + 1) % r.n), r.id, (max 0 (min (r.view + (k : Int) - 1) 1099511627775)), m.a4, m.a5, m.a6, m.log⟩ : Msg) bo c) (by simp [results, Tryz.results11, go_sem, g0, g1, g2, g3, g4, g5, g6, g7]) rfl ⟨(⟨m.a0, ((r.id + 1) % r.n), r.id, (max 0 (min (r.view + (k : Int) - 1) 1099511627775)), m.a4, m.a5, m.a6, m.log⟩ : Msg), rfl, rfl, rfl, hwF⟩
set_option maxRecDepth 100000 in
set_option maxHeartbeats 1000000 in
theorem fitted_c (r : Rep) (s : Sl) (m : Msg) (bo : Option Addr) (c : Nat) (hsm : WideM0 r) (hyes : May r) (h1 : ¬ r.n = 1) (h2 : ¬ m.a1 < 0) (h3 : ¬ r.n ≤ m.a1) (h4 : m.a1 = r.id) (w : World) (hl : LiesR w w.heap.size s r) :
    Calls Tryz.prog 11 #[repV r s, msV m bo c, .bool true] w fun e w' => ∃ m', e = .returned (msV m' bo c) ∧ m'.log = m.log ∧ m'.a0 = m.a0 ∧ Below w.heap.size w w' := by
  have hB : Below w.heap.size w (((w.alloc (repO r (.slice s.lo r.log.length s.lc) (.slice s.ao r.acked.length s.ac) (.slice s.vo r.votes.length s.vc) (.slice s.wo r.voters.length s.wc) (.slice s.bo r.best.length s.bc) 25)).alloc (.cells #[.int .i64 m.a0, .int .i64 m.a1, .int .i64 m.a2, .int .i64 m.a3, .int .i64 m.a4, .int .i64 m.a5, .int .i64 m.a6, .slice bo m.log.length c] 27)).alloc (.cells #[.int .i64 0, .int .i64 0, .int .i64 0, .int .i64 0, .int .i64 0, .int .i64 0, .int .i64 0, .slice none 0 0] 27)) := (((Below.refl _ w).alloc (Nat.le_refl _) _).alloc (by simp) _).alloc (by simp; omega) _
  have hsz : (((w.alloc (repO r (.slice s.lo r.log.length s.lc) (.slice s.ao r.acked.length s.ac) (.slice s.vo r.votes.length s.vc) (.slice s.wo r.voters.length s.wc) (.slice s.bo r.best.length s.bc) 25)).alloc (.cells #[.int .i64 m.a0, .int .i64 m.a1, .int .i64 m.a2, .int .i64 m.a3, .int .i64 m.a4, .int .i64 m.a5, .int .i64 m.a6, .slice bo m.log.length c] 27)).alloc (.cells #[.int .i64 0, .int .i64 0, .int .i64 0, .int .i64 0, .int .i64 0, .int .i64 0, .int .i64 0, .slice none 0 0] 27)).heap.size = w.heap.size + 3 := by simp
  have bx0 := ((box_rep w r (.slice s.lo r.log.length s.lc) (.slice s.ao r.acked.length s.ac) (.slice s.vo r.votes.length s.vc) (.slice s.wo r.voters.length s.wc) (.slice s.bo r.best.length s.bc) undef 25 w.heap.size rfl).alloc (.cells #[.int .i64 m.a0, .int .i64 m.a1, .int .i64 m.a2, .int .i64 m.a3, .int .i64 m.a4, .int .i64 m.a5, .int .i64 m.a6, .slice bo m.log.length c] 27)).alloc (.cells #[.int .i64 0, .int .i64 0, .int .i64 0, .int .i64 0, .int .i64 0, .int .i64 0, .int .i64 0, .slice none 0 0] 27)
  have hm0 : (((w.alloc (repO r (.slice s.lo r.log.length s.lc) (.slice s.ao r.acked.length s.ac) (.slice s.vo r.votes.length s.vc) (.slice s.wo r.voters.length s.wc) (.slice s.bo r.best.length s.bc) 25)).alloc (.cells #[.int .i64 m.a0, .int .i64 m.a1, .int .i64 m.a2, .int .i64 m.a3, .int .i64 m.a4, .int .i64 m.a5, .int .i64 m.a6, .slice bo m.log.length c] 27)).alloc (.cells #[.int .i64 0, .int .i64 0, .int .i64 0, .int .i64 0, .int .i64 0, .int .i64 0, .int .i64 0, .slice none 0 0] 27)).heap[w.heap.size + 1]? = some (.cells #[.int .i64 m.a0, .int .i64 m.a1, .int .i64 m.a2, .int .i64 m.a3, .int .i64 m.a4, .int .i64 m.a5, .int .i64 m.a6, .slice bo m.log.length c] 27 (0, 0)) := ((Below.refl _ ((w.alloc (repO r (.slice s.lo r.log.length s.lc) (.slice s.ao r.acked.length s.ac) (.slice s.vo r.votes.length s.vc) (.slice s.wo r.voters.length s.wc) (.slice s.bo r.best.length s.bc) 25)).alloc (.cells #[.int .i64 m.a0, .int .i64 m.a1, .int .i64 m.a2, .int .i64 m.a3, .int .i64 m.a4, .int .i64 m.a5, .int .i64 m.a6, .slice bo m.log.length c] 27))).alloc (Nat.le_refl _) _).block (w.heap.size + 1) (by simp) |>.trans (heap_newB _ _ _ (by simp))
  have hr0 : (((w.alloc (repO r (.slice s.lo r.log.length s.lc) (.slice s.ao r.acked.length s.ac) (.slice s.vo r.votes.length s.vc) (.slice s.wo r.voters.length s.wc) (.slice s.bo r.best.length s.bc) 25)).alloc (.cells #[.int .i64 m.a0, .int .i64 m.a1, .int .i64 m.a2, .int .i64 m.a3, .int .i64 m.a4, .int .i64 m.a5, .int .i64 m.a6, .slice bo m.log.length c] 27)).alloc (.cells #[.int .i64 0, .int .i64 0, .int .i64 0, .int .i64 0, .int .i64 0, .int .i64 0, .int .i64 0, .slice none 0 0] 27)).heap[w.heap.size + 2]? = some (.cells #[.int .i64 0, .int .i64 0, .int .i64 0, .int .i64 0, .int .i64 0, .int .i64 0, .int .i64 0, .slice none 0 0] 27 (0, 0)) := heap_newB _ _ _ (by simp)
  have hmay := rmayW_any r s hsm (((w.alloc (repO r (.slice s.lo r.log.length s.lc) (.slice s.ao r.acked.length s.ac) (.slice s.vo r.votes.length s.vc) (.slice s.wo r.voters.length s.wc) (.slice s.bo r.best.length s.bc) 25)).alloc (.cells #[.int .i64 m.a0, .int .i64 m.a1, .int .i64 m.a2, .int .i64 m.a3, .int .i64 m.a4, .int .i64 m.a5, .int .i64 m.a6, .slice bo m.log.length c] 27)).alloc (.cells #[.int .i64 0, .int .i64 0, .int .i64 0, .int .i64 0, .int .i64 0, .int .i64 0, .int .i64 0, .slice none 0 0] 27)) (liesR_next hl hB hB.size)
  rw [tru_yes hyes] at hmay
  have hn := one_bounds hyes.one
  have hvw := hyes.views.1
  have d1 : (r.n == 1) = false := by simp [h1]
  have d2 : decide (r.n = 1) = false := decide_eq_false h1
  have e1 : decide (m.a1 < 0) = false := decide_eq_false h2
  have e2 : decide (r.n ≤ m.a1) = false := decide_eq_false h3
  have e3 : (m.a1 == r.id) = true := by simp [h4]
  have e4 : decide (m.a1 = r.id) = true := decide_eq_true h4
  have hne : ¬ r.n = 0 := by omega
  have iw : IntKind.i64.wrap (r.id + 1) = r.id + 1 := by rw [IntKind.wrap_i64]; omega
  obtain ⟨u, k, hu, hk3, hk⟩ := place_modR m.a3 3 (by omega)
  have hk3' : (u : Int) % 3 = (k : Int) := hk3
  have hk4 : Int.tmod (u : Int) 3 = (k : Int) := by rw [Int.tmod_eq_emod_of_nonneg (by omega)]; exact hk3
  have iu : IntKind.u64.wrap (k : Int) = (k : Int) := by rw [IntKind.wrap_u64]; omega
  have ik : IntKind.i64.wrap (k : Int) = (k : Int) := by rw [IntKind.wrap_i64]; omega
  have iv : IntKind.i64.wrap (r.view + (k : Int)) = r.view + (k : Int) := by rw [IntKind.wrap_i64]; omega
  have iv2 : IntKind.i64.wrap (r.view + (k : Int) - 1) = r.view + (k : Int) - 1 := by rw [IntKind.wrap_i64]; omega
  have hmd : Int.tmod (r.id + 1) r.n = (r.id + 1) % r.n := Int.tmod_eq_emod_of_nonneg (by omega)
  clear hyes h1 h2 h3 h4
  go_enter Tryz.func11, Tryz.ntmps11
  go_wp2_with (first
    | (go_at_call 8; refine hmay.mono ?_; rintro e w1 ⟨rfl, hb1⟩
       have hw1 := hB.trans (hb1.mono hB.size)
       have bx1 := bx0.below hb1
       have hm1 := (hb1.block (w.heap.size + 1) (by rw [hsz]; omega)).trans hm0
       have hr1 := (hb1.block (w.heap.size + 2) (by rw [hsz]; omega)).trans hr0
       obtain ⟨a0, a1, a2, a3, a4, a5, a6, a7, a8, a9, a10, a11, a12⟩ := bx1.rep (by omega)
       obtain ⟨c0, c1, c2, c3, c4, c5, c6, c7⟩ := msg_cells hm1
       have cz := box_open hm1
       have hrV : (((w1.setCell ⟨w.heap.size + 1, 2, none⟩ (.int .i64 r.id)).setCell ⟨w.heap.size + 1, 1, none⟩ (.int .i64 ((r.id + 1) % r.n))).setCell ⟨w.heap.size + 1, 3, none⟩ (.int .i64 (max 0 (min (r.view + (k : Int) - 1) 1099511627775)))).heap[w.heap.size + 1 + 1]? = some (.cells #[.int .i64 0, .int .i64 0, .int .i64 0, .int .i64 0, .int .i64 0, .int .i64 0, .int .i64 0, .slice none 0 0] 27 (0, 0)) := ((Below.heap_setCell _ _ _ _ (fun e => by simp at e)).trans ((Below.heap_setCell _ _ _ _ (fun e => by simp at e)).trans ((Below.heap_setCell _ _ _ _ (fun e => by simp at e)).trans hr1)))
       have hwV : Below w.heap.size w (((w1.setCell ⟨w.heap.size + 1, 2, none⟩ (.int .i64 r.id)).setCell ⟨w.heap.size + 1, 1, none⟩ (.int .i64 ((r.id + 1) % r.n))).setCell ⟨w.heap.size + 1, 3, none⟩ (.int .i64 (max 0 (min (r.view + (k : Int) - 1) 1099511627775)))) := (((hw1.setCell (p := ⟨w.heap.size + 1, 2, none⟩) (show w.heap.size ≤ w.heap.size + 1 by omega) _).setCell (p := ⟨w.heap.size + 1, 1, none⟩) (show w.heap.size ≤ w.heap.size + 1 by omega) _).setCell (p := ⟨w.heap.size + 1, 3, none⟩) (show w.heap.size ≤ w.heap.size + 1 by omega) _)
       obtain ⟨bG, hwG⟩ := msg_whole hrV rfl (⟨m.a0, ((r.id + 1) % r.n), r.id, (max 0 (min (r.view + (k : Int) - 1) 1099511627775)), m.a4, m.a5, m.a6, m.log⟩ : Msg) bo c (show w.heap.size ≤ w.heap.size + 1 + 1 by omega)
       have hwF := hwV.trans hwG
       obtain ⟨d0, d1, d2, d3, d4, d5, d6, d7⟩ := msgz_cells hr1
       have dz := box_open hr1
       obtain ⟨g0, g1, g2, g3, g4, g5, g6, g7⟩ := msg_cells bG
       simp only [sets] at hwF g0 g1 g2 g3 g4 g5 g6 g7
       clear bG hwG hwV hrV
       clear hmay bx0 hm0 hr0))
  refine bodyPost_ret (v := msV (⟨m.a0, ((r.id + 1) % r.n), r.id, (max 0 (min (r.view + (k : Int) - 1) 1099511627775)), m.a4, m.a5, m.a6, m.log⟩ : Msg) bo c) (by simp [results, Tryz.results11, go_sem, g0, g1, g2, g3, g4, g5, g6, g7]) rfl ⟨(⟨m.a0, ((r.id + 1) % r.n), r.id, (max 0 (min (r.view + (k : Int) - 1) 1099511627775)), m.a4, m.a5, m.a6, m.log⟩ : Msg), rfl, rfl, rfl, hwF⟩
set_option maxRecDepth 100000 in
set_option maxHeartbeats 1000000 in
theorem fitted_d (r : Rep) (s : Sl) (m : Msg) (bo : Option Addr) (c : Nat) (hsm : WideM0 r) (hyes : May r) (h1 : ¬ r.n = 1) (h2 : ¬ m.a1 < 0) (h3 : ¬ r.n ≤ m.a1) (h4 : ¬ m.a1 = r.id) (w : World) (hl : LiesR w w.heap.size s r) :
    Calls Tryz.prog 11 #[repV r s, msV m bo c, .bool true] w fun e w' => ∃ m', e = .returned (msV m' bo c) ∧ m'.log = m.log ∧ m'.a0 = m.a0 ∧ Below w.heap.size w w' := by
  have hB : Below w.heap.size w (((w.alloc (repO r (.slice s.lo r.log.length s.lc) (.slice s.ao r.acked.length s.ac) (.slice s.vo r.votes.length s.vc) (.slice s.wo r.voters.length s.wc) (.slice s.bo r.best.length s.bc) 25)).alloc (.cells #[.int .i64 m.a0, .int .i64 m.a1, .int .i64 m.a2, .int .i64 m.a3, .int .i64 m.a4, .int .i64 m.a5, .int .i64 m.a6, .slice bo m.log.length c] 27)).alloc (.cells #[.int .i64 0, .int .i64 0, .int .i64 0, .int .i64 0, .int .i64 0, .int .i64 0, .int .i64 0, .slice none 0 0] 27)) := (((Below.refl _ w).alloc (Nat.le_refl _) _).alloc (by simp) _).alloc (by simp; omega) _
  have hsz : (((w.alloc (repO r (.slice s.lo r.log.length s.lc) (.slice s.ao r.acked.length s.ac) (.slice s.vo r.votes.length s.vc) (.slice s.wo r.voters.length s.wc) (.slice s.bo r.best.length s.bc) 25)).alloc (.cells #[.int .i64 m.a0, .int .i64 m.a1, .int .i64 m.a2, .int .i64 m.a3, .int .i64 m.a4, .int .i64 m.a5, .int .i64 m.a6, .slice bo m.log.length c] 27)).alloc (.cells #[.int .i64 0, .int .i64 0, .int .i64 0, .int .i64 0, .int .i64 0, .int .i64 0, .int .i64 0, .slice none 0 0] 27)).heap.size = w.heap.size + 3 := by simp
  have bx0 := ((box_rep w r (.slice s.lo r.log.length s.lc) (.slice s.ao r.acked.length s.ac) (.slice s.vo r.votes.length s.vc) (.slice s.wo r.voters.length s.wc) (.slice s.bo r.best.length s.bc) undef 25 w.heap.size rfl).alloc (.cells #[.int .i64 m.a0, .int .i64 m.a1, .int .i64 m.a2, .int .i64 m.a3, .int .i64 m.a4, .int .i64 m.a5, .int .i64 m.a6, .slice bo m.log.length c] 27)).alloc (.cells #[.int .i64 0, .int .i64 0, .int .i64 0, .int .i64 0, .int .i64 0, .int .i64 0, .int .i64 0, .slice none 0 0] 27)
  have hm0 : (((w.alloc (repO r (.slice s.lo r.log.length s.lc) (.slice s.ao r.acked.length s.ac) (.slice s.vo r.votes.length s.vc) (.slice s.wo r.voters.length s.wc) (.slice s.bo r.best.length s.bc) 25)).alloc (.cells #[.int .i64 m.a0, .int .i64 m.a1, .int .i64 m.a2, .int .i64 m.a3, .int .i64 m.a4, .int .i64 m.a5, .int .i64 m.a6, .slice bo m.log.length c] 27)).alloc (.cells #[.int .i64 0, .int .i64 0, .int .i64 0, .int .i64 0, .int .i64 0, .int .i64 0, .int .i64 0, .slice none 0 0] 27)).heap[w.heap.size + 1]? = some (.cells #[.int .i64 m.a0, .int .i64 m.a1, .int .i64 m.a2, .int .i64 m.a3, .int .i64 m.a4, .int .i64 m.a5, .int .i64 m.a6, .slice bo m.log.length c] 27 (0, 0)) := ((Below.refl _ ((w.alloc (repO r (.slice s.lo r.log.length s.lc) (.slice s.ao r.acked.length s.ac) (.slice s.vo r.votes.length s.vc) (.slice s.wo r.voters.length s.wc) (.slice s.bo r.best.length s.bc) 25)).alloc (.cells #[.int .i64 m.a0, .int .i64 m.a1, .int .i64 m.a2, .int .i64 m.a3, .int .i64 m.a4, .int .i64 m.a5, .int .i64 m.a6, .slice bo m.log.length c] 27))).alloc (Nat.le_refl _) _).block (w.heap.size + 1) (by simp) |>.trans (heap_newB _ _ _ (by simp))
  have hr0 : (((w.alloc (repO r (.slice s.lo r.log.length s.lc) (.slice s.ao r.acked.length s.ac) (.slice s.vo r.votes.length s.vc) (.slice s.wo r.voters.length s.wc) (.slice s.bo r.best.length s.bc) 25)).alloc (.cells #[.int .i64 m.a0, .int .i64 m.a1, .int .i64 m.a2, .int .i64 m.a3, .int .i64 m.a4, .int .i64 m.a5, .int .i64 m.a6, .slice bo m.log.length c] 27)).alloc (.cells #[.int .i64 0, .int .i64 0, .int .i64 0, .int .i64 0, .int .i64 0, .int .i64 0, .int .i64 0, .slice none 0 0] 27)).heap[w.heap.size + 2]? = some (.cells #[.int .i64 0, .int .i64 0, .int .i64 0, .int .i64 0, .int .i64 0, .int .i64 0, .int .i64 0, .slice none 0 0] 27 (0, 0)) := heap_newB _ _ _ (by simp)
  have hmay := rmayW_any r s hsm (((w.alloc (repO r (.slice s.lo r.log.length s.lc) (.slice s.ao r.acked.length s.ac) (.slice s.vo r.votes.length s.vc) (.slice s.wo r.voters.length s.wc) (.slice s.bo r.best.length s.bc) 25)).alloc (.cells #[.int .i64 m.a0, .int .i64 m.a1, .int .i64 m.a2, .int .i64 m.a3, .int .i64 m.a4, .int .i64 m.a5, .int .i64 m.a6, .slice bo m.log.length c] 27)).alloc (.cells #[.int .i64 0, .int .i64 0, .int .i64 0, .int .i64 0, .int .i64 0, .int .i64 0, .int .i64 0, .slice none 0 0] 27)) (liesR_next hl hB hB.size)
  rw [tru_yes hyes] at hmay
  have hn := one_bounds hyes.one
  have hvw := hyes.views.1
  have d1 : (r.n == 1) = false := by simp [h1]
  have d2 : decide (r.n = 1) = false := decide_eq_false h1
  have e1 : decide (m.a1 < 0) = false := decide_eq_false h2
  have e2 : decide (r.n ≤ m.a1) = false := decide_eq_false h3
  have e3 : (m.a1 == r.id) = false := by simp [h4]
  have e4 : decide (m.a1 = r.id) = false := decide_eq_false h4
  have hne : ¬ r.n = 0 := by omega
  have iw : IntKind.i64.wrap (r.id + 1) = r.id + 1 := by rw [IntKind.wrap_i64]; omega
  obtain ⟨u, k, hu, hk3, hk⟩ := place_modR m.a3 3 (by omega)
  have hk3' : (u : Int) % 3 = (k : Int) := hk3
  have hk4 : Int.tmod (u : Int) 3 = (k : Int) := by rw [Int.tmod_eq_emod_of_nonneg (by omega)]; exact hk3
  have iu : IntKind.u64.wrap (k : Int) = (k : Int) := by rw [IntKind.wrap_u64]; omega
  have ik : IntKind.i64.wrap (k : Int) = (k : Int) := by rw [IntKind.wrap_i64]; omega
  have iv : IntKind.i64.wrap (r.view + (k : Int)) = r.view + (k : Int) := by rw [IntKind.wrap_i64]; omega
  have iv2 : IntKind.i64.wrap (r.view + (k : Int) - 1) = r.view + (k : Int) - 1 := by rw [IntKind.wrap_i64]; omega
  have hmd : Int.tmod (r.id + 1) r.n = (r.id + 1) % r.n := Int.tmod_eq_emod_of_nonneg (by omega)
  clear hyes h1 h2 h3 h4
  go_enter Tryz.func11, Tryz.ntmps11
  go_wp2_with (first
    | (go_at_call 8; refine hmay.mono ?_; rintro e w1 ⟨rfl, hb1⟩
       have hw1 := hB.trans (hb1.mono hB.size)
       have bx1 := bx0.below hb1
       have hm1 := (hb1.block (w.heap.size + 1) (by rw [hsz]; omega)).trans hm0
       have hr1 := (hb1.block (w.heap.size + 2) (by rw [hsz]; omega)).trans hr0
       obtain ⟨a0, a1, a2, a3, a4, a5, a6, a7, a8, a9, a10, a11, a12⟩ := bx1.rep (by omega)
       obtain ⟨c0, c1, c2, c3, c4, c5, c6, c7⟩ := msg_cells hm1
       have cz := box_open hm1
       have hrV : ((w1.setCell ⟨w.heap.size + 1, 2, none⟩ (.int .i64 r.id)).setCell ⟨w.heap.size + 1, 3, none⟩ (.int .i64 (max 0 (min (r.view + (k : Int) - 1) 1099511627775)))).heap[w.heap.size + 1 + 1]? = some (.cells #[.int .i64 0, .int .i64 0, .int .i64 0, .int .i64 0, .int .i64 0, .int .i64 0, .int .i64 0, .slice none 0 0] 27 (0, 0)) := ((Below.heap_setCell _ _ _ _ (fun e => by simp at e)).trans ((Below.heap_setCell _ _ _ _ (fun e => by simp at e)).trans hr1))
       have hwV : Below w.heap.size w ((w1.setCell ⟨w.heap.size + 1, 2, none⟩ (.int .i64 r.id)).setCell ⟨w.heap.size + 1, 3, none⟩ (.int .i64 (max 0 (min (r.view + (k : Int) - 1) 1099511627775)))) := ((hw1.setCell (p := ⟨w.heap.size + 1, 2, none⟩) (show w.heap.size ≤ w.heap.size + 1 by omega) _).setCell (p := ⟨w.heap.size + 1, 3, none⟩) (show w.heap.size ≤ w.heap.size + 1 by omega) _)
       obtain ⟨bG, hwG⟩ := msg_whole hrV rfl (⟨m.a0, m.a1, r.id, (max 0 (min (r.view + (k : Int) - 1) 1099511627775)), m.a4, m.a5, m.a6, m.log⟩ : Msg) bo c (show w.heap.size ≤ w.heap.size + 1 + 1 by omega)
       have hwF := hwV.trans hwG
       obtain ⟨d0, d1, d2, d3, d4, d5, d6, d7⟩ := msgz_cells hr1
       have dz := box_open hr1
       obtain ⟨g0, g1, g2, g3, g4, g5, g6, g7⟩ := msg_cells bG
       simp only [sets] at hwF g0 g1 g2 g3 g4 g5 g6 g7
       clear bG hwG hwV hrV
       clear hmay bx0 hm0 hr0))
  refine bodyPost_ret (v := msV (⟨m.a0, m.a1, r.id, (max 0 (min (r.view + (k : Int) - 1) 1099511627775)), m.a4, m.a5, m.a6, m.log⟩ : Msg) bo c) (by simp [results, Tryz.results11, go_sem, g0, g1, g2, g3, g4, g5, g6, g7]) rfl ⟨(⟨m.a0, m.a1, r.id, (max 0 (min (r.view + (k : Int) - 1) 1099511627775)), m.a4, m.a5, m.a6, m.log⟩ : Msg), rfl, rfl, rfl, hwF⟩
theorem fitted_yes (r : Rep) (s : Sl) (m : Msg) (bo : Option Addr) (c : Nat) (hsm : WideM0 r) (w : World) (hl : LiesR w w.heap.size s r) :
    Calls Tryz.prog 11 #[repV r s, msV m bo c, .bool true] w fun e w' => ∃ m', e = .returned (msV m' bo c) ∧ m'.log = m.log ∧ m'.a0 = m.a0 ∧ Below w.heap.size w w' := by
  by_cases h0 : May r
  · by_cases h1 : r.n = 1
    · exact fitted_one r s m bo c hsm h0 h1 w hl
    · by_cases h2 : m.a1 < 0
      · exact fitted_a r s m bo c hsm h0 h1 h2 w hl
      · by_cases h3 : r.n ≤ m.a1
        · exact fitted_b r s m bo c hsm h0 h1 h2 h3 w hl
        · by_cases h4 : m.a1 = r.id
          · exact fitted_c r s m bo c hsm h0 h1 h2 h3 h4 w hl
          · exact fitted_d r s m bo c hsm h0 h1 h2 h3 h4 w hl
  · exact fitted_bad r s m bo c hsm h0 w hl
end Go.Proofs.YtajbdffepfjegaaGreat
