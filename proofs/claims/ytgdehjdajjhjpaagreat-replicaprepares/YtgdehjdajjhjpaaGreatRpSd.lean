/-
  Contracts of the document's own replica: may it take a message?
-/
import Derived.Test.YtgdehjdajjhjpaaGreatRpG17
import Derived.Test.YtgdehjdajjhjpaaGreatRpSg
import Derived.Test.YtgdehjdajjhjpaaGreatRpRMb
namespace Go.Proofs.YtgdehjdajjhjpaaGreat
open Go.RowKit Num
open scoped Classical
set_option linter.unusedVariables false
set_option maxRecDepth 100000
/-- May a replica take a message? As the document asks. -/
def Num.MsgD (r : Rep) (m : Msg) : Prop := (1 ≤ m.a0 ∧ m.a0 ≤ 8) ∧ (0 ≤ m.a1 ∧ m.a1 < r.n) ∧ m.a1 ≠ r.id ∧ m.a2 = r.id ∧ (0 ≤ m.a3 ∧ m.a3 < 1099511627776) ∧ (0 ≤ m.a4 ∧ m.a4 < 1099511627776) ∧ (0 ≤ m.a5 ∧ m.a5 < 1099511627776) ∧ (0 ≤ m.a6 ∧ m.a6 < 1099511627776) ∧ LogOk m.log ∧ (m.a0 ≠ 1 ∨ m.log.length = 1)
def Num.timeB (n : Int) : Bool := tru (0 ≤ n ∧ n < 1099511627776)
theorem rtimeB_any (n : Int) (W : World) : Calls Tryz.prog 34 #[.int .i64 n] W fun e w' => e = .returned (.bool (timeB n)) ∧ w' = W := rtime_any n W
theorem timeB_yes {n : Int} (h : 0 ≤ n ∧ n < 1099511627776) : timeB n = true := tru_yes h
theorem timeB_no {n : Int} (h : ¬ (0 ≤ n ∧ n < 1099511627776)) : timeB n = false := tru_no h
set_option maxRecDepth 100000 in
set_option maxHeartbeats 1000000 in
theorem rmes0 (r : Rep) (s : Sl) (m : Msg) (bo : Option Addr) (c : Nat)  (h1 : m.a0 < 1)
    (w : World) (hl : LiesE w w.heap.size bo m.log) :
    Calls Tryz.prog 23 #[repV r s, msV m bo c] w fun e w' => e = .returned (.bool (tru (MsgD r m))) ∧ Below w.heap.size w w' := by
  have hlow : Below w.heap.size w ((w.alloc (repO r (.slice s.lo r.log.length s.lc) (.slice s.ao r.acked.length s.ac) (.slice s.vo r.votes.length s.vc) (.slice s.wo r.voters.length s.wc) (.slice s.bo r.best.length s.bc) 25)).alloc (.cells #[.int .i64 m.a0, .int .i64 m.a1, .int .i64 m.a2, .int .i64 m.a3, .int .i64 m.a4, .int .i64 m.a5, .int .i64 m.a6, .slice bo m.log.length c] 27)) := ((Below.refl _ w).alloc (Nat.le_refl _) _).alloc (by simp) _
  have bx := (box_rep w r (.slice s.lo r.log.length s.lc) (.slice s.ao r.acked.length s.ac) (.slice s.vo r.votes.length s.vc) (.slice s.wo r.voters.length s.wc) (.slice s.bo r.best.length s.bc) undef 25 w.heap.size rfl).alloc (.cells #[.int .i64 m.a0, .int .i64 m.a1, .int .i64 m.a2, .int .i64 m.a3, .int .i64 m.a4, .int .i64 m.a5, .int .i64 m.a6, .slice bo m.log.length c] 27)
  have hmb : ((w.alloc (repO r (.slice s.lo r.log.length s.lc) (.slice s.ao r.acked.length s.ac) (.slice s.vo r.votes.length s.vc) (.slice s.wo r.voters.length s.wc) (.slice s.bo r.best.length s.bc) 25)).alloc (.cells #[.int .i64 m.a0, .int .i64 m.a1, .int .i64 m.a2, .int .i64 m.a3, .int .i64 m.a4, .int .i64 m.a5, .int .i64 m.a6, .slice bo m.log.length c] 27)).heap[w.heap.size + 1]? = some (.cells #[.int .i64 m.a0, .int .i64 m.a1, .int .i64 m.a2, .int .i64 m.a3, .int .i64 m.a4, .int .i64 m.a5, .int .i64 m.a6, .slice bo m.log.length c] 27 (0, 0)) := heap_newB _ _ _ (by simp)
  have hlA : LiesE ((w.alloc (repO r (.slice s.lo r.log.length s.lc) (.slice s.ao r.acked.length s.ac) (.slice s.vo r.votes.length s.vc) (.slice s.wo r.voters.length s.wc) (.slice s.bo r.best.length s.bc) 25)).alloc (.cells #[.int .i64 m.a0, .int .i64 m.a1, .int .i64 m.a2, .int .i64 m.a3, .int .i64 m.a4, .int .i64 m.a5, .int .i64 m.a6, .slice bo m.log.length c] 27)) ((w.alloc (repO r (.slice s.lo r.log.length s.lc) (.slice s.ao r.acked.length s.ac) (.slice s.vo r.votes.length s.vc) (.slice s.wo r.voters.length s.wc) (.slice s.bo r.best.length s.bc) 25)).alloc (.cells #[.int .i64 m.a0, .int .i64 m.a1, .int .i64 m.a2, .int .i64 m.a3, .int .i64 m.a4, .int .i64 m.a5, .int .i64 m.a6, .slice bo m.log.length c] 27)).heap.size bo m.log := liesE_next hl hlow hlow.size
  have HR : Hid (tru (MsgD r m) = false) := tru_no (fun q => absurd q.1.1 (by omega))
  have dh1 : decide (m.a0 < 1) = true := decide_eq_true h1
  clear h1
  obtain ⟨k0, k1, _⟩ := bx.rep (by omega)
  obtain ⟨c0, c1, c2, c3, c4, c5, c6, c7⟩ := msg_cellsS hmb
  have hen := rEntries_any m.log bo c _ hlA
  clear bx hmb hlA
  go_enter Tryz.func23, Tryz.ntmps23
  go_wp2
  go_ret
  exact ⟨by rw [HR.out]; rfl, hlow⟩
set_option maxRecDepth 100000 in
set_option maxHeartbeats 1000000 in
theorem rmes1 (r : Rep) (s : Sl) (m : Msg) (bo : Option Addr) (c : Nat)  (h1 : ¬ m.a0 < 1) (h2 : 8 < m.a0)
    (w : World) (hl : LiesE w w.heap.size bo m.log) :
    Calls Tryz.prog 23 #[repV r s, msV m bo c] w fun e w' => e = .returned (.bool (tru (MsgD r m))) ∧ Below w.heap.size w w' := by
  have hlow : Below w.heap.size w ((w.alloc (repO r (.slice s.lo r.log.length s.lc) (.slice s.ao r.acked.length s.ac) (.slice s.vo r.votes.length s.vc) (.slice s.wo r.voters.length s.wc) (.slice s.bo r.best.length s.bc) 25)).alloc (.cells #[.int .i64 m.a0, .int .i64 m.a1, .int .i64 m.a2, .int .i64 m.a3, .int .i64 m.a4, .int .i64 m.a5, .int .i64 m.a6, .slice bo m.log.length c] 27)) := ((Below.refl _ w).alloc (Nat.le_refl _) _).alloc (by simp) _
  have bx := (box_rep w r (.slice s.lo r.log.length s.lc) (.slice s.ao r.acked.length s.ac) (.slice s.vo r.votes.length s.vc) (.slice s.wo r.voters.length s.wc) (.slice s.bo r.best.length s.bc) undef 25 w.heap.size rfl).alloc (.cells #[.int .i64 m.a0, .int .i64 m.a1, .int .i64 m.a2, .int .i64 m.a3, .int .i64 m.a4, .int .i64 m.a5, .int .i64 m.a6, .slice bo m.log.length c] 27)
  have hmb : ((w.alloc (repO r (.slice s.lo r.log.length s.lc) (.slice s.ao r.acked.length s.ac) (.slice s.vo r.votes.length s.vc) (.slice s.wo r.voters.length s.wc) (.slice s.bo r.best.length s.bc) 25)).alloc (.cells #[.int .i64 m.a0, .int .i64 m.a1, .int .i64 m.a2, .int .i64 m.a3, .int .i64 m.a4, .int .i64 m.a5, .int .i64 m.a6, .slice bo m.log.length c] 27)).heap[w.heap.size + 1]? = some (.cells #[.int .i64 m.a0, .int .i64 m.a1, .int .i64 m.a2, .int .i64 m.a3, .int .i64 m.a4, .int .i64 m.a5, .int .i64 m.a6, .slice bo m.log.length c] 27 (0, 0)) := heap_newB _ _ _ (by simp)
  have hlA : LiesE ((w.alloc (repO r (.slice s.lo r.log.length s.lc) (.slice s.ao r.acked.length s.ac) (.slice s.vo r.votes.length s.vc) (.slice s.wo r.voters.length s.wc) (.slice s.bo r.best.length s.bc) 25)).alloc (.cells #[.int .i64 m.a0, .int .i64 m.a1, .int .i64 m.a2, .int .i64 m.a3, .int .i64 m.a4, .int .i64 m.a5, .int .i64 m.a6, .slice bo m.log.length c] 27)) ((w.alloc (repO r (.slice s.lo r.log.length s.lc) (.slice s.ao r.acked.length s.ac) (.slice s.vo r.votes.length s.vc) (.slice s.wo r.voters.length s.wc) (.slice s.bo r.best.length s.bc) 25)).alloc (.cells #[.int .i64 m.a0, .int .i64 m.a1, .int .i64 m.a2, .int .i64 m.a3, .int .i64 m.a4, .int .i64 m.a5, .int .i64 m.a6, .slice bo m.log.length c] 27)).heap.size bo m.log := liesE_next hl hlow hlow.size
  have HR : Hid (tru (MsgD r m) = false) := tru_no (fun q => absurd q.1.2 (by omega))
  have dh1 : decide (m.a0 < 1) = false := decide_eq_false h1
  have dh2 : decide (8 < m.a0) = true := decide_eq_true h2
  clear h1 h2
  obtain ⟨k0, k1, _⟩ := bx.rep (by omega)
  obtain ⟨c0, c1, c2, c3, c4, c5, c6, c7⟩ := msg_cellsS hmb
  have hen := rEntries_any m.log bo c _ hlA
  clear bx hmb hlA
  go_enter Tryz.func23, Tryz.ntmps23
  go_wp2
  go_ret
  exact ⟨by rw [HR.out]; rfl, hlow⟩
set_option maxRecDepth 100000 in
set_option maxHeartbeats 1000000 in
theorem rmes2 (r : Rep) (s : Sl) (m : Msg) (bo : Option Addr) (c : Nat)  (h1 : ¬ m.a0 < 1) (h2 : ¬ 8 < m.a0) (h3 : m.a1 < 0)
    (w : World) (hl : LiesE w w.heap.size bo m.log) :
    Calls Tryz.prog 23 #[repV r s, msV m bo c] w fun e w' => e = .returned (.bool (tru (MsgD r m))) ∧ Below w.heap.size w w' := by
  have hlow : Below w.heap.size w ((w.alloc (repO r (.slice s.lo r.log.length s.lc) (.slice s.ao r.acked.length s.ac) (.slice s.vo r.votes.length s.vc) (.slice s.wo r.voters.length s.wc) (.slice s.bo r.best.length s.bc) 25)).alloc (.cells #[.int .i64 m.a0, .int .i64 m.a1, .int .i64 m.a2, .int .i64 m.a3, .int .i64 m.a4, .int .i64 m.a5, .int .i64 m.a6, .slice bo m.log.length c] 27)) := ((Below.refl _ w).alloc (Nat.le_refl _) _).alloc (by simp) _
  have bx := (box_rep w r (.slice s.lo r.log.length s.lc) (.slice s.ao r.acked.length s.ac) (.slice s.vo r.votes.length s.vc) (.slice s.wo r.voters.length s.wc) (.slice s.bo r.best.length s.bc) undef 25 w.heap.size rfl).alloc (.cells #[.int .i64 m.a0, .int .i64 m.a1, .int .i64 m.a2, .int .i64 m.a3, .int .i64 m.a4, .int .i64 m.a5, .int .i64 m.a6, .slice bo m.log.length c] 27)
  have hmb : ((w.alloc (repO r (.slice s.lo r.log.length s.lc) (.slice s.ao r.acked.length s.ac) (.slice s.vo r.votes.length s.vc) (.slice s.wo r.voters.length s.wc) (.slice s.bo r.best.length s.bc) 25)).alloc (.cells #[.int .i64 m.a0, .int .i64 m.a1, .int .i64 m.a2, .int .i64 m.a3, .int .i64 m.a4, .int .i64 m.a5, .int .i64 m.a6, .slice bo m.log.length c] 27)).heap[w.heap.size + 1]? = some (.cells #[.int .i64 m.a0, .int .i64 m.a1, .int .i64 m.a2, .int .i64 m.a3, .int .i64 m.a4, .int .i64 m.a5, .int .i64 m.a6, .slice bo m.log.length c] 27 (0, 0)) := heap_newB _ _ _ (by simp)
  have hlA : LiesE ((w.alloc (repO r (.slice s.lo r.log.length s.lc) (.slice s.ao r.acked.length s.ac) (.slice s.vo r.votes.length s.vc) (.slice s.wo r.voters.length s.wc) (.slice s.bo r.best.length s.bc) 25)).alloc (.cells #[.int .i64 m.a0, .int .i64 m.a1, .int .i64 m.a2, .int .i64 m.a3, .int .i64 m.a4, .int .i64 m.a5, .int .i64 m.a6, .slice bo m.log.length c] 27)) ((w.alloc (repO r (.slice s.lo r.log.length s.lc) (.slice s.ao r.acked.length s.ac) (.slice s.vo r.votes.length s.vc) (.slice s.wo r.voters.length s.wc) (.slice s.bo r.best.length s.bc) 25)).alloc (.cells #[.int .i64 m.a0, .int .i64 m.a1, .int .i64 m.a2, .int .i64 m.a3, .int .i64 m.a4, .int .i64 m.a5, .int .i64 m.a6, .slice bo m.log.length c] 27)).heap.size bo m.log := liesE_next hl hlow hlow.size
  have HR : Hid (tru (MsgD r m) = false) := tru_no (fun q => absurd q.2.1.1 (by omega))
  have dh1 : decide (m.a0 < 1) = false := decide_eq_false h1
  have dh2 : decide (8 < m.a0) = false := decide_eq_false h2
  have dh3 : decide (m.a1 < 0) = true := decide_eq_true h3
  clear h1 h2 h3
  obtain ⟨k0, k1, _⟩ := bx.rep (by omega)
  obtain ⟨c0, c1, c2, c3, c4, c5, c6, c7⟩ := msg_cellsS hmb
  have hen := rEntries_any m.log bo c _ hlA
  clear bx hmb hlA
  go_enter Tryz.func23, Tryz.ntmps23
  go_wp2
  go_ret
  exact ⟨by rw [HR.out]; rfl, hlow⟩
set_option maxRecDepth 100000 in
set_option maxHeartbeats 1000000 in
theorem rmes3 (r : Rep) (s : Sl) (m : Msg) (bo : Option Addr) (c : Nat)  (h1 : ¬ m.a0 < 1) (h2 : ¬ 8 < m.a0) (h3 : ¬ m.a1 < 0) (h4 : r.n ≤ m.a1)
    (w : World) (hl : LiesE w w.heap.size bo m.log) :
    Calls Tryz.prog 23 #[repV r s, msV m bo c] w fun e w' => e = .returned (.bool (tru (MsgD r m))) ∧ Below w.heap.size w w' := by
  have hlow : Below w.heap.size w ((w.alloc (repO r (.slice s.lo r.log.length s.lc) (.slice s.ao r.acked.length s.ac) (.slice s.vo r.votes.length s.vc) (.slice s.wo r.voters.length s.wc) (.slice s.bo r.best.length s.bc) 25)).alloc (.cells #[.int .i64 m.a0, .int .i64 m.a1, .int .i64 m.a2, .int .i64 m.a3, .int .i64 m.a4, .int .i64 m.a5, .int .i64 m.a6, .slice bo m.log.length c] 27)) := ((Below.refl _ w).alloc (Nat.le_refl _) _).alloc (by simp) _
  have bx := (box_rep w r (.slice s.lo r.log.length s.lc) (.slice s.ao r.acked.length s.ac) (.slice s.vo r.votes.length s.vc) (.slice s.wo r.voters.length s.wc) (.slice s.bo r.best.length s.bc) undef 25 w.heap.size rfl).alloc (.cells #[.int .i64 m.a0, .int .i64 m.a1, .int .i64 m.a2, .int .i64 m.a3, .int .i64 m.a4, .int .i64 m.a5, .int .i64 m.a6, .slice bo m.log.length c] 27)
  have hmb : ((w.alloc (repO r (.slice s.lo r.log.length s.lc) (.slice s.ao r.acked.length s.ac) (.slice s.vo r.votes.length s.vc) (.slice s.wo r.voters.length s.wc) (.slice s.bo r.best.length s.bc) 25)).alloc (.cells #[.int .i64 m.a0, .int .i64 m.a1, .int .i64 m.a2, .int .i64 m.a3, .int .i64 m.a4, .int .i64 m.a5, .int .i64 m.a6, .slice bo m.log.length c] 27)).heap[w.heap.size + 1]? = some (.cells #[.int .i64 m.a0, .int .i64 m.a1, .int .i64 m.a2, .int .i64 m.a3, .int .i64 m.a4, .int .i64 m.a5, .int .i64 m.a6, .slice bo m.log.length c] 27 (0, 0)) := heap_newB _ _ _ (by simp)
  have hlA : LiesE ((w.alloc (repO r (.slice s.lo r.log.length s.lc) (.slice s.ao r.acked.length s.ac) (.slice s.vo r.votes.length s.vc) (.slice s.wo r.voters.length s.wc) (.slice s.bo r.best.length s.bc) 25)).alloc (.cells #[.int .i64 m.a0, .int .i64 m.a1, .int .i64 m.a2, .int .i64 m.a3, .int .i64 m.a4, .int .i64 m.a5, .int .i64 m.a6, .slice bo m.log.length c] 27)) ((w.alloc (repO r (.slice s.lo r.log.length s.lc) (.slice s.ao r.acked.length s.ac) (.slice s.vo r.votes.length s.vc) (.slice s.wo r.voters.length s.wc) (.slice s.bo r.best.length s.bc) 25)).alloc (.cells #[.int .i64 m.a0, .int .i64 m.a1, .int .i64 m.a2, .int .i64 m.a3, .int .i64 m.a4, .int .i64 m.a5, .int .i64 m.a6, .slice bo m.log.length c] 27)).heap.size bo m.log := liesE_next hl hlow hlow.size
  have HR : Hid (tru (MsgD r m) = false) := tru_no (fun q => absurd q.2.1.2 (by omega))
  have dh1 : decide (m.a0 < 1) = false := decide_eq_false h1
  have dh2 : decide (8 < m.a0) = false := decide_eq_false h2
  have dh3 : decide (m.a1 < 0) = false := decide_eq_false h3
  have dh4 : decide (r.n ≤ m.a1) = true := decide_eq_true h4
  clear h1 h2 h3 h4
  obtain ⟨k0, k1, _⟩ := bx.rep (by omega)
  obtain ⟨c0, c1, c2, c3, c4, c5, c6, c7⟩ := msg_cellsS hmb
  have hen := rEntries_any m.log bo c _ hlA
  clear bx hmb hlA
  go_enter Tryz.func23, Tryz.ntmps23
  go_wp2
  go_ret
  exact ⟨by rw [HR.out]; rfl, hlow⟩
set_option maxRecDepth 100000 in
set_option maxHeartbeats 1000000 in
theorem rmes4 (r : Rep) (s : Sl) (m : Msg) (bo : Option Addr) (c : Nat)  (h1 : ¬ m.a0 < 1) (h2 : ¬ 8 < m.a0) (h3 : ¬ m.a1 < 0) (h4 : ¬ r.n ≤ m.a1) (h5 : m.a1 = r.id)
    (w : World) (hl : LiesE w w.heap.size bo m.log) :
    Calls Tryz.prog 23 #[repV r s, msV m bo c] w fun e w' => e = .returned (.bool (tru (MsgD r m))) ∧ Below w.heap.size w w' := by
  have hlow : Below w.heap.size w ((w.alloc (repO r (.slice s.lo r.log.length s.lc) (.slice s.ao r.acked.length s.ac) (.slice s.vo r.votes.length s.vc) (.slice s.wo r.voters.length s.wc) (.slice s.bo r.best.length s.bc) 25)).alloc (.cells #[.int .i64 m.a0, .int .i64 m.a1, .int .i64 m.a2, .int .i64 m.a3, .int .i64 m.a4, .int .i64 m.a5, .int .i64 m.a6, .slice bo m.log.length c] 27)) := ((Below.refl _ w).alloc (Nat.le_refl _) _).alloc (by simp) _
  have bx := (box_rep w r (.slice s.lo r.log.length s.lc) (.slice s.ao r.acked.length s.ac) (.slice s.vo r.votes.length s.vc) (.slice s.wo r.voters.length s.wc) (.slice s.bo r.best.length s.bc) undef 25 w.heap.size rfl).alloc (.cells #[.int .i64 m.a0, .int .i64 m.a1, .int .i64 m.a2, .int .i64 m.a3, .int .i64 m.a4, .int .i64 m.a5, .int .i64 m.a6, .slice bo m.log.length c] 27)
  have hmb : ((w.alloc (repO r (.slice s.lo r.log.length s.lc) (.slice s.ao r.acked.length s.ac) (.slice s.vo r.votes.length s.vc) (.slice s.wo r.voters.length s.wc) (.slice s.bo r.best.length s.bc) 25)).alloc (.cells #[.int .i64 m.a0, .int .i64 m.a1, .int .i64 m.a2, .int .i64 m.a3, .int .i64 m.a4, .int .i64 m.a5, .int .i64 m.a6, .slice bo m.log.length c] 27)).heap[w.heap.size + 1]? = some (.cells #[.int .i64 m.a0, .int .i64 m.a1, .int .i64 m.a2, .int .i64 m.a3, .int .i64 m.a4, .int .i64 m.a5, .int .i64 m.a6, .slice bo m.log.length c] 27 (0, 0)) := heap_newB _ _ _ (by simp)
  have hlA : LiesE ((w.alloc (repO r (.slice s.lo r.log.length s.lc) (.slice s.ao r.acked.length s.ac) (.slice s.vo r.votes.length s.vc) (.slice s.wo r.voters.length s.wc) (.slice s.bo r.best.length s.bc) 25)).alloc (.cells #[.int .i64 m.a0, .int .i64 m.a1, .int .i64 m.a2, .int .i64 m.a3, .int .i64 m.a4, .int .i64 m.a5, .int .i64 m.a6, .slice bo m.log.length c] 27)) ((w.alloc (repO r (.slice s.lo r.log.length s.lc) (.slice s.ao r.acked.length s.ac) (.slice s.vo r.votes.length s.vc) (.slice s.wo r.voters.length s.wc) (.slice s.bo r.best.length s.bc) 25)).alloc (.cells #[.int .i64 m.a0, .int .i64 m.a1, .int .i64 m.a2, .int .i64 m.a3, .int .i64 m.a4, .int .i64 m.a5, .int .i64 m.a6, .slice bo m.log.length c] 27)).heap.size bo m.log := liesE_next hl hlow hlow.size
  have HR : Hid (tru (MsgD r m) = false) := tru_no (fun q => q.2.2.1 h5)
  have dh1 : decide (m.a0 < 1) = false := decide_eq_false h1
  have dh2 : decide (8 < m.a0) = false := decide_eq_false h2
  have dh3 : decide (m.a1 < 0) = false := decide_eq_false h3
  have dh4 : decide (r.n ≤ m.a1) = false := decide_eq_false h4
  have bh5 : (m.a1 == r.id) = true := by simp [h5]
  have ch5 : (m.a1 != r.id) = false := by simp [h5]
  have dh5 : decide (m.a1 = r.id) = true := decide_eq_true h5
  clear h1 h2 h3 h4 h5
  obtain ⟨k0, k1, _⟩ := bx.rep (by omega)
  obtain ⟨c0, c1, c2, c3, c4, c5, c6, c7⟩ := msg_cellsS hmb
  have hen := rEntries_any m.log bo c _ hlA
  clear bx hmb hlA
  go_enter Tryz.func23, Tryz.ntmps23
  go_wp2
  go_ret
  exact ⟨by rw [HR.out]; rfl, hlow⟩
set_option maxRecDepth 100000 in
set_option maxHeartbeats 1000000 in
theorem rmes5 (r : Rep) (s : Sl) (m : Msg) (bo : Option Addr) (c : Nat)  (h1 : ¬ m.a0 < 1) (h2 : ¬ 8 < m.a0) (h3 : ¬ m.a1 < 0) (h4 : ¬ r.n ≤ m.a1) (h5 : ¬ m.a1 = r.id) (h6 : ¬ m.a2 = r.id)
    (w : World) (hl : LiesE w w.heap.size bo m.log) :
    Calls Tryz.prog 23 #[repV r s, msV m bo c] w fun e w' => e = .returned (.bool (tru (MsgD r m))) ∧ Below w.heap.size w w' := by
  have hlow : Below w.heap.size w ((w.alloc (repO r (.slice s.lo r.log.length s.lc) (.slice s.ao r.acked.length s.ac) (.slice s.vo r.votes.length s.vc) (.slice s.wo r.voters.length s.wc) (.slice s.bo r.best.length s.bc) 25)).alloc (.cells #[.int .i64 m.a0, .int .i64 m.a1, .int .i64 m.a2, .int .i64 m.a3, .int .i64 m.a4, .int .i64 m.a5, .int .i64 m.a6, .slice bo m.log.length c] 27)) := ((Below.refl _ w).alloc (Nat.le_refl _) _).alloc (by simp) _
  have bx := (box_rep w r (.slice s.lo r.log.length s.lc) (.slice s.ao r.acked.length s.ac) (.slice s.vo r.votes.length s.vc) (.slice s.wo r.voters.length s.wc) (.slice s.bo r.best.length s.bc) undef 25 w.heap.size rfl).alloc (.cells #[.int .i64 m.a0, .int .i64 m.a1, .int .i64 m.a2, .int .i64 m.a3, .int .i64 m.a4, .int .i64 m.a5, .int .i64 m.a6, .slice bo m.log.length c] 27)
  have hmb : ((w.alloc (repO r (.slice s.lo r.log.length s.lc) (.slice s.ao r.acked.length s.ac) (.slice s.vo r.votes.length s.vc) (.slice s.wo r.voters.length s.wc) (.slice s.bo r.best.length s.bc) 25)).alloc (.cells #[.int .i64 m.a0, .int .i64 m.a1, .int .i64 m.a2, .int .i64 m.a3, .int .i64 m.a4, .int .i64 m.a5, .int .i64 m.a6, .slice bo m.log.length c] 27)).heap[w.heap.size + 1]? = some (.cells #[.int .i64 m.a0, .int .i64 m.a1, .int .i64 m.a2, .int .i64 m.a3, .int .i64 m.a4, .int .i64 m.a5, .int .i64 m.a6, .slice bo m.log.length c] 27 (0, 0)) := heap_newB _ _ _ (by simp)
  have hlA : LiesE ((w.alloc (repO r (.slice s.lo r.log.length s.lc) (.slice s.ao r.acked.length s.ac) (.slice s.vo r.votes.length s.vc) (.slice s.wo r.voters.length s.wc) (.slice s.bo r.best.length s.bc) 25)).alloc (.cells #[.int .i64 m.a0, .int .i64 m.a1, .int .i64 m.a2, .int .i64 m.a3, .int .i64 m.a4, .int .i64 m.a5, .int .i64 m.a6, .slice bo m.log.length c] 27)) ((w.alloc (repO r (.slice s.lo r.log.length s.lc) (.slice s.ao r.acked.length s.ac) (.slice s.vo r.votes.length s.vc) (.slice s.wo r.voters.length s.wc) (.slice s.bo r.best.length s.bc) 25)).alloc (.cells #[.int .i64 m.a0, .int .i64 m.a1, .int .i64 m.a2, .int .i64 m.a3, .int .i64 m.a4, .int .i64 m.a5, .int .i64 m.a6, .slice bo m.log.length c] 27)).heap.size bo m.log := liesE_next hl hlow hlow.size
  have HR : Hid (tru (MsgD r m) = false) := tru_no (fun q => h6 q.2.2.2.1)
  have dh1 : decide (m.a0 < 1) = false := decide_eq_false h1
  have dh2 : decide (8 < m.a0) = false := decide_eq_false h2
  have dh3 : decide (m.a1 < 0) = false := decide_eq_false h3
  have dh4 : decide (r.n ≤ m.a1) = false := decide_eq_false h4
  have bh5 : (m.a1 == r.id) = false := by simp [h5]
  have ch5 : (m.a1 != r.id) = true := by simp [h5]
  have dh5 : decide (m.a1 = r.id) = false := decide_eq_false h5
  have bh6 : (m.a2 == r.id) = false := by simp [h6]
  have ch6 : (m.a2 != r.id) = true := by simp [h6]
  have dh6 : decide (m.a2 = r.id) = false := decide_eq_false h6
  clear h1 h2 h3 h4 h5 h6
  obtain ⟨k0, k1, _⟩ := bx.rep (by omega)
  obtain ⟨c0, c1, c2, c3, c4, c5, c6, c7⟩ := msg_cellsS hmb
  have hen := rEntries_any m.log bo c _ hlA
  clear bx hmb hlA
  go_enter Tryz.func23, Tryz.ntmps23
  go_wp2
  go_ret
  exact ⟨by rw [HR.out]; rfl, hlow⟩
set_option maxRecDepth 100000 in
set_option maxHeartbeats 1000000 in
theorem rmesta3 (r : Rep) (s : Sl) (m : Msg) (bo : Option Addr) (c : Nat)  (h1 : ¬ m.a0 < 1) (h2 : ¬ 8 < m.a0) (h3 : ¬ m.a1 < 0) (h4 : ¬ r.n ≤ m.a1) (h5 : ¬ m.a1 = r.id) (h6 : m.a2 = r.id) (ta3 : ¬ (0 ≤ m.a3 ∧ m.a3 < 1099511627776))
    (w : World) (hl : LiesE w w.heap.size bo m.log) :
    Calls Tryz.prog 23 #[repV r s, msV m bo c] w fun e w' => e = .returned (.bool (tru (MsgD r m))) ∧ Below w.heap.size w w' := by
  have hlow : Below w.heap.size w ((w.alloc (repO r (.slice s.lo r.log.length s.lc) (.slice s.ao r.acked.length s.ac) (.slice s.vo r.votes.length s.vc) (.slice s.wo r.voters.length s.wc) (.slice s.bo r.best.length s.bc) 25)).alloc (.cells #[.int .i64 m.a0, .int .i64 m.a1, .int .i64 m.a2, .int .i64 m.a3, .int .i64 m.a4, .int .i64 m.a5, .int .i64 m.a6, .slice bo m.log.length c] 27)) := ((Below.refl _ w).alloc (Nat.le_refl _) _).alloc (by simp) _
  have bx := (box_rep w r (.slice s.lo r.log.length s.lc) (.slice s.ao r.acked.length s.ac) (.slice s.vo r.votes.length s.vc) (.slice s.wo r.voters.length s.wc) (.slice s.bo r.best.length s.bc) undef 25 w.heap.size rfl).alloc (.cells #[.int .i64 m.a0, .int .i64 m.a1, .int .i64 m.a2, .int .i64 m.a3, .int .i64 m.a4, .int .i64 m.a5, .int .i64 m.a6, .slice bo m.log.length c] 27)
  have hmb : ((w.alloc (repO r (.slice s.lo r.log.length s.lc) (.slice s.ao r.acked.length s.ac) (.slice s.vo r.votes.length s.vc) (.slice s.wo r.voters.length s.wc) (.slice s.bo r.best.length s.bc) 25)).alloc (.cells #[.int .i64 m.a0, .int .i64 m.a1, .int .i64 m.a2, .int .i64 m.a3, .int .i64 m.a4, .int .i64 m.a5, .int .i64 m.a6, .slice bo m.log.length c] 27)).heap[w.heap.size + 1]? = some (.cells #[.int .i64 m.a0, .int .i64 m.a1, .int .i64 m.a2, .int .i64 m.a3, .int .i64 m.a4, .int .i64 m.a5, .int .i64 m.a6, .slice bo m.log.length c] 27 (0, 0)) := heap_newB _ _ _ (by simp)
  have hlA : LiesE ((w.alloc (repO r (.slice s.lo r.log.length s.lc) (.slice s.ao r.acked.length s.ac) (.slice s.vo r.votes.length s.vc) (.slice s.wo r.voters.length s.wc) (.slice s.bo r.best.length s.bc) 25)).alloc (.cells #[.int .i64 m.a0, .int .i64 m.a1, .int .i64 m.a2, .int .i64 m.a3, .int .i64 m.a4, .int .i64 m.a5, .int .i64 m.a6, .slice bo m.log.length c] 27)) ((w.alloc (repO r (.slice s.lo r.log.length s.lc) (.slice s.ao r.acked.length s.ac) (.slice s.vo r.votes.length s.vc) (.slice s.wo r.voters.length s.wc) (.slice s.bo r.best.length s.bc) 25)).alloc (.cells #[.int .i64 m.a0, .int .i64 m.a1, .int .i64 m.a2, .int .i64 m.a3, .int .i64 m.a4, .int .i64 m.a5, .int .i64 m.a6, .slice bo m.log.length c] 27)).heap.size bo m.log := liesE_next hl hlow hlow.size
  have HR : Hid (tru (MsgD r m) = false) := tru_no (fun q => ta3 q.2.2.2.2.1)
  have dh1 : decide (m.a0 < 1) = false := decide_eq_false h1
  have dh2 : decide (8 < m.a0) = false := decide_eq_false h2
  have dh3 : decide (m.a1 < 0) = false := decide_eq_false h3
  have dh4 : decide (r.n ≤ m.a1) = false := decide_eq_false h4
  have bh5 : (m.a1 == r.id) = false := by simp [h5]
  have ch5 : (m.a1 != r.id) = true := by simp [h5]
  have dh5 : decide (m.a1 = r.id) = false := decide_eq_false h5
  have bh6 : (m.a2 == r.id) = true := by simp [h6]
  have ch6 : (m.a2 != r.id) = false := by simp [h6]
  have dh6 : decide (m.a2 = r.id) = true := decide_eq_true h6
  have qa3 := timeB_no ta3
  clear h1 h2 h3 h4 h5 h6 ta3
  obtain ⟨k0, k1, _⟩ := bx.rep (by omega)
  obtain ⟨c0, c1, c2, c3, c4, c5, c6, c7⟩ := msg_cellsS hmb
  have hen := rEntries_any m.log bo c _ hlA
  clear bx hmb hlA
  go_enter Tryz.func23, Tryz.ntmps23
  go_wp2_with (first
    | (go_at_call 34; refine (rtimeB_any _ _).mono ?_; rintro e wn ⟨rfl, hq⟩; have hq' := hq.symm; clear hq; subst hq'))
  go_ret
  exact ⟨by rw [HR.out]; rfl, hlow⟩
set_option maxRecDepth 100000 in
set_option maxHeartbeats 1000000 in
theorem rmesta4 (r : Rep) (s : Sl) (m : Msg) (bo : Option Addr) (c : Nat)  (h1 : ¬ m.a0 < 1) (h2 : ¬ 8 < m.a0) (h3 : ¬ m.a1 < 0) (h4 : ¬ r.n ≤ m.a1) (h5 : ¬ m.a1 = r.id) (h6 : m.a2 = r.id) (ta3 : (0 ≤ m.a3 ∧ m.a3 < 1099511627776)) (ta4 : ¬ (0 ≤ m.a4 ∧ m.a4 < 1099511627776))
    (w : World) (hl : LiesE w w.heap.size bo m.log) :
    Calls Tryz.prog 23 #[repV r s, msV m bo c] w fun e w' => e = .returned (.bool (tru (MsgD r m))) ∧ Below w.heap.size w w' := by
  have hlow : Below w.heap.size w ((w.alloc (repO r (.slice s.lo r.log.length s.lc) (.slice s.ao r.acked.length s.ac) (.slice s.vo r.votes.length s.vc) (.slice s.wo r.voters.length s.wc) (.slice s.bo r.best.length s.bc) 25)).alloc (.cells #[.int .i64 m.a0, .int .i64 m.a1, .int .i64 m.a2, .int .i64 m.a3, .int .i64 m.a4, .int .i64 m.a5, .int .i64 m.a6, .slice bo m.log.length c] 27)) := ((Below.refl _ w).alloc (Nat.le_refl _) _).alloc (by simp) _
  have bx := (box_rep w r (.slice s.lo r.log.length s.lc) (.slice s.ao r.acked.length s.ac) (.slice s.vo r.votes.length s.vc) (.slice s.wo r.voters.length s.wc) (.slice s.bo r.best.length s.bc) undef 25 w.heap.size rfl).alloc (.cells #[.int .i64 m.a0, .int .i64 m.a1, .int .i64 m.a2, .int .i64 m.a3, .int .i64 m.a4, .int .i64 m.a5, .int .i64 m.a6, .slice bo m.log.length c] 27)
  have hmb : ((w.alloc (repO r (.slice s.lo r.log.length s.lc) (.slice s.ao r.acked.length s.ac) (.slice s.vo r.votes.length s.vc) (.slice s.wo r.voters.length s.wc) (.slice s.bo r.best.length s.bc) 25)).alloc (.cells #[.int .i64 m.a0, .int .i64 m.a1, .int .i64 m.a2, .int .i64 m.a3, .int .i64 m.a4, .int .i64 m.a5, .int .i64 m.a6, .slice bo m.log.length c] 27)).heap[w.heap.size + 1]? = some (.cells #[.int .i64 m.a0, .int .i64 m.a1, .int .i64 m.a2, .int .i64 m.a3, .int .i64 m.a4, .int .i64 m.a5, .int .i64 m.a6, .slice bo m.log.length c] 27 (0, 0)) := heap_newB _ _ _ (by simp)
  have hlA : LiesE ((w.alloc (repO r (.slice s.lo r.log.length s.lc) (.slice s.ao r.acked.length s.ac) (.slice s.vo r.votes.length s.vc) (.slice s.wo r.voters.length s.wc) (.slice s.bo r.best.length s.bc) 25)).alloc (.cells #[.int .i64 m.a0, .int .i64 m.a1, .int .i64 m.a2, .int .i64 m.a3, .int .i64 m.a4, .int .i64 m.a5, .int .i64 m.a6, .slice bo m.log.length c] 27)) ((w.alloc (repO r (.slice s.lo r.log.length s.lc) (.slice s.ao r.acked.length s.ac) (.slice s.vo r.votes.length s.vc) (.slice s.wo r.voters.length s.wc) (.slice s.bo r.best.length s.bc) 25)).alloc (.cells #[.int .i64 m.a0, .int .i64 m.a1, .int .i64 m.a2, .int .i64 m.a3, .int .i64 m.a4, .int .i64 m.a5, .int .i64 m.a6, .slice bo m.log.length c] 27)).heap.size bo m.log := liesE_next hl hlow hlow.size
  have HR : Hid (tru (MsgD r m) = false) := tru_no (fun q => ta4 q.2.2.2.2.2.1)
  have dh1 : decide (m.a0 < 1) = false := decide_eq_false h1
  have dh2 : decide (8 < m.a0) = false := decide_eq_false h2
  have dh3 : decide (m.a1 < 0) = false := decide_eq_false h3
  have dh4 : decide (r.n ≤ m.a1) = false := decide_eq_false h4
  have bh5 : (m.a1 == r.id) = false := by simp [h5]
  have ch5 : (m.a1 != r.id) = true := by simp [h5]
  have dh5 : decide (m.a1 = r.id) = false := decide_eq_false h5
  have bh6 : (m.a2 == r.id) = true := by simp [h6]
  have ch6 : (m.a2 != r.id) = false := by simp [h6]
  have dh6 : decide (m.a2 = r.id) = true := decide_eq_true h6
  have qa3 := timeB_yes ta3
  have qa4 := timeB_no ta4
  clear h1 h2 h3 h4 h5 h6 ta3 ta4
  obtain ⟨k0, k1, _⟩ := bx.rep (by omega)
  obtain ⟨c0, c1, c2, c3, c4, c5, c6, c7⟩ := msg_cellsS hmb
  have hen := rEntries_any m.log bo c _ hlA
  clear bx hmb hlA
  go_enter Tryz.func23, Tryz.ntmps23
  go_wp2_with (first
    | (go_at_call 34; refine (rtimeB_any _ _).mono ?_; rintro e wn ⟨rfl, hq⟩; have hq' := hq.symm; clear hq; subst hq'))
  go_ret
  exact ⟨by rw [HR.out]; rfl, hlow⟩
set_option maxRecDepth 100000 in
set_option maxHeartbeats 1000000 in
theorem rmesta5 (r : Rep) (s : Sl) (m : Msg) (bo : Option Addr) (c : Nat)  (h1 : ¬ m.a0 < 1) (h2 : ¬ 8 < m.a0) (h3 : ¬ m.a1 < 0) (h4 : ¬ r.n ≤ m.a1) (h5 : ¬ m.a1 = r.id) (h6 : m.a2 = r.id) (ta3 : (0 ≤ m.a3 ∧ m.a3 < 1099511627776)) (ta4 : (0 ≤ m.a4 ∧ m.a4 < 1099511627776)) (ta5 : ¬ (0 ≤ m.a5 ∧ m.a5 < 1099511627776))
    (w : World) (hl : LiesE w w.heap.size bo m.log) :
    Calls Tryz.prog 23 #[repV r s, msV m bo c] w fun e w' => e = .returned (.bool (tru (MsgD r m))) ∧ Below w.heap.size w w' := by
  have hlow : Below w.heap.size w ((w.alloc (repO r (.slice s.lo r.log.length s.lc) (.slice s.ao r.acked.length s.ac) (.slice s.vo r.votes.length s.vc) (.slice s.wo r.voters.length s.wc) (.slice s.bo r.best.length s.bc) 25)).alloc (.cells #[.int .i64 m.a0, .int .i64 m.a1, .int .i64 m.a2, .int .i64 m.a3, .int .i64 m.a4, .int .i64 m.a5, .int .i64 m.a6, .slice bo m.log.length c] 27)) := ((Below.refl _ w).alloc (Nat.le_refl _) _).alloc (by simp) _
  have bx := (box_rep w r (.slice s.lo r.log.length s.lc) (.slice s.ao r.acked.length s.ac) (.slice s.vo r.votes.length s.vc) (.slice s.wo r.voters.length s.wc) (.slice s.bo r.best.length s.bc) undef 25 w.heap.size rfl).alloc (.cells #[.int .i64 m.a0, .int .i64 m.a1, .int .i64 m.a2, .int .i64 m.a3, .int .i64 m.a4, .int .i64 m.a5, .int .i64 m.a6, .slice bo m.log.length c] 27)
  have hmb : ((w.alloc (repO r (.slice s.lo r.log.length s.lc) (.slice s.ao r.acked.length s.ac) (.slice s.vo r.votes.length s.vc) (.slice s.wo r.voters.length s.wc) (.slice s.bo r.best.length s.bc) 25)).alloc (.cells #[.int .i64 m.a0, .int .i64 m.a1, .int .i64 m.a2, .int .i64 m.a3, .int .i64 m.a4, .int .i64 m.a5, .int .i64 m.a6, .slice bo m.log.length c] 27)).heap[w.heap.size + 1]? = some (.cells #[.int .i64 m.a0, .int .i64 m.a1, .int .i64 m.a2, .int .i64 m.a3, .int .i64 m.a4, .int .i64 m.a5, .int .i64 m.a6, .slice bo m.log.length c] 27 (0, 0)) := heap_newB _ _ _ (by simp)
  have hlA : LiesE ((w.alloc (repO r (.slice s.lo r.log.length s.lc) (.slice s.ao r.acked.length s.ac) (.slice s.vo r.votes.length s.vc) (.slice s.wo r.voters.length s.wc) (.slice s.bo r.best.length s.bc) 25)).alloc (.cells #[.int .i64 m.a0, .int .i64 m.a1, .int .i64 m.a2, .int .i64 m.a3, .int .i64 m.a4, .int .i64 m.a5, .int .i64 m.a6, .slice bo m.log.length c] 27)) ((w.alloc (repO r (.slice s.lo r.log.length s.lc) (.slice s.ao r.acked.length s.ac) (.slice s.vo r.votes.length s.vc) (.slice s.wo r.voters.length s.wc) (.slice s.bo r.best.length s.bc) 25)).alloc (.cells #[.int .i64 m.a0, .int .i64 m.a1, .int .i64 m.a2, .int .i64 m.a3, .int .i64 m.a4, .int .i64 m.a5, .int .i64 m.a6, .slice bo m.log.length c] 27)).heap.size bo m.log := liesE_next hl hlow hlow.size
  have HR : Hid (tru (MsgD r m) = false) := tru_no (fun q => ta5 q.2.2.2.2.2.2.1)
  have dh1 : decide (m.a0 < 1) = false := decide_eq_false h1
  have dh2 : decide (8 < m.a0) = false := decide_eq_false h2
  have dh3 : decide (m.a1 < 0) = false := decide_eq_false h3
  have dh4 : decide (r.n ≤ m.a1) = false := decide_eq_false h4
  have bh5 : (m.a1 == r.id) = false := by simp [h5]
  have ch5 : (m.a1 != r.id) = true := by simp [h5]
  have dh5 : decide (m.a1 = r.id) = false := decide_eq_false h5
  have bh6 : (m.a2 == r.id) = true := by simp [h6]
  have ch6 : (m.a2 != r.id) = false := by simp [h6]
  have dh6 : decide (m.a2 = r.id) = true := decide_eq_true h6
  have qa3 := timeB_yes ta3
  have qa4 := timeB_yes ta4
  have qa5 := timeB_no ta5
  clear h1 h2 h3 h4 h5 h6 ta3 ta4 ta5
  obtain ⟨k0, k1, _⟩ := bx.rep (by omega)
  obtain ⟨c0, c1, c2, c3, c4, c5, c6, c7⟩ := msg_cellsS hmb
  have hen := rEntries_any m.log bo c _ hlA
  clear bx hmb hlA
  go_enter Tryz.func23, Tryz.ntmps23
  go_wp2_with (first
    | (go_at_call 34; refine (rtimeB_any _ _).mono ?_; rintro e wn ⟨rfl, hq⟩; have hq' := hq.symm; clear hq; subst hq'))
  go_ret
  exact ⟨by rw [HR.out]; rfl, hlow⟩
set_option maxRecDepth 100000 in
set_option maxHeartbeats 1000000 in
theorem rmesta6 (r : Rep) (s : Sl) (m : Msg) (bo : Option Addr) (c : Nat)  (h1 : ¬ m.a0 < 1) (h2 : ¬ 8 < m.a0) (h3 : ¬ m.a1 < 0) (h4 : ¬ r.n ≤ m.a1) (h5 : ¬ m.a1 = r.id) (h6 : m.a2 = r.id) (ta3 : (0 ≤ m.a3 ∧ m.a3 < 1099511627776)) (ta4 : (0 ≤ m.a4 ∧ m.a4 < 1099511627776)) (ta5 : (0 ≤ m.a5 ∧ m.a5 < 1099511627776)) (ta6 : ¬ (0 ≤ m.a6 ∧ m.a6 < 1099511627776))
    (w : World) (hl : LiesE w w.heap.size bo m.log) :
    Calls Tryz.prog 23 #[repV r s, msV m bo c] w fun e w' => e = .returned (.bool (tru (MsgD r m))) ∧ Below w.heap.size w w' := by
  have hlow : Below w.heap.size w ((w.alloc (repO r (.slice s.lo r.log.length s.lc) (.slice s.ao r.acked.length s.ac) (.slice s.vo r.votes.length s.vc) (.slice s.wo r.voters.length s.wc) (.slice s.bo r.best.length s.bc) 25)).alloc (.cells #[.int .i64 m.a0, .int .i64 m.a1, .int .i64 m.a2, .int .i64 m.a3, .int .i64 m.a4, .int .i64 m.a5, .int .i64 m.a6, .slice bo m.log.length c] 27)) := ((Below.refl _ w).alloc (Nat.le_refl _) _).alloc (by simp) _
  have bx := (box_rep w r (.slice s.lo r.log.length s.lc) (.slice s.ao r.acked.length s.ac) (.slice s.vo r.votes.length s.vc) (.slice s.wo r.voters.length s.wc) (.slice s.bo r.best.length s.bc) undef 25 w.heap.size rfl).alloc (.cells #[.int .i64 m.a0, .int .i64 m.a1, .int .i64 m.a2, .int .i64 m.a3, .int .i64 m.a4, .int .i64 m.a5, .int .i64 m.a6, .slice bo m.log.length c] 27)
  have hmb : ((w.alloc (repO r (.slice s.lo r.log.length s.lc) (.slice s.ao r.acked.length s.ac) (.slice s.vo r.votes.length s.vc) (.slice s.wo r.voters.length s.wc) (.slice s.bo r.best.length s.bc) 25)).alloc (.cells #[.int .i64 m.a0, .int .i64 m.a1, .int .i64 m.a2, .int .i64 m.a3, .int .i64 m.a4, .int .i64 m.a5, .int .i64 m.a6, .slice bo m.log.length c] 27)).heap[w.heap.size + 1]? = some (.cells #[.int .i64 m.a0, .int .i64 m.a1, .int .i64 m.a2, .int .i64 m.a3, .int .i64 m.a4, .int .i64 m.a5, .int .i64 m.a6, .slice bo m.log.length c] 27 (0, 0)) := heap_newB _ _ _ (by simp)
  have hlA : LiesE ((w.alloc (repO r (.slice s.lo r.log.length s.lc) (.slice s.ao r.acked.length s.ac) (.slice s.vo r.votes.length s.vc) (.slice s.wo r.voters.length s.wc) (.slice s.bo r.best.length s.bc) 25)).alloc (.cells #[.int .i64 m.a0, .int .i64 m.a1, .int .i64 m.a2, .int .i64 m.a3, .int .i64 m.a4, .int .i64 m.a5, .int .i64 m.a6, .slice bo m.log.length c] 27)) ((w.alloc (repO r (.slice s.lo r.log.length s.lc) (.slice s.ao r.acked.length s.ac) (.slice s.vo r.votes.length s.vc) (.slice s.wo r.voters.length s.wc) (.slice s.bo r.best.length s.bc) 25)).alloc (.cells #[.int .i64 m.a0, .int .i64 m.a1, .int .i64 m.a2, .int .i64 m.a3, .int .i64 m.a4, .int .i64 m.a5, .int .i64 m.a6, .slice bo m.log.length c] 27)).heap.size bo m.log := liesE_next hl hlow hlow.size
  have HR : Hid (tru (MsgD r m) = false) := tru_no (fun q => ta6 q.2.2.2.2.2.2.2.1)
  have dh1 : decide (m.a0 < 1) = false := decide_eq_false h1
  have dh2 : decide (8 < m.a0) = false := decide_eq_false h2
  have dh3 : decide (m.a1 < 0) = false := decide_eq_false h3
  have dh4 : decide (r.n ≤ m.a1) = false := decide_eq_false h4
  have bh5 : (m.a1 == r.id) = false := by simp [h5]
  have ch5 : (m.a1 != r.id) = true := by simp [h5]
  have dh5 : decide (m.a1 = r.id) = false := decide_eq_false h5
  have bh6 : (m.a2 == r.id) = true := by simp [h6]
  have ch6 : (m.a2 != r.id) = false := by simp [h6]
  have dh6 : decide (m.a2 = r.id) = true := decide_eq_true h6
  have qa3 := timeB_yes ta3
  have qa4 := timeB_yes ta4
  have qa5 := timeB_yes ta5
  have qa6 := timeB_no ta6
  clear h1 h2 h3 h4 h5 h6 ta3 ta4 ta5 ta6
  obtain ⟨k0, k1, _⟩ := bx.rep (by omega)
  obtain ⟨c0, c1, c2, c3, c4, c5, c6, c7⟩ := msg_cellsS hmb
  have hen := rEntries_any m.log bo c _ hlA
  clear bx hmb hlA
  go_enter Tryz.func23, Tryz.ntmps23
  go_wp2_with (first
    | (go_at_call 34; refine (rtimeB_any _ _).mono ?_; rintro e wn ⟨rfl, hq⟩; have hq' := hq.symm; clear hq; subst hq'))
  go_ret
  exact ⟨by rw [HR.out]; rfl, hlow⟩
set_option maxRecDepth 100000 in
set_option maxHeartbeats 1000000 in
theorem rmesl (r : Rep) (s : Sl) (m : Msg) (bo : Option Addr) (c : Nat)  (h1 : ¬ m.a0 < 1) (h2 : ¬ 8 < m.a0) (h3 : ¬ m.a1 < 0) (h4 : ¬ r.n ≤ m.a1) (h5 : ¬ m.a1 = r.id) (h6 : m.a2 = r.id) (ta3 : (0 ≤ m.a3 ∧ m.a3 < 1099511627776)) (ta4 : (0 ≤ m.a4 ∧ m.a4 < 1099511627776)) (ta5 : (0 ≤ m.a5 ∧ m.a5 < 1099511627776)) (ta6 : (0 ≤ m.a6 ∧ m.a6 < 1099511627776)) (hL : ¬ LogOk m.log)
    (w : World) (hl : LiesE w w.heap.size bo m.log) :
    Calls Tryz.prog 23 #[repV r s, msV m bo c] w fun e w' => e = .returned (.bool (tru (MsgD r m))) ∧ Below w.heap.size w w' := by
  have hlow : Below w.heap.size w ((w.alloc (repO r (.slice s.lo r.log.length s.lc) (.slice s.ao r.acked.length s.ac) (.slice s.vo r.votes.length s.vc) (.slice s.wo r.voters.length s.wc) (.slice s.bo r.best.length s.bc) 25)).alloc (.cells #[.int .i64 m.a0, .int .i64 m.a1, .int .i64 m.a2, .int .i64 m.a3, .int .i64 m.a4, .int .i64 m.a5, .int .i64 m.a6, .slice bo m.log.length c] 27)) := ((Below.refl _ w).alloc (Nat.le_refl _) _).alloc (by simp) _
  have bx := (box_rep w r (.slice s.lo r.log.length s.lc) (.slice s.ao r.acked.length s.ac) (.slice s.vo r.votes.length s.vc) (.slice s.wo r.voters.length s.wc) (.slice s.bo r.best.length s.bc) undef 25 w.heap.size rfl).alloc (.cells #[.int .i64 m.a0, .int .i64 m.a1, .int .i64 m.a2, .int .i64 m.a3, .int .i64 m.a4, .int .i64 m.a5, .int .i64 m.a6, .slice bo m.log.length c] 27)
  have hmb : ((w.alloc (repO r (.slice s.lo r.log.length s.lc) (.slice s.ao r.acked.length s.ac) (.slice s.vo r.votes.length s.vc) (.slice s.wo r.voters.length s.wc) (.slice s.bo r.best.length s.bc) 25)).alloc (.cells #[.int .i64 m.a0, .int .i64 m.a1, .int .i64 m.a2, .int .i64 m.a3, .int .i64 m.a4, .int .i64 m.a5, .int .i64 m.a6, .slice bo m.log.length c] 27)).heap[w.heap.size + 1]? = some (.cells #[.int .i64 m.a0, .int .i64 m.a1, .int .i64 m.a2, .int .i64 m.a3, .int .i64 m.a4, .int .i64 m.a5, .int .i64 m.a6, .slice bo m.log.length c] 27 (0, 0)) := heap_newB _ _ _ (by simp)
  have hlA : LiesE ((w.alloc (repO r (.slice s.lo r.log.length s.lc) (.slice s.ao r.acked.length s.ac) (.slice s.vo r.votes.length s.vc) (.slice s.wo r.voters.length s.wc) (.slice s.bo r.best.length s.bc) 25)).alloc (.cells #[.int .i64 m.a0, .int .i64 m.a1, .int .i64 m.a2, .int .i64 m.a3, .int .i64 m.a4, .int .i64 m.a5, .int .i64 m.a6, .slice bo m.log.length c] 27)) ((w.alloc (repO r (.slice s.lo r.log.length s.lc) (.slice s.ao r.acked.length s.ac) (.slice s.vo r.votes.length s.vc) (.slice s.wo r.voters.length s.wc) (.slice s.bo r.best.length s.bc) 25)).alloc (.cells #[.int .i64 m.a0, .int .i64 m.a1, .int .i64 m.a2, .int .i64 m.a3, .int .i64 m.a4, .int .i64 m.a5, .int .i64 m.a6, .slice bo m.log.length c] 27)).heap.size bo m.log := liesE_next hl hlow hlow.size
  have HR : Hid (tru (MsgD r m) = false) := tru_no (fun q => hL q.2.2.2.2.2.2.2.2.1)
  have dh1 : decide (m.a0 < 1) = false := decide_eq_false h1
  have dh2 : decide (8 < m.a0) = false := decide_eq_false h2
  have dh3 : decide (m.a1 < 0) = false := decide_eq_false h3
  have dh4 : decide (r.n ≤ m.a1) = false := decide_eq_false h4
  have bh5 : (m.a1 == r.id) = false := by simp [h5]
  have ch5 : (m.a1 != r.id) = true := by simp [h5]
  have dh5 : decide (m.a1 = r.id) = false := decide_eq_false h5
  have bh6 : (m.a2 == r.id) = true := by simp [h6]
  have ch6 : (m.a2 != r.id) = false := by simp [h6]
  have dh6 : decide (m.a2 = r.id) = true := decide_eq_true h6
  have qa3 := timeB_yes ta3
  have qa4 := timeB_yes ta4
  have qa5 := timeB_yes ta5
  have qa6 := timeB_yes ta6
  clear h1 h2 h3 h4 h5 h6 ta3 ta4 ta5 ta6
  obtain ⟨k0, k1, _⟩ := bx.rep (by omega)
  obtain ⟨c0, c1, c2, c3, c4, c5, c6, c7⟩ := msg_cellsS hmb
  have hen := rEntries_any m.log bo c _ hlA
  rw [tru_no hL] at hen
  clear bx hmb hlA
  go_enter Tryz.func23, Tryz.ntmps23
  go_wp2_with (first
    | (go_at_call 34; refine (rtimeB_any _ _).mono ?_; rintro e wn ⟨rfl, hq⟩; have hq' := hq.symm; clear hq; subst hq')

    | (go_at_call 35; refine hen.mono ?_; rintro e wn ⟨rfl, hq⟩; have hq' := hq.symm; clear hq; subst hq'))
  go_ret
  exact ⟨by rw [HR.out]; rfl, hlow⟩
set_option maxRecDepth 100000 in
set_option maxHeartbeats 1000000 in
theorem rmesk (r : Rep) (s : Sl) (m : Msg) (bo : Option Addr) (c : Nat)  (h1 : ¬ m.a0 < 1) (h2 : ¬ 8 < m.a0) (h3 : ¬ m.a1 < 0) (h4 : ¬ r.n ≤ m.a1) (h5 : ¬ m.a1 = r.id) (h6 : m.a2 = r.id) (ta3 : (0 ≤ m.a3 ∧ m.a3 < 1099511627776)) (ta4 : (0 ≤ m.a4 ∧ m.a4 < 1099511627776)) (ta5 : (0 ≤ m.a5 ∧ m.a5 < 1099511627776)) (ta6 : (0 ≤ m.a6 ∧ m.a6 < 1099511627776)) (hL : LogOk m.log) (hk : ¬ m.a0 = 1)
    (w : World) (hl : LiesE w w.heap.size bo m.log) :
    Calls Tryz.prog 23 #[repV r s, msV m bo c] w fun e w' => e = .returned (.bool (tru (MsgD r m))) ∧ Below w.heap.size w w' := by
  have hlow : Below w.heap.size w ((w.alloc (repO r (.slice s.lo r.log.length s.lc) (.slice s.ao r.acked.length s.ac) (.slice s.vo r.votes.length s.vc) (.slice s.wo r.voters.length s.wc) (.slice s.bo r.best.length s.bc) 25)).alloc (.cells #[.int .i64 m.a0, .int .i64 m.a1, .int .i64 m.a2, .int .i64 m.a3, .int .i64 m.a4, .int .i64 m.a5, .int .i64 m.a6, .slice bo m.log.length c] 27)) := ((Below.refl _ w).alloc (Nat.le_refl _) _).alloc (by simp) _
  have bx := (box_rep w r (.slice s.lo r.log.length s.lc) (.slice s.ao r.acked.length s.ac) (.slice s.vo r.votes.length s.vc) (.slice s.wo r.voters.length s.wc) (.slice s.bo r.best.length s.bc) undef 25 w.heap.size rfl).alloc (.cells #[.int .i64 m.a0, .int .i64 m.a1, .int .i64 m.a2, .int .i64 m.a3, .int .i64 m.a4, .int .i64 m.a5, .int .i64 m.a6, .slice bo m.log.length c] 27)
  have hmb : ((w.alloc (repO r (.slice s.lo r.log.length s.lc) (.slice s.ao r.acked.length s.ac) (.slice s.vo r.votes.length s.vc) (.slice s.wo r.voters.length s.wc) (.slice s.bo r.best.length s.bc) 25)).alloc (.cells #[.int .i64 m.a0, .int .i64 m.a1, .int .i64 m.a2, .int .i64 m.a3, .int .i64 m.a4, .int .i64 m.a5, .int .i64 m.a6, .slice bo m.log.length c] 27)).heap[w.heap.size + 1]? = some (.cells #[.int .i64 m.a0, .int .i64 m.a1, .int .i64 m.a2, .int .i64 m.a3, .int .i64 m.a4, .int .i64 m.a5, .int .i64 m.a6, .slice bo m.log.length c] 27 (0, 0)) := heap_newB _ _ _ (by simp)
  have hlA : LiesE ((w.alloc (repO r (.slice s.lo r.log.length s.lc) (.slice s.ao r.acked.length s.ac) (.slice s.vo r.votes.length s.vc) (.slice s.wo r.voters.length s.wc) (.slice s.bo r.best.length s.bc) 25)).alloc (.cells #[.int .i64 m.a0, .int .i64 m.a1, .int .i64 m.a2, .int .i64 m.a3, .int .i64 m.a4, .int .i64 m.a5, .int .i64 m.a6, .slice bo m.log.length c] 27)) ((w.alloc (repO r (.slice s.lo r.log.length s.lc) (.slice s.ao r.acked.length s.ac) (.slice s.vo r.votes.length s.vc) (.slice s.wo r.voters.length s.wc) (.slice s.bo r.best.length s.bc) 25)).alloc (.cells #[.int .i64 m.a0, .int .i64 m.a1, .int .i64 m.a2, .int .i64 m.a3, .int .i64 m.a4, .int .i64 m.a5, .int .i64 m.a6, .slice bo m.log.length c] 27)).heap.size bo m.log := liesE_next hl hlow hlow.size
  have HR : Hid (tru (MsgD r m) = true) := tru_yes ⟨⟨by omega, by omega⟩, ⟨by omega, by omega⟩, h5, h6, ta3, ta4, ta5, ta6, hL, .inl hk⟩
  have dh1 : decide (m.a0 < 1) = false := decide_eq_false h1
  have dh2 : decide (8 < m.a0) = false := decide_eq_false h2
  have dh3 : decide (m.a1 < 0) = false := decide_eq_false h3
  have dh4 : decide (r.n ≤ m.a1) = false := decide_eq_false h4
  have bh5 : (m.a1 == r.id) = false := by simp [h5]
  have ch5 : (m.a1 != r.id) = true := by simp [h5]
  have dh5 : decide (m.a1 = r.id) = false := decide_eq_false h5
  have bh6 : (m.a2 == r.id) = true := by simp [h6]
  have ch6 : (m.a2 != r.id) = false := by simp [h6]
  have dh6 : decide (m.a2 = r.id) = true := decide_eq_true h6
  have qa3 := timeB_yes ta3
  have qa4 := timeB_yes ta4
  have qa5 := timeB_yes ta5
  have qa6 := timeB_yes ta6
  have dk : decide (m.a0 = 1) = false := decide_eq_false hk
  have dk2 : (m.a0 != 1) = true := by simp [hk]
  clear h1 h2 h3 h4 h5 h6 ta3 ta4 ta5 ta6 hk
  obtain ⟨k0, k1, _⟩ := bx.rep (by omega)
  obtain ⟨c0, c1, c2, c3, c4, c5, c6, c7⟩ := msg_cellsS hmb
  have hen := rEntries_any m.log bo c _ hlA
  rw [tru_yes hL] at hen
  clear bx hmb hlA
  go_enter Tryz.func23, Tryz.ntmps23
  go_wp2_with (first
    | (go_at_call 34; refine (rtimeB_any _ _).mono ?_; rintro e wn ⟨rfl, hq⟩; have hq' := hq.symm; clear hq; subst hq')

    | (go_at_call 35; refine hen.mono ?_; rintro e wn ⟨rfl, hq⟩; have hq' := hq.symm; clear hq; subst hq'))
  go_ret
  exact ⟨by rw [HR.out]; rfl, hlow⟩
set_option maxRecDepth 100000 in
set_option maxHeartbeats 1000000 in
theorem rmesy (r : Rep) (s : Sl) (m : Msg) (bo : Option Addr) (c : Nat)  (h1 : ¬ m.a0 < 1) (h2 : ¬ 8 < m.a0) (h3 : ¬ m.a1 < 0) (h4 : ¬ r.n ≤ m.a1) (h5 : ¬ m.a1 = r.id) (h6 : m.a2 = r.id) (ta3 : (0 ≤ m.a3 ∧ m.a3 < 1099511627776)) (ta4 : (0 ≤ m.a4 ∧ m.a4 < 1099511627776)) (ta5 : (0 ≤ m.a5 ∧ m.a5 < 1099511627776)) (ta6 : (0 ≤ m.a6 ∧ m.a6 < 1099511627776)) (hL : LogOk m.log) (hk : m.a0 = 1) (hn : m.log.length = 1)
    (w : World) (hl : LiesE w w.heap.size bo m.log) :
    Calls Tryz.prog 23 #[repV r s, msV m bo c] w fun e w' => e = .returned (.bool (tru (MsgD r m))) ∧ Below w.heap.size w w' := by
  have hlow : Below w.heap.size w ((w.alloc (repO r (.slice s.lo r.log.length s.lc) (.slice s.ao r.acked.length s.ac) (.slice s.vo r.votes.length s.vc) (.slice s.wo r.voters.length s.wc) (.slice s.bo r.best.length s.bc) 25)).alloc (.cells #[.int .i64 m.a0, .int .i64 m.a1, .int .i64 m.a2, .int .i64 m.a3, .int .i64 m.a4, .int .i64 m.a5, .int .i64 m.a6, .slice bo m.log.length c] 27)) := ((Below.refl _ w).alloc (Nat.le_refl _) _).alloc (by simp) _
  have bx := (box_rep w r (.slice s.lo r.log.length s.lc) (.slice s.ao r.acked.length s.ac) (.slice s.vo r.votes.length s.vc) (.slice s.wo r.voters.length s.wc) (.slice s.bo r.best.length s.bc) undef 25 w.heap.size rfl).alloc (.cells #[.int .i64 m.a0, .int .i64 m.a1, .int .i64 m.a2, .int .i64 m.a3, .int .i64 m.a4, .int .i64 m.a5, .int .i64 m.a6, .slice bo m.log.length c] 27)
  have hmb : ((w.alloc (repO r (.slice s.lo r.log.length s.lc) (.slice s.ao r.acked.length s.ac) (.slice s.vo r.votes.length s.vc) (.slice s.wo r.voters.length s.wc) (.slice s.bo r.best.length s.bc) 25)).alloc (.cells #[.int .i64 m.a0, .int .i64 m.a1, .int .i64 m.a2, .int .i64 m.a3, .int .i64 m.a4, .int .i64 m.a5, .int .i64 m.a6, .slice bo m.log.length c] 27)).heap[w.heap.size + 1]? = some (.cells #[.int .i64 m.a0, .int .i64 m.a1, .int .i64 m.a2, .int .i64 m.a3, .int .i64 m.a4, .int .i64 m.a5, .int .i64 m.a6, .slice bo m.log.length c] 27 (0, 0)) := heap_newB _ _ _ (by simp)
  have hlA : LiesE ((w.alloc (repO r (.slice s.lo r.log.length s.lc) (.slice s.ao r.acked.length s.ac) (.slice s.vo r.votes.length s.vc) (.slice s.wo r.voters.length s.wc) (.slice s.bo r.best.length s.bc) 25)).alloc (.cells #[.int .i64 m.a0, .int .i64 m.a1, .int .i64 m.a2, .int .i64 m.a3, .int .i64 m.a4, .int .i64 m.a5, .int .i64 m.a6, .slice bo m.log.length c] 27)) ((w.alloc (repO r (.slice s.lo r.log.length s.lc) (.slice s.ao r.acked.length s.ac) (.slice s.vo r.votes.length s.vc) (.slice s.wo r.voters.length s.wc) (.slice s.bo r.best.length s.bc) 25)).alloc (.cells #[.int .i64 m.a0, .int .i64 m.a1, .int .i64 m.a2, .int .i64 m.a3, .int .i64 m.a4, .int .i64 m.a5, .int .i64 m.a6, .slice bo m.log.length c] 27)).heap.size bo m.log := liesE_next hl hlow hlow.size
  have HR : Hid (tru (MsgD r m) = true) := tru_yes ⟨⟨by omega, by omega⟩, ⟨by omega, by omega⟩, h5, h6, ta3, ta4, ta5, ta6, hL, .inr hn⟩
  have dh1 : decide (m.a0 < 1) = false := decide_eq_false h1
  have dh2 : decide (8 < m.a0) = false := decide_eq_false h2
  have dh3 : decide (m.a1 < 0) = false := decide_eq_false h3
  have dh4 : decide (r.n ≤ m.a1) = false := decide_eq_false h4
  have bh5 : (m.a1 == r.id) = false := by simp [h5]
  have ch5 : (m.a1 != r.id) = true := by simp [h5]
  have dh5 : decide (m.a1 = r.id) = false := decide_eq_false h5
  have bh6 : (m.a2 == r.id) = true := by simp [h6]
  have ch6 : (m.a2 != r.id) = false := by simp [h6]
  have dh6 : decide (m.a2 = r.id) = true := decide_eq_true h6
  have qa3 := timeB_yes ta3
  have qa4 := timeB_yes ta4
  have qa5 := timeB_yes ta5
  have qa6 := timeB_yes ta6
  have dk : decide (m.a0 = 1) = true := decide_eq_true hk
  have dk2 : (m.a0 != 1) = false := by simp [hk]
  have hn2 : decide ((m.log.length : Int) = 1) = true := decide_eq_true (by omega)
  have hn3 : ((m.log.length : Int) == 1) = true := by simp [hn]
  have hn4 : decide (m.log.length = 1) = true := decide_eq_true hn
  clear hn
  clear h1 h2 h3 h4 h5 h6 ta3 ta4 ta5 ta6 hk
  obtain ⟨k0, k1, _⟩ := bx.rep (by omega)
  obtain ⟨c0, c1, c2, c3, c4, c5, c6, c7⟩ := msg_cellsS hmb
  have hen := rEntries_any m.log bo c _ hlA
  rw [tru_yes hL] at hen
  clear bx hmb hlA
  go_enter Tryz.func23, Tryz.ntmps23
  go_wp2_with (first
    | (go_at_call 34; refine (rtimeB_any _ _).mono ?_; rintro e wn ⟨rfl, hq⟩; have hq' := hq.symm; clear hq; subst hq')

    | (go_at_call 35; refine hen.mono ?_; rintro e wn ⟨rfl, hq⟩; have hq' := hq.symm; clear hq; subst hq'))
  go_ret
  exact ⟨by rw [HR.out]; rfl, hlow⟩
set_option maxRecDepth 100000 in
set_option maxHeartbeats 1000000 in
theorem rmesn (r : Rep) (s : Sl) (m : Msg) (bo : Option Addr) (c : Nat)  (h1 : ¬ m.a0 < 1) (h2 : ¬ 8 < m.a0) (h3 : ¬ m.a1 < 0) (h4 : ¬ r.n ≤ m.a1) (h5 : ¬ m.a1 = r.id) (h6 : m.a2 = r.id) (ta3 : (0 ≤ m.a3 ∧ m.a3 < 1099511627776)) (ta4 : (0 ≤ m.a4 ∧ m.a4 < 1099511627776)) (ta5 : (0 ≤ m.a5 ∧ m.a5 < 1099511627776)) (ta6 : (0 ≤ m.a6 ∧ m.a6 < 1099511627776)) (hL : LogOk m.log) (hk : m.a0 = 1) (hn : ¬ m.log.length = 1)
    (w : World) (hl : LiesE w w.heap.size bo m.log) :
    Calls Tryz.prog 23 #[repV r s, msV m bo c] w fun e w' => e = .returned (.bool (tru (MsgD r m))) ∧ Below w.heap.size w w' := by
  have hlow : Below w.heap.size w ((w.alloc (repO r (.slice s.lo r.log.length s.lc) (.slice s.ao r.acked.length s.ac) (.slice s.vo r.votes.length s.vc) (.slice s.wo r.voters.length s.wc) (.slice s.bo r.best.length s.bc) 25)).alloc (.cells #[.int .i64 m.a0, .int .i64 m.a1, .int .i64 m.a2, .int .i64 m.a3, .int .i64 m.a4, .int .i64 m.a5, .int .i64 m.a6, .slice bo m.log.length c] 27)) := ((Below.refl _ w).alloc (Nat.le_refl _) _).alloc (by simp) _
  have bx := (box_rep w r (.slice s.lo r.log.length s.lc) (.slice s.ao r.acked.length s.ac) (.slice s.vo r.votes.length s.vc) (.slice s.wo r.voters.length s.wc) (.slice s.bo r.best.length s.bc) undef 25 w.heap.size rfl).alloc (.cells #[.int .i64 m.a0, .int .i64 m.a1, .int .i64 m.a2, .int .i64 m.a3, .int .i64 m.a4, .int .i64 m.a5, .int .i64 m.a6, .slice bo m.log.length c] 27)
  have hmb : ((w.alloc (repO r (.slice s.lo r.log.length s.lc) (.slice s.ao r.acked.length s.ac) (.slice s.vo r.votes.length s.vc) (.slice s.wo r.voters.length s.wc) (.slice s.bo r.best.length s.bc) 25)).alloc (.cells #[.int .i64 m.a0, .int .i64 m.a1, .int .i64 m.a2, .int .i64 m.a3, .int .i64 m.a4, .int .i64 m.a5, .int .i64 m.a6, .slice bo m.log.length c] 27)).heap[w.heap.size + 1]? = some (.cells #[.int .i64 m.a0, .int .i64 m.a1, .int .i64 m.a2, .int .i64 m.a3, .int .i64 m.a4, .int .i64 m.a5, .int .i64 m.a6, .slice bo m.log.length c] 27 (0, 0)) := heap_newB _ _ _ (by simp)
  have hlA : LiesE ((w.alloc (repO r (.slice s.lo r.log.length s.lc) (.slice s.ao r.acked.length s.ac) (.slice s.vo r.votes.length s.vc) (.slice s.wo r.voters.length s.wc) (.slice s.bo r.best.length s.bc) 25)).alloc (.cells #[.int .i64 m.a0, .int .i64 m.a1, .int .i64 m.a2, .int .i64 m.a3, .int .i64 m.a4, .int .i64 m.a5, .int .i64 m.a6, .slice bo m.log.length c] 27)) ((w.alloc (repO r (.slice s.lo r.log.length s.lc) (.slice s.ao r.acked.length s.ac) (.slice s.vo r.votes.length s.vc) (.slice s.wo r.voters.length s.wc) (.slice s.bo r.best.length s.bc) 25)).alloc (.cells #[.int .i64 m.a0, .int .i64 m.a1, .int .i64 m.a2, .int .i64 m.a3, .int .i64 m.a4, .int .i64 m.a5, .int .i64 m.a6, .slice bo m.log.length c] 27)).heap.size bo m.log := liesE_next hl hlow hlow.size
  have HR : Hid (tru (MsgD r m) = false) := tru_no (fun q => by rcases q.2.2.2.2.2.2.2.2.2 with h | h; exact h hk; exact hn h)
  have dh1 : decide (m.a0 < 1) = false := decide_eq_false h1
  have dh2 : decide (8 < m.a0) = false := decide_eq_false h2
  have dh3 : decide (m.a1 < 0) = false := decide_eq_false h3
  have dh4 : decide (r.n ≤ m.a1) = false := decide_eq_false h4
  have bh5 : (m.a1 == r.id) = false := by simp [h5]
  have ch5 : (m.a1 != r.id) = true := by simp [h5]
  have dh5 : decide (m.a1 = r.id) = false := decide_eq_false h5
  have bh6 : (m.a2 == r.id) = true := by simp [h6]
  have ch6 : (m.a2 != r.id) = false := by simp [h6]
  have dh6 : decide (m.a2 = r.id) = true := decide_eq_true h6
  have qa3 := timeB_yes ta3
  have qa4 := timeB_yes ta4
  have qa5 := timeB_yes ta5
  have qa6 := timeB_yes ta6
  have dk : decide (m.a0 = 1) = true := decide_eq_true hk
  have dk2 : (m.a0 != 1) = false := by simp [hk]
  have hn2 : decide ((m.log.length : Int) = 1) = false := decide_eq_false (by omega)
  have hn3 : ((m.log.length : Int) == 1) = false := by simp; omega
  have hn4 : decide (m.log.length = 1) = false := decide_eq_false hn
  clear h1 h2 h3 h4 h5 h6 ta3 ta4 ta5 ta6 hk
  obtain ⟨k0, k1, _⟩ := bx.rep (by omega)
  obtain ⟨c0, c1, c2, c3, c4, c5, c6, c7⟩ := msg_cellsS hmb
  have hen := rEntries_any m.log bo c _ hlA
  rw [tru_yes hL] at hen
  clear bx hmb hlA
  go_enter Tryz.func23, Tryz.ntmps23
  go_wp2_with (first
    | (go_at_call 34; refine (rtimeB_any _ _).mono ?_; rintro e wn ⟨rfl, hq⟩; have hq' := hq.symm; clear hq; subst hq')

    | (go_at_call 35; refine hen.mono ?_; rintro e wn ⟨rfl, hq⟩; have hq' := hq.symm; clear hq; subst hq'))
  go_ret
  exact ⟨by rw [HR.out]; rfl, hlow⟩
theorem rmessage_any (r : Rep) (s : Sl) (m : Msg) (bo : Option Addr) (c : Nat) (w : World) (hl : LiesE w w.heap.size bo m.log) :
    Calls Tryz.prog 23 #[repV r s, msV m bo c] w fun e w' => e = .returned (.bool (tru (MsgD r m))) ∧ Below w.heap.size w w' := by
  by_cases h1 : m.a0 < 1
  case pos => exact rmes0 r s m bo c h1 w hl
  by_cases h2 : 8 < m.a0
  case pos => exact rmes1 r s m bo c h1 h2 w hl
  by_cases h3 : m.a1 < 0
  case pos => exact rmes2 r s m bo c h1 h2 h3 w hl
  by_cases h4 : r.n ≤ m.a1
  case pos => exact rmes3 r s m bo c h1 h2 h3 h4 w hl
  by_cases h5 : m.a1 = r.id
  case pos => exact rmes4 r s m bo c h1 h2 h3 h4 h5 w hl
  by_cases h6 : m.a2 = r.id
  case neg => exact rmes5 r s m bo c h1 h2 h3 h4 h5 h6 w hl
  by_cases ta3 : (0 ≤ m.a3 ∧ m.a3 < 1099511627776)
  case neg => exact rmesta3 r s m bo c h1 h2 h3 h4 h5 h6 ta3 w hl
  by_cases ta4 : (0 ≤ m.a4 ∧ m.a4 < 1099511627776)
  case neg => exact rmesta4 r s m bo c h1 h2 h3 h4 h5 h6 ta3 ta4 w hl
  by_cases ta5 : (0 ≤ m.a5 ∧ m.a5 < 1099511627776)
  case neg => exact rmesta5 r s m bo c h1 h2 h3 h4 h5 h6 ta3 ta4 ta5 w hl
  by_cases ta6 : (0 ≤ m.a6 ∧ m.a6 < 1099511627776)
  case neg => exact rmesta6 r s m bo c h1 h2 h3 h4 h5 h6 ta3 ta4 ta5 ta6 w hl
  by_cases hL : LogOk m.log
  case neg => exact rmesl r s m bo c h1 h2 h3 h4 h5 h6 ta3 ta4 ta5 ta6 hL w hl
  by_cases hk : m.a0 = 1
  case neg => exact rmesk r s m bo c h1 h2 h3 h4 h5 h6 ta3 ta4 ta5 ta6 hL hk w hl
  by_cases hn : m.log.length = 1
  case pos => exact rmesy r s m bo c h1 h2 h3 h4 h5 h6 ta3 ta4 ta5 ta6 hL hk hn w hl
  exact rmesn r s m bo c h1 h2 h3 h4 h5 h6 ta3 ta4 ta5 ta6 hL hk hn w hl
end Go.Proofs.YtgdehjdajjhjpaaGreat
