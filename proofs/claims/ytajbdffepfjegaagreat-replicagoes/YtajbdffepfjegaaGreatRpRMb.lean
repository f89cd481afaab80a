/-
  Contracts: which replicas may be (11.2): the document's May.
-/
import Derived.Test.YtajbdffepfjegaaGreatRpRMay
namespace Go.Proofs.YtajbdffepfjegaaGreat
open Go.RowKit Num
open scoped Classical
set_option linter.unusedVariables false
set_option maxRecDepth 100000

/-! The end. -/
/-- A normal replica. -/
abbrev Num.nv (z : Rep) : Rep := { z with normal := z.view, how := 0 }
set_option maxRecDepth 100000 in
set_option maxHeartbeats 1000000 in
theorem rmay_a0 (r : Rep) (s : Sl)  (h0 : ¬ (r.n = 1 ∨ r.n = 3 ∨ r.n = 5)) (w : World) :
    Calls Tryz.prog 8 #[repV r s] w fun e w' => e = .returned (.bool false) ∧ Below w.heap.size w w' := by
  have go := fun W => rodd_any r.n W
  have gv := fun W => rtime_any r.view W
  have gn := fun W => rtime_any r.normal W
  rw [tru_no h0] at go
  go_enter Tryz.func8, Tryz.ntmps8
  go_wp2_with (first
    | (go_at_call 16; refine (go _).mono ?_; rintro e wn ⟨rfl, hq⟩; have hq' := hq.symm; clear hq; subst hq'; clear go))
  go_ret
  exact ⟨rfl, (Below.refl _ w).alloc (Nat.le_refl _) _⟩
set_option maxRecDepth 100000 in
set_option maxHeartbeats 1000000 in
theorem rmay_a1 (r : Rep) (s : Sl) (h0 : r.n = 1 ∨ r.n = 3 ∨ r.n = 5) (h1 : r.id < 0) (w : World) :
    Calls Tryz.prog 8 #[repV r s] w fun e w' => e = .returned (.bool false) ∧ Below w.heap.size w w' := by
  have go := fun W => rodd_any r.n W
  have gv := fun W => rtime_any r.view W
  have gn := fun W => rtime_any r.normal W
  rw [tru_yes h0] at go
  go_enter Tryz.func8, Tryz.ntmps8
  go_wp2_with (first
    | (go_at_call 16; refine (go _).mono ?_; rintro e wn ⟨rfl, hq⟩; have hq' := hq.symm; clear hq; subst hq'; clear go))
  go_ret
  exact ⟨rfl, (Below.refl _ w).alloc (Nat.le_refl _) _⟩
set_option maxRecDepth 100000 in
set_option maxHeartbeats 1000000 in
theorem rmay_a2 (r : Rep) (s : Sl) (h0 : r.n = 1 ∨ r.n = 3 ∨ r.n = 5) (h1 : ¬ r.id < 0) (h2 : r.n ≤ r.id) (w : World) :
    Calls Tryz.prog 8 #[repV r s] w fun e w' => e = .returned (.bool false) ∧ Below w.heap.size w w' := by
  have go := fun W => rodd_any r.n W
  have gv := fun W => rtime_any r.view W
  have gn := fun W => rtime_any r.normal W
  rw [tru_yes h0] at go
  have a1 : decide (r.id < 0) = false := decide_eq_false h1
  go_enter Tryz.func8, Tryz.ntmps8
  go_wp2_with (first
    | (go_at_call 16; refine (go _).mono ?_; rintro e wn ⟨rfl, hq⟩; have hq' := hq.symm; clear hq; subst hq'; clear go))
  go_ret
  exact ⟨rfl, (Below.refl _ w).alloc (Nat.le_refl _) _⟩
set_option maxRecDepth 100000 in
set_option maxHeartbeats 1000000 in
theorem rmay_a3 (r : Rep) (s : Sl) (h0 : r.n = 1 ∨ r.n = 3 ∨ r.n = 5) (h1 : ¬ r.id < 0) (h2 : ¬ r.n ≤ r.id) (h3 : ¬ (0 ≤ r.view ∧ r.view < 1099511627776)) (w : World) :
    Calls Tryz.prog 8 #[repV r s] w fun e w' => e = .returned (.bool false) ∧ Below w.heap.size w w' := by
  have go := fun W => rodd_any r.n W
  have gv := fun W => rtime_any r.view W
  have gn := fun W => rtime_any r.normal W
  rw [tru_yes h0] at go
  have a1 : decide (r.id < 0) = false := decide_eq_false h1
  have a2 : decide (r.n ≤ r.id) = false := decide_eq_false h2
  rw [tru_no h3] at gv
  go_enter Tryz.func8, Tryz.ntmps8
  go_wp2_with (first
    | (go_at_call 16; refine (go _).mono ?_; rintro e wn ⟨rfl, hq⟩; have hq' := hq.symm; clear hq; subst hq'; clear go)
    | (go_at_call 17; have tk := gv; refine (gv _).mono ?_; rintro e wn ⟨rfl, hq⟩; have hq' := hq.symm; clear hq; subst hq'; clear gv))
  go_ret
  exact ⟨rfl, (Below.refl _ w).alloc (Nat.le_refl _) _⟩
set_option maxRecDepth 100000 in
set_option maxHeartbeats 1000000 in
theorem rmay_a4 (r : Rep) (s : Sl) (h0 : r.n = 1 ∨ r.n = 3 ∨ r.n = 5) (h1 : ¬ r.id < 0) (h2 : ¬ r.n ≤ r.id) (h3 : 0 ≤ r.view ∧ r.view < 1099511627776) (h4 : ¬ (0 ≤ r.normal ∧ r.normal < 1099511627776)) (w : World) :
    Calls Tryz.prog 8 #[repV r s] w fun e w' => e = .returned (.bool false) ∧ Below w.heap.size w w' := by
  have go := fun W => rodd_any r.n W
  have gv := fun W => rtime_any r.view W
  have gn := fun W => rtime_any r.normal W
  rw [tru_yes h0] at go
  have a1 : decide (r.id < 0) = false := decide_eq_false h1
  have a2 : decide (r.n ≤ r.id) = false := decide_eq_false h2
  rw [tru_yes h3] at gv
  rw [tru_no h4] at gn
  go_enter Tryz.func8, Tryz.ntmps8
  go_wp2_with (first
    | (go_at_call 16; refine (go _).mono ?_; rintro e wn ⟨rfl, hq⟩; have hq' := hq.symm; clear hq; subst hq'; clear go)
    | (go_at_call 17; have tk := gv; refine (gv _).mono ?_; rintro e wn ⟨rfl, hq⟩; have hq' := hq.symm; clear hq; subst hq'; clear gv)
    | (go_at_call 17; refine (gn _).mono ?_; rintro e wn ⟨rfl, hq⟩; have hq' := hq.symm; clear hq; subst hq'; clear gn))
  go_ret
  exact ⟨rfl, (Below.refl _ w).alloc (Nat.le_refl _) _⟩
set_option maxRecDepth 100000 in
set_option maxHeartbeats 1000000 in
theorem rmay_a5 (r : Rep) (s : Sl) (h0 : r.n = 1 ∨ r.n = 3 ∨ r.n = 5) (h1 : ¬ r.id < 0) (h2 : ¬ r.n ≤ r.id) (h3 : 0 ≤ r.view ∧ r.view < 1099511627776) (h4 : 0 ≤ r.normal ∧ r.normal < 1099511627776) (h5 : r.view < r.normal) (w : World) :
    Calls Tryz.prog 8 #[repV r s] w fun e w' => e = .returned (.bool false) ∧ Below w.heap.size w w' := by
  have go := fun W => rodd_any r.n W
  have gv := fun W => rtime_any r.view W
  have gn := fun W => rtime_any r.normal W
  rw [tru_yes h0] at go
  have a1 : decide (r.id < 0) = false := decide_eq_false h1
  have a2 : decide (r.n ≤ r.id) = false := decide_eq_false h2
  rw [tru_yes h3] at gv
  rw [tru_yes h4] at gn
  go_enter Tryz.func8, Tryz.ntmps8
  go_wp2_with (first
    | (go_at_call 16; refine (go _).mono ?_; rintro e wn ⟨rfl, hq⟩; have hq' := hq.symm; clear hq; subst hq'; clear go)
    | (go_at_call 17; have tk := gv; refine (gv _).mono ?_; rintro e wn ⟨rfl, hq⟩; have hq' := hq.symm; clear hq; subst hq'; clear gv)
    | (go_at_call 17; refine (gn _).mono ?_; rintro e wn ⟨rfl, hq⟩; have hq' := hq.symm; clear hq; subst hq'; clear gn))
  go_ret
  exact ⟨rfl, (Below.refl _ w).alloc (Nat.le_refl _) _⟩
set_option maxRecDepth 100000 in
set_option maxHeartbeats 1000000 in
theorem rmay_a6 (r : Rep) (s : Sl) (h0 : r.n = 1 ∨ r.n = 3 ∨ r.n = 5) (h1 : ¬ r.id < 0) (h2 : ¬ r.n ≤ r.id) (h3 : 0 ≤ r.view ∧ r.view < 1099511627776) (h4 : 0 ≤ r.normal ∧ r.normal < 1099511627776) (h5 : ¬ r.view < r.normal) (h6 : r.how < 0) (w : World) :
    Calls Tryz.prog 8 #[repV r s] w fun e w' => e = .returned (.bool false) ∧ Below w.heap.size w w' := by
  have go := fun W => rodd_any r.n W
  have gv := fun W => rtime_any r.view W
  have gn := fun W => rtime_any r.normal W
  rw [tru_yes h0] at go
  have a1 : decide (r.id < 0) = false := decide_eq_false h1
  have a2 : decide (r.n ≤ r.id) = false := decide_eq_false h2
  rw [tru_yes h3] at gv
  rw [tru_yes h4] at gn
  have a5 : decide (r.view < r.normal) = false := decide_eq_false h5
  go_enter Tryz.func8, Tryz.ntmps8
  go_wp2_with (first
    | (go_at_call 16; refine (go _).mono ?_; rintro e wn ⟨rfl, hq⟩; have hq' := hq.symm; clear hq; subst hq'; clear go)
    | (go_at_call 17; have tk := gv; refine (gv _).mono ?_; rintro e wn ⟨rfl, hq⟩; have hq' := hq.symm; clear hq; subst hq'; clear gv)
    | (go_at_call 17; refine (gn _).mono ?_; rintro e wn ⟨rfl, hq⟩; have hq' := hq.symm; clear hq; subst hq'; clear gn))
  go_ret
  exact ⟨rfl, (Below.refl _ w).alloc (Nat.le_refl _) _⟩
set_option maxRecDepth 100000 in
set_option maxHeartbeats 1000000 in
theorem rmay_a7 (r : Rep) (s : Sl) (h0 : r.n = 1 ∨ r.n = 3 ∨ r.n = 5) (h1 : ¬ r.id < 0) (h2 : ¬ r.n ≤ r.id) (h3 : 0 ≤ r.view ∧ r.view < 1099511627776) (h4 : 0 ≤ r.normal ∧ r.normal < 1099511627776) (h5 : ¬ r.view < r.normal) (h6 : ¬ r.how < 0) (h7 : 2 < r.how) (w : World) :
    Calls Tryz.prog 8 #[repV r s] w fun e w' => e = .returned (.bool false) ∧ Below w.heap.size w w' := by
  have go := fun W => rodd_any r.n W
  have gv := fun W => rtime_any r.view W
  have gn := fun W => rtime_any r.normal W
  rw [tru_yes h0] at go
  have a1 : decide (r.id < 0) = false := decide_eq_false h1
  have a2 : decide (r.n ≤ r.id) = false := decide_eq_false h2
  rw [tru_yes h3] at gv
  rw [tru_yes h4] at gn
  have a5 : decide (r.view < r.normal) = false := decide_eq_false h5
  have a6 : decide (r.how < 0) = false := decide_eq_false h6
  go_enter Tryz.func8, Tryz.ntmps8
  go_wp2_with (first
    | (go_at_call 16; refine (go _).mono ?_; rintro e wn ⟨rfl, hq⟩; have hq' := hq.symm; clear hq; subst hq'; clear go)
    | (go_at_call 17; have tk := gv; refine (gv _).mono ?_; rintro e wn ⟨rfl, hq⟩; have hq' := hq.symm; clear hq; subst hq'; clear gv)
    | (go_at_call 17; refine (gn _).mono ?_; rintro e wn ⟨rfl, hq⟩; have hq' := hq.symm; clear hq; subst hq'; clear gn))
  go_ret
  exact ⟨rfl, (Below.refl _ w).alloc (Nat.le_refl _) _⟩
set_option maxRecDepth 100000 in
set_option maxHeartbeats 1000000 in
theorem rmay_a8 (r : Rep) (s : Sl) (h0 : r.n = 1 ∨ r.n = 3 ∨ r.n = 5) (h1 : ¬ r.id < 0) (h2 : ¬ r.n ≤ r.id) (h3 : 0 ≤ r.view ∧ r.view < 1099511627776) (h4 : 0 ≤ r.normal ∧ r.normal < 1099511627776) (h5 : ¬ r.view < r.normal) (h6 : ¬ r.how < 0) (h7 : ¬ 2 < r.how) (h8 : r.how = 0 ∧ r.normal ≠ r.view) (w : World) :
    Calls Tryz.prog 8 #[repV r s] w fun e w' => e = .returned (.bool false) ∧ Below w.heap.size w w' := by
  have go := fun W => rodd_any r.n W
  have gv := fun W => rtime_any r.view W
  have gn := fun W => rtime_any r.normal W
  rw [tru_yes h0] at go
  have a1 : decide (r.id < 0) = false := decide_eq_false h1
  have a2 : decide (r.n ≤ r.id) = false := decide_eq_false h2
  rw [tru_yes h3] at gv
  rw [tru_yes h4] at gn
  have a5 : decide (r.view < r.normal) = false := decide_eq_false h5
  have a6 : decide (r.how < 0) = false := decide_eq_false h6
  have a7 : decide (2 < r.how) = false := decide_eq_false h7
  have e0 : (r.how == 0) = true := by simp [h8.1]
  have e1 : (r.normal != r.view) = true := by simp [h8.2]
  have e2 := h8.2
  go_enter Tryz.func8, Tryz.ntmps8
  go_wp2_with (first
    | (go_at_call 16; refine (go _).mono ?_; rintro e wn ⟨rfl, hq⟩; have hq' := hq.symm; clear hq; subst hq'; clear go)
    | (go_at_call 17; have tk := gv; refine (gv _).mono ?_; rintro e wn ⟨rfl, hq⟩; have hq' := hq.symm; clear hq; subst hq'; clear gv)
    | (go_at_call 17; refine (gn _).mono ?_; rintro e wn ⟨rfl, hq⟩; have hq' := hq.symm; clear hq; subst hq'; clear gn))
  go_ret
  exact ⟨rfl, (Below.refl _ w).alloc (Nat.le_refl _) _⟩
set_option maxRecDepth 100000 in
set_option maxHeartbeats 1000000 in
theorem rmay_b0 (r : Rep) (s : Sl) (h0 : r.n = 1 ∨ r.n = 3 ∨ r.n = 5) (h1 : ¬ r.id < 0) (h2 : ¬ r.n ≤ r.id) (h3 : 0 ≤ r.view ∧ r.view < 1099511627776) (h4 : 0 ≤ r.normal ∧ r.normal < 1099511627776) (h5 : ¬ r.view < r.normal) (h6 : ¬ r.how < 0) (h7 : ¬ 2 < r.how) (h9 : ¬ r.how = 0)  (p0 : ¬ LogOk r.log) (w : World) (hl : LiesR w w.heap.size s r) :
    Calls Tryz.prog 8 #[repV r s] w fun e w' => e = .returned (.bool false) ∧ Below w.heap.size w w' := by
  have hb := (Below.refl _ w).alloc (Nat.le_refl _) (repO r (.slice s.lo r.log.length s.lc) (.slice s.ao r.acked.length s.ac) (.slice s.vo r.votes.length s.vc) (.slice s.wo r.voters.length s.wc) (.slice s.bo r.best.length s.bc) 25)
  have hl0 := liesR_next hl hb hb.size
  have hB0 : Below (w.alloc (repO r (.slice s.lo r.log.length s.lc) (.slice s.ao r.acked.length s.ac) (.slice s.vo r.votes.length s.vc) (.slice s.wo r.voters.length s.wc) (.slice s.bo r.best.length s.bc) 25)).heap.size (w.alloc (repO r (.slice s.lo r.log.length s.lc) (.slice s.ao r.acked.length s.ac) (.slice s.vo r.votes.length s.vc) (.slice s.wo r.voters.length s.wc) (.slice s.bo r.best.length s.bc) 25)) (w.alloc (repO r (.slice s.lo r.log.length s.lc) (.slice s.ao r.acked.length s.ac) (.slice s.vo r.votes.length s.vc) (.slice s.wo r.voters.length s.wc) (.slice s.bo r.best.length s.bc) 25)) := Below.refl _ _
  have go := fun W => rodd_any r.n W
  have gv := fun W => rtime_any r.view W
  have gn := fun W => rtime_any r.normal W
  rw [tru_yes h0] at go
  rw [tru_yes h3] at gv
  rw [tru_yes h4] at gn
  have a1 : decide (r.id < 0) = false := decide_eq_false h1
  have a2 : decide (r.n ≤ r.id) = false := decide_eq_false h2
  have a5 : decide (r.view < r.normal) = false := decide_eq_false h5
  have a6 : decide (r.how < 0) = false := decide_eq_false h6
  have a7 : decide (2 < r.how) = false := decide_eq_false h7
  have e9 : (r.how == 0) = false := by simp [h9]
  have e8 : decide (r.how = 0) = false := decide_eq_false h9
  have ge := fun W (h : Below (w.alloc (repO r (.slice s.lo r.log.length s.lc) (.slice s.ao r.acked.length s.ac) (.slice s.vo r.votes.length s.vc) (.slice s.wo r.voters.length s.wc) (.slice s.bo r.best.length s.bc) 25)).heap.size (w.alloc (repO r (.slice s.lo r.log.length s.lc) (.slice s.ao r.acked.length s.ac) (.slice s.vo r.votes.length s.vc) (.slice s.wo r.voters.length s.wc) (.slice s.bo r.best.length s.bc) 25)) W) => rEntries_any r.log s.lo s.lc W (liesE_next hl0.log h h.size)
  rw [tru_no p0] at ge
  go_enter Tryz.func8, Tryz.ntmps8
  go_wp2_with (first
    | (go_at_call 16; refine (go _).mono ?_; rintro e wn ⟨rfl, hq⟩; have hq' := hq.symm; clear hq; subst hq'; clear go)
    | (go_at_call 17; have tk := gv; refine (gv _).mono ?_; rintro e wn ⟨rfl, hq⟩; have hq' := hq.symm; clear hq; subst hq'; clear gv)
    | (go_at_call 17; refine (gn _).mono ?_; rintro e wn ⟨rfl, hq⟩; have hq' := hq.symm; clear hq; subst hq'; clear gn)
    | (go_at_call 18; refine (ge _ hB0).mono ?_; rintro e wn ⟨rfl, hq⟩; have hq' := hq.symm; clear hq; subst hq'; clear ge))
  go_ret
  exact ⟨rfl, (Below.refl _ w).alloc (Nat.le_refl _) _⟩
set_option maxRecDepth 100000 in
set_option maxHeartbeats 1000000 in
theorem rmay_b0z (z0 : Rep) (s : Sl) (h0 : z0.n = 1 ∨ z0.n = 3 ∨ z0.n = 5) (h1 : ¬ z0.id < 0) (h2 : ¬ z0.n ≤ z0.id) (h3 : 0 ≤ z0.view ∧ z0.view < 1099511627776)   (p0 : ¬ LogOk z0.log) (w : World) (hl : LiesR w w.heap.size s (nv z0)) :
    Calls Tryz.prog 8 #[repV (nv z0) s] w fun e w' => e = .returned (.bool false) ∧ Below w.heap.size w w' := by
  have hb := (Below.refl _ w).alloc (Nat.le_refl _) (repO (nv z0) (.slice s.lo z0.log.length s.lc) (.slice s.ao z0.acked.length s.ac) (.slice s.vo z0.votes.length s.vc) (.slice s.wo z0.voters.length s.wc) (.slice s.bo z0.best.length s.bc) 25)
  have hl0 := liesR_next hl hb hb.size
  have hB0 : Below (w.alloc (repO (nv z0) (.slice s.lo z0.log.length s.lc) (.slice s.ao z0.acked.length s.ac) (.slice s.vo z0.votes.length s.vc) (.slice s.wo z0.voters.length s.wc) (.slice s.bo z0.best.length s.bc) 25)).heap.size (w.alloc (repO (nv z0) (.slice s.lo z0.log.length s.lc) (.slice s.ao z0.acked.length s.ac) (.slice s.vo z0.votes.length s.vc) (.slice s.wo z0.voters.length s.wc) (.slice s.bo z0.best.length s.bc) 25)) (w.alloc (repO (nv z0) (.slice s.lo z0.log.length s.lc) (.slice s.ao z0.acked.length s.ac) (.slice s.vo z0.votes.length s.vc) (.slice s.wo z0.voters.length s.wc) (.slice s.bo z0.best.length s.bc) 25)) := Below.refl _ _
  have go := fun W => rodd_any z0.n W
  have gv := fun W => rtime_any z0.view W
  rw [tru_yes h0] at go
  rw [tru_yes h3] at gv
  have a1 : decide (z0.id < 0) = false := decide_eq_false h1
  have a2 : decide (z0.n ≤ z0.id) = false := decide_eq_false h2
  have ge := fun W (h : Below (w.alloc (repO (nv z0) (.slice s.lo z0.log.length s.lc) (.slice s.ao z0.acked.length s.ac) (.slice s.vo z0.votes.length s.vc) (.slice s.wo z0.voters.length s.wc) (.slice s.bo z0.best.length s.bc) 25)).heap.size (w.alloc (repO (nv z0) (.slice s.lo z0.log.length s.lc) (.slice s.ao z0.acked.length s.ac) (.slice s.vo z0.votes.length s.vc) (.slice s.wo z0.voters.length s.wc) (.slice s.bo z0.best.length s.bc) 25)) W) => rEntries_any z0.log s.lo s.lc W (liesE_next hl0.log h h.size)
  rw [tru_no p0] at ge
  go_enter Tryz.func8, Tryz.ntmps8
  go_wp2_with (first
    | (go_at_call 16; refine (go _).mono ?_; rintro e wn ⟨rfl, hq⟩; have hq' := hq.symm; clear hq; subst hq'; clear go)
    | (go_at_call 17; refine (gv _).mono ?_; rintro e wn ⟨rfl, hq⟩; have hq' := hq.symm; clear hq; subst hq')
    | (go_at_call 18; refine (ge _ hB0).mono ?_; rintro e wn ⟨rfl, hq⟩; have hq' := hq.symm; clear hq; subst hq'; clear ge))
  go_ret
  exact ⟨rfl, (Below.refl _ w).alloc (Nat.le_refl _) _⟩
set_option maxRecDepth 100000 in
set_option maxHeartbeats 1000000 in
theorem rmay_b1 (r : Rep) (s : Sl) (h0 : r.n = 1 ∨ r.n = 3 ∨ r.n = 5) (h1 : ¬ r.id < 0) (h2 : ¬ r.n ≤ r.id) (h3 : 0 ≤ r.view ∧ r.view < 1099511627776) (h4 : 0 ≤ r.normal ∧ r.normal < 1099511627776) (h5 : ¬ r.view < r.normal) (h6 : ¬ r.how < 0) (h7 : ¬ 2 < r.how) (h9 : ¬ r.how = 0) (p0 : LogOk r.log) (p1 : r.commit < 0) (w : World) (hl : LiesR w w.heap.size s r) :
    Calls Tryz.prog 8 #[repV r s] w fun e w' => e = .returned (.bool false) ∧ Below w.heap.size w w' := by
  have hb := (Below.refl _ w).alloc (Nat.le_refl _) (repO r (.slice s.lo r.log.length s.lc) (.slice s.ao r.acked.length s.ac) (.slice s.vo r.votes.length s.vc) (.slice s.wo r.voters.length s.wc) (.slice s.bo r.best.length s.bc) 25)
  have hl0 := liesR_next hl hb hb.size
  have hB0 : Below (w.alloc (repO r (.slice s.lo r.log.length s.lc) (.slice s.ao r.acked.length s.ac) (.slice s.vo r.votes.length s.vc) (.slice s.wo r.voters.length s.wc) (.slice s.bo r.best.length s.bc) 25)).heap.size (w.alloc (repO r (.slice s.lo r.log.length s.lc) (.slice s.ao r.acked.length s.ac) (.slice s.vo r.votes.length s.vc) (.slice s.wo r.voters.length s.wc) (.slice s.bo r.best.length s.bc) 25)) (w.alloc (repO r (.slice s.lo r.log.length s.lc) (.slice s.ao r.acked.length s.ac) (.slice s.vo r.votes.length s.vc) (.slice s.wo r.voters.length s.wc) (.slice s.bo r.best.length s.bc) 25)) := Below.refl _ _
  have go := fun W => rodd_any r.n W
  have gv := fun W => rtime_any r.view W
  have gn := fun W => rtime_any r.normal W
  rw [tru_yes h0] at go
  rw [tru_yes h3] at gv
  rw [tru_yes h4] at gn
  have a1 : decide (r.id < 0) = false := decide_eq_false h1
  have a2 : decide (r.n ≤ r.id) = false := decide_eq_false h2
  have a5 : decide (r.view < r.normal) = false := decide_eq_false h5
  have a6 : decide (r.how < 0) = false := decide_eq_false h6
  have a7 : decide (2 < r.how) = false := decide_eq_false h7
  have e9 : (r.how == 0) = false := by simp [h9]
  have e8 : decide (r.how = 0) = false := decide_eq_false h9
  have ge := fun W (h : Below (w.alloc (repO r (.slice s.lo r.log.length s.lc) (.slice s.ao r.acked.length s.ac) (.slice s.vo r.votes.length s.vc) (.slice s.wo r.voters.length s.wc) (.slice s.bo r.best.length s.bc) 25)).heap.size (w.alloc (repO r (.slice s.lo r.log.length s.lc) (.slice s.ao r.acked.length s.ac) (.slice s.vo r.votes.length s.vc) (.slice s.wo r.voters.length s.wc) (.slice s.bo r.best.length s.bc) 25)) W) => rEntries_any r.log s.lo s.lc W (liesE_next hl0.log h h.size)
  rw [tru_yes p0] at ge
  go_enter Tryz.func8, Tryz.ntmps8
  go_wp2_with (first
    | (go_at_call 16; refine (go _).mono ?_; rintro e wn ⟨rfl, hq⟩; have hq' := hq.symm; clear hq; subst hq'; clear go)
    | (go_at_call 17; have tk := gv; refine (gv _).mono ?_; rintro e wn ⟨rfl, hq⟩; have hq' := hq.symm; clear hq; subst hq'; clear gv)
    | (go_at_call 17; refine (gn _).mono ?_; rintro e wn ⟨rfl, hq⟩; have hq' := hq.symm; clear hq; subst hq'; clear gn)
    | (go_at_call 18; refine (ge _ hB0).mono ?_; rintro e wn ⟨rfl, hq⟩; have hq' := hq.symm; clear hq; subst hq'; clear ge))
  go_ret
  exact ⟨rfl, (Below.refl _ w).alloc (Nat.le_refl _) _⟩
set_option maxRecDepth 100000 in
set_option maxHeartbeats 1000000 in
theorem rmay_b1z (z0 : Rep) (s : Sl) (h0 : z0.n = 1 ∨ z0.n = 3 ∨ z0.n = 5) (h1 : ¬ z0.id < 0) (h2 : ¬ z0.n ≤ z0.id) (h3 : 0 ≤ z0.view ∧ z0.view < 1099511627776)  (p0 : LogOk z0.log) (p1 : z0.commit < 0) (w : World) (hl : LiesR w w.heap.size s (nv z0)) :
    Calls Tryz.prog 8 #[repV (nv z0) s] w fun e w' => e = .returned (.bool false) ∧ Below w.heap.size w w' := by
  have hb := (Below.refl _ w).alloc (Nat.le_refl _) (repO (nv z0) (.slice s.lo z0.log.length s.lc) (.slice s.ao z0.acked.length s.ac) (.slice s.vo z0.votes.length s.vc) (.slice s.wo z0.voters.length s.wc) (.slice s.bo z0.best.length s.bc) 25)
  have hl0 := liesR_next hl hb hb.size
  have hB0 : Below (w.alloc (repO (nv z0) (.slice s.lo z0.log.length s.lc) (.slice s.ao z0.acked.length s.ac) (.slice s.vo z0.votes.length s.vc) (.slice s.wo z0.voters.length s.wc) (.slice s.bo z0.best.length s.bc) 25)).heap.size (w.alloc (repO (nv z0) (.slice s.lo z0.log.length s.lc) (.slice s.ao z0.acked.length s.ac) (.slice s.vo z0.votes.length s.vc) (.slice s.wo z0.voters.length s.wc) (.slice s.bo z0.best.length s.bc) 25)) (w.alloc (repO (nv z0) (.slice s.lo z0.log.length s.lc) (.slice s.ao z0.acked.length s.ac) (.slice s.vo z0.votes.length s.vc) (.slice s.wo z0.voters.length s.wc) (.slice s.bo z0.best.length s.bc) 25)) := Below.refl _ _
  have go := fun W => rodd_any z0.n W
  have gv := fun W => rtime_any z0.view W
  rw [tru_yes h0] at go
  rw [tru_yes h3] at gv
  have a1 : decide (z0.id < 0) = false := decide_eq_false h1
  have a2 : decide (z0.n ≤ z0.id) = false := decide_eq_false h2
  have ge := fun W (h : Below (w.alloc (repO (nv z0) (.slice s.lo z0.log.length s.lc) (.slice s.ao z0.acked.length s.ac) (.slice s.vo z0.votes.length s.vc) (.slice s.wo z0.voters.length s.wc) (.slice s.bo z0.best.length s.bc) 25)).heap.size (w.alloc (repO (nv z0) (.slice s.lo z0.log.length s.lc) (.slice s.ao z0.acked.length s.ac) (.slice s.vo z0.votes.length s.vc) (.slice s.wo z0.voters.length s.wc) (.slice s.bo z0.best.length s.bc) 25)) W) => rEntries_any z0.log s.lo s.lc W (liesE_next hl0.log h h.size)
  rw [tru_yes p0] at ge
  go_enter Tryz.func8, Tryz.ntmps8
  go_wp2_with (first
    | (go_at_call 16; refine (go _).mono ?_; rintro e wn ⟨rfl, hq⟩; have hq' := hq.symm; clear hq; subst hq'; clear go)
    | (go_at_call 17; refine (gv _).mono ?_; rintro e wn ⟨rfl, hq⟩; have hq' := hq.symm; clear hq; subst hq')
    | (go_at_call 18; refine (ge _ hB0).mono ?_; rintro e wn ⟨rfl, hq⟩; have hq' := hq.symm; clear hq; subst hq'; clear ge))
  go_ret
  exact ⟨rfl, (Below.refl _ w).alloc (Nat.le_refl _) _⟩
set_option maxRecDepth 100000 in
set_option maxHeartbeats 1000000 in
theorem rmay_b2 (r : Rep) (s : Sl) (h0 : r.n = 1 ∨ r.n = 3 ∨ r.n = 5) (h1 : ¬ r.id < 0) (h2 : ¬ r.n ≤ r.id) (h3 : 0 ≤ r.view ∧ r.view < 1099511627776) (h4 : 0 ≤ r.normal ∧ r.normal < 1099511627776) (h5 : ¬ r.view < r.normal) (h6 : ¬ r.how < 0) (h7 : ¬ 2 < r.how) (h9 : ¬ r.how = 0) (p0 : LogOk r.log) (p1 : ¬ r.commit < 0) (p2 : (r.log.length : Int) < r.commit) (w : World) (hl : LiesR w w.heap.size s r) :
    Calls Tryz.prog 8 #[repV r s] w fun e w' => e = .returned (.bool false) ∧ Below w.heap.size w w' := by
  have hb := (Below.refl _ w).alloc (Nat.le_refl _) (repO r (.slice s.lo r.log.length s.lc) (.slice s.ao r.acked.length s.ac) (.slice s.vo r.votes.length s.vc) (.slice s.wo r.voters.length s.wc) (.slice s.bo r.best.length s.bc) 25)
  have hl0 := liesR_next hl hb hb.size
  have hB0 : Below (w.alloc (repO r (.slice s.lo r.log.length s.lc) (.slice s.ao r.acked.length s.ac) (.slice s.vo r.votes.length s.vc) (.slice s.wo r.voters.length s.wc) (.slice s.bo r.best.length s.bc) 25)).heap.size (w.alloc (repO r (.slice s.lo r.log.length s.lc) (.slice s.ao r.acked.length s.ac) (.slice s.vo r.votes.length s.vc) (.slice s.wo r.voters.length s.wc) (.slice s.bo r.best.length s.bc) 25)) (w.alloc (repO r (.slice s.lo r.log.length s.lc) (.slice s.ao r.acked.length s.ac) (.slice s.vo r.votes.length s.vc) (.slice s.wo r.voters.length s.wc) (.slice s.bo r.best.length s.bc) 25)) := Below.refl _ _
  have go := fun W => rodd_any r.n W
  have gv := fun W => rtime_any r.view W
  have gn := fun W => rtime_any r.normal W
  rw [tru_yes h0] at go
  rw [tru_yes h3] at gv
  rw [tru_yes h4] at gn
  have a1 : decide (r.id < 0) = false := decide_eq_false h1
  have a2 : decide (r.n ≤ r.id) = false := decide_eq_false h2
  have a5 : decide (r.view < r.normal) = false := decide_eq_false h5
  have a6 : decide (r.how < 0) = false := decide_eq_false h6
  have a7 : decide (2 < r.how) = false := decide_eq_false h7
  have e9 : (r.how == 0) = false := by simp [h9]
  have e8 : decide (r.how = 0) = false := decide_eq_false h9
  have ge := fun W (h : Below (w.alloc (repO r (.slice s.lo r.log.length s.lc) (.slice s.ao r.acked.length s.ac) (.slice s.vo r.votes.length s.vc) (.slice s.wo r.voters.length s.wc) (.slice s.bo r.best.length s.bc) 25)).heap.size (w.alloc (repO r (.slice s.lo r.log.length s.lc) (.slice s.ao r.acked.length s.ac) (.slice s.vo r.votes.length s.vc) (.slice s.wo r.voters.length s.wc) (.slice s.bo r.best.length s.bc) 25)) W) => rEntries_any r.log s.lo s.lc W (liesE_next hl0.log h h.size)
  rw [tru_yes p0] at ge
  have b1 : decide (r.commit < 0) = false := decide_eq_false p1
  go_enter Tryz.func8, Tryz.ntmps8
  go_wp2_with (first
    | (go_at_call 16; refine (go _).mono ?_; rintro e wn ⟨rfl, hq⟩; have hq' := hq.symm; clear hq; subst hq'; clear go)
    | (go_at_call 17; have tk := gv; refine (gv _).mono ?_; rintro e wn ⟨rfl, hq⟩; have hq' := hq.symm; clear hq; subst hq'; clear gv)
    | (go_at_call 17; refine (gn _).mono ?_; rintro e wn ⟨rfl, hq⟩; have hq' := hq.symm; clear hq; subst hq'; clear gn)
    | (go_at_call 18; refine (ge _ hB0).mono ?_; rintro e wn ⟨rfl, hq⟩; have hq' := hq.symm; clear hq; subst hq'; clear ge))
  go_ret
  exact ⟨rfl, (Below.refl _ w).alloc (Nat.le_refl _) _⟩
set_option maxRecDepth 100000 in
set_option maxHeartbeats 1000000 in
theorem rmay_b2z (z0 : Rep) (s : Sl) (h0 : z0.n = 1 ∨ z0.n = 3 ∨ z0.n = 5) (h1 : ¬ z0.id < 0) (h2 : ¬ z0.n ≤ z0.id) (h3 : 0 ≤ z0.view ∧ z0.view < 1099511627776)  (p0 : LogOk z0.log) (p1 : ¬ z0.commit < 0) (p2 : (z0.log.length : Int) < z0.commit) (w : World) (hl : LiesR w w.heap.size s (nv z0)) :
    Calls Tryz.prog 8 #[repV (nv z0) s] w fun e w' => e = .returned (.bool false) ∧ Below w.heap.size w w' := by
  have hb := (Below.refl _ w).alloc (Nat.le_refl _) (repO (nv z0) (.slice s.lo z0.log.length s.lc) (.slice s.ao z0.acked.length s.ac) (.slice s.vo z0.votes.length s.vc) (.slice s.wo z0.voters.length s.wc) (.slice s.bo z0.best.length s.bc) 25)
  have hl0 := liesR_next hl hb hb.size
  have hB0 : Below (w.alloc (repO (nv z0) (.slice s.lo z0.log.length s.lc) (.slice s.ao z0.acked.length s.ac) (.slice s.vo z0.votes.length s.vc) (.slice s.wo z0.voters.length s.wc) (.slice s.bo z0.best.length s.bc) 25)).heap.size (w.alloc (repO (nv z0) (.slice s.lo z0.log.length s.lc) (.slice s.ao z0.acked.length s.ac) (.slice s.vo z0.votes.length s.vc) (.slice s.wo z0.voters.length s.wc) (.slice s.bo z0.best.length s.bc) 25)) (w.alloc (repO (nv z0) (.slice s.lo z0.log.length s.lc) (.slice s.ao z0.acked.length s.ac) (.slice s.vo z0.votes.length s.vc) (.slice s.wo z0.voters.length s.wc) (.slice s.bo z0.best.length s.bc) 25)) := Below.refl _ _
  have go := fun W => rodd_any z0.n W
  have gv := fun W => rtime_any z0.view W
  rw [tru_yes h0] at go
  rw [tru_yes h3] at gv
  have a1 : decide (z0.id < 0) = false := decide_eq_false h1
  have a2 : decide (z0.n ≤ z0.id) = false := decide_eq_false h2
  have ge := fun W (h : Below (w.alloc (repO (nv z0) (.slice s.lo z0.log.length s.lc) (.slice s.ao z0.acked.length s.ac) (.slice s.vo z0.votes.length s.vc) (.slice s.wo z0.voters.length s.wc) (.slice s.bo z0.best.length s.bc) 25)).heap.size (w.alloc (repO (nv z0) (.slice s.lo z0.log.length s.lc) (.slice s.ao z0.acked.length s.ac) (.slice s.vo z0.votes.length s.vc) (.slice s.wo z0.voters.length s.wc) (.slice s.bo z0.best.length s.bc) 25)) W) => rEntries_any z0.log s.lo s.lc W (liesE_next hl0.log h h.size)
  rw [tru_yes p0] at ge
  have b1 : decide (z0.commit < 0) = false := decide_eq_false p1
  go_enter Tryz.func8, Tryz.ntmps8
  go_wp2_with (first
    | (go_at_call 16; refine (go _).mono ?_; rintro e wn ⟨rfl, hq⟩; have hq' := hq.symm; clear hq; subst hq'; clear go)
    | (go_at_call 17; refine (gv _).mono ?_; rintro e wn ⟨rfl, hq⟩; have hq' := hq.symm; clear hq; subst hq')
    | (go_at_call 18; refine (ge _ hB0).mono ?_; rintro e wn ⟨rfl, hq⟩; have hq' := hq.symm; clear hq; subst hq'; clear ge))
  go_ret
  exact ⟨rfl, (Below.refl _ w).alloc (Nat.le_refl _) _⟩
set_option maxRecDepth 100000 in
set_option maxHeartbeats 1000000 in
theorem rmay_b3 (r : Rep) (s : Sl) (h0 : r.n = 1 ∨ r.n = 3 ∨ r.n = 5) (h1 : ¬ r.id < 0) (h2 : ¬ r.n ≤ r.id) (h3 : 0 ≤ r.view ∧ r.view < 1099511627776) (h4 : 0 ≤ r.normal ∧ r.normal < 1099511627776) (h5 : ¬ r.view < r.normal) (h6 : ¬ r.how < 0) (h7 : ¬ 2 < r.how) (h9 : ¬ r.how = 0) (p0 : LogOk r.log) (p1 : ¬ r.commit < 0) (p2 : ¬ (r.log.length : Int) < r.commit) (p3 : (r.acked.length : Int) ≠ r.n) (w : World) (hl : LiesR w w.heap.size s r) :
    Calls Tryz.prog 8 #[repV r s] w fun e w' => e = .returned (.bool false) ∧ Below w.heap.size w w' := by
  have hb := (Below.refl _ w).alloc (Nat.le_refl _) (repO r (.slice s.lo r.log.length s.lc) (.slice s.ao r.acked.length s.ac) (.slice s.vo r.votes.length s.vc) (.slice s.wo r.voters.length s.wc) (.slice s.bo r.best.length s.bc) 25)
  have hl0 := liesR_next hl hb hb.size
  have hB0 : Below (w.alloc (repO r (.slice s.lo r.log.length s.lc) (.slice s.ao r.acked.length s.ac) (.slice s.vo r.votes.length s.vc) (.slice s.wo r.voters.length s.wc) (.slice s.bo r.best.length s.bc) 25)).heap.size (w.alloc (repO r (.slice s.lo r.log.length s.lc) (.slice s.ao r.acked.length s.ac) (.slice s.vo r.votes.length s.vc) (.slice s.wo r.voters.length s.wc) (.slice s.bo r.best.length s.bc) 25)) (w.alloc (repO r (.slice s.lo r.log.length s.lc) (.slice s.ao r.acked.length s.ac) (.slice s.vo r.votes.length s.vc) (.slice s.wo r.voters.length s.wc) (.slice s.bo r.best.length s.bc) 25)) := Below.refl _ _
  have go := fun W => rodd_any r.n W
  have gv := fun W => rtime_any r.view W
  have gn := fun W => rtime_any r.normal W
  rw [tru_yes h0] at go
  rw [tru_yes h3] at gv
  rw [tru_yes h4] at gn
  have a1 : decide (r.id < 0) = false := decide_eq_false h1
  have a2 : decide (r.n ≤ r.id) = false := decide_eq_false h2
  have a5 : decide (r.view < r.normal) = false := decide_eq_false h5
  have a6 : decide (r.how < 0) = false := decide_eq_false h6
  have a7 : decide (2 < r.how) = false := decide_eq_false h7
  have e9 : (r.how == 0) = false := by simp [h9]
  have e8 : decide (r.how = 0) = false := decide_eq_false h9
  have ge := fun W (h : Below (w.alloc (repO r (.slice s.lo r.log.length s.lc) (.slice s.ao r.acked.length s.ac) (.slice s.vo r.votes.length s.vc) (.slice s.wo r.voters.length s.wc) (.slice s.bo r.best.length s.bc) 25)).heap.size (w.alloc (repO r (.slice s.lo r.log.length s.lc) (.slice s.ao r.acked.length s.ac) (.slice s.vo r.votes.length s.vc) (.slice s.wo r.voters.length s.wc) (.slice s.bo r.best.length s.bc) 25)) W) => rEntries_any r.log s.lo s.lc W (liesE_next hl0.log h h.size)
  rw [tru_yes p0] at ge
  have b1 : decide (r.commit < 0) = false := decide_eq_false p1
  have b2 : decide ((r.log.length : Int) < r.commit) = false := decide_eq_false p2
  have b3 : ((r.acked.length : Int) != r.n) = true := by simp [p3]
  go_enter Tryz.func8, Tryz.ntmps8
  go_wp2_with (first
    | (go_at_call 16; refine (go _).mono ?_; rintro e wn ⟨rfl, hq⟩; have hq' := hq.symm; clear hq; subst hq'; clear go)
    | (go_at_call 17; have tk := gv; refine (gv _).mono ?_; rintro e wn ⟨rfl, hq⟩; have hq' := hq.symm; clear hq; subst hq'; clear gv)
    | (go_at_call 17; refine (gn _).mono ?_; rintro e wn ⟨rfl, hq⟩; have hq' := hq.symm; clear hq; subst hq'; clear gn)
    | (go_at_call 18; refine (ge _ hB0).mono ?_; rintro e wn ⟨rfl, hq⟩; have hq' := hq.symm; clear hq; subst hq'; clear ge))
  go_ret
  exact ⟨rfl, (Below.refl _ w).alloc (Nat.le_refl _) _⟩
set_option maxRecDepth 100000 in
set_option maxHeartbeats 1000000 in
theorem rmay_b3z (z0 : Rep) (s : Sl) (h0 : z0.n = 1 ∨ z0.n = 3 ∨ z0.n = 5) (h1 : ¬ z0.id < 0) (h2 : ¬ z0.n ≤ z0.id) (h3 : 0 ≤ z0.view ∧ z0.view < 1099511627776)  (p0 : LogOk z0.log) (p1 : ¬ z0.commit < 0) (p2 : ¬ (z0.log.length : Int) < z0.commit) (p3 : (z0.acked.length : Int) ≠ z0.n) (w : World) (hl : LiesR w w.heap.size s (nv z0)) :
    Calls Tryz.prog 8 #[repV (nv z0) s] w fun e w' => e = .returned (.bool false) ∧ Below w.heap.size w w' := by
  have hb := (Below.refl _ w).alloc (Nat.le_refl _) (repO (nv z0) (.slice s.lo z0.log.length s.lc) (.slice s.ao z0.acked.length s.ac) (.slice s.vo z0.votes.length s.vc) (.slice s.wo z0.voters.length s.wc) (.slice s.bo z0.best.length s.bc) 25)
  have hl0 := liesR_next hl hb hb.size
  have hB0 : Below (w.alloc (repO (nv z0) (.slice s.lo z0.log.length s.lc) (.slice s.ao z0.acked.length s.ac) (.slice s.vo z0.votes.length s.vc) (.slice s.wo z0.voters.length s.wc) (.slice s.bo z0.best.length s.bc) 25)).heap.size (w.alloc (repO (nv z0) (.slice s.lo z0.log.length s.lc) (.slice s.ao z0.acked.length s.ac) (.slice s.vo z0.votes.length s.vc) (.slice s.wo z0.voters.length s.wc) (.slice s.bo z0.best.length s.bc) 25)) (w.alloc (repO (nv z0) (.slice s.lo z0.log.length s.lc) (.slice s.ao z0.acked.length s.ac) (.slice s.vo z0.votes.length s.vc) (.slice s.wo z0.voters.length s.wc) (.slice s.bo z0.best.length s.bc) 25)) := Below.refl _ _
  have go := fun W => rodd_any z0.n W
  have gv := fun W => rtime_any z0.view W
  rw [tru_yes h0] at go
  rw [tru_yes h3] at gv
  have a1 : decide (z0.id < 0) = false := decide_eq_false h1
  have a2 : decide (z0.n ≤ z0.id) = false := decide_eq_false h2
  have ge := fun W (h : Below (w.alloc (repO (nv z0) (.slice s.lo z0.log.length s.lc) (.slice s.ao z0.acked.length s.ac) (.slice s.vo z0.votes.length s.vc) (.slice s.wo z0.voters.length s.wc) (.slice s.bo z0.best.length s.bc) 25)).heap.size (w.alloc (repO (nv z0) (.slice s.lo z0.log.length s.lc) (.slice s.ao z0.acked.length s.ac) (.slice s.vo z0.votes.length s.vc) (.slice s.wo z0.voters.length s.wc) (.slice s.bo z0.best.length s.bc) 25)) W) => rEntries_any z0.log s.lo s.lc W (liesE_next hl0.log h h.size)
  rw [tru_yes p0] at ge
  have b1 : decide (z0.commit < 0) = false := decide_eq_false p1
  have b2 : decide ((z0.log.length : Int) < z0.commit) = false := decide_eq_false p2
  have b3 : ((z0.acked.length : Int) != z0.n) = true := by simp [p3]
  go_enter Tryz.func8, Tryz.ntmps8
  go_wp2_with (first
    | (go_at_call 16; refine (go _).mono ?_; rintro e wn ⟨rfl, hq⟩; have hq' := hq.symm; clear hq; subst hq'; clear go)
    | (go_at_call 17; refine (gv _).mono ?_; rintro e wn ⟨rfl, hq⟩; have hq' := hq.symm; clear hq; subst hq')
    | (go_at_call 18; refine (ge _ hB0).mono ?_; rintro e wn ⟨rfl, hq⟩; have hq' := hq.symm; clear hq; subst hq'; clear ge))
  go_ret
  exact ⟨rfl, (Below.refl _ w).alloc (Nat.le_refl _) _⟩
set_option maxRecDepth 100000 in
set_option maxHeartbeats 4000000 in
theorem rmay_c (r : Rep) (s : Sl) (hsm : SmallM0 r) (h0 : r.n = 1 ∨ r.n = 3 ∨ r.n = 5) (h1 : ¬ r.id < 0) (h2 : ¬ r.n ≤ r.id) (h3 : 0 ≤ r.view ∧ r.view < 1099511627776) (h4 : 0 ≤ r.normal ∧ r.normal < 1099511627776) (h5 : ¬ r.view < r.normal) (h6 : ¬ r.how < 0) (h7 : ¬ 2 < r.how) (h9 : ¬ r.how = 0) (p0 : LogOk r.log) (p1 : ¬ r.commit < 0) (p2 : ¬ (r.log.length : Int) < r.commit) (p3 : (r.acked.length : Int) = r.n) (w : World) (hl : LiesR w w.heap.size s r) :
    Calls Tryz.prog 8 #[repV r s] w fun e w' => e = .returned (.bool (tru (May r))) ∧ Below w.heap.size w w' := by
  have hb := fun ob : Obj => (Below.refl _ w).alloc (Nat.le_refl _) ob
  have hl0 := liesR_next hl (hb (repO r (.slice s.lo r.log.length s.lc) (.slice s.ao r.acked.length s.ac) (.slice s.vo r.votes.length s.vc) (.slice s.wo r.voters.length s.wc) (.slice s.bo r.best.length s.bc) 25)) (hb (repO r (.slice s.lo r.log.length s.lc) (.slice s.ao r.acked.length s.ac) (.slice s.vo r.votes.length s.vc) (.slice s.wo r.voters.length s.wc) (.slice s.bo r.best.length s.bc) 25)).size
  have bx := box_rep w r (.slice s.lo r.log.length s.lc) (.slice s.ao r.acked.length s.ac) (.slice s.vo r.votes.length s.vc) (.slice s.wo r.voters.length s.wc) (.slice s.bo r.best.length s.bc) undef 25 w.heap.size rfl
  have hB0 : Below (w.alloc (repO r (.slice s.lo r.log.length s.lc) (.slice s.ao r.acked.length s.ac) (.slice s.vo r.votes.length s.vc) (.slice s.wo r.voters.length s.wc) (.slice s.bo r.best.length s.bc) 25)).heap.size (w.alloc (repO r (.slice s.lo r.log.length s.lc) (.slice s.ao r.acked.length s.ac) (.slice s.vo r.votes.length s.vc) (.slice s.wo r.voters.length s.wc) (.slice s.bo r.best.length s.bc) 25)) (w.alloc (repO r (.slice s.lo r.log.length s.lc) (.slice s.ao r.acked.length s.ac) (.slice s.vo r.votes.length s.vc) (.slice s.wo r.voters.length s.wc) (.slice s.bo r.best.length s.bc) 25)) := Below.refl _ _
  have g5 := fun W (h : Below (w.alloc (repO r (.slice s.lo r.log.length s.lc) (.slice s.ao r.acked.length s.ac) (.slice s.vo r.votes.length s.vc) (.slice s.wo r.voters.length s.wc) (.slice s.bo r.best.length s.bc) 25)).heap.size (w.alloc (repO r (.slice s.lo r.log.length s.lc) (.slice s.ao r.acked.length s.ac) (.slice s.vo r.votes.length s.vc) (.slice s.wo r.voters.length s.wc) (.slice s.bo r.best.length s.bc) 25)) W) => rising_any r.votes r.n h0 s.vo s.vc hsm.2.2.1 W (liesN_wide hl0.votes h h.size)
  have g6 := fun W (h : Below (w.alloc (repO r (.slice s.lo r.log.length s.lc) (.slice s.ao r.acked.length s.ac) (.slice s.vo r.votes.length s.vc) (.slice s.wo r.voters.length s.wc) (.slice s.bo r.best.length s.bc) 25)).heap.size (w.alloc (repO r (.slice s.lo r.log.length s.lc) (.slice s.ao r.acked.length s.ac) (.slice s.vo r.votes.length s.vc) (.slice s.wo r.voters.length s.wc) (.slice s.bo r.best.length s.bc) 25)) W) => rising_any r.voters r.n h0 s.wo s.wc hsm.2.2.2 W (liesN_wide hl0.voters h h.size)
  have g7 := fun W (h : Below (w.alloc (repO r (.slice s.lo r.log.length s.lc) (.slice s.ao r.acked.length s.ac) (.slice s.vo r.votes.length s.vc) (.slice s.wo r.voters.length s.wc) (.slice s.bo r.best.length s.bc) 25)).heap.size (w.alloc (repO r (.slice s.lo r.log.length s.lc) (.slice s.ao r.acked.length s.ac) (.slice s.vo r.votes.length s.vc) (.slice s.wo r.voters.length s.wc) (.slice s.bo r.best.length s.bc) 25)) W) => rEntries_any r.best s.bo s.bc W (liesE_next hl0.best h h.size)
  have hsm1 := hsm.1
  have p4 := p3
  have hvw : ViewsOk r := ⟨h3, ⟨h4.1, by omega⟩, by omega, fun q => absurd q h9⟩
  have go := fun W => rodd_any r.n W
  have gv := fun W => rtime_any r.view W
  have gn := fun W => rtime_any r.normal W
  rw [tru_yes h0] at go
  rw [tru_yes h3] at gv
  rw [tru_yes h4] at gn
  have a1 : decide (r.id < 0) = false := decide_eq_false h1
  have a2 : decide (r.n ≤ r.id) = false := decide_eq_false h2
  have a5 : decide (r.view < r.normal) = false := decide_eq_false h5
  have a6 : decide (r.how < 0) = false := decide_eq_false h6
  have a7 : decide (2 < r.how) = false := decide_eq_false h7
  have e9 : (r.how == 0) = false := by simp [h9]
  have e8 : decide (r.how = 0) = false := decide_eq_false h9
  have ge := fun W (h : Below (w.alloc (repO r (.slice s.lo r.log.length s.lc) (.slice s.ao r.acked.length s.ac) (.slice s.vo r.votes.length s.vc) (.slice s.wo r.voters.length s.wc) (.slice s.bo r.best.length s.bc) 25)).heap.size (w.alloc (repO r (.slice s.lo r.log.length s.lc) (.slice s.ao r.acked.length s.ac) (.slice s.vo r.votes.length s.vc) (.slice s.wo r.voters.length s.wc) (.slice s.bo r.best.length s.bc) 25)) W) => rEntries_any r.log s.lo s.lc W (liesE_next hl0.log h h.size)
  rw [tru_yes p0] at ge
  have b1 : decide (r.commit < 0) = false := decide_eq_false p1
  have b2 : decide ((r.log.length : Int) < r.commit) = false := decide_eq_false p2
  have b3 : ((r.acked.length : Int) != r.n) = false := by simp [p3]
  have b4 : decide ((r.acked.length : Int) = r.n) = true := decide_eq_true p3
  go_enter Tryz.func8, Tryz.ntmps8
  go_wp2_with (first
    | (go_at_call 16; refine (go _).mono ?_; rintro e wn ⟨rfl, hq⟩; have hq' := hq.symm; clear hq; subst hq'; clear go)
    | (go_at_call 17; have tk := gv; refine (gv _).mono ?_; rintro e wn ⟨rfl, hq⟩; have hq' := hq.symm; clear hq; subst hq'; clear gv)
    | (go_at_call 17; refine (gn _).mono ?_; rintro e wn ⟨rfl, hq⟩; have hq' := hq.symm; clear hq; subst hq'; clear gn)
    | (go_at_call 18; refine (ge _ hB0).mono ?_; rintro e wn ⟨rfl, hq⟩; have hq' := hq.symm; clear hq; subst hq'; clear ge))
  go_loopw [3] (fun i wr => ∃ k : Nat, k ≤ r.acked.length ∧ i = .int .i64 (k : Int) ∧ Below (w.alloc (repO r (.slice s.lo r.log.length s.lc) (.slice s.ao r.acked.length s.ac) (.slice s.vo r.votes.length s.vc) (.slice s.wo r.voters.length s.wc) (.slice s.bo r.best.length s.bc) 25)).heap.size (w.alloc (repO r (.slice s.lo r.log.length s.lc) (.slice s.ao r.acked.length s.ac) (.slice s.vo r.votes.length s.vc) (.slice s.wo r.voters.length s.wc) (.slice s.bo r.best.length s.bc) 25)) wr ∧ Hid (∀ (i : Nat) x, i < k → r.acked[i]? = some x → 0 ≤ x ∧ x ≤ (r.log.length : Int))) (fun i _ => r.acked.length - (intOf i).toNat)
  case atStart => exact ⟨0, by omega, rfl, Below.refl _ _, fun i x h => absurd h (Nat.not_lt_zero _)⟩
  case round =>
    obtain ⟨k, hk, rfl, hbel, HK⟩ := hrel
    obtain ⟨c0, c1, c2, c3, c4, c5, c6, c7, c8, c9, c10, c11, c12⟩ := (bx.below hbel).rep (by omega)
    by_cases hkl : k < r.acked.length
    · have HX : Hid (r.acked[k]? = some r.acked[k]) := List.getElem?_eq_getElem hkl
      obtain ⟨a, ha, _, c⟩ := (liesN_wide hl0.ack hbel hbel.size) k r.acked[k] HX.out
      unfold NumAt at c
      rw [Nat.mul_one] at c
      rw [ha] at c7
      clear ha
      have i1 : (k : Int) < (r.acked.length : Int) := by omega
      generalize r.acked[k] = y at *
      have d := fun z : Low wr => (z.cell (cell_lt c)).trans c
      have d7 := fun z : Low wr => (z.cell (cell_lt c7)).trans c7
      have d5 := fun z : Low wr => (z.cell (cell_lt c5)).trans c5
      clear g5 g6 g7
      by_cases t0 : y < 0
      · have hbad : Hid (tru (May r) = false) := tru_no (fun q => by have h5 : 0 ≤ y ∧ y ≤ (r.log.length : Int) := q.ack.2 k y HX.out; omega)
        go_wp2_with fail
        refine wp_region_low (by kernel_rfl) (by kernel_rfl) fun hsome => ?_
        repeat (go_big_quiet_step (fail))
        refine wpQuiet_nil ?_
        rintro _ ⟨z, rfl⟩
        have hz := z.low
        go_wp2
        go_ret
        exact ⟨by rw [hbad.out]; rfl, (hb (repO r (.slice s.lo r.log.length s.lc) (.slice s.ao r.acked.length s.ac) (.slice s.vo r.votes.length s.vc) (.slice s.wo r.voters.length s.wc) (.slice s.bo r.best.length s.bc) 25)).trans ((below_next hbel (Nat.le_refl _) hz).mono (by simp))⟩
      · have t1 : decide (y < 0) = false := decide_eq_false t0
        by_cases t2 : (r.log.length : Int) < y
        · have hbad : Hid (tru (May r) = false) := tru_no (fun q => by have h5 : 0 ≤ y ∧ y ≤ (r.log.length : Int) := q.ack.2 k y HX.out; omega)
          go_wp2_with fail
          refine wp_region_low (by kernel_rfl) (by kernel_rfl) fun hsome => ?_
          repeat (go_big_quiet_step (fail))
          refine wpQuiet_nil ?_
          rintro _ ⟨z, rfl⟩
          have hz := z.low
          go_wp2
          go_ret
          exact ⟨by rw [hbad.out]; rfl, (hb (repO r (.slice s.lo r.log.length s.lc) (.slice s.ao r.acked.length s.ac) (.slice s.vo r.votes.length s.vc) (.slice s.wo r.voters.length s.wc) (.slice s.bo r.best.length s.bc) 25)).trans ((below_next hbel (Nat.le_refl _) hz).mono (by simp))⟩
        · have t3 : decide ((r.log.length : Int) < y) = false := decide_eq_false t2
          have HK2 : Hid (∀ (i : Nat) x, i < k + 1 → r.acked[i]? = some x → 0 ≤ x ∧ x ≤ (r.log.length : Int)) := by
            intro i x hi hx
            rcases Nat.lt_or_ge i k with h3 | h3
            · exact HK.out i x h3 hx
            · obtain rfl : i = k := by omega
              rw [HX.out] at hx
              cases hx
              exact ⟨by omega, by omega⟩
          clear HK
          go_wp2_with fail
          refine wp_region_low (by kernel_rfl) (by kernel_rfl) fun hsome => ?_
          repeat (go_big_quiet_step (fail))
          refine wpQuiet_nil ?_
          rintro _ ⟨z, rfl⟩
          have hz := z.low
          go_wp2
          go_roundw
          case rel => exact ⟨k + 1, by omega, by go_num, below_next hbel (Nat.le_refl _) hz, HK2⟩
          case measure => simp [intOf]; omega
    · obtain rfl : k = r.acked.length := by omega
      have g5 := g5 _ hbel
      by_cases u0 : IdsOk r.votes r.n
      · by_cases u1 : IdsOk r.voters r.n
        · by_cases u2 : LogOk r.best
          · by_cases u3 : -1 ≤ r.bestView
            · by_cases u4 : r.bestView < 1099511627776
              · by_cases u5 : 0 ≤ r.bestDone
                · by_cases u6 : r.bestDone ≤ (r.best.length : Int)
                  · have hgood : Hid (tru (May r) = true) := tru_yes ⟨⟨h0, by omega, by omega⟩, hvw, p0, ⟨by omega, by omega⟩, ⟨p3, fun i x hx => HK.out i x (List.getElem?_eq_some_iff.1 hx).1 hx⟩, u0, u1, u2, ⟨by omega, u4⟩, u5, u6⟩
                    rw [tru_yes u0] at g5
                    rw [tru_yes u1] at g6
                    rw [tru_yes u2] at g7
                    go_wp2_with (first
                      | (go_at_call 19; have tk := g5; refine g5.mono ?_; rintro e w5 ⟨rfl, hb5⟩; have hB5 := below_next hbel (Nat.le_refl _) hb5; obtain ⟨c0, c1, c2, c3, c4, c5, c6, c7, c8, c9, c10, c11, c12⟩ := (bx.below hB5).rep (by omega); have g6x := g6 _ hB5; clear g5 tk)
                      | (go_at_call 19; refine g6x.mono ?_; rintro e w6 ⟨rfl, hb6⟩; have hB6 := below_next hB5 (Nat.le_refl _) hb6; obtain ⟨c0, c1, c2, c3, c4, c5, c6, c7, c8, c9, c10, c11, c12⟩ := (bx.below hB6).rep (by omega); have g7x := g7 _ hB6)
                      | (go_at_call 18; refine g7x.mono ?_; rintro e w7 ⟨rfl, hq⟩; have hq' := hq.symm; clear hq; subst hq'))
                    go_ret
                    exact ⟨by rw [hgood.out]; rfl, (hb (repO r (.slice s.lo r.log.length s.lc) (.slice s.ao r.acked.length s.ac) (.slice s.vo r.votes.length s.vc) (.slice s.wo r.voters.length s.wc) (.slice s.bo r.best.length s.bc) 25)).trans (hB6.mono (by simp))⟩
                  · have hgood : Hid (tru (May r) = false) := tru_no (fun q => u6 q.best.2.2.2)
                    rw [tru_yes u0] at g5
                    rw [tru_yes u1] at g6
                    rw [tru_yes u2] at g7
                    have v6 : decide (r.bestDone ≤ (r.best.length : Int)) = false := decide_eq_false u6
                    go_wp2_with (first
                      | (go_at_call 19; have tk := g5; refine g5.mono ?_; rintro e w5 ⟨rfl, hb5⟩; have hB5 := below_next hbel (Nat.le_refl _) hb5; obtain ⟨c0, c1, c2, c3, c4, c5, c6, c7, c8, c9, c10, c11, c12⟩ := (bx.below hB5).rep (by omega); have g6x := g6 _ hB5; clear g5 tk)
                      | (go_at_call 19; refine g6x.mono ?_; rintro e w6 ⟨rfl, hb6⟩; have hB6 := below_next hB5 (Nat.le_refl _) hb6; obtain ⟨c0, c1, c2, c3, c4, c5, c6, c7, c8, c9, c10, c11, c12⟩ := (bx.below hB6).rep (by omega); have g7x := g7 _ hB6)
                      | (go_at_call 18; refine g7x.mono ?_; rintro e w7 ⟨rfl, hq⟩; have hq' := hq.symm; clear hq; subst hq'))
                    go_ret
                    exact ⟨by rw [hgood.out]; rfl, (hb (repO r (.slice s.lo r.log.length s.lc) (.slice s.ao r.acked.length s.ac) (.slice s.vo r.votes.length s.vc) (.slice s.wo r.voters.length s.wc) (.slice s.bo r.best.length s.bc) 25)).trans (hB6.mono (by simp))⟩
                · have hgood : Hid (tru (May r) = false) := tru_no (fun q => u5 q.best.2.2.1)
                  rw [tru_yes u0] at g5
                  rw [tru_yes u1] at g6
                  rw [tru_yes u2] at g7
                  have v5 : decide (0 ≤ r.bestDone) = false := decide_eq_false u5
                  go_wp2_with (first
                    | (go_at_call 19; have tk := g5; refine g5.mono ?_; rintro e w5 ⟨rfl, hb5⟩; have hB5 := below_next hbel (Nat.le_refl _) hb5; obtain ⟨c0, c1, c2, c3, c4, c5, c6, c7, c8, c9, c10, c11, c12⟩ := (bx.below hB5).rep (by omega); have g6x := g6 _ hB5; clear g5 tk)
                    | (go_at_call 19; refine g6x.mono ?_; rintro e w6 ⟨rfl, hb6⟩; have hB6 := below_next hB5 (Nat.le_refl _) hb6; obtain ⟨c0, c1, c2, c3, c4, c5, c6, c7, c8, c9, c10, c11, c12⟩ := (bx.below hB6).rep (by omega); have g7x := g7 _ hB6)
                    | (go_at_call 18; refine g7x.mono ?_; rintro e w7 ⟨rfl, hq⟩; have hq' := hq.symm; clear hq; subst hq'))
                  go_ret
                  exact ⟨by rw [hgood.out]; rfl, (hb (repO r (.slice s.lo r.log.length s.lc) (.slice s.ao r.acked.length s.ac) (.slice s.vo r.votes.length s.vc) (.slice s.wo r.voters.length s.wc) (.slice s.bo r.best.length s.bc) 25)).trans (hB6.mono (by simp))⟩
              · have hgood : Hid (tru (May r) = false) := tru_no (fun q => u4 q.best.2.1.2)
                rw [tru_yes u0] at g5
                rw [tru_yes u1] at g6
                rw [tru_yes u2] at g7
                have v4 : decide (r.bestView < 1099511627776) = false := decide_eq_false u4
                go_wp2_with (first
                  | (go_at_call 19; have tk := g5; refine g5.mono ?_; rintro e w5 ⟨rfl, hb5⟩; have hB5 := below_next hbel (Nat.le_refl _) hb5; obtain ⟨c0, c1, c2, c3, c4, c5, c6, c7, c8, c9, c10, c11, c12⟩ := (bx.below hB5).rep (by omega); have g6x := g6 _ hB5; clear g5 tk)
                  | (go_at_call 19; refine g6x.mono ?_; rintro e w6 ⟨rfl, hb6⟩; have hB6 := below_next hB5 (Nat.le_refl _) hb6; obtain ⟨c0, c1, c2, c3, c4, c5, c6, c7, c8, c9, c10, c11, c12⟩ := (bx.below hB6).rep (by omega); have g7x := g7 _ hB6)
                  | (go_at_call 18; refine g7x.mono ?_; rintro e w7 ⟨rfl, hq⟩; have hq' := hq.symm; clear hq; subst hq'))
                go_ret
                exact ⟨by rw [hgood.out]; rfl, (hb (repO r (.slice s.lo r.log.length s.lc) (.slice s.ao r.acked.length s.ac) (.slice s.vo r.votes.length s.vc) (.slice s.wo r.voters.length s.wc) (.slice s.bo r.best.length s.bc) 25)).trans (hB6.mono (by simp))⟩
            · have hgood : Hid (tru (May r) = false) := tru_no (fun q => u3 q.best.2.1.1)
              rw [tru_yes u0] at g5
              rw [tru_yes u1] at g6
              rw [tru_yes u2] at g7
              have v3 : decide (-1 ≤ r.bestView) = false := decide_eq_false u3
              go_wp2_with (first
                | (go_at_call 19; have tk := g5; refine g5.mono ?_; rintro e w5 ⟨rfl, hb5⟩; have hB5 := below_next hbel (Nat.le_refl _) hb5; obtain ⟨c0, c1, c2, c3, c4, c5, c6, c7, c8, c9, c10, c11, c12⟩ := (bx.below hB5).rep (by omega); have g6x := g6 _ hB5; clear g5 tk)
                | (go_at_call 19; refine g6x.mono ?_; rintro e w6 ⟨rfl, hb6⟩; have hB6 := below_next hB5 (Nat.le_refl _) hb6; obtain ⟨c0, c1, c2, c3, c4, c5, c6, c7, c8, c9, c10, c11, c12⟩ := (bx.below hB6).rep (by omega); have g7x := g7 _ hB6)
                | (go_at_call 18; refine g7x.mono ?_; rintro e w7 ⟨rfl, hq⟩; have hq' := hq.symm; clear hq; subst hq'))
              go_ret
              exact ⟨by rw [hgood.out]; rfl, (hb (repO r (.slice s.lo r.log.length s.lc) (.slice s.ao r.acked.length s.ac) (.slice s.vo r.votes.length s.vc) (.slice s.wo r.voters.length s.wc) (.slice s.bo r.best.length s.bc) 25)).trans (hB6.mono (by simp))⟩
          · have hgood : Hid (tru (May r) = false) := tru_no (fun q => u2 q.best.1)
            rw [tru_yes u0] at g5
            rw [tru_yes u1] at g6
            rw [tru_no u2] at g7
            go_wp2_with (first
              | (go_at_call 19; have tk := g5; refine g5.mono ?_; rintro e w5 ⟨rfl, hb5⟩; have hB5 := below_next hbel (Nat.le_refl _) hb5; obtain ⟨c0, c1, c2, c3, c4, c5, c6, c7, c8, c9, c10, c11, c12⟩ := (bx.below hB5).rep (by omega); have g6x := g6 _ hB5; clear g5 tk)
              | (go_at_call 19; refine g6x.mono ?_; rintro e w6 ⟨rfl, hb6⟩; have hB6 := below_next hB5 (Nat.le_refl _) hb6; obtain ⟨c0, c1, c2, c3, c4, c5, c6, c7, c8, c9, c10, c11, c12⟩ := (bx.below hB6).rep (by omega); have g7x := g7 _ hB6)
              | (go_at_call 18; refine g7x.mono ?_; rintro e w7 ⟨rfl, hq⟩; have hq' := hq.symm; clear hq; subst hq'))
            go_ret
            exact ⟨by rw [hgood.out]; rfl, (hb (repO r (.slice s.lo r.log.length s.lc) (.slice s.ao r.acked.length s.ac) (.slice s.vo r.votes.length s.vc) (.slice s.wo r.voters.length s.wc) (.slice s.bo r.best.length s.bc) 25)).trans (hB6.mono (by simp))⟩
        · have hgood : Hid (tru (May r) = false) := tru_no (fun q => u1 q.voters)
          rw [tru_yes u0] at g5
          rw [tru_no u1] at g6
          go_wp2_with (first
            | (go_at_call 19; have tk := g5; refine g5.mono ?_; rintro e w5 ⟨rfl, hb5⟩; have hB5 := below_next hbel (Nat.le_refl _) hb5; obtain ⟨c0, c1, c2, c3, c4, c5, c6, c7, c8, c9, c10, c11, c12⟩ := (bx.below hB5).rep (by omega); have g6x := g6 _ hB5; clear g5 tk)
            | (go_at_call 19; refine g6x.mono ?_; rintro e w6 ⟨rfl, hb6⟩; have hB6 := below_next hB5 (Nat.le_refl _) hb6; obtain ⟨c0, c1, c2, c3, c4, c5, c6, c7, c8, c9, c10, c11, c12⟩ := (bx.below hB6).rep (by omega); have g7x := g7 _ hB6))
          go_ret
          exact ⟨by rw [hgood.out]; rfl, (hb (repO r (.slice s.lo r.log.length s.lc) (.slice s.ao r.acked.length s.ac) (.slice s.vo r.votes.length s.vc) (.slice s.wo r.voters.length s.wc) (.slice s.bo r.best.length s.bc) 25)).trans (hB6.mono (by simp))⟩
      · have hgood : Hid (tru (May r) = false) := tru_no (fun q => u0 q.votes)
        rw [tru_no u0] at g5
        go_wp2_with (first
          | (go_at_call 19; have tk := g5; refine g5.mono ?_; rintro e w5 ⟨rfl, hb5⟩; have hB5 := below_next hbel (Nat.le_refl _) hb5; obtain ⟨c0, c1, c2, c3, c4, c5, c6, c7, c8, c9, c10, c11, c12⟩ := (bx.below hB5).rep (by omega); have g6x := g6 _ hB5; clear g5 tk))
        go_ret
        exact ⟨by rw [hgood.out]; rfl, (hb (repO r (.slice s.lo r.log.length s.lc) (.slice s.ao r.acked.length s.ac) (.slice s.vo r.votes.length s.vc) (.slice s.wo r.voters.length s.wc) (.slice s.bo r.best.length s.bc) 25)).trans (hB5.mono (by simp))⟩
set_option maxRecDepth 100000 in
set_option maxHeartbeats 4000000 in
theorem rmay_cz (z0 : Rep) (s : Sl) (hsm : SmallM0 (nv z0)) (h0 : z0.n = 1 ∨ z0.n = 3 ∨ z0.n = 5) (h1 : ¬ z0.id < 0) (h2 : ¬ z0.n ≤ z0.id) (h3 : 0 ≤ z0.view ∧ z0.view < 1099511627776)  (p0 : LogOk z0.log) (p1 : ¬ z0.commit < 0) (p2 : ¬ (z0.log.length : Int) < z0.commit) (p3 : (z0.acked.length : Int) = z0.n) (w : World) (hl : LiesR w w.heap.size s (nv z0)) :
    Calls Tryz.prog 8 #[repV (nv z0) s] w fun e w' => e = .returned (.bool (tru (May (nv z0)))) ∧ Below w.heap.size w w' := by
  have hb := fun ob : Obj => (Below.refl _ w).alloc (Nat.le_refl _) ob
  have hl0 := liesR_next hl (hb (repO (nv z0) (.slice s.lo z0.log.length s.lc) (.slice s.ao z0.acked.length s.ac) (.slice s.vo z0.votes.length s.vc) (.slice s.wo z0.voters.length s.wc) (.slice s.bo z0.best.length s.bc) 25)) (hb (repO (nv z0) (.slice s.lo z0.log.length s.lc) (.slice s.ao z0.acked.length s.ac) (.slice s.vo z0.votes.length s.vc) (.slice s.wo z0.voters.length s.wc) (.slice s.bo z0.best.length s.bc) 25)).size
  have bx := box_rep w (nv z0) (.slice s.lo z0.log.length s.lc) (.slice s.ao z0.acked.length s.ac) (.slice s.vo z0.votes.length s.vc) (.slice s.wo z0.voters.length s.wc) (.slice s.bo z0.best.length s.bc) undef 25 w.heap.size rfl
  have hB0 : Below (w.alloc (repO (nv z0) (.slice s.lo z0.log.length s.lc) (.slice s.ao z0.acked.length s.ac) (.slice s.vo z0.votes.length s.vc) (.slice s.wo z0.voters.length s.wc) (.slice s.bo z0.best.length s.bc) 25)).heap.size (w.alloc (repO (nv z0) (.slice s.lo z0.log.length s.lc) (.slice s.ao z0.acked.length s.ac) (.slice s.vo z0.votes.length s.vc) (.slice s.wo z0.voters.length s.wc) (.slice s.bo z0.best.length s.bc) 25)) (w.alloc (repO (nv z0) (.slice s.lo z0.log.length s.lc) (.slice s.ao z0.acked.length s.ac) (.slice s.vo z0.votes.length s.vc) (.slice s.wo z0.voters.length s.wc) (.slice s.bo z0.best.length s.bc) 25)) := Below.refl _ _
  have g5 := fun W (h : Below (w.alloc (repO (nv z0) (.slice s.lo z0.log.length s.lc) (.slice s.ao z0.acked.length s.ac) (.slice s.vo z0.votes.length s.vc) (.slice s.wo z0.voters.length s.wc) (.slice s.bo z0.best.length s.bc) 25)).heap.size (w.alloc (repO (nv z0) (.slice s.lo z0.log.length s.lc) (.slice s.ao z0.acked.length s.ac) (.slice s.vo z0.votes.length s.vc) (.slice s.wo z0.voters.length s.wc) (.slice s.bo z0.best.length s.bc) 25)) W) => rising_any z0.votes z0.n h0 s.vo s.vc hsm.2.2.1 W (liesN_wide hl0.votes h h.size)
  have g6 := fun W (h : Below (w.alloc (repO (nv z0) (.slice s.lo z0.log.length s.lc) (.slice s.ao z0.acked.length s.ac) (.slice s.vo z0.votes.length s.vc) (.slice s.wo z0.voters.length s.wc) (.slice s.bo z0.best.length s.bc) 25)).heap.size (w.alloc (repO (nv z0) (.slice s.lo z0.log.length s.lc) (.slice s.ao z0.acked.length s.ac) (.slice s.vo z0.votes.length s.vc) (.slice s.wo z0.voters.length s.wc) (.slice s.bo z0.best.length s.bc) 25)) W) => rising_any z0.voters z0.n h0 s.wo s.wc hsm.2.2.2 W (liesN_wide hl0.voters h h.size)
  have g7 := fun W (h : Below (w.alloc (repO (nv z0) (.slice s.lo z0.log.length s.lc) (.slice s.ao z0.acked.length s.ac) (.slice s.vo z0.votes.length s.vc) (.slice s.wo z0.voters.length s.wc) (.slice s.bo z0.best.length s.bc) 25)).heap.size (w.alloc (repO (nv z0) (.slice s.lo z0.log.length s.lc) (.slice s.ao z0.acked.length s.ac) (.slice s.vo z0.votes.length s.vc) (.slice s.wo z0.voters.length s.wc) (.slice s.bo z0.best.length s.bc) 25)) W) => rEntries_any z0.best s.bo s.bc W (liesE_next hl0.best h h.size)
  have hsm1 := hsm.1
  have p4 := p3
  have hvw : ViewsOk (nv z0) := ⟨h3, ⟨h3.1, Int.le_refl _⟩, .inl rfl, fun _ => rfl⟩
  have go := fun W => rodd_any z0.n W
  have gv := fun W => rtime_any z0.view W
  rw [tru_yes h0] at go
  rw [tru_yes h3] at gv
  have a1 : decide (z0.id < 0) = false := decide_eq_false h1
  have a2 : decide (z0.n ≤ z0.id) = false := decide_eq_false h2
  have ge := fun W (h : Below (w.alloc (repO (nv z0) (.slice s.lo z0.log.length s.lc) (.slice s.ao z0.acked.length s.ac) (.slice s.vo z0.votes.length s.vc) (.slice s.wo z0.voters.length s.wc) (.slice s.bo z0.best.length s.bc) 25)).heap.size (w.alloc (repO (nv z0) (.slice s.lo z0.log.length s.lc) (.slice s.ao z0.acked.length s.ac) (.slice s.vo z0.votes.length s.vc) (.slice s.wo z0.voters.length s.wc) (.slice s.bo z0.best.length s.bc) 25)) W) => rEntries_any z0.log s.lo s.lc W (liesE_next hl0.log h h.size)
  rw [tru_yes p0] at ge
  have b1 : decide (z0.commit < 0) = false := decide_eq_false p1
  have b2 : decide ((z0.log.length : Int) < z0.commit) = false := decide_eq_false p2
  have b3 : ((z0.acked.length : Int) != z0.n) = false := by simp [p3]
  have b4 : decide ((z0.acked.length : Int) = z0.n) = true := decide_eq_true p3
  go_enter Tryz.func8, Tryz.ntmps8
  go_wp2_with (first
    | (go_at_call 16; refine (go _).mono ?_; rintro e wn ⟨rfl, hq⟩; have hq' := hq.symm; clear hq; subst hq'; clear go)
    | (go_at_call 17; refine (gv _).mono ?_; rintro e wn ⟨rfl, hq⟩; have hq' := hq.symm; clear hq; subst hq')
    | (go_at_call 18; refine (ge _ hB0).mono ?_; rintro e wn ⟨rfl, hq⟩; have hq' := hq.symm; clear hq; subst hq'; clear ge))
  go_loopw [3] (fun i wr => ∃ k : Nat, k ≤ z0.acked.length ∧ i = .int .i64 (k : Int) ∧ Below (w.alloc (repO (nv z0) (.slice s.lo z0.log.length s.lc) (.slice s.ao z0.acked.length s.ac) (.slice s.vo z0.votes.length s.vc) (.slice s.wo z0.voters.length s.wc) (.slice s.bo z0.best.length s.bc) 25)).heap.size (w.alloc (repO (nv z0) (.slice s.lo z0.log.length s.lc) (.slice s.ao z0.acked.length s.ac) (.slice s.vo z0.votes.length s.vc) (.slice s.wo z0.voters.length s.wc) (.slice s.bo z0.best.length s.bc) 25)) wr ∧ Hid (∀ (i : Nat) x, i < k → z0.acked[i]? = some x → 0 ≤ x ∧ x ≤ (z0.log.length : Int))) (fun i _ => z0.acked.length - (intOf i).toNat)
  case atStart => exact ⟨0, by omega, rfl, Below.refl _ _, fun i x h => absurd h (Nat.not_lt_zero _)⟩
  case round =>
    obtain ⟨k, hk, rfl, hbel, HK⟩ := hrel
    obtain ⟨c0, c1, c2, c3, c4, c5, c6, c7, c8, c9, c10, c11, c12⟩ := (bx.below hbel).rep (by omega)
    by_cases hkl : k < z0.acked.length
    · have HX : Hid (z0.acked[k]? = some z0.acked[k]) := List.getElem?_eq_getElem hkl
      obtain ⟨a, ha, _, c⟩ := (liesN_wide hl0.ack hbel hbel.size) k z0.acked[k] HX.out
      unfold NumAt at c
      rw [Nat.mul_one] at c
      rw [ha] at c7
      clear ha
      have i1 : (k : Int) < (z0.acked.length : Int) := by omega
      generalize z0.acked[k] = y at *
      have d := fun z : Low wr => (z.cell (cell_lt c)).trans c
      have d7 := fun z : Low wr => (z.cell (cell_lt c7)).trans c7
      have d5 := fun z : Low wr => (z.cell (cell_lt c5)).trans c5
      clear g5 g6 g7
      by_cases t0 : y < 0
      · have hbad : Hid (tru (May (nv z0)) = false) := tru_no (fun q => by have h5 : 0 ≤ y ∧ y ≤ (z0.log.length : Int) := q.ack.2 k y HX.out; omega)
        go_wp2_with fail
        refine wp_region_low (by kernel_rfl) (by kernel_rfl) fun hsome => ?_
        repeat (go_big_quiet_step (fail))
        refine wpQuiet_nil ?_
        rintro _ ⟨z, rfl⟩
        have hz := z.low
        go_wp2
        go_ret
        exact ⟨by rw [hbad.out]; rfl, (hb (repO (nv z0) (.slice s.lo z0.log.length s.lc) (.slice s.ao z0.acked.length s.ac) (.slice s.vo z0.votes.length s.vc) (.slice s.wo z0.voters.length s.wc) (.slice s.bo z0.best.length s.bc) 25)).trans ((below_next hbel (Nat.le_refl _) hz).mono (by simp))⟩
      · have t1 : decide (y < 0) = false := decide_eq_false t0
        by_cases t2 : (z0.log.length : Int) < y
        · have hbad : Hid (tru (May (nv z0)) = false) := tru_no (fun q => by have h5 : 0 ≤ y ∧ y ≤ (z0.log.length : Int) := q.ack.2 k y HX.out; omega)
          go_wp2_with fail
          refine wp_region_low (by kernel_rfl) (by kernel_rfl) fun hsome => ?_
          repeat (go_big_quiet_step (fail))
          refine wpQuiet_nil ?_
          rintro _ ⟨z, rfl⟩
          have hz := z.low
          go_wp2
          go_ret
          exact ⟨by rw [hbad.out]; rfl, (hb (repO (nv z0) (.slice s.lo z0.log.length s.lc) (.slice s.ao z0.acked.length s.ac) (.slice s.vo z0.votes.length s.vc) (.slice s.wo z0.voters.length s.wc) (.slice s.bo z0.best.length s.bc) 25)).trans ((below_next hbel (Nat.le_refl _) hz).mono (by simp))⟩
        · have t3 : decide ((z0.log.length : Int) < y) = false := decide_eq_false t2
          have HK2 : Hid (∀ (i : Nat) x, i < k + 1 → z0.acked[i]? = some x → 0 ≤ x ∧ x ≤ (z0.log.length : Int)) := by
            intro i x hi hx
            rcases Nat.lt_or_ge i k with h3 | h3
            · exact HK.out i x h3 hx
            · obtain rfl : i = k := by omega
              rw [HX.out] at hx
              cases hx
              exact ⟨by omega, by omega⟩
          clear HK
          go_wp2_with fail
          refine wp_region_low (by kernel_rfl) (by kernel_rfl) fun hsome => ?_
          repeat (go_big_quiet_step (fail))
          refine wpQuiet_nil ?_
          rintro _ ⟨z, rfl⟩
          have hz := z.low
          go_wp2
          go_roundw
          case rel => exact ⟨k + 1, by omega, by go_num, below_next hbel (Nat.le_refl _) hz, HK2⟩
          case measure => simp [intOf]; omega
    · obtain rfl : k = z0.acked.length := by omega
      have g5 := g5 _ hbel
      by_cases u0 : IdsOk z0.votes z0.n
      · by_cases u1 : IdsOk z0.voters z0.n
        · by_cases u2 : LogOk z0.best
          · by_cases u3 : -1 ≤ z0.bestView
            · by_cases u4 : z0.bestView < 1099511627776
              · by_cases u5 : 0 ≤ z0.bestDone
                · by_cases u6 : z0.bestDone ≤ (z0.best.length : Int)
                  · have hgood : Hid (tru (May (nv z0)) = true) := tru_yes ⟨⟨h0, by omega, by omega⟩, hvw, p0, ⟨by omega, by omega⟩, ⟨p3, fun i x hx => HK.out i x (List.getElem?_eq_some_iff.1 hx).1 hx⟩, u0, u1, u2, ⟨by omega, u4⟩, u5, u6⟩
                    rw [tru_yes u0] at g5
                    rw [tru_yes u1] at g6
                    rw [tru_yes u2] at g7
                    go_wp2_with (first
                      | (go_at_call 19; have tk := g5; refine g5.mono ?_; rintro e w5 ⟨rfl, hb5⟩; have hB5 := below_next hbel (Nat.le_refl _) hb5; obtain ⟨c0, c1, c2, c3, c4, c5, c6, c7, c8, c9, c10, c11, c12⟩ := (bx.below hB5).rep (by omega); have g6x := g6 _ hB5; clear g5 tk)
                      | (go_at_call 19; refine g6x.mono ?_; rintro e w6 ⟨rfl, hb6⟩; have hB6 := below_next hB5 (Nat.le_refl _) hb6; obtain ⟨c0, c1, c2, c3, c4, c5, c6, c7, c8, c9, c10, c11, c12⟩ := (bx.below hB6).rep (by omega); have g7x := g7 _ hB6)
                      | (go_at_call 18; refine g7x.mono ?_; rintro e w7 ⟨rfl, hq⟩; have hq' := hq.symm; clear hq; subst hq'))
                    go_ret
                    exact ⟨by rw [hgood.out]; rfl, (hb (repO (nv z0) (.slice s.lo z0.log.length s.lc) (.slice s.ao z0.acked.length s.ac) (.slice s.vo z0.votes.length s.vc) (.slice s.wo z0.voters.length s.wc) (.slice s.bo z0.best.length s.bc) 25)).trans (hB6.mono (by simp))⟩
                  · have hgood : Hid (tru (May (nv z0)) = false) := tru_no (fun q => u6 q.best.2.2.2)
                    rw [tru_yes u0] at g5
                    rw [tru_yes u1] at g6
                    rw [tru_yes u2] at g7
                    have v6 : decide (z0.bestDone ≤ (z0.best.length : Int)) = false := decide_eq_false u6
                    go_wp2_with (first
                      | (go_at_call 19; have tk := g5; refine g5.mono ?_; rintro e w5 ⟨rfl, hb5⟩; have hB5 := below_next hbel (Nat.le_refl _) hb5; obtain ⟨c0, c1, c2, c3, c4, c5, c6, c7, c8, c9, c10, c11, c12⟩ := (bx.below hB5).rep (by omega); have g6x := g6 _ hB5; clear g5 tk)
                      | (go_at_call 19; refine g6x.mono ?_; rintro e w6 ⟨rfl, hb6⟩; have hB6 := below_next hB5 (Nat.le_refl _) hb6; obtain ⟨c0, c1, c2, c3, c4, c5, c6, c7, c8, c9, c10, c11, c12⟩ := (bx.below hB6).rep (by omega); have g7x := g7 _ hB6)
                      | (go_at_call 18; refine g7x.mono ?_; rintro e w7 ⟨rfl, hq⟩; have hq' := hq.symm; clear hq; subst hq'))
                    go_ret
                    exact ⟨by rw [hgood.out]; rfl, (hb (repO (nv z0) (.slice s.lo z0.log.length s.lc) (.slice s.ao z0.acked.length s.ac) (.slice s.vo z0.votes.length s.vc) (.slice s.wo z0.voters.length s.wc) (.slice s.bo z0.best.length s.bc) 25)).trans (hB6.mono (by simp))⟩
                · have hgood : Hid (tru (May (nv z0)) = false) := tru_no (fun q => u5 q.best.2.2.1)
                  rw [tru_yes u0] at g5
                  rw [tru_yes u1] at g6
                  rw [tru_yes u2] at g7
                  have v5 : decide (0 ≤ z0.bestDone) = false := decide_eq_false u5
                  go_wp2_with (first
                    | (go_at_call 19; have tk := g5; refine g5.mono ?_; rintro e w5 ⟨rfl, hb5⟩; have hB5 := below_next hbel (Nat.le_refl _) hb5; obtain ⟨c0, c1, c2, c3, c4, c5, c6, c7, c8, c9, c10, c11, c12⟩ := (bx.below hB5).rep (by omega); have g6x := g6 _ hB5; clear g5 tk)
                    | (go_at_call 19; refine g6x.mono ?_; rintro e w6 ⟨rfl, hb6⟩; have hB6 := below_next hB5 (Nat.le_refl _) hb6; obtain ⟨c0, c1, c2, c3, c4, c5, c6, c7, c8, c9, c10, c11, c12⟩ := (bx.below hB6).rep (by omega); have g7x := g7 _ hB6)
                    | (go_at_call 18; refine g7x.mono ?_; rintro e w7 ⟨rfl, hq⟩; have hq' := hq.symm; clear hq; subst hq'))
                  go_ret
                  exact ⟨by rw [hgood.out]; rfl, (hb (repO (nv z0) (.slice s.lo z0.log.length s.lc) (.slice s.ao z0.acked.length s.ac) (.slice s.vo z0.votes.length s.vc) (.slice s.wo z0.voters.length s.wc) (.slice s.bo z0.best.length s.bc) 25)).trans (hB6.mono (by simp))⟩
              · have hgood : Hid (tru (May (nv z0)) = false) := tru_no (fun q => u4 q.best.2.1.2)
                rw [tru_yes u0] at g5
                rw [tru_yes u1] at g6
                rw [tru_yes u2] at g7
                have v4 : decide (z0.bestView < 1099511627776) = false := decide_eq_false u4
                go_wp2_with (first
                  | (go_at_call 19; have tk := g5; refine g5.mono ?_; rintro e w5 ⟨rfl, hb5⟩; have hB5 := below_next hbel (Nat.le_refl _) hb5; obtain ⟨c0, c1, c2, c3, c4, c5, c6, c7, c8, c9, c10, c11, c12⟩ := (bx.below hB5).rep (by omega); have g6x := g6 _ hB5; clear g5 tk)
                  | (go_at_call 19; refine g6x.mono ?_; rintro e w6 ⟨rfl, hb6⟩; have hB6 := below_next hB5 (Nat.le_refl _) hb6; obtain ⟨c0, c1, c2, c3, c4, c5, c6, c7, c8, c9, c10, c11, c12⟩ := (bx.below hB6).rep (by omega); have g7x := g7 _ hB6)
                  | (go_at_call 18; refine g7x.mono ?_; rintro e w7 ⟨rfl, hq⟩; have hq' := hq.symm; clear hq; subst hq'))
                go_ret
                exact ⟨by rw [hgood.out]; rfl, (hb (repO (nv z0) (.slice s.lo z0.log.length s.lc) (.slice s.ao z0.acked.length s.ac) (.slice s.vo z0.votes.length s.vc) (.slice s.wo z0.voters.length s.wc) (.slice s.bo z0.best.length s.bc) 25)).trans (hB6.mono (by simp))⟩
            · have hgood : Hid (tru (May (nv z0)) = false) := tru_no (fun q => u3 q.best.2.1.1)
              rw [tru_yes u0] at g5
              rw [tru_yes u1] at g6
              rw [tru_yes u2] at g7
              have v3 : decide (-1 ≤ z0.bestView) = false := decide_eq_false u3
              go_wp2_with (first
                | (go_at_call 19; have tk := g5; refine g5.mono ?_; rintro e w5 ⟨rfl, hb5⟩; have hB5 := below_next hbel (Nat.le_refl _) hb5; obtain ⟨c0, c1, c2, c3, c4, c5, c6, c7, c8, c9, c10, c11, c12⟩ := (bx.below hB5).rep (by omega); have g6x := g6 _ hB5; clear g5 tk)
                | (go_at_call 19; refine g6x.mono ?_; rintro e w6 ⟨rfl, hb6⟩; have hB6 := below_next hB5 (Nat.le_refl _) hb6; obtain ⟨c0, c1, c2, c3, c4, c5, c6, c7, c8, c9, c10, c11, c12⟩ := (bx.below hB6).rep (by omega); have g7x := g7 _ hB6)
                | (go_at_call 18; refine g7x.mono ?_; rintro e w7 ⟨rfl, hq⟩; have hq' := hq.symm; clear hq; subst hq'))
              go_ret
              exact ⟨by rw [hgood.out]; rfl, (hb (repO (nv z0) (.slice s.lo z0.log.length s.lc) (.slice s.ao z0.acked.length s.ac) (.slice s.vo z0.votes.length s.vc) (.slice s.wo z0.voters.length s.wc) (.slice s.bo z0.best.length s.bc) 25)).trans (hB6.mono (by simp))⟩
          · have hgood : Hid (tru (May (nv z0)) = false) := tru_no (fun q => u2 q.best.1)
            rw [tru_yes u0] at g5
            rw [tru_yes u1] at g6
            rw [tru_no u2] at g7
            go_wp2_with (first
              | (go_at_call 19; have tk := g5; refine g5.mono ?_; rintro e w5 ⟨rfl, hb5⟩; have hB5 := below_next hbel (Nat.le_refl _) hb5; obtain ⟨c0, c1, c2, c3, c4, c5, c6, c7, c8, c9, c10, c11, c12⟩ := (bx.below hB5).rep (by omega); have g6x := g6 _ hB5; clear g5 tk)
              | (go_at_call 19; refine g6x.mono ?_; rintro e w6 ⟨rfl, hb6⟩; have hB6 := below_next hB5 (Nat.le_refl _) hb6; obtain ⟨c0, c1, c2, c3, c4, c5, c6, c7, c8, c9, c10, c11, c12⟩ := (bx.below hB6).rep (by omega); have g7x := g7 _ hB6)
              | (go_at_call 18; refine g7x.mono ?_; rintro e w7 ⟨rfl, hq⟩; have hq' := hq.symm; clear hq; subst hq'))
            go_ret
            exact ⟨by rw [hgood.out]; rfl, (hb (repO (nv z0) (.slice s.lo z0.log.length s.lc) (.slice s.ao z0.acked.length s.ac) (.slice s.vo z0.votes.length s.vc) (.slice s.wo z0.voters.length s.wc) (.slice s.bo z0.best.length s.bc) 25)).trans (hB6.mono (by simp))⟩
        · have hgood : Hid (tru (May (nv z0)) = false) := tru_no (fun q => u1 q.voters)
          rw [tru_yes u0] at g5
          rw [tru_no u1] at g6
          go_wp2_with (first
            | (go_at_call 19; have tk := g5; refine g5.mono ?_; rintro e w5 ⟨rfl, hb5⟩; have hB5 := below_next hbel (Nat.le_refl _) hb5; obtain ⟨c0, c1, c2, c3, c4, c5, c6, c7, c8, c9, c10, c11, c12⟩ := (bx.below hB5).rep (by omega); have g6x := g6 _ hB5; clear g5 tk)
            | (go_at_call 19; refine g6x.mono ?_; rintro e w6 ⟨rfl, hb6⟩; have hB6 := below_next hB5 (Nat.le_refl _) hb6; obtain ⟨c0, c1, c2, c3, c4, c5, c6, c7, c8, c9, c10, c11, c12⟩ := (bx.below hB6).rep (by omega); have g7x := g7 _ hB6))
          go_ret
          exact ⟨by rw [hgood.out]; rfl, (hb (repO (nv z0) (.slice s.lo z0.log.length s.lc) (.slice s.ao z0.acked.length s.ac) (.slice s.vo z0.votes.length s.vc) (.slice s.wo z0.voters.length s.wc) (.slice s.bo z0.best.length s.bc) 25)).trans (hB6.mono (by simp))⟩
      · have hgood : Hid (tru (May (nv z0)) = false) := tru_no (fun q => u0 q.votes)
        rw [tru_no u0] at g5
        go_wp2_with (first
          | (go_at_call 19; have tk := g5; refine g5.mono ?_; rintro e w5 ⟨rfl, hb5⟩; have hB5 := below_next hbel (Nat.le_refl _) hb5; obtain ⟨c0, c1, c2, c3, c4, c5, c6, c7, c8, c9, c10, c11, c12⟩ := (bx.below hB5).rep (by omega); have g6x := g6 _ hB5; clear g5 tk))
        go_ret
        exact ⟨by rw [hgood.out]; rfl, (hb (repO (nv z0) (.slice s.lo z0.log.length s.lc) (.slice s.ao z0.acked.length s.ac) (.slice s.vo z0.votes.length s.vc) (.slice s.wo z0.voters.length s.wc) (.slice s.bo z0.best.length s.bc) 25)).trans (hB5.mono (by simp))⟩
theorem rmay_y (r : Rep) (s : Sl) (hsm : SmallM0 r) (h0 : r.n = 1 ∨ r.n = 3 ∨ r.n = 5) (h1 : ¬ r.id < 0) (h2 : ¬ r.n ≤ r.id) (h3 : 0 ≤ r.view ∧ r.view < 1099511627776) (h4 : 0 ≤ r.normal ∧ r.normal < 1099511627776) (h5 : ¬ r.view < r.normal) (h6 : ¬ r.how < 0) (h7 : ¬ 2 < r.how) (h9 : ¬ r.how = 0) (w : World) (hl : LiesR w w.heap.size s r) :
    Calls Tryz.prog 8 #[repV r s] w fun e w' => e = .returned (.bool (tru (May r))) ∧ Below w.heap.size w w' := by
  by_cases p0 : LogOk r.log
  case neg => rw [tru_no (fun q => p0 q.log)]; exact rmay_b0 r s h0 h1 h2 h3 h4 h5 h6 h7 h9 p0 w hl
  by_cases p1 : r.commit < 0
  case pos => rw [tru_no (fun q => by have h5 : 0 ≤ r.commit := q.com.1; omega)]; exact rmay_b1 r s h0 h1 h2 h3 h4 h5 h6 h7 h9 p0 p1 w hl
  by_cases p2 : (r.log.length : Int) < r.commit
  case pos => rw [tru_no (fun q => by have h5 : r.commit ≤ (r.log.length : Int) := q.com.2; omega)]; exact rmay_b2 r s h0 h1 h2 h3 h4 h5 h6 h7 h9 p0 p1 p2 w hl
  by_cases p3 : (r.acked.length : Int) = r.n
  case neg => rw [tru_no (fun q => p3 q.ack.1)]; exact rmay_b3 r s h0 h1 h2 h3 h4 h5 h6 h7 h9 p0 p1 p2 p3 w hl
  exact rmay_c r s hsm h0 h1 h2 h3 h4 h5 h6 h7 h9 p0 p1 p2 p3 w hl
theorem rmay_z (z0 : Rep) (s : Sl) (hsm : SmallM0 (nv z0)) (h0 : z0.n = 1 ∨ z0.n = 3 ∨ z0.n = 5) (h1 : ¬ z0.id < 0) (h2 : ¬ z0.n ≤ z0.id) (h3 : 0 ≤ z0.view ∧ z0.view < 1099511627776) (w : World) (hl : LiesR w w.heap.size s (nv z0)) :
    Calls Tryz.prog 8 #[repV (nv z0) s] w fun e w' => e = .returned (.bool (tru (May (nv z0)))) ∧ Below w.heap.size w w' := by
  by_cases p0 : LogOk z0.log
  case neg => rw [tru_no (fun q => p0 q.log)]; exact rmay_b0z z0 s h0 h1 h2 h3 p0 w hl
  by_cases p1 : z0.commit < 0
  case pos => rw [tru_no (fun q => by have h5 : 0 ≤ z0.commit := q.com.1; omega)]; exact rmay_b1z z0 s h0 h1 h2 h3 p0 p1 w hl
  by_cases p2 : (z0.log.length : Int) < z0.commit
  case pos => rw [tru_no (fun q => by have h5 : z0.commit ≤ (z0.log.length : Int) := q.com.2; omega)]; exact rmay_b2z z0 s h0 h1 h2 h3 p0 p1 p2 w hl
  by_cases p3 : (z0.acked.length : Int) = z0.n
  case neg => rw [tru_no (fun q => p3 q.ack.1)]; exact rmay_b3z z0 s h0 h1 h2 h3 p0 p1 p2 p3 w hl
  exact rmay_cz z0 s hsm h0 h1 h2 h3 p0 p1 p2 p3 w hl
theorem rmay_any (r : Rep) (s : Sl) (hsm : SmallM0 r) (w : World) (hl : LiesR w w.heap.size s r) :
    Calls Tryz.prog 8 #[repV r s] w fun e w' => e = .returned (.bool (tru (May r))) ∧ Below w.heap.size w w' := by
  by_cases h0 : (r.n = 1 ∨ r.n = 3 ∨ r.n = 5)
  case neg => rw [tru_no (fun q => h0 q.one.1)]; exact rmay_a0 r s h0 w
  by_cases h1 : r.id < 0
  case pos => rw [tru_no (fun q => by have := q.one.2.1; omega)]; exact rmay_a1 r s h0 h1 w
  by_cases h2 : r.n ≤ r.id
  case pos => rw [tru_no (fun q => by have := q.one.2.2; omega)]; exact rmay_a2 r s h0 h1 h2 w
  by_cases h3 : (0 ≤ r.view ∧ r.view < 1099511627776)
  case neg => rw [tru_no (fun q => h3 q.views.1)]; exact rmay_a3 r s h0 h1 h2 h3 w
  by_cases h4 : (0 ≤ r.normal ∧ r.normal < 1099511627776)
  case neg => rw [tru_no (fun q => h4 ⟨q.views.2.1.1, by have := q.views.2.1.2; have := q.views.1.2; omega⟩)]; exact rmay_a4 r s h0 h1 h2 h3 h4 w
  by_cases h5 : r.view < r.normal
  case pos => rw [tru_no (fun q => by have := q.views.2.1.2; omega)]; exact rmay_a5 r s h0 h1 h2 h3 h4 h5 w
  by_cases h6 : r.how < 0
  case pos => rw [tru_no (fun q => by have := q.views.2.2.1; omega)]; exact rmay_a6 r s h0 h1 h2 h3 h4 h5 h6 w
  by_cases h7 : 2 < r.how
  case pos => rw [tru_no (fun q => by have := q.views.2.2.1; omega)]; exact rmay_a7 r s h0 h1 h2 h3 h4 h5 h6 h7 w
  by_cases h8 : r.how = 0 ∧ r.normal ≠ r.view
  case pos => rw [tru_no (fun q => h8.2 (q.views.2.2.2 h8.1))]; exact rmay_a8 r s h0 h1 h2 h3 h4 h5 h6 h7 h8 w
  by_cases h9 : r.how = 0
  · have e8 : r.normal = r.view := Classical.byContradiction fun n => h8 ⟨h9, n⟩
    obtain ⟨z0, rfl⟩ : ∃ z0, r = nv z0 := ⟨r, by cases r; simp only at e8 h9; subst e8 h9; rfl⟩
    exact rmay_z z0 s hsm h0 h1 h2 h3 w hl
  · exact rmay_y r s hsm h0 h1 h2 h3 h4 h5 h6 h7 h9 w hl
end Go.Proofs.YtajbdffepfjegaaGreat
