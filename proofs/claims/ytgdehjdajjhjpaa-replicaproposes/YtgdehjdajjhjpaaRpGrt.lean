/-
  Contracts: has a replica more than is gone through?
-/
import Derived.Test.YtgdehjdajjhjpaaRpSame
import Derived.Test.YtgdehjdajjhjpaaRpCop
namespace Go.Proofs.Ytgdehjdajjhjpaa
open Go.RowKit Num
open scoped Classical
set_option linter.unusedVariables false

/-- What 'Great' tells. -/
def Num.greatB (r : Rep) : Bool := entB r.log || entB r.best || decide (20 < (r.acked.length : Int)) || decide (20 < (r.votes.length : Int)) || decide (20 < (r.voters.length : Int))
theorem great_small {r : Rep} (h : greatB r = false) : SmallR r := by
  unfold greatB at h
  simp only [Bool.or_eq_false_iff, decide_eq_false_iff_not] at h
  exact ⟨ent_small h.1.1.1.1, ent_small h.1.1.1.2, by omega, by omega, by omega⟩
set_option maxHeartbeats 1000000 in
theorem great_any (r : Rep) (s : Sl) (w : World) (hl : LiesR w w.heap.size s r) :
    Calls Try.prog 12 #[repV r s] w fun e w' => e = .returned (.bool (greatB r)) ∧ Below w.heap.size w w' := by
  have hb := (Below.refl _ w).alloc (Nat.le_refl _) (repO r (.slice s.lo r.log.length s.lc) (.slice s.ao r.acked.length s.ac) (.slice s.vo r.votes.length s.vc) (.slice s.wo r.voters.length s.wc) (.slice s.bo r.best.length s.bc) 25)
  have g1 := entries_any r.log s.lo s.lc (w.alloc (repO r (.slice s.lo r.log.length s.lc) (.slice s.ao r.acked.length s.ac) (.slice s.vo r.votes.length s.vc) (.slice s.wo r.voters.length s.wc) (.slice s.bo r.best.length s.bc) 25)) (liesE_next hl.log hb hb.size)
  have g2 := entries_any r.best s.bo s.bc (w.alloc (repO r (.slice s.lo r.log.length s.lc) (.slice s.ao r.acked.length s.ac) (.slice s.vo r.votes.length s.vc) (.slice s.wo r.voters.length s.wc) (.slice s.bo r.best.length s.bc) 25)) (liesE_next hl.best hb hb.size)
  unfold greatB
  generalize entB r.log = b1 at *
  generalize entB r.best = b2 at *
  clear hl
  cases b1 <;> cases b2
  all_goals
    go_enter Try.func12, Try.ntmps12
    go_wp2_with (first
      | (go_at_call 27; have tk := g1; refine g1.mono ?_; rintro e wn ⟨rfl, hq⟩; have hq' := hq.symm; clear hq; subst hq'; clear g1 tk)
      | (go_at_call 27; refine g2.mono ?_; rintro e wn ⟨rfl, hq⟩; have hq' := hq.symm; clear hq; subst hq'))
    all_goals
      go_ret
      exact ⟨by simp_all, hb⟩
end Go.Proofs.Ytgdehjdajjhjpaa
