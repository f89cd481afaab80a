/-
  Contracts: the program's Suspect and Restart.
-/
import Derived.Test.YtgdehjdajjhjpaaRpRes
import Derived.Test.YtgdehjdajjhjpaaRpFcS
import Derived.Test.YtgdehjdajjhjpaaRpTd
namespace Go.Proofs.Ytgdehjdajjhjpaa
open Go.RowKit Num
open scoped Classical
set_option linter.unusedVariables false

set_option maxRecDepth 100000 in
set_option maxHeartbeats 1000000 in
theorem suspect_of (r : Rep) (s : Sl) (r' : Rep) (o' : Msgs) (E : Int)
    (hf : ∀ W, LiesR W W.heap.size s r → Calls Try.prog 37 #[repV r s, .func (.func 42) #[] #[]] W (FaceSays W r' o' E))
    (w : World) (hl : LiesR w w.heap.size s r) :
    Calls Try.prog 19 #[repV r s] w fun x w' => ∃ s' xo xc, x = .returned (.tuple #[repV r' s', .slice xo o'.length xc, .int .i64 E]) ∧ RowsS w.heap.size w' r' s' ∧ OwnO w.heap.size w' (.slice xo o'.length xc) o' ∧ Below w.heap.size w w' := by
  have hB : Below w.heap.size w ((w.alloc (repO r (.slice s.lo r.log.length s.lc) (.slice s.ao r.acked.length s.ac) (.slice s.vo r.votes.length s.vc) (.slice s.wo r.voters.length s.wc) (.slice s.bo r.best.length s.bc) 25)).alloc (repO0 25)) := ((Below.refl _ w).alloc (Nat.le_refl _) _).alloc (by simp) _
  have hface := hf ((w.alloc (repO r (.slice s.lo r.log.length s.lc) (.slice s.ao r.acked.length s.ac) (.slice s.vo r.votes.length s.vc) (.slice s.wo r.voters.length s.wc) (.slice s.bo r.best.length s.bc) 25)).alloc (repO0 25)) (liesR_next hl hB hB.size)
  have by0 := box_rep0 (w.alloc (repO r (.slice s.lo r.log.length s.lc) (.slice s.ao r.acked.length s.ac) (.slice s.vo r.votes.length s.vc) (.slice s.wo r.voters.length s.wc) (.slice s.bo r.best.length s.bc) 25)) undef 25 (w.heap.size + 1) (by simp)
  clear hf hl
  go_enter Try.func19, Try.ntmps19
  go_wp2_with (first
    | (go_at_call 37; refine hface.mono ?_; rintro e w1 ⟨s', xo, xc, rfl, hR1, hO1, hb1⟩
       have bz := by0.below hb1
       have hw1 := hB.trans (hb1.mono hB.size)
       obtain ⟨bG, hS, hwG⟩ := res_box (show w.heap.size ≤ w.heap.size + 1 by omega) bz hw1 r' s'
       have hRG := rowsS_deep (hR1.stay hS (by decide) (by decide)) hB.size
       have hOG := ownO_deep (ownO_stay hO1 hS (by decide) (by decide)) hB.size
       obtain ⟨d0, d1, d2, d3, d4, d5, d6, d7, d8, d9, d10, d11, d12⟩ := bz.rep (by omega)
       have dz := bz.unfrozen
       obtain ⟨g0, g1, g2, g3, g4, g5, g6, g7, g8, g9, g10, g11, g12⟩ := bG.rep (by omega)
       simp only [sets] at hRG hOG hwG g0 g1 g2 g3 g4 g5 g6 g7 g8 g9 g10 g11 g12
       clear hR1 hO1 hS bG bz hw1 hface by0 hb1 hB))
  refine bodyPost_ret (v := .tuple #[repV r' s', .slice xo o'.length xc, .int .i64 E]) (by simp [results, Try.results19, go_sem, g0, g1, g2, g3, g4, g5, g6, g7, g8, g9, g10, g11, g12]) rfl ⟨s', xo, xc, rfl, hRG, hOG, hwG⟩
set_option maxRecDepth 100000 in
set_option maxHeartbeats 1000000 in
theorem restart_of (r : Rep) (s : Sl) (r' : Rep) (o' : Msgs) (E : Int)
    (hf : ∀ W, LiesR W W.heap.size s r → Calls Try.prog 37 #[repV r s, .func (.func 45) #[] #[]] W (FaceSays W r' o' E))
    (w : World) (hl : LiesR w w.heap.size s r) :
    Calls Try.prog 21 #[repV r s] w fun x w' => ∃ s', x = .returned (.tuple #[repV r' s', .int .i64 E]) ∧ RowsS w.heap.size w' r' s' ∧ Below w.heap.size w w' := by
  have hB : Below w.heap.size w ((w.alloc (repO r (.slice s.lo r.log.length s.lc) (.slice s.ao r.acked.length s.ac) (.slice s.vo r.votes.length s.vc) (.slice s.wo r.voters.length s.wc) (.slice s.bo r.best.length s.bc) 25)).alloc (repO0 25)) := ((Below.refl _ w).alloc (Nat.le_refl _) _).alloc (by simp) _
  have hface := hf ((w.alloc (repO r (.slice s.lo r.log.length s.lc) (.slice s.ao r.acked.length s.ac) (.slice s.vo r.votes.length s.vc) (.slice s.wo r.voters.length s.wc) (.slice s.bo r.best.length s.bc) 25)).alloc (repO0 25)) (liesR_next hl hB hB.size)
  have by0 := box_rep0 (w.alloc (repO r (.slice s.lo r.log.length s.lc) (.slice s.ao r.acked.length s.ac) (.slice s.vo r.votes.length s.vc) (.slice s.wo r.voters.length s.wc) (.slice s.bo r.best.length s.bc) 25)) undef 25 (w.heap.size + 1) (by simp)
  clear hf hl
  go_enter Try.func21, Try.ntmps21
  go_wp2_with (first
    | (go_at_call 37; refine hface.mono ?_; rintro e w1 ⟨s', xo, xc, rfl, hR1, hO1, hb1⟩
       have hbA : Below w1.heap.size w1 (w1.alloc (repO r' (.slice s'.lo r'.log.length s'.lc) (.slice s'.ao r'.acked.length s'.ac) (.slice s'.vo r'.votes.length s'.vc) (.slice s'.wo r'.voters.length s'.wc) (.slice s'.bo r'.best.length s'.bc) 25)) := (Below.refl _ w1).alloc (Nat.le_refl _) _
       have bN := box_rep w1 r' (.slice s'.lo r'.log.length s'.lc) (.slice s'.ao r'.acked.length s'.ac) (.slice s'.vo r'.votes.length s'.vc) (.slice s'.wo r'.voters.length s'.wc) (.slice s'.bo r'.best.length s'.bc) undef 25 w1.heap.size rfl
       have bz := (by0.below hb1).below hbA
       have hw1 := below_next (hB.trans (hb1.mono hB.size)) (Nat.le_refl _) hbA
       have hR2 := hR1.below hbA
       obtain ⟨bG, hS, hwG⟩ := res_box (show w.heap.size ≤ w.heap.size + 1 by omega) bz hw1 r' s'
       have hRG := rowsS_deep (hR2.stay hS (by decide) (by decide)) hB.size
       obtain ⟨c0, c1, c2, c3, c4, c5, c6, c7, c8, c9, c10, c11, c12⟩ := bN.rep (by omega)
       obtain ⟨d0, d1, d2, d3, d4, d5, d6, d7, d8, d9, d10, d11, d12⟩ := bz.rep (by omega)
       have dz := bz.unfrozen
       obtain ⟨g0, g1, g2, g3, g4, g5, g6, g7, g8, g9, g10, g11, g12⟩ := bG.rep (by omega)
       simp only [sets] at hRG hwG g0 g1 g2 g3 g4 g5 g6 g7 g8 g9 g10 g11 g12
       clear hR1 hR2 hO1 hS bG bz bN hw1 hface by0 hb1 hB hbA))
  refine bodyPost_ret (v := .tuple #[repV r' s', .int .i64 E]) (by simp [results, Try.results21, go_sem, g0, g1, g2, g3, g4, g5, g6, g7, g8, g9, g10, g11, g12]) rfl ⟨s', rfl, hRG, hwG⟩
/-- What is made of a doubt, and of a new beginning. -/
def Num.susR (r : Rep) [∀ q, Decidable (May q)] : Rep × Msgs × Int :=
  if May r then
    if r.view + 1 < 1099511627776 then
      if r.n = 1 then (normalR r r.log (r.view + 1) r.commit, [], 0) else (changeR r (r.view + 1), allM (changeR r (r.view + 1)) (msg 4 0 0 0 []), 0)
    else (r, [], 4)
  else (r, [], 1)
def Num.resR (r : Rep) [∀ q, Decidable (May q)] : Rep × Int := if May r then (restartR r, 0) else (r, 1)
theorem suspect_anyS (r : Rep) (s : Sl) (hsm : SmallR r) (w : World) (hl : LiesR w w.heap.size s r) :
    Calls Try.prog 19 #[repV r s] w fun x w' => ∃ s' xo xc, x = .returned (.tuple #[repV (susR r).1 s', .slice xo (susR r).2.1.length xc, .int .i64 (susR r).2.2]) ∧ RowsS w.heap.size w' (susR r).1 s' ∧ OwnO w.heap.size w' (.slice xo (susR r).2.1.length xc) (susR r).2.1 ∧ Below w.heap.size w w' := by
  refine suspect_of r s _ _ _ (fun W hW => ?_) w hl
  unfold susR
  by_cases h1 : May r
  · rw [if_pos h1]
    have hv := h1.views.1
    by_cases h2 : r.view + 1 < 1099511627776
    · rw [if_pos h2]
      by_cases h3 : r.n = 1
      · rw [if_pos h3]
        refine (face_yes_suspect r s hsm h1 (normalR r r.log (r.view + 1) r.commit) [] none (fun _ => True) W (by simp) hW fun W1 g hb1 hT => (suspect_one _ g r [] W1 hT ⟨hv.1, h2⟩ h3).mono ?_).mono ?_
        · rintro e W2 ⟨rfl, hT2, hb2⟩
          exact ⟨rfl, hT2, LowB.of_below hb2 none, by simp⟩
        · rintro x W2 ⟨s', xo, xc, rfl, hR, hO, hL, _⟩
          exact ⟨s', xo, xc, rfl, hR, hO, hL.below⟩
      · rw [if_neg h3]
        refine (face_yes_suspect r s hsm h1 (changeR r (r.view + 1)) (allM (changeR r (r.view + 1)) (msg 4 0 0 0 [])) none (fun _ => True) W (by simp) hW fun W1 g hb1 hT => (suspect_many _ g r [] W1 hT ⟨hv.1, h2⟩ h3 (by simp)).mono ?_).mono ?_
        · rintro e W2 ⟨rfl, hT2, hb2⟩
          exact ⟨rfl, hT2, LowB.of_below hb2 none, by simp⟩
        · rintro x W2 ⟨s', xo, xc, rfl, hR, hO, hL, _⟩
          exact ⟨s', xo, xc, rfl, hR, hO, hL.below⟩
    · rw [if_neg h2]
      refine (face_no_suspect r s hsm h1 4 none W (by simp) hW fun W1 g hb1 hT => (suspect_no _ g r [] W1 hT hv h2).mono ?_).mono fun x W2 h => says_refused h
      rintro e W2 ⟨rfl, rfl⟩
      exact ⟨rfl, LowB.of_below (Below.refl _ _) none, by simp⟩
  · rw [if_neg h1]
    exact (face_arg r s hsm h1 _ none W hW).mono fun x W2 h => says_refused h
theorem restart_anyS (r : Rep) (s : Sl) (hsm : SmallR r) (w : World) (hl : LiesR w w.heap.size s r) :
    Calls Try.prog 21 #[repV r s] w fun x w' => ∃ s', x = .returned (.tuple #[repV (resR r).1 s', .int .i64 (resR r).2]) ∧ RowsS w.heap.size w' (resR r).1 s' ∧ Below w.heap.size w w' := by
  refine restart_of r s _ [] _ (fun W hW => ?_) w hl
  unfold resR
  by_cases h1 : May r
  · rw [if_pos h1]
    refine (face_yes_restart r s hsm h1 (restartR r) [] none (fun _ => True) W (by simp) hW fun W1 g hb1 hT => (restart_any _ g r [] W1 hT).mono ?_).mono ?_
    · rintro e W2 ⟨rfl, hT2, hb2⟩
      exact ⟨rfl, hT2, LowB.of_below hb2 none, by simp⟩
    · rintro x W2 ⟨s', xo, xc, rfl, hR, hO, hL, _⟩
      exact ⟨s', xo, xc, rfl, hR, hO, hL.below⟩
  · rw [if_neg h1]
    exact (face_arg r s hsm h1 _ none W hW).mono fun x W2 h => says_refused h
theorem suspect_any (r : Rep) (s : Sl) (hsm : SmallR r) (w : World) (hl : LiesR w w.heap.size s r) :
    Calls Try.prog 19 #[repV r s] w fun x w' => ∃ s' xo xc, x = .returned (.tuple #[repV (susR r).1 s', .slice xo (susR r).2.1.length xc, .int .i64 (susR r).2.2]) ∧ LiesR w' w'.heap.size s' (susR r).1 ∧ LiesM w' w'.heap.size xo (susR r).2.1 ∧ Below w.heap.size w w' :=
  (suspect_anyS r s hsm w hl).mono fun x w' ⟨s', xo, xc, e, hR, hO, hb⟩ => ⟨s', xo, xc, e, rowsS_lies hR, ownO_liesM hO, hb⟩
theorem restart_any2 (r : Rep) (s : Sl) (hsm : SmallR r) (w : World) (hl : LiesR w w.heap.size s r) :
    Calls Try.prog 21 #[repV r s] w fun x w' => ∃ s', x = .returned (.tuple #[repV (resR r).1 s', .int .i64 (resR r).2]) ∧ LiesR w' w'.heap.size s' (resR r).1 ∧ Below w.heap.size w w' :=
  (restart_anyS r s hsm w hl).mono fun x w' ⟨s', e, hR, hb⟩ => ⟨s', e, rowsS_lies hR, hb⟩
end Go.Proofs.Ytgdehjdajjhjpaa
