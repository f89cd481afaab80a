/-
  Contracts: the document's own: commands that may not be (13.1), by their numbers.
-/
import Derived.Test.YtbhaahkjglfjmaaCRefA
namespace Go.Proofs.Ytbhaahkjglfjmaa
open Go.RowKit Num
open scoped Classical
set_option linter.unusedVariables false

set_option maxRecDepth 100000 in
set_option maxHeartbeats 4000000 in
theorem refMay_no (c : Cmd) (s : Cs) (w : World) (h : ¬ (NumsOk c ∧ (c.text.size : Int) ≤ 1000 ∧ ¬ 200 < (c.keys.length : Int) ∧ ¬ 50 < (c.rngs.length : Int) ∧ ¬ 200 < (c.wrts.length : Int) ∧ ¬ 200 < (c.rows.length : Int))) :
    Calls Try.prog 10 #[.agg #[.int .i64 c.kind, .int .i64 c.client, .int .i64 c.seq, .int .i64 c.snap, .slice s.ko c.keys.length s.kc, .slice s.ro c.rngs.length s.rc, .slice s.wo c.wrts.length s.wc, .int .i64 c.dead, .int .i64 c.aft, .int .i64 c.held, .string c.text, .int .i64 c.code, .slice s.xo c.rows.length s.xc]] w fun e w' => e = .returned (.bool false) ∧ Below w.heap.size w w' := by
  have hbw : Below w.heap.size w (w.alloc (.cells #[.int .i64 c.kind, .int .i64 c.client, .int .i64 c.seq, .int .i64 c.snap, .slice s.ko c.keys.length s.kc, .slice s.ro c.rngs.length s.rc, .slice s.wo c.wrts.length s.wc, .int .i64 c.dead, .int .i64 c.aft, .int .i64 c.held, .string c.text, .int .i64 c.code, .slice s.xo c.rows.length s.xc] 27)) := (Below.refl _ w).alloc (Nat.le_refl _) _
  have tseq := fun W => time_any c.seq W
  have tsnap := fun W => time_any c.snap W
  have tdead := fun W => time_any c.dead W
  have taft := fun W => time_any c.aft W
  have theld := fun W => time_any c.held W
  by_cases p0 : c.kind < 0
  · clear h
    clear tseq tsnap tdead taft theld
    go_enter Try.func10, Try.ntmps10
    go_wp2
    go_ret
    exact ⟨rfl, hbw⟩
  · by_cases p1 : 5 < c.kind
    · clear h
      clear tseq tsnap tdead taft theld
      go_enter Try.func10, Try.ntmps10
      go_wp2
      go_ret
      exact ⟨rfl, hbw⟩
    · by_cases p2 : c.client < 0
      · clear h
        clear tseq tsnap tdead taft theld
        go_enter Try.func10, Try.ntmps10
        go_wp2
        go_ret
        exact ⟨rfl, hbw⟩
      · by_cases p3 : 100 < c.client
        · clear h
          clear tseq tsnap tdead taft theld
          go_enter Try.func10, Try.ntmps10
          go_wp2
          go_ret
          exact ⟨rfl, hbw⟩
        · by_cases p4 : TimeC c.seq
          · rw [tru_yes p4] at tseq
            by_cases p5 : TimeC c.snap
            · rw [tru_yes p5] at tsnap
              by_cases p6 : TimeC c.dead
              · rw [tru_yes p6] at tdead
                by_cases p7 : TimeC c.aft
                · rw [tru_yes p7] at taft
                  by_cases p8 : TimeC c.held
                  · rw [tru_yes p8] at theld
                    by_cases p9 : 200 < (c.keys.length : Int)
                    · clear h
                      clear p4 p5 p6 p7 p8
                      go_enter Try.func10, Try.ntmps10
                      go_wp2_with (first
      | (go_at_call 22; refine (tseq _).mono ?_; rintro e wn ⟨rfl, hq⟩; have hq' := hq.symm; clear hq; subst hq'; clear tseq)
      | (go_at_call 22; refine (tsnap _).mono ?_; rintro e wn ⟨rfl, hq⟩; have hq' := hq.symm; clear hq; subst hq'; clear tsnap)
      | (go_at_call 22; refine (tdead _).mono ?_; rintro e wn ⟨rfl, hq⟩; have hq' := hq.symm; clear hq; subst hq'; clear tdead)
      | (go_at_call 22; refine (taft _).mono ?_; rintro e wn ⟨rfl, hq⟩; have hq' := hq.symm; clear hq; subst hq'; clear taft)
      | (go_at_call 22; refine (theld _).mono ?_; rintro e wn ⟨rfl, hq⟩; have hq' := hq.symm; clear hq; subst hq'; clear theld))
                      go_ret
                      exact ⟨rfl, hbw⟩
                    · by_cases p10 : 50 < (c.rngs.length : Int)
                      · clear h
                        clear p4 p5 p6 p7 p8
                        go_enter Try.func10, Try.ntmps10
                        go_wp2_with (first
      | (go_at_call 22; refine (tseq _).mono ?_; rintro e wn ⟨rfl, hq⟩; have hq' := hq.symm; clear hq; subst hq'; clear tseq)
      | (go_at_call 22; refine (tsnap _).mono ?_; rintro e wn ⟨rfl, hq⟩; have hq' := hq.symm; clear hq; subst hq'; clear tsnap)
      | (go_at_call 22; refine (tdead _).mono ?_; rintro e wn ⟨rfl, hq⟩; have hq' := hq.symm; clear hq; subst hq'; clear tdead)
      | (go_at_call 22; refine (taft _).mono ?_; rintro e wn ⟨rfl, hq⟩; have hq' := hq.symm; clear hq; subst hq'; clear taft)
      | (go_at_call 22; refine (theld _).mono ?_; rintro e wn ⟨rfl, hq⟩; have hq' := hq.symm; clear hq; subst hq'; clear theld))
                        go_ret
                        exact ⟨rfl, hbw⟩
                      · by_cases p11 : 200 < (c.wrts.length : Int)
                        · clear h
                          clear p4 p5 p6 p7 p8
                          go_enter Try.func10, Try.ntmps10
                          go_wp2_with (first
      | (go_at_call 22; refine (tseq _).mono ?_; rintro e wn ⟨rfl, hq⟩; have hq' := hq.symm; clear hq; subst hq'; clear tseq)
      | (go_at_call 22; refine (tsnap _).mono ?_; rintro e wn ⟨rfl, hq⟩; have hq' := hq.symm; clear hq; subst hq'; clear tsnap)
      | (go_at_call 22; refine (tdead _).mono ?_; rintro e wn ⟨rfl, hq⟩; have hq' := hq.symm; clear hq; subst hq'; clear tdead)
      | (go_at_call 22; refine (taft _).mono ?_; rintro e wn ⟨rfl, hq⟩; have hq' := hq.symm; clear hq; subst hq'; clear taft)
      | (go_at_call 22; refine (theld _).mono ?_; rintro e wn ⟨rfl, hq⟩; have hq' := hq.symm; clear hq; subst hq'; clear theld))
                          go_ret
                          exact ⟨rfl, hbw⟩
                        · by_cases p12 : 1000 < (c.text.size : Int)
                          · clear h
                            clear p4 p5 p6 p7 p8
                            go_enter Try.func10, Try.ntmps10
                            go_wp2_with (first
      | (go_at_call 22; refine (tseq _).mono ?_; rintro e wn ⟨rfl, hq⟩; have hq' := hq.symm; clear hq; subst hq'; clear tseq)
      | (go_at_call 22; refine (tsnap _).mono ?_; rintro e wn ⟨rfl, hq⟩; have hq' := hq.symm; clear hq; subst hq'; clear tsnap)
      | (go_at_call 22; refine (tdead _).mono ?_; rintro e wn ⟨rfl, hq⟩; have hq' := hq.symm; clear hq; subst hq'; clear tdead)
      | (go_at_call 22; refine (taft _).mono ?_; rintro e wn ⟨rfl, hq⟩; have hq' := hq.symm; clear hq; subst hq'; clear taft)
      | (go_at_call 22; refine (theld _).mono ?_; rintro e wn ⟨rfl, hq⟩; have hq' := hq.symm; clear hq; subst hq'; clear theld))
                            go_ret
                            exact ⟨rfl, hbw⟩
                          · by_cases p13 : c.code < 0
                            · clear h
                              clear p4 p5 p6 p7 p8
                              go_enter Try.func10, Try.ntmps10
                              go_wp2_with (first
      | (go_at_call 22; refine (tseq _).mono ?_; rintro e wn ⟨rfl, hq⟩; have hq' := hq.symm; clear hq; subst hq'; clear tseq)
      | (go_at_call 22; refine (tsnap _).mono ?_; rintro e wn ⟨rfl, hq⟩; have hq' := hq.symm; clear hq; subst hq'; clear tsnap)
      | (go_at_call 22; refine (tdead _).mono ?_; rintro e wn ⟨rfl, hq⟩; have hq' := hq.symm; clear hq; subst hq'; clear tdead)
      | (go_at_call 22; refine (taft _).mono ?_; rintro e wn ⟨rfl, hq⟩; have hq' := hq.symm; clear hq; subst hq'; clear taft)
      | (go_at_call 22; refine (theld _).mono ?_; rintro e wn ⟨rfl, hq⟩; have hq' := hq.symm; clear hq; subst hq'; clear theld))
                              go_ret
                              exact ⟨rfl, hbw⟩
                            · by_cases p14 : 21 < c.code
                              · clear h
                                clear p4 p5 p6 p7 p8
                                go_enter Try.func10, Try.ntmps10
                                go_wp2_with (first
      | (go_at_call 22; refine (tseq _).mono ?_; rintro e wn ⟨rfl, hq⟩; have hq' := hq.symm; clear hq; subst hq'; clear tseq)
      | (go_at_call 22; refine (tsnap _).mono ?_; rintro e wn ⟨rfl, hq⟩; have hq' := hq.symm; clear hq; subst hq'; clear tsnap)
      | (go_at_call 22; refine (tdead _).mono ?_; rintro e wn ⟨rfl, hq⟩; have hq' := hq.symm; clear hq; subst hq'; clear tdead)
      | (go_at_call 22; refine (taft _).mono ?_; rintro e wn ⟨rfl, hq⟩; have hq' := hq.symm; clear hq; subst hq'; clear taft)
      | (go_at_call 22; refine (theld _).mono ?_; rintro e wn ⟨rfl, hq⟩; have hq' := hq.symm; clear hq; subst hq'; clear theld))
                                go_ret
                                exact ⟨rfl, hbw⟩
                              · by_cases p15 : 200 < (c.rows.length : Int)
                                · clear h
                                  clear p4 p5 p6 p7 p8
                                  go_enter Try.func10, Try.ntmps10
                                  go_wp2_with (first
      | (go_at_call 22; refine (tseq _).mono ?_; rintro e wn ⟨rfl, hq⟩; have hq' := hq.symm; clear hq; subst hq'; clear tseq)
      | (go_at_call 22; refine (tsnap _).mono ?_; rintro e wn ⟨rfl, hq⟩; have hq' := hq.symm; clear hq; subst hq'; clear tsnap)
      | (go_at_call 22; refine (tdead _).mono ?_; rintro e wn ⟨rfl, hq⟩; have hq' := hq.symm; clear hq; subst hq'; clear tdead)
      | (go_at_call 22; refine (taft _).mono ?_; rintro e wn ⟨rfl, hq⟩; have hq' := hq.symm; clear hq; subst hq'; clear taft)
      | (go_at_call 22; refine (theld _).mono ?_; rintro e wn ⟨rfl, hq⟩; have hq' := hq.symm; clear hq; subst hq'; clear theld))
                                  go_ret
                                  exact ⟨rfl, hbw⟩
                                · exact absurd ⟨⟨p4, p5, p6, p7, p8, by omega, by omega, by omega⟩, by omega, p9, p10, p11, p15⟩ h
                  · rw [tru_no p8] at theld
                    clear h
                    clear p4 p5 p6 p7 p8
                    go_enter Try.func10, Try.ntmps10
                    go_wp2_with (first
      | (go_at_call 22; refine (tseq _).mono ?_; rintro e wn ⟨rfl, hq⟩; have hq' := hq.symm; clear hq; subst hq'; clear tseq)
      | (go_at_call 22; refine (tsnap _).mono ?_; rintro e wn ⟨rfl, hq⟩; have hq' := hq.symm; clear hq; subst hq'; clear tsnap)
      | (go_at_call 22; refine (tdead _).mono ?_; rintro e wn ⟨rfl, hq⟩; have hq' := hq.symm; clear hq; subst hq'; clear tdead)
      | (go_at_call 22; refine (taft _).mono ?_; rintro e wn ⟨rfl, hq⟩; have hq' := hq.symm; clear hq; subst hq'; clear taft)
      | (go_at_call 22; refine (theld _).mono ?_; rintro e wn ⟨rfl, hq⟩; have hq' := hq.symm; clear hq; subst hq'; clear theld))
                    go_ret
                    exact ⟨rfl, hbw⟩
                · rw [tru_no p7] at taft
                  clear h
                  clear theld
                  clear p4 p5 p6 p7
                  go_enter Try.func10, Try.ntmps10
                  go_wp2_with (first
      | (go_at_call 22; refine (tseq _).mono ?_; rintro e wn ⟨rfl, hq⟩; have hq' := hq.symm; clear hq; subst hq'; clear tseq)
      | (go_at_call 22; refine (tsnap _).mono ?_; rintro e wn ⟨rfl, hq⟩; have hq' := hq.symm; clear hq; subst hq'; clear tsnap)
      | (go_at_call 22; refine (tdead _).mono ?_; rintro e wn ⟨rfl, hq⟩; have hq' := hq.symm; clear hq; subst hq'; clear tdead)
      | (go_at_call 22; refine (taft _).mono ?_; rintro e wn ⟨rfl, hq⟩; have hq' := hq.symm; clear hq; subst hq'; clear taft))
                  go_ret
                  exact ⟨rfl, hbw⟩
              · rw [tru_no p6] at tdead
                clear h
                clear taft theld
                clear p4 p5 p6
                go_enter Try.func10, Try.ntmps10
                go_wp2_with (first
      | (go_at_call 22; refine (tseq _).mono ?_; rintro e wn ⟨rfl, hq⟩; have hq' := hq.symm; clear hq; subst hq'; clear tseq)
      | (go_at_call 22; refine (tsnap _).mono ?_; rintro e wn ⟨rfl, hq⟩; have hq' := hq.symm; clear hq; subst hq'; clear tsnap)
      | (go_at_call 22; refine (tdead _).mono ?_; rintro e wn ⟨rfl, hq⟩; have hq' := hq.symm; clear hq; subst hq'; clear tdead))
                go_ret
                exact ⟨rfl, hbw⟩
            · rw [tru_no p5] at tsnap
              clear h
              clear tdead taft theld
              clear p4 p5
              go_enter Try.func10, Try.ntmps10
              go_wp2_with (first
      | (go_at_call 22; refine (tseq _).mono ?_; rintro e wn ⟨rfl, hq⟩; have hq' := hq.symm; clear hq; subst hq'; clear tseq)
      | (go_at_call 22; refine (tsnap _).mono ?_; rintro e wn ⟨rfl, hq⟩; have hq' := hq.symm; clear hq; subst hq'; clear tsnap))
              go_ret
              exact ⟨rfl, hbw⟩
          · rw [tru_no p4] at tseq
            clear h
            clear tsnap tdead taft theld
            clear p4
            go_enter Try.func10, Try.ntmps10
            go_wp2_with (first
      | (go_at_call 22; refine (tseq _).mono ?_; rintro e wn ⟨rfl, hq⟩; have hq' := hq.symm; clear hq; subst hq'; clear tseq))
            go_ret
            exact ⟨rfl, hbw⟩
end Go.Proofs.Ytbhaahkjglfjmaa
