/-
  The document's example; methods of clocks that there are not.
-/
import Derived.Test.YtfplkpgmpnhbdaaCkMet
namespace Go.Proofs.Ytfplkpgmpnhbdaa
open Go.RowKit Num
open scoped Classical
set_option linter.unusedVariables false

theorem tell_5 : tellC (setC (newC 1) 0 (-5)) 0 = 995 := by decide
theorem tell_9 : tellC (setC (nowC (setC (newC 1) 0 (-5)) 0) 0 (-9)) 0 = 995 := by decide
theorem odd_9 : (nowC (setC (nowC (setC (newC 1) 0 (-5)) 0) 0 (-9)) 0).odd = false := by decide
set_option maxRecDepth 100000 in
set_option maxHeartbeats 2000000 in
theorem awake_any (w : World) : Calls Try.prog 18 #[] w fun e w' => e = .returned (.bool true) ∧ Below w.heap.size w w' := by
  have hnew := cnew_yes 1 (by omega) (by omega) w
  have hset1 : ∀ w1, HoldC w1 w.heap.size (newC 1) → _ := fun w1 h => set_yes w.heap.size (newC 1) 0 (-5) (by decide) (by omega) w1 h
  have hnow1 : ∀ w1, HoldC w1 w.heap.size (setC (newC 1) 0 (-5)) → _ := fun w1 h => now_yes w.heap.size (setC (newC 1) 0 (-5)) 0 (by decide) w1 h
  rw [tell_5] at hnow1
  have hset2 : ∀ w1, HoldC w1 w.heap.size (nowC (setC (newC 1) 0 (-5)) 0) → _ := fun w1 h => set_yes w.heap.size (nowC (setC (newC 1) 0 (-5)) 0) 0 (-9) (by decide) (by omega) w1 h
  have hnow2 : ∀ w1, HoldC w1 w.heap.size (setC (nowC (setC (newC 1) 0 (-5)) 0) 0 (-9)) → _ := fun w1 h => now_yes w.heap.size (setC (nowC (setC (newC 1) 0 (-5)) 0) 0 (-9)) 0 (by decide) w1 h
  rw [tell_9] at hnow2
  have htrue : ∀ w1, HoldC w1 w.heap.size (nowC (setC (nowC (setC (newC 1) 0 (-5)) 0) 0 (-9)) 0) → _ := fun w1 h => true_any w.heap.size (nowC (setC (nowC (setC (newC 1) 0 (-5)) 0) 0 (-9)) 0) w1 h
  have hfair : ∀ w1, HoldC w1 w.heap.size (nowC (setC (nowC (setC (newC 1) 0 (-5)) 0) 0 (-9)) 0) → _ := fun w1 h => fair_any w.heap.size (nowC (setC (nowC (setC (newC 1) 0 (-5)) 0) 0 (-9)) 0) w1 h
  rw [show (nowC (setC (nowC (setC (newC 1) 0 (-5)) 0) 0 (-9)) 0).time = 1000 from rfl] at htrue
  rw [odd_9] at hfair
  generalize hA : newC 1 = A at *
  generalize hB : setC A 0 (-5) = B at *
  generalize hC : nowC B 0 = C at *
  generalize hD : setC C 0 (-9) = D at *
  generalize hE : nowC D 0 = E at *
  clear hA hB hC hD hE
  simp only [Int.natCast_zero] at hset1 hnow1 hset2 hnow2
  rw [show ((1 : Nat) : Int) = 1 from rfl] at hnew
  generalize hg : w.heap.size = g at *
  have hBg : ∀ k ∈ [g], g ≤ k := fun k hk => by simp at hk; omega
  go_enter Try.func18, Try.ntmps18
  go_wp2_with (first
    | (go_at_call 9; refine (num_any _ _).mono ?_; rintro e wn ⟨rfl, hq⟩; have hq' := hq.symm; clear hq; subst hq')
    | (go_at_call 7; refine hnew.mono ?_; rintro e w1 ⟨rfl, hh1, hb1⟩; clear hnew)
    | (go_at_call 12; refine (hset2 w3 hh3).mono ?_; rintro e w4 ⟨rfl, hh4, hb4⟩; clear hset2)
    | (go_at_call 12; refine (hset1 w1 hh1).mono ?_; rintro e w2 ⟨rfl, hh2, hb2⟩; clear hset1)
    | (go_at_call 14; refine (hnow2 w4 hh4).mono ?_; rintro e w5 ⟨rfl, hh5, hb5⟩; clear hnow2)
    | (go_at_call 14; refine (hnow1 w2 hh2).mono ?_; rintro e w3 ⟨rfl, hh3, hb3⟩; clear hnow1)
    | (go_at_call 16; refine (htrue w5 hh5).mono ?_; rintro e wn ⟨rfl, hq⟩; have hq' := hq.symm; clear hq; subst hq')
    | (go_at_call 17; refine (hfair w5 hh5).mono ?_; rintro e wn ⟨rfl, hq⟩; have hq' := hq.symm; clear hq; subst hq'))
  go_ret
  exact ⟨rfl, (((hb1.trans (hb2.below hBg)).trans (hb3.below hBg)).trans (hb4.below hBg)).trans (hb5.below hBg)⟩
theorem nil_tick (x : Int) (w : World) : Calls Try.prog 10 #[.pointer none, .int .i64 x] w fun e w' => e = .returned (.int .i64 20) ∧ w' = w := by
  go_enter Try.func10, Try.ntmps10
  go_wp2
  go_ret
  exact ⟨rfl, rfl⟩
theorem nil_has (i : Int) (w : World) : Calls Try.prog 19 #[.pointer none, .int .i64 i] w fun e w' => e = .returned (.bool false) ∧ w' = w := by
  go_enter Try.func19, Try.ntmps19
  go_wp2
  go_ret
  exact ⟨rfl, rfl⟩
theorem nil_set (i x : Int) (w : World) : Calls Try.prog 12 #[.pointer none, .int .i64 i, .int .i64 x] w fun e w' => e = .returned (.int .i64 20) ∧ w' = w := by
  go_enter Try.func12, Try.ntmps12
  go_wp2_with (first
    | (go_at_call 19; refine (nil_has _ _).mono ?_; rintro e wn ⟨rfl, hq⟩; have hq' := hq.symm; clear hq; subst hq'))
  go_ret
  exact ⟨rfl, rfl⟩
theorem nil_now (i : Int) (w : World) : Calls Try.prog 14 #[.pointer none, .int .i64 i] w fun e w' => e = .returned (.int .i64 0) ∧ w' = w := by
  go_enter Try.func14, Try.ntmps14
  go_wp2_with (first
    | (go_at_call 19; refine (nil_has _ _).mono ?_; rintro e wn ⟨rfl, hq⟩; have hq' := hq.symm; clear hq; subst hq'))
  go_ret
  exact ⟨rfl, rfl⟩
theorem nil_true (w : World) : Calls Try.prog 16 #[.pointer none] w fun e w' => e = .returned (.int .i64 0) ∧ w' = w := by
  go_enter Try.func16, Try.ntmps16
  go_wp2
  go_ret
  exact ⟨rfl, rfl⟩
theorem nil_fair (w : World) : Calls Try.prog 17 #[.pointer none] w fun e w' => e = .returned (.bool false) ∧ w' = w := by
  go_enter Try.func17, Try.ntmps17
  go_wp2
  go_ret
  exact ⟨rfl, rfl⟩
end Go.Proofs.Ytfplkpgmpnhbdaa
