/-
  Contracts: the list of the nine checks; the first of them that tells something.
-/
import Derived.Test.YtclliljkmmpglaaGreatApE
import Derived.WalkMore
namespace Go.Proofs.YtclliljkmmpglaaGreat
open Go.RowKit Go.Maps Num
open scoped Classical
set_option linter.unusedVariables false
set_option maxRecDepth 100000

abbrev Num.chkV (nm nt nc nf : Nat) : Array Value := #[.func (.func 70) #[] #[.pointer (some ⟨nt, 0, none⟩), .pointer (some ⟨nm, 0, none⟩)], .func (.func 72) #[] #[.pointer (some ⟨nf, 0, none⟩)], .func (.func 73) #[] #[.pointer (some ⟨nm, 0, none⟩), .pointer (some ⟨nc, 0, none⟩)], .func (.func 75) #[] #[.pointer (some ⟨nc, 0, none⟩)], .func (.func 76) #[] #[.pointer (some ⟨nc, 0, none⟩), .pointer (some ⟨nt, 0, none⟩)], .func (.func 77) #[] #[.pointer (some ⟨nc, 0, none⟩), .pointer (some ⟨nt, 0, none⟩)], .func (.func 78) #[] #[.pointer (some ⟨nt, 0, none⟩), .pointer (some ⟨nc, 0, none⟩)], .func (.func 79) #[] #[.pointer (some ⟨nm, 0, none⟩), .pointer (some ⟨nc, 0, none⟩)], .func (.func 81) #[] #[.pointer (some ⟨nm, 0, none⟩), .pointer (some ⟨nt, 0, none⟩), .pointer (some ⟨nc, 0, none⟩)]]
abbrev Num.chkW (w : World) (g : Nat) (t : Int) (s : Cs) (c : Cmd) (form : Int) : World := (((w.alloc (ptr1 g)).alloc (.cells #[.int .i64 t] 3)).alloc (cmCells s c)).alloc (.cells #[.int .i64 form] 26)
set_option maxRecDepth 100000 in
set_option maxHeartbeats 2000000 in
theorem checks_any (g : Nat) (t : Int) (s : Cs) (c : Cmd) (form : Int) (w : World) :
    Calls Tryz.prog 37 #[.pointer (some ⟨g, 0, none⟩), .int .i64 t, cmV s c, .int .i64 form] w fun e w' => e = .returned (.slice (some ⟨w.heap.size + 4, 0, none⟩) 9 9) ∧ ∃ ty, w' = (chkW w g t s c form).alloc (.cells (chkV w.heap.size (w.heap.size + 1) (w.heap.size + 2) (w.heap.size + 3)) ty (0, 0)) := by
  have hmf : ∀ (fn : Fn) (first cap : Array Value) (w : World), (Instr.makeFunc fn first cap).run Tryz.prog w = .ok (.func fn first cap) w := fun _ _ _ _ => rfl
  go_enter Tryz.func37, Tryz.ntmps37
  go_wp2
  go_ret
  exact ⟨rfl, _, rfl⟩
theorem jud_boxes {w W0 wr : World} {a b c d : Value} (hW : (w.alloc (.cells #[a, b] 96)).alloc (.cells #[c, d] 96) = W0) (hb : Below W0.heap.size W0 wr) :
    wr.heap[w.heap.size]? = some (.cells #[a, b] 96 (0, 0)) ∧ wr.heap[w.heap.size + 1]? = some (.cells #[c, d] 96 (0, 0)) ∧ Below w.heap.size w wr := by
  subst hW
  exact ⟨below_box hb (alloc_box _ (heap_new w _)), below_box hb (heap_newB _ _ _ (by simp)), below_next (((Below.refl _ w).alloc (Nat.le_refl _) _).alloc (by simp) _) (Nat.le_refl _) hb⟩
theorem jud_end {w W1 : World} {p : Int × Int} {e0 e1 a0 a1 : Value} (hr : W1.heap[w.heap.size]? = some (.cells #[a0, a1] 96 (0, 0))) (hf : W1.heap[w.heap.size + 1]? = some (.cells #[e0, e1] 96 (0, 0))) (hb : Below w.heap.size w W1) :
    ∀ W2, (W1.setCell ⟨w.heap.size + 1, 0, none⟩ (.int .i64 p.1)).setCell ⟨w.heap.size + 1, 1, none⟩ (.int .i64 p.2) = W2 → W2.heap[w.heap.size]? = some (.cells #[a0, a1] 96 (0, 0)) ∧ W2.heap[w.heap.size + 1]? = some (.cells #[.int .i64 p.1, .int .i64 p.2] 96 (0, 0)) ∧ Below w.heap.size w W2 := by
  rintro W2 rfl
  refine ⟨?_, ?_, ?_⟩
  · rw [Below.heap_setCell _ _ _ _ (by show w.heap.size ≠ w.heap.size + 1; omega), Below.heap_setCell _ _ _ _ (by show w.heap.size ≠ w.heap.size + 1; omega)]
    exact hr
  · exact set_heap (i := 1) (set_heap (i := 0) hf _) _
  · exact (hb.trans (below_grown (grown_set _ _ 0 _) (by omega) hb.size)).trans (below_grown (grown_set _ _ 1 _) (by omega) (by simpa using hb.size))
theorem jud_res {w W1 : World} {p : Int × Int} {a0 a1 : Value} (hr : W1.heap[w.heap.size]? = some (.cells #[a0, a1] 96 (0, 0))) (hb : Below w.heap.size w W1) :
    ((W1.setCell ⟨w.heap.size, 0, none⟩ (.int .i64 p.1)).setCell ⟨w.heap.size, 1, none⟩ (.int .i64 p.2)).cell? ⟨w.heap.size, 0, none⟩ = some (.int .i64 p.1) ∧ ((W1.setCell ⟨w.heap.size, 0, none⟩ (.int .i64 p.1)).setCell ⟨w.heap.size, 1, none⟩ (.int .i64 p.2)).cell? ⟨w.heap.size, 1, none⟩ = some (.int .i64 p.2) ∧ Below w.heap.size w ((W1.setCell ⟨w.heap.size, 0, none⟩ (.int .i64 p.1)).setCell ⟨w.heap.size, 1, none⟩ (.int .i64 p.2)) := by
  have s2 := set_heap (i := 1) (set_heap (i := 0) hr (.int .i64 p.1)) (.int .i64 p.2)
  exact ⟨box_cell s2 0 _ rfl, box_cell s2 1 _ rfl, (hb.trans (below_grown (grown_set _ _ 0 _) (Nat.le_refl _) hb.size)).trans (below_grown (grown_set _ _ 1 _) (Nat.le_refl _) (by simpa using hb.size))⟩
abbrev Num.jW1 (w1 : World) (p : Int × Int) : World := w1.alloc (.cells #[.int .i64 p.1, .int .i64 p.2] 96)
abbrev Num.jY (n : Nat) (w1 : World) (p : Int × Int) : World := ((jW1 w1 p).setCell ⟨n + 1, 0, none⟩ (.int .i64 p.1)).setCell ⟨n + 1, 1, none⟩ (.int .i64 p.2)
abbrev Num.jZ (n : Nat) (Y : World) (p : Int × Int) : World := (Y.setCell ⟨n, 0, none⟩ (.int .i64 p.1)).setCell ⟨n, 1, none⟩ (.int .i64 p.2)
theorem jud_hit {w W0 wr w1 : World} (p : Int × Int) (hW : (w.alloc (.cells #[.int .i64 0, .int .i64 0] 96)).alloc (.cells #[.int .i64 3, .int .i64 0] 96) = W0) (hb : Below W0.heap.size W0 wr) (hb1 : Below wr.heap.size wr w1) :
    ((jW1 w1 p).cell? ⟨w.heap.size + 1, 0, none⟩ = some (.int .i64 3) ∧ (jW1 w1 p).cell? ⟨w.heap.size + 1, 1, none⟩ = some (.int .i64 0) ∧ (jW1 w1 p).frozen? ⟨w.heap.size + 1, 0, none⟩ = false ∧ (jW1 w1 p).frozen? ⟨w.heap.size + 1, 1, none⟩ = false) ∧
    ((jY w.heap.size w1 p).cell? ⟨w.heap.size + 1, 0, none⟩ = some (.int .i64 p.1) ∧ (jY w.heap.size w1 p).cell? ⟨w.heap.size + 1, 1, none⟩ = some (.int .i64 p.2) ∧ (jY w.heap.size w1 p).cell? ⟨w.heap.size, 0, none⟩ = some (.int .i64 0) ∧ (jY w.heap.size w1 p).cell? ⟨w.heap.size, 1, none⟩ = some (.int .i64 0) ∧ (jY w.heap.size w1 p).frozen? ⟨w.heap.size, 0, none⟩ = false ∧ (jY w.heap.size w1 p).frozen? ⟨w.heap.size, 1, none⟩ = false) ∧
    (jZ w.heap.size (jY w.heap.size w1 p) p).cell? ⟨w.heap.size, 0, none⟩ = some (.int .i64 p.1) ∧ (jZ w.heap.size (jY w.heap.size w1 p) p).cell? ⟨w.heap.size, 1, none⟩ = some (.int .i64 p.2) ∧ Below w.heap.size w (jZ w.heap.size (jY w.heap.size w1 p) p) ∧ Below W0.heap.size W0 (jW1 w1 p) := by
  have hb2 : Below W0.heap.size W0 (jW1 w1 p) := (below_next hb (Nat.le_refl _) hb1).alloc (below_next hb (Nat.le_refl _) hb1).size _
  obtain ⟨r, f, hbw⟩ := jud_boxes hW hb2
  obtain ⟨r2, f2, hbw2⟩ := jud_end (p := p) r f hbw _ rfl
  obtain ⟨e1, e2, e3⟩ := jud_res (p := p) r2 hbw2
  exact ⟨⟨box_cell f 0 _ rfl, box_cell f 1 _ rfl, box_open f 0, box_open f 1⟩, ⟨box_cell f2 0 _ rfl, box_cell f2 1 _ rfl, box_cell r2 0 _ rfl, box_cell r2 1 _ rfl, box_open r2 0, box_open r2 1⟩, e1, e2, e3, hb2⟩
set_option maxRecDepth 100000 in
set_option maxHeartbeats 8000000 in
theorem judge_any (N nm nt nc nf : Nat) (V : Nat → Int × Int) (w : World) (hN : N < w.heap.size) (hrow : ∀ (k : Nat) v, (chkV nm nt nc nf)[k]? = some v → w.cell? ⟨N, k, none⟩ = some v)
    (hc1 : ∀ W, Below w.heap.size w W → Calls Tryz.prog 70 #[.pointer (some ⟨nt, 0, none⟩), .pointer (some ⟨nm, 0, none⟩)] W fun e w' => e = .returned (verdV (V 0)) ∧ Below W.heap.size W w') (hc2 : ∀ W, Below w.heap.size w W → Calls Tryz.prog 72 #[.pointer (some ⟨nf, 0, none⟩)] W fun e w' => e = .returned (verdV (V 1)) ∧ Below W.heap.size W w') (hc3 : ∀ W, Below w.heap.size w W → Calls Tryz.prog 73 #[.pointer (some ⟨nm, 0, none⟩), .pointer (some ⟨nc, 0, none⟩)] W fun e w' => e = .returned (verdV (V 2)) ∧ Below W.heap.size W w') (hc4 : ∀ W, Below w.heap.size w W → Calls Tryz.prog 75 #[.pointer (some ⟨nc, 0, none⟩)] W fun e w' => e = .returned (verdV (V 3)) ∧ Below W.heap.size W w') (hc5 : ∀ W, Below w.heap.size w W → Calls Tryz.prog 76 #[.pointer (some ⟨nc, 0, none⟩), .pointer (some ⟨nt, 0, none⟩)] W fun e w' => e = .returned (verdV (V 4)) ∧ Below W.heap.size W w') (hc6 : ∀ W, Below w.heap.size w W → Calls Tryz.prog 77 #[.pointer (some ⟨nc, 0, none⟩), .pointer (some ⟨nt, 0, none⟩)] W fun e w' => e = .returned (verdV (V 5)) ∧ Below W.heap.size W w') (hc7 : ∀ W, Below w.heap.size w W → Calls Tryz.prog 78 #[.pointer (some ⟨nt, 0, none⟩), .pointer (some ⟨nc, 0, none⟩)] W fun e w' => e = .returned (verdV (V 6)) ∧ Below W.heap.size W w') (hc8 : ∀ W, Below w.heap.size w W → Calls Tryz.prog 79 #[.pointer (some ⟨nm, 0, none⟩), .pointer (some ⟨nc, 0, none⟩)] W fun e w' => e = .returned (verdV (V 7)) ∧ Below W.heap.size W w') (hc9 : ∀ W, Below w.heap.size w W → Calls Tryz.prog 81 #[.pointer (some ⟨nm, 0, none⟩), .pointer (some ⟨nt, 0, none⟩), .pointer (some ⟨nc, 0, none⟩)] W fun e w' => e = .returned (verdV (V 8)) ∧ Below W.heap.size W w') :
    Calls Tryz.prog 36 #[.slice (some ⟨N, 0, none⟩) 9 9] w fun e w' => e = .returned (verdV (judgeV V 9)) ∧ Below w.heap.size w w' := by
  have hrow2 : ∀ W, Below w.heap.size w W → ∀ (k : Nat) v, (chkV nm nt nc nf)[k]? = some v → W.cell? ⟨N, k, none⟩ = some v := fun W hb k v hv => (hb.cell (p := ⟨N, k, none⟩) hN).trans (hrow k v hv)
  go_enter Tryz.func36, Tryz.ntmps36
  go_wp2
  go_step3
  go_wp2
  go_step3
  go_wp2
  obtain ⟨W0, hW0⟩ : ∃ W0, (w.alloc (.cells #[.int .i64 0, .int .i64 0] 96)).alloc (.cells #[.int .i64 3, .int .i64 0] 96) = W0 := ⟨_, rfl⟩
  rw [hW0]
  go_loopw [10] (fun i wr => ∃ k : Nat, k ≤ 9 ∧ i = .int .i64 (k : Int) ∧ Hid (judgeV V 9 = judgeV V (9 - k)) ∧ Below W0.heap.size W0 wr) (fun i _ => 9 - (intOf i).toNat)
  case atStart => exact ⟨0, by omega, rfl, rfl, Below.refl _ _⟩
  case round =>
    obtain ⟨k, hk, rfl, HJ, hbel⟩ := hrel
    obtain ⟨r, f, hbw⟩ := jud_boxes hW0 hbel
    by_cases hk9 : k = 9
    · subst hk9
      have HJ2 : Hid (judgeV V 9 = (3, 0)) := HJ.out
      have f0 := box_cell f 0 _ rfl
      have f1 := box_cell f 1 _ rfl
      have r0 := box_cell r 0 _ rfl
      have r1 := box_cell r 1 _ rfl
      have r2 := box_open r 0
      have r3 := box_open r 1
      obtain ⟨e1, e2, e3⟩ := jud_res (p := (3, 0)) r hbw
      clear HJ hrow hrow2 hc1 hc2 hc3 hc4 hc5 hc6 hc7 hc8 hc9
      go_wp2
      try rw [Exit.noGoto_ret]
      refine bodyPost_ret (v := verdV (3, 0)) (by simp [results, Tryz.results36, go_sem, e1, e2]) rfl ⟨by rw [HJ2.out], e3⟩
    · clear r f
      obtain rfl | rfl | rfl | rfl | rfl | rfl | rfl | rfl | rfl : k = 0 ∨ k = 1 ∨ k = 2 ∨ k = 3 ∨ k = 4 ∨ k = 5 ∨ k = 6 ∨ k = 7 ∨ k = 8 := by omega
      · have hcl := hrow2 wr hbw 0 _ rfl
        have hci := hc1 wr hbw
        have HJ0 := HJ.out
        by_cases hz : (V 0).1 = 0
        · have HJ2 : Hid (judgeV V 9 = judgeV V (9 - (0 + 1))) := HJ0.trans (judge_pass (by omega) hz)
          generalize V 0 = p at *
          have hz2 : (p.1 == 0) = true := by simp [hz]
          clear HJ HJ0 hz hc1 hc2 hc3 hc4 hc5 hc6 hc7 hc8 hc9 hrow hrow2
          go_wp2_with (first | (go_at_call 70; refine hci.mono ?_; rintro e w1 ⟨rfl, hb1⟩; obtain ⟨⟨a1, a2, a3, a4⟩, ⟨d1, d2, d3, d4, d5, d6⟩, e1, e2, e3, hb2⟩ := jud_hit p hW0 hbel hb1))
          go_roundw
          case rel => exact ⟨0 + 1, by omega, by go_num, HJ2, hb2⟩
          case measure => simp [intOf]
        · have HJ2 : Hid (judgeV V 9 = V 0) := HJ0.trans (judge_hit (by omega) hz)
          generalize V 0 = p at *
          have hz2 : (p.1 == 0) = false := by simp [hz]
          clear HJ HJ0 hz hc1 hc2 hc3 hc4 hc5 hc6 hc7 hc8 hc9 hrow hrow2
          go_wp2_with (first | (go_at_call 70; refine hci.mono ?_; rintro e w1 ⟨rfl, hb1⟩; obtain ⟨⟨a1, a2, a3, a4⟩, ⟨d1, d2, d3, d4, d5, d6⟩, e1, e2, e3, hb2⟩ := jud_hit p hW0 hbel hb1))
          try rw [Exit.noGoto_ret]
          refine bodyPost_ret (v := verdV p) (by simp [results, Tryz.results36, go_sem, e1, e2]) rfl ⟨by rw [HJ2.out], e3⟩
      · have hcl := hrow2 wr hbw 1 _ rfl
        have hci := hc2 wr hbw
        have HJ0 := HJ.out
        by_cases hz : (V 1).1 = 0
        · have HJ2 : Hid (judgeV V 9 = judgeV V (9 - (1 + 1))) := HJ0.trans (judge_pass (by omega) hz)
          generalize V 1 = p at *
          have hz2 : (p.1 == 0) = true := by simp [hz]
          clear HJ HJ0 hz hc1 hc2 hc3 hc4 hc5 hc6 hc7 hc8 hc9 hrow hrow2
          go_wp2_with (first | (go_at_call 72; refine hci.mono ?_; rintro e w1 ⟨rfl, hb1⟩; obtain ⟨⟨a1, a2, a3, a4⟩, ⟨d1, d2, d3, d4, d5, d6⟩, e1, e2, e3, hb2⟩ := jud_hit p hW0 hbel hb1))
          go_roundw
          case rel => exact ⟨1 + 1, by omega, by go_num, HJ2, hb2⟩
          case measure => simp [intOf]
        · have HJ2 : Hid (judgeV V 9 = V 1) := HJ0.trans (judge_hit (by omega) hz)
          generalize V 1 = p at *
          have hz2 : (p.1 == 0) = false := by simp [hz]
          clear HJ HJ0 hz hc1 hc2 hc3 hc4 hc5 hc6 hc7 hc8 hc9 hrow hrow2
          go_wp2_with (first | (go_at_call 72; refine hci.mono ?_; rintro e w1 ⟨rfl, hb1⟩; obtain ⟨⟨a1, a2, a3, a4⟩, ⟨d1, d2, d3, d4, d5, d6⟩, e1, e2, e3, hb2⟩ := jud_hit p hW0 hbel hb1))
          try rw [Exit.noGoto_ret]
          refine bodyPost_ret (v := verdV p) (by simp [results, Tryz.results36, go_sem, e1, e2]) rfl ⟨by rw [HJ2.out], e3⟩
      · have hcl := hrow2 wr hbw 2 _ rfl
        have hci := hc3 wr hbw
        have HJ0 := HJ.out
        by_cases hz : (V 2).1 = 0
        · have HJ2 : Hid (judgeV V 9 = judgeV V (9 - (2 + 1))) := HJ0.trans (judge_pass (by omega) hz)
          generalize V 2 = p at *
          have hz2 : (p.1 == 0) = true := by simp [hz]
          clear HJ HJ0 hz hc1 hc2 hc3 hc4 hc5 hc6 hc7 hc8 hc9 hrow hrow2
          go_wp2_with (first | (go_at_call 73; refine hci.mono ?_; rintro e w1 ⟨rfl, hb1⟩; obtain ⟨⟨a1, a2, a3, a4⟩, ⟨d1, d2, d3, d4, d5, d6⟩, e1, e2, e3, hb2⟩ := jud_hit p hW0 hbel hb1))
          go_roundw
          case rel => exact ⟨2 + 1, by omega, by go_num, HJ2, hb2⟩
          case measure => simp [intOf]
        · have HJ2 : Hid (judgeV V 9 = V 2) := HJ0.trans (judge_hit (by omega) hz)
          generalize V 2 = p at *
          have hz2 : (p.1 == 0) = false := by simp [hz]
          clear HJ HJ0 hz hc1 hc2 hc3 hc4 hc5 hc6 hc7 hc8 hc9 hrow hrow2
          go_wp2_with (first | (go_at_call 73; refine hci.mono ?_; rintro e w1 ⟨rfl, hb1⟩; obtain ⟨⟨a1, a2, a3, a4⟩, ⟨d1, d2, d3, d4, d5, d6⟩, e1, e2, e3, hb2⟩ := jud_hit p hW0 hbel hb1))
          try rw [Exit.noGoto_ret]
          refine bodyPost_ret (v := verdV p) (by simp [results, Tryz.results36, go_sem, e1, e2]) rfl ⟨by rw [HJ2.out], e3⟩
      · have hcl := hrow2 wr hbw 3 _ rfl
        have hci := hc4 wr hbw
        have HJ0 := HJ.out
        by_cases hz : (V 3).1 = 0
        · have HJ2 : Hid (judgeV V 9 = judgeV V (9 - (3 + 1))) := HJ0.trans (judge_pass (by omega) hz)
          generalize V 3 = p at *
          have hz2 : (p.1 == 0) = true := by simp [hz]
          clear HJ HJ0 hz hc1 hc2 hc3 hc4 hc5 hc6 hc7 hc8 hc9 hrow hrow2
          go_wp2_with (first | (go_at_call 75; refine hci.mono ?_; rintro e w1 ⟨rfl, hb1⟩; obtain ⟨⟨a1, a2, a3, a4⟩, ⟨d1, d2, d3, d4, d5, d6⟩, e1, e2, e3, hb2⟩ := jud_hit p hW0 hbel hb1))
          go_roundw
          case rel => exact ⟨3 + 1, by omega, by go_num, HJ2, hb2⟩
          case measure => simp [intOf]
        · have HJ2 : Hid (judgeV V 9 = V 3) := HJ0.trans (judge_hit (by omega) hz)
          generalize V 3 = p at *
          have hz2 : (p.1 == 0) = false := by simp [hz]
          clear HJ HJ0 hz hc1 hc2 hc3 hc4 hc5 hc6 hc7 hc8 hc9 hrow hrow2
          go_wp2_with (first | (go_at_call 75; refine hci.mono ?_; rintro e w1 ⟨rfl, hb1⟩; obtain ⟨⟨a1, a2, a3, a4⟩, ⟨d1, d2, d3, d4, d5, d6⟩, e1, e2, e3, hb2⟩ := jud_hit p hW0 hbel hb1))
          try rw [Exit.noGoto_ret]
          refine bodyPost_ret (v := verdV p) (by simp [results, Tryz.results36, go_sem, e1, e2]) rfl ⟨by rw [HJ2.out], e3⟩
      · have hcl := hrow2 wr hbw 4 _ rfl
        have hci := hc5 wr hbw
        have HJ0 := HJ.out
        by_cases hz : (V 4).1 = 0
        · have HJ2 : Hid (judgeV V 9 = judgeV V (9 - (4 + 1))) := HJ0.trans (judge_pass (by omega) hz)
          generalize V 4 = p at *
          have hz2 : (p.1 == 0) = true := by simp [hz]
          clear HJ HJ0 hz hc1 hc2 hc3 hc4 hc5 hc6 hc7 hc8 hc9 hrow hrow2
          go_wp2_with (first | (go_at_call 76; refine hci.mono ?_; rintro e w1 ⟨rfl, hb1⟩; obtain ⟨⟨a1, a2, a3, a4⟩, ⟨d1, d2, d3, d4, d5, d6⟩, e1, e2, e3, hb2⟩ := jud_hit p hW0 hbel hb1))
          go_roundw
          case rel => exact ⟨4 + 1, by omega, by go_num, HJ2, hb2⟩
          case measure => simp [intOf]
        · have HJ2 : Hid (judgeV V 9 = V 4) := HJ0.trans (judge_hit (by omega) hz)
          generalize V 4 = p at *
          have hz2 : (p.1 == 0) = false := by simp [hz]
          clear HJ HJ0 hz hc1 hc2 hc3 hc4 hc5 hc6 hc7 hc8 hc9 hrow hrow2
          go_wp2_with (first | (go_at_call 76; refine hci.mono ?_; rintro e w1 ⟨rfl, hb1⟩; obtain ⟨⟨a1, a2, a3, a4⟩, ⟨d1, d2, d3, d4, d5, d6⟩, e1, e2, e3, hb2⟩ := jud_hit p hW0 hbel hb1))
          try rw [Exit.noGoto_ret]
          refine bodyPost_ret (v := verdV p) (by simp [results, Tryz.results36, go_sem, e1, e2]) rfl ⟨by rw [HJ2.out], e3⟩
      · have hcl := hrow2 wr hbw 5 _ rfl
        have hci := hc6 wr hbw
        have HJ0 := HJ.out
        by_cases hz : (V 5).1 = 0
        · have HJ2 : Hid (judgeV V 9 = judgeV V (9 - (5 + 1))) := HJ0.trans (judge_pass (by omega) hz)
          generalize V 5 = p at *
          have hz2 : (p.1 == 0) = true := by simp [hz]
          clear HJ HJ0 hz hc1 hc2 hc3 hc4 hc5 hc6 hc7 hc8 hc9 hrow hrow2
          go_wp2_with (first | (go_at_call 77; refine hci.mono ?_; rintro e w1 ⟨rfl, hb1⟩; obtain ⟨⟨a1, a2, a3, a4⟩, ⟨d1, d2, d3, d4, d5, d6⟩, e1, e2, e3, hb2⟩ := jud_hit p hW0 hbel hb1))
          go_roundw
          case rel => exact ⟨5 + 1, by omega, by go_num, HJ2, hb2⟩
          case measure => simp [intOf]
        · have HJ2 : Hid (judgeV V 9 = V 5) := HJ0.trans (judge_hit (by omega) hz)
          generalize V 5 = p at *
          have hz2 : (p.1 == 0) = false := by simp [hz]
          clear HJ HJ0 hz hc1 hc2 hc3 hc4 hc5 hc6 hc7 hc8 hc9 hrow hrow2
          go_wp2_with (first | (go_at_call 77; refine hci.mono ?_; rintro e w1 ⟨rfl, hb1⟩; obtain ⟨⟨a1, a2, a3, a4⟩, ⟨d1, d2, d3, d4, d5, d6⟩, e1, e2, e3, hb2⟩ := jud_hit p hW0 hbel hb1))
          try rw [Exit.noGoto_ret]
          refine bodyPost_ret (v := verdV p) (by simp [results, Tryz.results36, go_sem, e1, e2]) rfl ⟨by rw [HJ2.out], e3⟩
      · have hcl := hrow2 wr hbw 6 _ rfl
        have hci := hc7 wr hbw
        have HJ0 := HJ.out
        by_cases hz : (V 6).1 = 0
        · have HJ2 : Hid (judgeV V 9 = judgeV V (9 - (6 + 1))) := HJ0.trans (judge_pass (by omega) hz)
          generalize V 6 = p at *
          have hz2 : (p.1 == 0) = true := by simp [hz]
          clear HJ HJ0 hz hc1 hc2 hc3 hc4 hc5 hc6 hc7 hc8 hc9 hrow hrow2
          go_wp2_with (first | (go_at_call 78; refine hci.mono ?_; rintro e w1 ⟨rfl, hb1⟩; obtain ⟨⟨a1, a2, a3, a4⟩, ⟨d1, d2, d3, d4, d5, d6⟩, e1, e2, e3, hb2⟩ := jud_hit p hW0 hbel hb1))
          go_roundw
          case rel => exact ⟨6 + 1, by omega, by go_num, HJ2, hb2⟩
          case measure => simp [intOf]
        · have HJ2 : Hid (judgeV V 9 = V 6) := HJ0.trans (judge_hit (by omega) hz)
          generalize V 6 = p at *
          have hz2 : (p.1 == 0) = false := by simp [hz]
          clear HJ HJ0 hz hc1 hc2 hc3 hc4 hc5 hc6 hc7 hc8 hc9 hrow hrow2
          go_wp2_with (first | (go_at_call 78; refine hci.mono ?_; rintro e w1 ⟨rfl, hb1⟩; obtain ⟨⟨a1, a2, a3, a4⟩, ⟨d1, d2, d3, d4, d5, d6⟩, e1, e2, e3, hb2⟩ := jud_hit p hW0 hbel hb1))
          try rw [Exit.noGoto_ret]
          refine bodyPost_ret (v := verdV p) (by simp [results, Tryz.results36, go_sem, e1, e2]) rfl ⟨by rw [HJ2.out], e3⟩
      · have hcl := hrow2 wr hbw 7 _ rfl
        have hci := hc8 wr hbw
        have HJ0 := HJ.out
        by_cases hz : (V 7).1 = 0
        · have HJ2 : Hid (judgeV V 9 = judgeV V (9 - (7 + 1))) := HJ0.trans (judge_pass (by omega) hz)
          generalize V 7 = p at *
          have hz2 : (p.1 == 0) = true := by simp [hz]
          clear HJ HJ0 hz hc1 hc2 hc3 hc4 hc5 hc6 hc7 hc8 hc9 hrow hrow2
          go_wp2_with (first | (go_at_call 79; refine hci.mono ?_; rintro e w1 ⟨rfl, hb1⟩; obtain ⟨⟨a1, a2, a3, a4⟩, ⟨d1, d2, d3, d4, d5, d6⟩, e1, e2, e3, hb2⟩ := jud_hit p hW0 hbel hb1))
          go_roundw
          case rel => exact ⟨7 + 1, by omega, by go_num, HJ2, hb2⟩
          case measure => simp [intOf]
        · have HJ2 : Hid (judgeV V 9 = V 7) := HJ0.trans (judge_hit (by omega) hz)
          generalize V 7 = p at *
          have hz2 : (p.1 == 0) = false := by simp [hz]
          clear HJ HJ0 hz hc1 hc2 hc3 hc4 hc5 hc6 hc7 hc8 hc9 hrow hrow2
          go_wp2_with (first | (go_at_call 79; refine hci.mono ?_; rintro e w1 ⟨rfl, hb1⟩; obtain ⟨⟨a1, a2, a3, a4⟩, ⟨d1, d2, d3, d4, d5, d6⟩, e1, e2, e3, hb2⟩ := jud_hit p hW0 hbel hb1))
          try rw [Exit.noGoto_ret]
          refine bodyPost_ret (v := verdV p) (by simp [results, Tryz.results36, go_sem, e1, e2]) rfl ⟨by rw [HJ2.out], e3⟩
      · have hcl := hrow2 wr hbw 8 _ rfl
        have hci := hc9 wr hbw
        have HJ0 := HJ.out
        by_cases hz : (V 8).1 = 0
        · have HJ2 : Hid (judgeV V 9 = judgeV V (9 - (8 + 1))) := HJ0.trans (judge_pass (by omega) hz)
          generalize V 8 = p at *
          have hz2 : (p.1 == 0) = true := by simp [hz]
          clear HJ HJ0 hz hc1 hc2 hc3 hc4 hc5 hc6 hc7 hc8 hc9 hrow hrow2
          go_wp2_with (first | (go_at_call 81; refine hci.mono ?_; rintro e w1 ⟨rfl, hb1⟩; obtain ⟨⟨a1, a2, a3, a4⟩, ⟨d1, d2, d3, d4, d5, d6⟩, e1, e2, e3, hb2⟩ := jud_hit p hW0 hbel hb1))
          go_roundw
          case rel => exact ⟨8 + 1, by omega, by go_num, HJ2, hb2⟩
          case measure => simp [intOf]
        · have HJ2 : Hid (judgeV V 9 = V 8) := HJ0.trans (judge_hit (by omega) hz)
          generalize V 8 = p at *
          have hz2 : (p.1 == 0) = false := by simp [hz]
          clear HJ HJ0 hz hc1 hc2 hc3 hc4 hc5 hc6 hc7 hc8 hc9 hrow hrow2
          go_wp2_with (first | (go_at_call 81; refine hci.mono ?_; rintro e w1 ⟨rfl, hb1⟩; obtain ⟨⟨a1, a2, a3, a4⟩, ⟨d1, d2, d3, d4, d5, d6⟩, e1, e2, e3, hb2⟩ := jud_hit p hW0 hbel hb1))
          try rw [Exit.noGoto_ret]
          refine bodyPost_ret (v := verdV p) (by simp [results, Tryz.results36, go_sem, e1, e2]) rfl ⟨by rw [HJ2.out], e3⟩
end Go.Proofs.YtclliljkmmpglaaGreat
