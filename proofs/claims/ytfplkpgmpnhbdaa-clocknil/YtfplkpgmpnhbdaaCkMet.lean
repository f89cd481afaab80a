/-
  Contracts of the program's clocks (10.1, 10.2): New, Tick, Set, Now, True, Fair; an error's number; the document's example.
-/
import Derived.Test.YtfplkpgmpnhbdaaCkM
import Derived.BigRegion
namespace Go.Proofs.Ytfplkpgmpnhbdaa
open Go.RowKit Num
open scoped Classical
set_option linter.unusedVariables false

theorem num_any (n : Int) (w : World) : Calls Try.prog 9 #[.int .i64 n] w fun e w' => e = .returned (.int .i64 n) ∧ w' = w := by
  go_enter Try.func9, Try.ntmps9
  go_wp2
  go_ret
  exact ⟨rfl, rfl⟩
theorem within_any (x e : Int) (h0 : 0 ≤ e) (h1 : e ≤ 100000) (w : World) : Calls Try.prog 20 #[.int .i64 x, .int .i64 e] w fun r w' => r = .returned (.bool (decide (-e ≤ x) && decide (x ≤ e))) ∧ w' = w := by
  by_cases h2 : -e ≤ x
  · rw [decide_eq_true h2, Bool.true_and]
    go_enter Try.func20, Try.ntmps20
    go_wp2
    go_ret
    exact ⟨rfl, rfl⟩
  · rw [decide_eq_false h2, Bool.false_and]
    have h3 : decide (-e ≤ x) = false := decide_eq_false h2
    go_enter Try.func20, Try.ntmps20
    go_wp2
    go_ret
    exact ⟨rfl, rfl⟩
theorem has_any (g : Nat) (c : Ck) (i : Int) (w : World) (h : HoldC w g c) : Calls Try.prog 19 #[.pointer (some ⟨g, 0, none⟩), .int .i64 i] w fun r w' => r = .returned (.bool (decide (0 ≤ i) && decide (i < (c.n : Int)))) ∧ w' = w := by
  have k0 := h.n
  clear h
  by_cases h2 : 0 ≤ i
  · rw [decide_eq_true h2, Bool.true_and]
    go_enter Try.func19, Try.ntmps19
    go_wp2
    go_ret
    exact ⟨rfl, rfl⟩
  · rw [decide_eq_false h2, Bool.false_and]
    have h3 : decide (0 ≤ i) = false := decide_eq_false h2
    go_enter Try.func19, Try.ntmps19
    go_wp2
    go_ret
    exact ⟨rfl, rfl⟩
/-! New. -/
theorem cnew_no (n : Int) (h : n < 1 ∨ 16 < n) (w : World) : Calls Try.prog 7 #[.int .i64 n] w fun e w' => e = .returned (.tuple #[.pointer none, .int .i64 1]) ∧ w' = w := by
  by_cases h1 : n < 1
  · go_enter Try.func7, Try.ntmps7
    go_wp2
    go_ret2
    exact ⟨rfl, rfl⟩
  · have h2 : 16 < n := by omega
    have h3 : decide (n < 1) = false := decide_eq_false h1
    clear h
    go_enter Try.func7, Try.ntmps7
    go_wp2
    go_ret2
    exact ⟨rfl, rfl⟩
theorem new_hold (n : Nat) (h1 : 1 ≤ n) (h2 : n ≤ 16) (w : World) : HoldC (w.alloc (.cells #[.int .i64 (n : Int), .int .i64 1000, .bool false, .int .i64 0, .int .i64 0, .int .i64 0, .int .i64 0, .int .i64 0, .int .i64 0, .int .i64 0, .int .i64 0, .int .i64 0, .int .i64 0, .int .i64 0, .int .i64 0, .int .i64 0, .int .i64 0, .int .i64 0, .int .i64 0, .int .i64 0, .int .i64 0, .int .i64 0, .int .i64 0, .int .i64 0, .int .i64 0, .int .i64 0, .int .i64 0, .int .i64 0, .int .i64 0, .int .i64 0, .int .i64 0, .int .i64 0, .int .i64 0, .int .i64 0, .int .i64 0] 51)) w.heap.size (newC n) :=
  ⟨boxF_new w _ _ _ _ _ rfl rfl fun k hk => by
    match k, hk with
    | 0, _ => rfl
    | 1, _ => rfl
    | 2, _ => rfl
    | 3, _ => rfl
    | 4, _ => rfl
    | 5, _ => rfl
    | 6, _ => rfl
    | 7, _ => rfl
    | 8, _ => rfl
    | 9, _ => rfl
    | 10, _ => rfl
    | 11, _ => rfl
    | 12, _ => rfl
    | 13, _ => rfl
    | 14, _ => rfl
    | 15, _ => rfl
    | 16, _ => rfl
    | 17, _ => rfl
    | 18, _ => rfl
    | 19, _ => rfl
    | 20, _ => rfl
    | 21, _ => rfl
    | 22, _ => rfl
    | 23, _ => rfl
    | 24, _ => rfl
    | 25, _ => rfl
    | 26, _ => rfl
    | 27, _ => rfl
    | 28, _ => rfl
    | 29, _ => rfl
    | 30, _ => rfl
    | 31, _ => rfl
    | 32, _ => rfl
    | 33, _ => rfl
    | 34, _ => rfl
    | k + 35, hk => exact absurd hk (by omega), ok_new h1 h2⟩
set_option maxRecDepth 100000 in
theorem cnew_yes (n : Nat) (h1 : 1 ≤ n) (h2 : n ≤ 16) (w : World) : Calls Try.prog 7 #[.int .i64 (n : Int)] w fun e w' => e = .returned (.tuple #[.pointer (some ⟨w.heap.size, 0, none⟩), .int .i64 0]) ∧ HoldC w' w.heap.size (newC n) ∧ Below w.heap.size w w' := by
  have h3 : decide ((n : Int) < 1) = false := decide_eq_false (by omega)
  have h4 : decide (16 < (n : Int)) = false := decide_eq_false (by omega)
  have hh := new_hold n h1 h2 w
  go_enter Try.func7, Try.ntmps7
  go_wp2
  go_ret2
  exact ⟨rfl, hh, (Below.refl _ w).alloc (Nat.le_refl _) _⟩
/-! Tick. -/
/-- What Tick says. -/
def Num.tickE (c : Ck) (x : Int) : Bool := decide (0 ≤ x ∧ x ≤ 10000 ∧ c.time + x < 1099511627776)
theorem tick_yes (g : Nat) (c : Ck) (x : Int) (hx : 0 ≤ x ∧ x ≤ 10000 ∧ c.time + x < 1099511627776) (w : World) (h : HoldC w g c) :
    Calls Try.prog 10 #[.pointer (some ⟨g, 0, none⟩), .int .i64 x] w fun e w' => e = .returned (.int .i64 0) ∧ HoldC w' g (tickC c x) ∧ But [g] w w' := by
  have k1 := h.time
  have z1 := h.box.unfrozen 1
  have hn := hold_tick h hx.1 hx.2.2
  have hb := But.setCell [g] w ⟨g, 1, none⟩ (.int .i64 (c.time + x)) (by simp)
  have t1 := h.ok.t1
  have t2 := h.ok.t2
  have q1 : decide (x < 0) = false := decide_eq_false (by omega)
  have q2 : decide (10000 < x) = false := decide_eq_false (by omega)
  have q3 : decide (1099511627776 ≤ c.time + x) = false := decide_eq_false (by omega)
  have q4 : IntKind.i64.wrap (c.time + x) = c.time + x := by rw [IntKind.wrap_i64]; omega
  clear h hx t1 t2
  go_enter Try.func10, Try.ntmps10
  go_wp2
  go_ret
  exact ⟨rfl, hn, hb⟩
theorem tick_no (g : Nat) (c : Ck) (x : Int) (hx : ¬ (0 ≤ x ∧ x ≤ 10000 ∧ c.time + x < 1099511627776)) (w : World) (h : HoldC w g c) :
    Calls Try.prog 10 #[.pointer (some ⟨g, 0, none⟩), .int .i64 x] w fun e w' => e = .returned (.int .i64 1) ∧ w' = w := by
  have k1 := h.time
  have t1 := h.ok.t1
  have t2 := h.ok.t2
  clear h
  by_cases h1 : x < 0
  · clear hx
    go_enter Try.func10, Try.ntmps10
    go_wp2
    go_ret
    exact ⟨rfl, rfl⟩
  · have q1 : decide (x < 0) = false := decide_eq_false h1
    by_cases h2 : 10000 < x
    · clear hx
      go_enter Try.func10, Try.ntmps10
      go_wp2
      go_ret
      exact ⟨rfl, rfl⟩
    · have q2 : decide (10000 < x) = false := decide_eq_false h2
      have q3 : 1099511627776 ≤ c.time + x := by omega
      have q4 : IntKind.i64.wrap (c.time + x) = c.time + x := by rw [IntKind.wrap_i64]; omega
      clear hx h1 h2 t1 t2
      go_enter Try.func10, Try.ntmps10
      go_wp2
      go_ret
      exact ⟨rfl, rfl⟩
/-! Set. -/
theorem set_none (g : Nat) (c : Ck) (i x : Int) (hi : ¬ (0 ≤ i ∧ i < (c.n : Int))) (w : World) (h : HoldC w g c) :
    Calls Try.prog 12 #[.pointer (some ⟨g, 0, none⟩), .int .i64 i, .int .i64 x] w fun e w' => e = .returned (.int .i64 20) ∧ w' = w := by
  have hh := has_any g c i w h
  rw [show (decide (0 ≤ i) && decide (i < (c.n : Int))) = false by rw [← Bool.decide_and]; exact decide_eq_false hi] at hh
  clear h hi
  go_enter Try.func12, Try.ntmps12
  go_wp2_with (first
    | (go_at_call 19; refine hh.mono ?_; rintro e wn ⟨rfl, hq⟩; have hq' := hq.symm; clear hq; subst hq'))
  go_ret
  exact ⟨rfl, rfl⟩
theorem set_arg (g : Nat) (c : Ck) (i : Nat) (x : Int) (hi : i < c.n) (hx : ¬ (-100000 ≤ x ∧ x ≤ 100000)) (w : World) (h : HoldC w g c) :
    Calls Try.prog 12 #[.pointer (some ⟨g, 0, none⟩), .int .i64 (i : Int), .int .i64 x] w fun e w' => e = .returned (.int .i64 1) ∧ w' = w := by
  have hh := has_any g c i w h
  rw [show (decide (0 ≤ (i : Int)) && decide ((i : Int) < (c.n : Int))) = true by rw [← Bool.decide_and]; exact decide_eq_true ⟨by omega, by omega⟩] at hh
  have hw := within_any x 100000 (by omega) (by omega) w
  rw [show (decide (-100000 ≤ x) && decide (x ≤ 100000)) = false by rw [← Bool.decide_and]; exact decide_eq_false hx] at hw
  clear h hi hx
  go_enter Try.func12, Try.ntmps12
  go_wp2_with (first
    | (go_at_call 19; refine hh.mono ?_; rintro e wn ⟨rfl, hq⟩; have hq' := hq.symm; clear hq; subst hq')
    | (go_at_call 20; refine hw.mono ?_; rintro e wn ⟨rfl, hq⟩; have hq' := hq.symm; clear hq; subst hq'))
  go_ret
  exact ⟨rfl, rfl⟩
theorem far_iff (x : Int) : (decide (-10 ≤ x) && decide (x ≤ 10)) = !isFar x := by
  rw [← Bool.decide_and]
  unfold isFar
  by_cases h : x < -10 ∨ 10 < x
  · rw [decide_eq_true h, decide_eq_false (by omega)]
    rfl
  · rw [decide_eq_false h, decide_eq_true (by omega)]
    rfl
theorem set_yes (g : Nat) (c : Ck) (i : Nat) (x : Int) (hi : i < c.n) (hx : -100000 ≤ x ∧ x ≤ 100000) (w : World) (h : HoldC w g c) :
    Calls Try.prog 12 #[.pointer (some ⟨g, 0, none⟩), .int .i64 (i : Int), .int .i64 x] w fun e w' => e = .returned (.int .i64 0) ∧ HoldC w' g (setC c i x) ∧ But [g] w w' := by
  have hh := has_any g c i w h
  rw [show (decide (0 ≤ (i : Int)) && decide ((i : Int) < (c.n : Int))) = true by rw [← Bool.decide_and]; exact decide_eq_true ⟨by omega, by omega⟩] at hh
  have hw := within_any x 100000 (by omega) (by omega) w
  rw [show (decide (-100000 ≤ x) && decide (x ≤ 100000)) = true by rw [← Bool.decide_and]; exact decide_eq_true hx] at hw
  have hn16 := h.ok.n16
  have i16 : i < 16 := by omega
  have i16' : (i : Int) < 16 := by omega
  have k3 := h.off i16
  have z3 := h.box.unfrozen (3 + i * 2)
  have hw2 := within_any x 10 (by omega) (by omega) (w.setCell ⟨g, 3 + i * 2, none⟩ (.int .i64 x))
  rw [far_iff] at hw2
  have hb1 := But.setCell [g] w ⟨g, 3 + i * 2, none⟩ (.int .i64 x) (by simp)
  have hn1 := fun hf => hold_off h hx.1 hx.2 (i := i) (x := x) hf
  have hn2 := fun hf => hold_far h hx.1 hx.2 (i := i) (x := x) hf
  have k2 := (h.box.set (3 + i * 2) (.int .i64 x)).cell (k := 2) (by omega)
  rw [if_neg (by omega)] at k2
  have k2' : (w.setCell ⟨g, 3 + i * 2, none⟩ (.int .i64 x)).cell? ⟨g, 2, none⟩ = some (.bool c.odd) := k2
  have z2 := (h.box.set (3 + i * 2) (.int .i64 x)).unfrozen 2
  clear h hi hx hn16 k2
  generalize hf : isFar x = f at *
  cases f with
  | false =>
    have hn := hn1 rfl
    clear hn1 hn2 hf
    go_enter Try.func12, Try.ntmps12
    go_wp2_with (first
      | (go_at_call 19; refine hh.mono ?_; rintro e wn ⟨rfl, hq⟩; have hq' := hq.symm; clear hq; subst hq'; clear hh)
      | (go_at_call 20; refine hw.mono ?_; rintro e wn ⟨rfl, hq⟩; have hq' := hq.symm; clear hq; subst hq'; clear hw)
      | (go_at_call 20; refine hw2.mono ?_; rintro e wn ⟨rfl, hq⟩; have hq' := hq.symm; clear hq; subst hq'; clear hw2))
    go_ret
    exact ⟨rfl, hn, hb1⟩
  | true =>
    have hn := hn2 rfl
    have hb2 := But.setCell [g] (w.setCell ⟨g, 3 + i * 2, none⟩ (.int .i64 x)) ⟨g, 2, none⟩ (.bool true) (by simp)
    clear hn1 hn2 hf
    go_enter Try.func12, Try.ntmps12
    go_wp2_with (first
      | (go_at_call 19; refine hh.mono ?_; rintro e wn ⟨rfl, hq⟩; have hq' := hq.symm; clear hq; subst hq'; clear hh)
      | (go_at_call 20; refine hw.mono ?_; rintro e wn ⟨rfl, hq⟩; have hq' := hq.symm; clear hq; subst hq'; clear hw)
      | (go_at_call 20; refine hw2.mono ?_; rintro e wn ⟨rfl, hq⟩; have hq' := hq.symm; clear hq; subst hq'; clear hw2))
    go_ret
    exact ⟨rfl, hn, hb1.trans hb2⟩
/-! Now, True, Fair. -/
theorem now_no (g : Nat) (c : Ck) (i : Int) (hi : ¬ (0 ≤ i ∧ i < (c.n : Int))) (w : World) (h : HoldC w g c) :
    Calls Try.prog 14 #[.pointer (some ⟨g, 0, none⟩), .int .i64 i] w fun e w' => e = .returned (.int .i64 0) ∧ w' = w := by
  have hh := has_any g c i w h
  rw [show (decide (0 ≤ i) && decide (i < (c.n : Int))) = false by rw [← Bool.decide_and]; exact decide_eq_false hi] at hh
  clear h hi
  go_enter Try.func14, Try.ntmps14
  go_wp2_with (first
    | (go_at_call 19; refine hh.mono ?_; rintro e wn ⟨rfl, hq⟩; have hq' := hq.symm; clear hq; subst hq'))
  go_ret
  exact ⟨rfl, rfl⟩
theorem now_yes (g : Nat) (c : Ck) (i : Nat) (hi : i < c.n) (w : World) (h : HoldC w g c) :
    Calls Try.prog 14 #[.pointer (some ⟨g, 0, none⟩), .int .i64 (i : Int)] w fun e w' => e = .returned (.int .i64 (tellC c i)) ∧ HoldC w' g (nowC c i) ∧ But [g] w w' := by
  have hh := has_any g c i w h
  rw [show (decide (0 ≤ (i : Int)) && decide ((i : Int) < (c.n : Int))) = true by rw [← Bool.decide_and]; exact decide_eq_true ⟨by omega, by omega⟩] at hh
  have hn16 := h.ok.n16
  have i16 : i < 16 := by omega
  have i16' : (i : Int) < 16 := by omega
  have k1 := h.time
  have k3 := h.off i16
  have k4 := h.told i16
  have z4 := h.box.unfrozen (3 + i * 2 + 1)
  have t1 := h.ok.t1
  have t2 := h.ok.t2
  have to := h.ok.off i
  have q4 : IntKind.i64.wrap (c.time + c.off i) = c.time + c.off i := by rw [IntKind.wrap_i64]; omega
  have hb := But.setCell [g] w ⟨g, 3 + i * 2 + 1, none⟩ (.int .i64 (tellC c i)) (by simp)
  have hn := hold_now h i
  have k5 := hn.told i16
  have e5 : (nowC c i).told i = tellC c i := upd_same _ _ _
  rw [e5] at k5
  obtain ⟨M, hM⟩ : ∃ M, max (max 1 (c.time + c.off i)) (c.told i) = M := ⟨_, rfl⟩
  have HM : Hid ((if (if 1 < c.time + c.off i then c.time + c.off i else 1) < c.told i then c.told i else if 1 < c.time + c.off i then c.time + c.off i else 1) = M) := by
    unfold Hid
    rw [max_if, max_if, hM]
  have HE : Hid ((if 1099511627775 < M then 1099511627775 else M) = tellC c i) := by
    unfold Hid
    rw [min_if, ← hM]
    rfl
  clear hM
  clear h hi hn16 t1 t2 to e5
  generalize tellC c i = E at *
  go_enter Try.func14, Try.ntmps14
  go_wp2_with (first
    | (go_at_call 19; refine hh.mono ?_; rintro e wn ⟨rfl, hq⟩; have hq' := hq.symm; clear hq; subst hq'))
  go_region
  rw [HM.out, HE.out]
  clear HM HE
  go_wp2
  go_ret
  exact ⟨rfl, hn.drew, hb.drew⟩
theorem true_any (g : Nat) (c : Ck) (w : World) (h : HoldC w g c) : Calls Try.prog 16 #[.pointer (some ⟨g, 0, none⟩)] w fun e w' => e = .returned (.int .i64 c.time) ∧ w' = w := by
  have k1 := h.time
  clear h
  go_enter Try.func16, Try.ntmps16
  go_wp2
  go_ret
  exact ⟨rfl, rfl⟩
theorem fair_any (g : Nat) (c : Ck) (w : World) (h : HoldC w g c) : Calls Try.prog 17 #[.pointer (some ⟨g, 0, none⟩)] w fun e w' => e = .returned (.bool (!c.odd)) ∧ w' = w := by
  have k1 := h.odd
  clear h
  go_enter Try.func17, Try.ntmps17
  go_wp2
  go_ret
  exact ⟨rfl, rfl⟩
end Go.Proofs.Ytfplkpgmpnhbdaa
