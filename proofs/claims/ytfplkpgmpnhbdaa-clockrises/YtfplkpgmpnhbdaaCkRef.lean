/-
  Contracts of the document's own clocks (10.1): two rows of numbers.
-/
import Derived.Test.YtfplkpgmpnhbdaaCkM
import Derived.BigRegion
import Derived.Laws.MakeOwn
namespace Go.Proofs.Ytfplkpgmpnhbdaa
open Go.RowKit Num
open scoped Classical
set_option linter.unusedVariables false

def Num.refF (c : Ck) (ro rl : Nat) : Nat → Value
  | 0 => .int .i64 c.time
  | 1 => .slice (some ⟨ro, 0, none⟩) c.n c.n
  | 2 => .slice (some ⟨rl, 0, none⟩) c.n c.n
  | _ => .bool (!c.odd)
/-- Block r is the document's own clocks, their rows in ro and rl. -/
structure Num.HoldD (w : World) (r ro rl : Nat) (c : Ck) : Prop where
  box : BoxF w r 40 4 (refF c ro rl)
  offs : BoxF w ro 3 c.n (fun k => .int .i64 (c.off k))
  tolds : BoxF w rl 3 c.n (fun k => .int .i64 (c.told k))
  ok : CkOk c
  u1 : r ≠ ro
  u2 : r ≠ rl
  u3 : ro ≠ rl
theorem Num.HoldD.kept {w w' : World} {r ro rl : Nat} {c : Ck} (h : HoldD w r ro rl c) (e1 : w'.heap[r]? = w.heap[r]?) (e2 : w'.heap[ro]? = w.heap[ro]?) (e3 : w'.heap[rl]? = w.heap[rl]?) : HoldD w' r ro rl c :=
  ⟨h.box.kept e1, h.offs.kept e2, h.tolds.kept e3, h.ok, h.u1, h.u2, h.u3⟩
theorem Num.HoldD.below {w w' : World} {r ro rl : Nat} {c : Ck} (h : HoldD w r ro rl c) (hb : Below w.heap.size w w') : HoldD w' r ro rl c := h.kept (hb.block _ h.box.lt) (hb.block _ h.offs.lt) (hb.block _ h.tolds.lt)
theorem Num.HoldD.drew {w : World} {r ro rl : Nat} {c : Ck} (h : HoldD w r ro rl c) : HoldD w.drew r ro rl c := h.kept rfl rfl rfl
theorem rnew_no (n : Int) (h : n < 1 ∨ 16 < n) (w : World) : Calls Try.prog 8 #[.int .i64 n] w fun e w' => e = .returned (.tuple #[.pointer none, .int .i64 1]) ∧ w' = w := by
  by_cases h1 : n < 1
  · go_enter Try.func8, Try.ntmps8
    go_wp2
    go_ret2
    exact ⟨rfl, rfl⟩
  · have h2 : 16 < n := by omega
    have h3 : decide (n < 1) = false := decide_eq_false h1
    clear h
    go_enter Try.func8, Try.ntmps8
    go_wp2
    go_ret2
    exact ⟨rfl, rfl⟩
theorem Try.infoInt : (Try.prog.info? 3).map (fun i => (i.zero, i.size, i.bytes)) = some (some (.int .i64 0), 1, 8) := by kernel_rfl
/-- A row of noughts is made. -/
theorem made_ints (n : Nat) (hn : n ≤ 16) (w : World) : ∃ cs : Array Value, cs.size = n ∧ (∀ k, k < n → cs[k]? = some (.int .i64 0)) ∧ ∀ w : World,
    (Instr.makeSlice 38 (.int .i64 (n : Int)) (.int .i64 (n : Int))).run Try.prog w = .ok (.slice (some ⟨w.heap.size, 0, none⟩) n n) (w.alloc (.cells cs 3)) := by
  have hi := Try.infoInt
  cases hq : Try.prog.info? 3 with
  | none =>
    rw [hq] at hi
    cases hi
  | some i =>
    rw [hq] at hi
    simp at hi
    obtain ⟨e1, e2, e3⟩ := hi
    refine ⟨madeCells #[.int .i64 0] n, size_madeCells _ _, fun k hk => ?_, fun w => ?_⟩
    · simp [madeCells, hk]
      rw [Nat.mod_one]
      rfl
    · have := run_make (P := Try.prog) w 38 3 i (.int .i64 0) Try.underlying38 hq e1 .i64 .i64 n n (by omega) (by omega) (by rw [e3]; omega) (by omega)
      rw [e2] at this
      simpa [Value.cells] using this
theorem dnew_a (n : Nat) (h1 : 1 ≤ n) (h2 : n ≤ 16) (cs : Array Value) (hc1 : cs.size = n) (hc2 : ∀ k, k < n → cs[k]? = some (.int .i64 0)) (w : World) (t : Nat) (ht : w.heap.size = t) :
    HoldD (((w.alloc (.cells cs 3)).alloc (.cells cs 3)).alloc (.cells #[.int .i64 1000, .slice (some ⟨t, 0, none⟩) n n, .slice (some ⟨t + 1, 0, none⟩) n n, .bool true] 40)) (t + 1 + 1) t (t + 1) (newC n) := by
  refine ⟨boxF_new _ _ _ _ _ _ (by simp [ht]) rfl fun k hk => ?_, ((boxF_new w cs _ _ _ t ht hc1 hc2).alloc _).alloc _, (boxF_new _ cs _ _ _ (t + 1) (by simp [ht]) hc1 hc2).alloc _, ok_new h1 h2, by omega, by omega, by omega⟩
  match k, hk with
  | 0, _ => rfl
  | 1, _ => rfl
  | 2, _ => rfl
  | 3, _ => rfl
  | k + 4, hk => exact absurd hk (by omega)
theorem dnew_b (n : Nat) (h1 : 1 ≤ n) (h2 : n ≤ 16) (cs : Array Value) (hc1 : cs.size = n) (hc2 : ∀ k, k < n → cs[k]? = some (.int .i64 0)) (w : World) (t : Nat) (ht : w.heap.size = t) :
    HoldD (((w.alloc (.cells cs 3)).alloc (.cells cs 3)).alloc (.cells #[.int .i64 1000, .slice (some ⟨t + 1, 0, none⟩) n n, .slice (some ⟨t, 0, none⟩) n n, .bool true] 40)) (t + 1 + 1) (t + 1) t (newC n) := by
  refine ⟨boxF_new _ _ _ _ _ _ (by simp [ht]) rfl fun k hk => ?_, (boxF_new _ cs _ _ _ (t + 1) (by simp [ht]) hc1 hc2).alloc _, ((boxF_new w cs _ _ _ t ht hc1 hc2).alloc _).alloc _, ok_new h1 h2, by omega, by omega, by omega⟩
  match k, hk with
  | 0, _ => rfl
  | 1, _ => rfl
  | 2, _ => rfl
  | 3, _ => rfl
  | k + 4, hk => exact absurd hk (by omega)
set_option maxRecDepth 100000 in
theorem rnew_yes (n : Nat) (h1 : 1 ≤ n) (h2 : n ≤ 16) (w : World) : Calls Try.prog 8 #[.int .i64 (n : Int)] w fun e w' => ∃ r ro rl, e = .returned (.tuple #[.pointer (some ⟨r, 0, none⟩), .int .i64 0]) ∧ HoldD w' r ro rl (newC n) ∧ w.heap.size ≤ r ∧ w.heap.size ≤ ro ∧ w.heap.size ≤ rl ∧ Below w.heap.size w w' := by
  have h3 : decide ((n : Int) < 1) = false := decide_eq_false (by omega)
  have h4 : decide (16 < (n : Int)) = false := decide_eq_false (by omega)
  obtain ⟨cs, hc1, hc2, hmk⟩ := made_ints n h2 w
  have ha := dnew_a n h1 h2 cs hc1 hc2 w _ rfl
  have hb := dnew_b n h1 h2 cs hc1 hc2 w _ rfl
  have hbel : ∀ o1 o2 o3 : Obj, Below w.heap.size w (((w.alloc o1).alloc o2).alloc o3) := fun o1 o2 o3 => (((Below.refl _ w).alloc (Nat.le_refl _) _).alloc (by simp) _).alloc (by simp; omega) _
  clear hc1 hc2
  go_enter Try.func8, Try.ntmps8
  go_wp2
  go_region
  · go_wp2
    go_ret2
    exact ⟨_, _, _, rfl, ha.drew, by omega, by omega, by omega, (hbel _ _ _).drew⟩
  · go_wp2
    go_ret2
    exact ⟨_, _, _, rfl, hb.drew, by omega, by omega, by omega, (hbel _ _ _).drew⟩
/-! Tick. -/
theorem holdD_tick {w : World} {r ro rl : Nat} {c : Ck} (h : HoldD w r ro rl c) {x : Int} (h0 : 0 ≤ x) (h1 : c.time + x < 1099511627776) : HoldD (w.setCell ⟨r, 0, none⟩ (.int .i64 (c.time + x))) r ro rl (tickC c x) :=
  ⟨(h.box.set 0 _).ext fun k hk => by
    match k with
    | 0 => rfl
    | 1 => rfl
    | 2 => rfl
    | k + 3 => rfl, h.offs.kept (Below.heap_setCell _ _ _ _ h.u1.symm), h.tolds.kept (Below.heap_setCell _ _ _ _ h.u2.symm), ok_tick h.ok h0 h1, h.u1, h.u2, h.u3⟩
theorem rtick_yes (r ro rl : Nat) (c : Ck) (x : Int) (hx : 0 ≤ x ∧ x ≤ 10000 ∧ c.time + x < 1099511627776) (w : World) (h : HoldD w r ro rl c) :
    Calls Try.prog 11 #[.pointer (some ⟨r, 0, none⟩), .int .i64 x] w fun e w' => e = .returned (.int .i64 0) ∧ HoldD w' r ro rl (tickC c x) ∧ But [r, ro, rl] w w' := by
  have k0 : w.cell? ⟨r, 0, none⟩ = some (.int .i64 c.time) := h.box.cell (k := 0) (by omega)
  have z0 := h.box.unfrozen 0
  have hn := holdD_tick h hx.1 hx.2.2
  have hb := But.setCell [r, ro, rl] w ⟨r, 0, none⟩ (.int .i64 (c.time + x)) (by simp)
  have t1 := h.ok.t1
  have t2 := h.ok.t2
  have q1 : decide (x < 0) = false := decide_eq_false (by omega)
  have q2 : decide (10000 < x) = false := decide_eq_false (by omega)
  have q3 : decide (1099511627776 - c.time ≤ x) = false := decide_eq_false (by omega)
  have q4 : IntKind.i64.wrap (c.time + x) = c.time + x := by rw [IntKind.wrap_i64]; omega
  have q5 : IntKind.i64.wrap (1099511627776 - c.time) = 1099511627776 - c.time := by rw [IntKind.wrap_i64]; omega
  clear h hx t1 t2
  go_enter Try.func11, Try.ntmps11
  go_wp2
  go_ret
  exact ⟨rfl, hn, hb⟩
theorem rtick_no (r ro rl : Nat) (c : Ck) (x : Int) (hx : ¬ (0 ≤ x ∧ x ≤ 10000 ∧ c.time + x < 1099511627776)) (w : World) (h : HoldD w r ro rl c) :
    Calls Try.prog 11 #[.pointer (some ⟨r, 0, none⟩), .int .i64 x] w fun e w' => e = .returned (.int .i64 1) ∧ w' = w := by
  have k0 : w.cell? ⟨r, 0, none⟩ = some (.int .i64 c.time) := h.box.cell (k := 0) (by omega)
  have t1 := h.ok.t1
  have t2 := h.ok.t2
  have q5 : IntKind.i64.wrap (1099511627776 - c.time) = 1099511627776 - c.time := by rw [IntKind.wrap_i64]; omega
  clear h
  by_cases h1 : x < 0
  · clear hx
    go_enter Try.func11, Try.ntmps11
    go_wp2
    go_ret
    exact ⟨rfl, rfl⟩
  · have q1 : decide (x < 0) = false := decide_eq_false h1
    by_cases h2 : 10000 < x
    · clear hx
      go_enter Try.func11, Try.ntmps11
      go_wp2
      go_ret
      exact ⟨rfl, rfl⟩
    · have q2 : decide (10000 < x) = false := decide_eq_false h2
      have q3 : 1099511627776 - c.time ≤ x := by omega
      clear hx h1 h2 t1 t2
      go_enter Try.func11, Try.ntmps11
      go_wp2
      go_ret
      exact ⟨rfl, rfl⟩
/-! Set. -/
theorem rset_none (r ro rl : Nat) (c : Ck) (i x : Int) (hi : ¬ (0 ≤ i ∧ i < (c.n : Int))) (w : World) (h : HoldD w r ro rl c) :
    Calls Try.prog 13 #[.pointer (some ⟨r, 0, none⟩), .int .i64 i, .int .i64 x] w fun e w' => e = .returned (.int .i64 20) ∧ w' = w := by
  have k1 : w.cell? ⟨r, 1, none⟩ = some (.slice (some ⟨ro, 0, none⟩) c.n c.n) := h.box.cell (k := 1) (by omega)
  clear h
  by_cases h1 : i < 0
  · clear hi
    go_enter Try.func13, Try.ntmps13
    go_wp2
    go_ret
    exact ⟨rfl, rfl⟩
  · have q1 : decide (i < 0) = false := decide_eq_false h1
    have q2 : (c.n : Int) ≤ i := by omega
    clear hi h1
    go_enter Try.func13, Try.ntmps13
    go_wp2
    go_ret
    exact ⟨rfl, rfl⟩
theorem rset_arg (r ro rl : Nat) (c : Ck) (i : Nat) (x : Int) (hi : i < c.n) (hx : ¬ (-100000 ≤ x ∧ x ≤ 100000)) (w : World) (h : HoldD w r ro rl c) :
    Calls Try.prog 13 #[.pointer (some ⟨r, 0, none⟩), .int .i64 (i : Int), .int .i64 x] w fun e w' => e = .returned (.int .i64 1) ∧ w' = w := by
  have k1 : w.cell? ⟨r, 1, none⟩ = some (.slice (some ⟨ro, 0, none⟩) c.n c.n) := h.box.cell (k := 1) (by omega)
  have q2 : decide ((c.n : Int) ≤ (i : Int)) = false := decide_eq_false (by omega)
  clear h
  by_cases h1 : x < -100000
  · clear hx
    go_enter Try.func13, Try.ntmps13
    go_wp2
    go_ret
    exact ⟨rfl, rfl⟩
  · have q1 : decide (x < -100000) = false := decide_eq_false h1
    have q3 : 100000 < x := by omega
    clear hx h1
    go_enter Try.func13, Try.ntmps13
    go_wp2
    go_ret
    exact ⟨rfl, rfl⟩
theorem holdD_off {w : World} {r ro rl : Nat} {c : Ck} (h : HoldD w r ro rl c) {x : Int} (h0 : -100000 ≤ x) (h1 : x ≤ 100000) (i : Nat) (hx : isFar x = false) : HoldD (w.setCell ⟨ro, i, none⟩ (.int .i64 x)) r ro rl (setC c i x) :=
  ⟨(h.box.kept (Below.heap_setCell _ _ _ _ h.u1)).ext fun k hk => by
    match k with
    | 0 => rfl
    | 1 => rfl
    | 2 => rfl
    | k + 3 =>
      show Value.bool (!c.odd) = Value.bool (!(c.odd || isFar x))
      rw [hx, Bool.or_false], (h.offs.set i _).ext fun k hk => by
    show (if k = i then Value.int .i64 x else .int .i64 (c.off k)) = .int .i64 (if k = i then x else c.off k)
    split <;> rfl, h.tolds.kept (Below.heap_setCell _ _ _ _ h.u3.symm), ok_set h.ok h0 h1 i, h.u1, h.u2, h.u3⟩
theorem holdD_far {w : World} {r ro rl : Nat} {c : Ck} (h : HoldD w r ro rl c) {x : Int} (h0 : -100000 ≤ x) (h1 : x ≤ 100000) (i : Nat) (hx : isFar x = true) : HoldD ((w.setCell ⟨ro, i, none⟩ (.int .i64 x)).setCell ⟨r, 3, none⟩ (.bool false)) r ro rl (setC c i x) :=
  ⟨((h.box.kept (w' := w.setCell ⟨ro, i, none⟩ (.int .i64 x)) (Below.heap_setCell _ _ _ _ h.u1)).set 3 _).ext fun k hk => by
    match k with
    | 0 => rfl
    | 1 => rfl
    | 2 => rfl
    | 3 =>
      show Value.bool false = Value.bool (!(c.odd || isFar x))
      rw [hx, Bool.or_true]
      rfl
    | k + 4 => exact absurd hk (by omega), ((h.offs.set i _).kept (Below.heap_setCell _ _ _ _ h.u1.symm)).ext fun k hk => by
    show (if k = i then Value.int .i64 x else .int .i64 (c.off k)) = .int .i64 (if k = i then x else c.off k)
    split <;> rfl, h.tolds.kept ((Below.heap_setCell _ _ _ _ h.u2.symm).trans (Below.heap_setCell _ _ _ _ h.u3.symm)), ok_set h.ok h0 h1 i, h.u1, h.u2, h.u3⟩
theorem rset_yes (r ro rl : Nat) (c : Ck) (i : Nat) (x : Int) (hi : i < c.n) (hx : -100000 ≤ x ∧ x ≤ 100000) (w : World) (h : HoldD w r ro rl c) :
    Calls Try.prog 13 #[.pointer (some ⟨r, 0, none⟩), .int .i64 (i : Int), .int .i64 x] w fun e w' => e = .returned (.int .i64 0) ∧ HoldD w' r ro rl (setC c i x) ∧ But [r, ro, rl] w w' := by
  have k1 : w.cell? ⟨r, 1, none⟩ = some (.slice (some ⟨ro, 0, none⟩) c.n c.n) := h.box.cell (k := 1) (by omega)
  have q2 : decide ((c.n : Int) ≤ (i : Int)) = false := decide_eq_false (by omega)
  have q2' : (i : Int) < (c.n : Int) := by omega
  have q3 : decide (x < -100000) = false := decide_eq_false (by omega)
  have q4 : decide (100000 < x) = false := decide_eq_false (by omega)
  have kc : w.cell? ⟨ro, i, none⟩ = some (.int .i64 (c.off i)) := h.offs.cell hi
  have zc := h.offs.unfrozen i
  have hb1 := But.setCell [r, ro, rl] w ⟨ro, i, none⟩ (.int .i64 x) (by simp)
  have k3 : (w.setCell ⟨ro, i, none⟩ (.int .i64 x)).cell? ⟨r, 3, none⟩ = some (.bool (!c.odd)) := (h.box.kept (w' := w.setCell ⟨ro, i, none⟩ (.int .i64 x)) (Below.heap_setCell _ _ _ _ h.u1)).cell (k := 3) (by omega)
  have z3 : (w.setCell ⟨ro, i, none⟩ (.int .i64 x)).frozen? ⟨r, 3, none⟩ = false := (h.box.kept (w' := w.setCell ⟨ro, i, none⟩ (.int .i64 x)) (Below.heap_setCell _ _ _ _ h.u1)).unfrozen 3
  by_cases hf : x < -10 ∨ 10 < x
  · have hn := holdD_far h hx.1 hx.2 i (decide_eq_true hf)
    have hb2 := But.setCell [r, ro, rl] (w.setCell ⟨ro, i, none⟩ (.int .i64 x)) ⟨r, 3, none⟩ (.bool false) (by simp)
    clear h hi hx
    by_cases h1 : x < -10
    · clear hf
      go_enter Try.func13, Try.ntmps13
      go_wp2
      go_ret
      exact ⟨rfl, hn, hb1.trans hb2⟩
    · have h2 : 10 < x := by omega
      have h3 : decide (x < -10) = false := decide_eq_false h1
      clear hf h1
      go_enter Try.func13, Try.ntmps13
      go_wp2
      go_ret
      exact ⟨rfl, hn, hb1.trans hb2⟩
  · have hn := holdD_off h hx.1 hx.2 i (decide_eq_false hf)
    have h3 : decide (x < -10) = false := decide_eq_false (by omega)
    have h4 : decide (10 < x) = false := decide_eq_false (by omega)
    clear h hi hx hf
    go_enter Try.func13, Try.ntmps13
    go_wp2
    go_ret
    exact ⟨rfl, hn, hb1⟩
/-! Now. -/
theorem rnow_no (r ro rl : Nat) (c : Ck) (i : Int) (hi : ¬ (0 ≤ i ∧ i < (c.n : Int))) (w : World) (h : HoldD w r ro rl c) :
    Calls Try.prog 15 #[.pointer (some ⟨r, 0, none⟩), .int .i64 i] w fun e w' => e = .returned (.int .i64 0) ∧ w' = w := by
  have k1 : w.cell? ⟨r, 1, none⟩ = some (.slice (some ⟨ro, 0, none⟩) c.n c.n) := h.box.cell (k := 1) (by omega)
  clear h
  by_cases h1 : i < 0
  · clear hi
    go_enter Try.func15, Try.ntmps15
    go_wp2
    go_ret
    exact ⟨rfl, rfl⟩
  · have q1 : decide (i < 0) = false := decide_eq_false h1
    have q2 : (c.n : Int) ≤ i := by omega
    clear hi h1
    go_enter Try.func15, Try.ntmps15
    go_wp2
    go_ret
    exact ⟨rfl, rfl⟩
theorem holdD_now {w : World} {r ro rl : Nat} {c : Ck} (h : HoldD w r ro rl c) (i : Nat) : HoldD (w.setCell ⟨rl, i, none⟩ (.int .i64 (tellC c i))) r ro rl (nowC c i) :=
  ⟨h.box.kept (Below.heap_setCell _ _ _ _ h.u2), h.offs.kept (Below.heap_setCell _ _ _ _ h.u3), (h.tolds.set i _).ext fun k hk => by
    show (if k = i then Value.int .i64 (tellC c i) else .int .i64 (c.told k)) = .int .i64 (if k = i then tellC c i else c.told k)
    split <;> rfl, ok_now h.ok i, h.u1, h.u2, h.u3⟩
set_option maxRecDepth 100000 in
theorem rnow_yes (r ro rl : Nat) (c : Ck) (i : Nat) (hi : i < c.n) (w : World) (h : HoldD w r ro rl c) :
    Calls Try.prog 15 #[.pointer (some ⟨r, 0, none⟩), .int .i64 (i : Int)] w fun e w' => e = .returned (.int .i64 (tellC c i)) ∧ HoldD w' r ro rl (nowC c i) ∧ But [r, ro, rl] w w' := by
  have k0 : w.cell? ⟨r, 0, none⟩ = some (.int .i64 c.time) := h.box.cell (k := 0) (by omega)
  have k1 : w.cell? ⟨r, 1, none⟩ = some (.slice (some ⟨ro, 0, none⟩) c.n c.n) := h.box.cell (k := 1) (by omega)
  have k2 : w.cell? ⟨r, 2, none⟩ = some (.slice (some ⟨rl, 0, none⟩) c.n c.n) := h.box.cell (k := 2) (by omega)
  have q2 : decide ((c.n : Int) ≤ (i : Int)) = false := decide_eq_false (by omega)
  have q2' : (i : Int) < (c.n : Int) := by omega
  have kc : w.cell? ⟨ro, i, none⟩ = some (.int .i64 (c.off i)) := h.offs.cell hi
  have kl : w.cell? ⟨rl, i, none⟩ = some (.int .i64 (c.told i)) := h.tolds.cell hi
  have zl := h.tolds.unfrozen i
  have t1 := h.ok.t1
  have t2 := h.ok.t2
  have to := h.ok.off i
  have q4 : IntKind.i64.wrap (c.time + c.off i) = c.time + c.off i := by rw [IntKind.wrap_i64]; omega
  have hn := holdD_now h i
  have hb := But.setCell [r, ro, rl] w ⟨rl, i, none⟩ (.int .i64 (tellC c i)) (by simp)
  have k5 : (w.setCell ⟨rl, i, none⟩ (.int .i64 (tellC c i))).cell? ⟨rl, i, none⟩ = some (.int .i64 (tellC c i)) := by
    have := hn.tolds.cell hi
    rw [this]
    exact congrArg (fun x => some (Value.int .i64 x)) (upd_same _ _ _)
  have k6 : (w.setCell ⟨rl, i, none⟩ (.int .i64 (tellC c i))).cell? ⟨r, 2, none⟩ = some (.slice (some ⟨rl, 0, none⟩) c.n c.n) := hn.box.cell (k := 2) (by omega)
  obtain ⟨X, hX⟩ : ∃ X, max (c.told i) (c.time + c.off i) = X := ⟨_, rfl⟩
  obtain ⟨M, hM⟩ : ∃ M, max 1 X = M := ⟨_, rfl⟩
  have HX : Hid ((if c.told i < c.time + c.off i then c.time + c.off i else c.told i) = X) := by
    unfold Hid
    rw [max_if, hX]
  have HM : Hid ((if 1 < X then X else 1) = M) := by
    unfold Hid
    rw [max_if, hM]
  have HE : Hid ((if 1099511627775 < M then 1099511627775 else M) = tellC c i) := by
    unfold Hid
    rw [min_if, ← hM, ← hX]
    unfold tellC
    omega
  clear h hi t1 t2 to hX hM
  generalize tellC c i = E at *
  go_enter Try.func15, Try.ntmps15
  go_wp2
  go_region
  rw [HX.out, HM.out, HE.out]
  clear HX HM HE
  go_wp2
  go_ret
  exact ⟨rfl, hn.drew, hb.drew⟩
end Go.Proofs.Ytfplkpgmpnhbdaa
