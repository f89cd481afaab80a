/-
  Clocks as plain numbers (10.1); boxes in memory that are told place by place; clocks in memory, the program's and the document's own.
-/
import Derived.Test.YtfplkpgmpnhbdaaMem
namespace Go.Proofs.Ytfplkpgmpnhbdaa
open Go.RowKit Num
open scoped Classical
set_option linter.unusedVariables false

/-- Clocks: how many, the true time, whether one was ever too far off, what each is off, what each told last. -/
structure Num.Ck where
  n : Nat
  time : Int
  odd : Bool
  off : Nat → Int
  told : Nat → Int
def Num.upd (f : Nat → Int) (i : Nat) (x : Int) : Nat → Int := fun k => if k = i then x else f k
structure Num.CkOk (c : Ck) : Prop where
  n1 : 1 ≤ c.n
  n16 : c.n ≤ 16
  t1 : 1000 ≤ c.time
  t2 : c.time < 1099511627776
  off : ∀ i, -100000 ≤ c.off i ∧ c.off i ≤ 100000
  told : ∀ i, 0 ≤ c.told i ∧ c.told i < 1099511627776
def Num.newC (n : Nat) : Ck := ⟨n, 1000, false, fun _ => 0, fun _ => 0⟩
def Num.tickC (c : Ck) (x : Int) : Ck := { c with time := c.time + x }
def Num.isFar (x : Int) : Bool := decide (x < -10 ∨ 10 < x)
def Num.setC (c : Ck) (i : Nat) (x : Int) : Ck := { c with off := upd c.off i x, odd := c.odd || isFar x }
def Num.tellC (c : Ck) (i : Nat) : Int := min (max (max 1 (c.time + c.off i)) (c.told i)) 1099511627775
def Num.nowC (c : Ck) (i : Nat) : Ck := { c with told := upd c.told i (tellC c i) }
theorem upd_same (f : Nat → Int) (i : Nat) (x : Int) : upd f i x i = x := if_pos rfl
theorem upd_other (f : Nat → Int) {i k : Nat} (x : Int) (h : k ≠ i) : upd f i x k = f k := if_neg h
theorem ok_new {n : Nat} (h1 : 1 ≤ n) (h2 : n ≤ 16) : CkOk (newC n) := ⟨h1, h2, Int.le_refl _, by simp [newC], fun i => by simp [newC], fun i => by simp [newC]⟩
theorem ok_tick {c : Ck} (h : CkOk c) {x : Int} (h0 : 0 ≤ x) (h1 : c.time + x < 1099511627776) : CkOk (tickC c x) :=
  ⟨h.n1, h.n16, by have := h.t1; simp only [tickC]; omega, h1, h.off, h.told⟩
theorem ok_set {c : Ck} (h : CkOk c) {x : Int} (h0 : -100000 ≤ x) (h1 : x ≤ 100000) (i : Nat) : CkOk (setC c i x) :=
  ⟨h.n1, h.n16, h.t1, h.t2, fun k => by
    by_cases hk : k = i
    · subst hk
      simp only [setC, upd_same]
      exact ⟨h0, h1⟩
    · simp only [setC, upd_other _ _ hk]
      exact h.off k, h.told⟩
theorem tell_in {c : Ck} (h : CkOk c) (i : Nat) : 1 ≤ tellC c i ∧ tellC c i < 1099511627776 ∧ c.told i ≤ tellC c i := by
  have := h.told i
  unfold tellC
  omega
/-- The greatest of two, as the walk spells it. -/
theorem max_if (a b : Int) : (if a < b then b else a) = max a b := by
  by_cases h : a < b
  · rw [if_pos h]; omega
  · rw [if_neg h]; omega
theorem min_if (a b : Int) : (if b < a then b else a) = min a b := by
  by_cases h : b < a
  · rw [if_pos h]; omega
  · rw [if_neg h]; omega
theorem ok_now {c : Ck} (h : CkOk c) (i : Nat) : CkOk (nowC c i) :=
  ⟨h.n1, h.n16, h.t1, h.t2, h.off, fun k => by
    have ht := tell_in h i
    by_cases hk : k = i
    · subst hk
      simp only [nowC, upd_same]
      omega
    · simp only [nowC, upd_other _ _ hk]
      exact h.told k⟩

/-! Boxes. -/
/-- Block g is a box of N cells, each as f says. -/
def Num.BoxF (w : World) (g : Nat) (t : TypeId) (N : Nat) (f : Nat → Value) : Prop := ∃ cs : Array Value, w.heap[g]? = some (.cells cs t (0, 0)) ∧ cs.size = N ∧ ∀ k, k < N → cs[k]? = some (f k)
theorem Num.BoxF.cell {w : World} {g : Nat} {t : TypeId} {N : Nat} {f : Nat → Value} (h : BoxF w g t N f) {k : Nat} (hk : k < N) : w.cell? ⟨g, k, none⟩ = some (f k) := by
  obtain ⟨cs, h1, _, h3⟩ := h
  exact box_cell h1 k _ (h3 k hk)
theorem Num.BoxF.unfrozen {w : World} {g : Nat} {t : TypeId} {N : Nat} {f : Nat → Value} (h : BoxF w g t N f) (k : Nat) : w.frozen? ⟨g, k, none⟩ = false := by
  obtain ⟨cs, h1, _, _⟩ := h
  exact box_open h1 k
theorem Num.BoxF.lt {w : World} {g : Nat} {t : TypeId} {N : Nat} {f : Nat → Value} (h : BoxF w g t N f) : g < w.heap.size := by
  obtain ⟨cs, h1, _, _⟩ := h
  exact (Array.getElem?_eq_some_iff.1 h1).1
theorem Num.BoxF.kept {w w' : World} {g : Nat} {t : TypeId} {N : Nat} {f : Nat → Value} (h : BoxF w g t N f) (e : w'.heap[g]? = w.heap[g]?) : BoxF w' g t N f := by
  obtain ⟨cs, h1, h2, h3⟩ := h
  exact ⟨cs, e.trans h1, h2, h3⟩
theorem Num.BoxF.ext {w : World} {g : Nat} {t : TypeId} {N : Nat} {f f' : Nat → Value} (h : BoxF w g t N f) (e : ∀ k, k < N → f k = f' k) : BoxF w g t N f' := by
  obtain ⟨cs, h1, h2, h3⟩ := h
  exact ⟨cs, h1, h2, fun k hk => (h3 k hk).trans (congrArg some (e k hk))⟩
theorem Num.BoxF.set {w : World} {g : Nat} {t : TypeId} {N : Nat} {f : Nat → Value} (h : BoxF w g t N f) (i : Nat) (v : Value) : BoxF (w.setCell ⟨g, i, none⟩ v) g t N (fun k => if k = i then v else f k) := by
  obtain ⟨cs, h1, h2, h3⟩ := h
  refine ⟨_, heap_setCell_same w g i cs t v h1, ?_, fun k hk => ?_⟩
  · simpa using h2
  · by_cases hki : k = i
    · subst hki
      simp [h2, hk]
    · show (cs.setIfInBounds i v)[k]? = some (if k = i then v else f k)
      rw [if_neg hki, Array.getElem?_setIfInBounds, if_neg (fun e => hki e.symm)]
      exact h3 k hk
theorem Num.BoxF.alloc {w : World} {g : Nat} {t : TypeId} {N : Nat} {f : Nat → Value} (h : BoxF w g t N f) (o : Obj) : BoxF (w.alloc o) g t N f := h.kept (Below.heap_alloc w o g h.lt)
theorem boxF_new (w : World) (cs : Array Value) (t : TypeId) (N : Nat) (f : Nat → Value) (g : Nat) (hg : w.heap.size = g) (h1 : cs.size = N) (h2 : ∀ k, k < N → cs[k]? = some (f k)) : BoxF (w.alloc (.cells cs t)) g t N f :=
  ⟨cs, heap_newB w _ g hg, h1, h2⟩
/-- But for these blocks all is as it was. -/
structure Num.But (S : List Nat) (w w' : World) : Prop where
  os : w'.os = w.os
  tape : w'.tape = w.tape
  output : w'.output = w.output
  size : w.heap.size = w'.heap.size
  keep : ∀ k, k ∉ S → w'.heap[k]? = w.heap[k]?
theorem Num.But.refl (S : List Nat) (w : World) : But S w w := ⟨rfl, rfl, rfl, rfl, fun _ _ => rfl⟩
theorem Num.But.trans {S : List Nat} {a b c : World} (h : But S a b) (k : But S b c) : But S a c :=
  ⟨k.os.trans h.os, k.tape.trans h.tape, k.output.trans h.output, h.size.trans k.size, fun i hi => (k.keep i hi).trans (h.keep i hi)⟩
theorem Num.But.setCell (S : List Nat) (w : World) (p : Addr) (u : Value) (hp : p.block ∈ S) : But S w (w.setCell p u) :=
  ⟨rfl, rfl, rfl, by simp [World.setCell], fun k hk => Below.heap_setCell _ _ _ _ (fun e => hk (e ▸ hp))⟩
theorem Num.But.drew {S : List Nat} {a w : World} (h : But S a w) : But S a w.drew := ⟨h.os, h.tape, h.output, h.size, h.keep⟩
theorem Num.But.below {S : List Nat} {w w' : World} (h : But S w w') {B : Nat} (hB : ∀ k ∈ S, B ≤ k) : Below B w w' :=
  ⟨h.os, h.tape, h.output, Nat.le_of_eq h.size, fun k hk => h.keep k (fun e => Nat.lt_irrefl _ (Nat.lt_of_lt_of_le hk (hB k e)))⟩

/-! The program's clocks. -/
def Num.clkF (c : Ck) : Nat → Value
  | 0 => .int .i64 (c.n : Int)
  | 1 => .int .i64 c.time
  | 2 => .bool c.odd
  | k + 3 => if k % 2 = 0 then .int .i64 (c.off (k / 2)) else .int .i64 (c.told (k / 2))
theorem clkF_off (c : Ck) (i : Nat) : clkF c (3 + i * 2) = .int .i64 (c.off i) := by
  rw [Nat.add_comm]
  show (if i * 2 % 2 = 0 then _ else _) = _
  rw [if_pos (by omega), show i * 2 / 2 = i by omega]
theorem clkF_told (c : Ck) (i : Nat) : clkF c (3 + i * 2 + 1) = .int .i64 (c.told i) := by
  rw [show 3 + i * 2 + 1 = i * 2 + 1 + 3 by omega]
  show (if (i * 2 + 1) % 2 = 0 then _ else _) = _
  rw [if_neg (by omega), show (i * 2 + 1) / 2 = i by omega]
/-- Block g is these clocks. -/
structure Num.HoldC (w : World) (g : Nat) (c : Ck) : Prop where
  box : BoxF w g 51 35 (clkF c)
  ok : CkOk c
theorem Num.HoldC.n {w : World} {g : Nat} {c : Ck} (h : HoldC w g c) : w.cell? ⟨g, 0, none⟩ = some (.int .i64 (c.n : Int)) := h.box.cell (k := 0) (by omega)
theorem Num.HoldC.time {w : World} {g : Nat} {c : Ck} (h : HoldC w g c) : w.cell? ⟨g, 1, none⟩ = some (.int .i64 c.time) := h.box.cell (k := 1) (by omega)
theorem Num.HoldC.odd {w : World} {g : Nat} {c : Ck} (h : HoldC w g c) : w.cell? ⟨g, 2, none⟩ = some (.bool c.odd) := h.box.cell (k := 2) (by omega)
theorem Num.HoldC.off {w : World} {g : Nat} {c : Ck} (h : HoldC w g c) {i : Nat} (hi : i < 16) : w.cell? ⟨g, 3 + i * 2, none⟩ = some (.int .i64 (c.off i)) := by
  rw [h.box.cell (k := 3 + i * 2) (by omega), clkF_off]
theorem Num.HoldC.told {w : World} {g : Nat} {c : Ck} (h : HoldC w g c) {i : Nat} (hi : i < 16) : w.cell? ⟨g, 3 + i * 2 + 1, none⟩ = some (.int .i64 (c.told i)) := by
  rw [h.box.cell (k := 3 + i * 2 + 1) (by omega), clkF_told]
theorem Num.HoldC.kept {w w' : World} {g : Nat} {c : Ck} (h : HoldC w g c) (e : w'.heap[g]? = w.heap[g]?) : HoldC w' g c := ⟨h.box.kept e, h.ok⟩
theorem Num.HoldC.below {w w' : World} {g : Nat} {c : Ck} (h : HoldC w g c) (hb : Below w.heap.size w w') : HoldC w' g c := h.kept (hb.block g h.box.lt)
theorem Num.HoldC.drew {w : World} {g : Nat} {c : Ck} (h : HoldC w g c) : HoldC w.drew g c := h.kept rfl
theorem Num.HoldC.lt {w : World} {g : Nat} {c : Ck} (h : HoldC w g c) : g < w.heap.size := h.box.lt
theorem hold_tick {w : World} {g : Nat} {c : Ck} (h : HoldC w g c) {x : Int} (h0 : 0 ≤ x) (h1 : c.time + x < 1099511627776) : HoldC (w.setCell ⟨g, 1, none⟩ (.int .i64 (c.time + x))) g (tickC c x) :=
  ⟨(h.box.set 1 _).ext fun k hk => by
    match k with
    | 0 => rfl
    | 1 => rfl
    | 2 => rfl
    | k + 3 => rfl, ok_tick h.ok h0 h1⟩
theorem hold_off {w : World} {g : Nat} {c : Ck} (h : HoldC w g c) {x : Int} (h0 : -100000 ≤ x) (h1 : x ≤ 100000) {i : Nat} (hx : isFar x = false) : HoldC (w.setCell ⟨g, 3 + i * 2, none⟩ (.int .i64 x)) g (setC c i x) :=
  ⟨(h.box.set (3 + i * 2) _).ext fun k hk => by
    match k with
    | 0 => rw [if_neg (by omega)]; rfl
    | 1 => rw [if_neg (by omega)]; rfl
    | 2 =>
      rw [if_neg (by omega)]
      show Value.bool c.odd = Value.bool (c.odd || isFar x)
      rw [hx, Bool.or_false]
    | k + 3 =>
      by_cases hk : k + 3 = 3 + i * 2
      · rw [if_pos hk, hk, clkF_off, setC]
        simp only [upd_same]
      · rw [if_neg hk]
        show (if k % 2 = 0 then _ else _) = (if k % 2 = 0 then _ else _)
        by_cases h2 : k % 2 = 0
        · rw [if_pos h2, if_pos h2, setC]
          simp only [upd_other c.off x (show k / 2 ≠ i by omega)]
        · rw [if_neg h2, if_neg h2]
          rfl, ok_set h.ok h0 h1 i⟩
theorem hold_far {w : World} {g : Nat} {c : Ck} (h : HoldC w g c) {x : Int} (h0 : -100000 ≤ x) (h1 : x ≤ 100000) {i : Nat} (hx : isFar x = true) : HoldC ((w.setCell ⟨g, 3 + i * 2, none⟩ (.int .i64 x)).setCell ⟨g, 2, none⟩ (.bool true)) g (setC c i x) :=
  ⟨((h.box.set (3 + i * 2) _).set 2 _).ext fun k hk => by
    match k with
    | 0 => rw [if_neg (by omega), if_neg (by omega)]; rfl
    | 1 => rw [if_neg (by omega), if_neg (by omega)]; rfl
    | 2 =>
      rw [if_pos rfl]
      show Value.bool true = Value.bool (c.odd || isFar x)
      rw [hx, Bool.or_true]
    | k + 3 =>
      rw [if_neg (by omega)]
      by_cases hk : k + 3 = 3 + i * 2
      · rw [if_pos hk, hk, clkF_off, setC]
        simp only [upd_same]
      · rw [if_neg hk]
        show (if k % 2 = 0 then _ else _) = (if k % 2 = 0 then _ else _)
        by_cases h2 : k % 2 = 0
        · rw [if_pos h2, if_pos h2, setC]
          simp only [upd_other c.off x (show k / 2 ≠ i by omega)]
        · rw [if_neg h2, if_neg h2]
          rfl, ok_set h.ok h0 h1 i⟩
theorem hold_now {w : World} {g : Nat} {c : Ck} (h : HoldC w g c) (i : Nat) : HoldC (w.setCell ⟨g, 3 + i * 2 + 1, none⟩ (.int .i64 (tellC c i))) g (nowC c i) :=
  ⟨(h.box.set (3 + i * 2 + 1) _).ext fun k hk => by
    match k with
    | 0 => rw [if_neg (by omega)]; rfl
    | 1 => rw [if_neg (by omega)]; rfl
    | 2 => rw [if_neg (by omega)]; rfl
    | k + 3 =>
      by_cases hk : k + 3 = 3 + i * 2 + 1
      · rw [if_pos hk, hk, clkF_told, nowC]
        simp only [upd_same]
      · rw [if_neg hk]
        show (if k % 2 = 0 then _ else _) = (if k % 2 = 0 then _ else _)
        by_cases h2 : k % 2 = 0
        · rw [if_pos h2, if_pos h2]
          rfl
        · rw [if_neg h2, if_neg h2, nowC]
          simp only [upd_other c.told (tellC c i) (show k / 2 ≠ i by omega)], ok_now h.ok i⟩
end Go.Proofs.Ytfplkpgmpnhbdaa
