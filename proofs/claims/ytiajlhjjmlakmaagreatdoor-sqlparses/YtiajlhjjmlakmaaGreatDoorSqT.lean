import Derived.Test.YtiajlhjjmlakmaaGreatDoorSqE
import Derived.Test.YtiajlhjjmlakmaaGreatDoorVWord
namespace Go.Proofs.YtiajlhjjmlakmaaGreatDoor
open Go.RowKit Num
set_option maxHeartbeats 4000000
set_option linter.unusedSimpArgs false
set_option linter.unusedVariables false
set_option maxRecDepth 100000

theorem flat_at {α : Type} {cs : α → List Value} {sz : Nat} (hsz : ∀ x, (cs x).length = sz) : ∀ (l : List α) (j : Nat) (x : α), l[j]? = some x → ∀ c (u : Value), (cs x)[c]? = some u → (l.flatMap cs)[j * sz + c]? = some u
 | [], _, _, h, _, _, _ => by simp at h
 | y :: l, 0, x, h, c, u, hu => by
  have h : some y = some x := h
  obtain rfl := Option.some.inj h
  have hc : c < (cs y).length := (List.getElem?_eq_some_iff.1 hu).1
  show (cs y ++ l.flatMap cs)[0 * sz + c]? = some u
  rw [Nat.zero_mul, Nat.zero_add, List.getElem?_append_left hc]
  exact hu
 | y :: l, j + 1, x, h, c, u, hu => by
  have ih := flat_at hsz l j x (by simpa using h) c u hu
  show (cs y ++ l.flatMap cs)[(j + 1) * sz + c]? = some u
  have e : (j + 1) * sz + c = (cs y).length + (j * sz + c) := by
   rw [hsz, Nat.add_mul]
   omega
  rw [e, List.getElem?_append_right (by omega), Nat.add_sub_cancel_left]
  exact ih
theorem own_at {α : Type} {cs : α → List Value} {sz : Nat} (hsz : ∀ x, (cs x).length = sz) {w W : World} {B E cap : Nat} {ao : Option Addr} {l : List α} (h : w.ownsRow B E sz (.slice ao l.length cap) l.length (l.flatMap cs)) (hb : Below w.heap.size w W) {j : Nat} {x : α} (hx : l[j]? = some x) :
  ∃ g, ao = some ⟨g, 0, none⟩ ∧ g < w.heap.size ∧ ∀ c u, (cs x)[c]? = some u → W.cell? ⟨g, j * sz + c, none⟩ = some u := by
 rcases h.2 with ⟨_, h0⟩ | ⟨g, cap', cur, hv, _, hgg, _⟩
 ·have := (List.getElem?_eq_some_iff.1 hx).1
  omega
 ·obtain ⟨ha, _, _⟩ := Value.slice.inj hv
  subst ha
  have hg : g < w.heap.size := (Array.getElem?_eq_some_iff.1 hgg).1
  refine ⟨g, rfl, hg, fun c u hu => ?_⟩
  have := h.cells (g := g) rfl _ _ (flat_at hsz l j x hx c u hu)
  rw [Addr.add_lit, Nat.zero_add] at this
  exact (hb.cell (p := ⟨g, j * sz + c, none⟩) hg).trans this
theorem own_len {α : Type} {cs : α → List Value} {sz : Nat} {w : World} {B E cap : Nat} {ao : Option Addr} {l : List α} (h : w.ownsRow B E sz (.slice ao l.length cap) l.length (l.flatMap cs)) : l.length ≤ maxLen := by
 rcases h.2 with ⟨_, h0⟩ | ⟨g, cap', cur, hv, _, _, hn, hc, _⟩
 ·rw [h0]; exact Nat.zero_le _
 ·exact Nat.le_trans hn hc
theorem r2same_any {B0 B1 E0 E1 : Nat} (ao0 ao1 : Option Addr) (cap0 cap1 : Nat) (l : List Val) (w : World) (h0 : w.ownsRow B0 E0 4 (.slice ao0 l.length cap0) l.length (l.flatMap cV)) (h1 : w.ownsRow B1 E1 4 (.slice ao1 l.length cap1) l.length (l.flatMap cV)) :
  Calls Tryz.prog 23 #[.slice ao0 l.length cap0, .slice ao1 l.length cap1] w fun e w' => e = .returned (.bool true) ∧ Below w.heap.size w w' := by
 have hlen : l.length ≤ maxLen := own_len h0
 have hml : maxLen ≤ 9223372036854775807 := by decide
 go_enter Tryz.func23, Tryz.ntmps23
 go_wp2
 go_loopw [5] (fun i wr => ∃ k : Nat, k ≤ l.length ∧ i = .int .i64 (k : Int) ∧ Below w.heap.size w wr) (fun i _ => l.length - (intOf i).toNat)
 case atStart => exact ⟨0, by omega, rfl, Below.refl _ _⟩
 case round =>
  obtain ⟨k, hk, rfl, hbel⟩ := hrel
  by_cases hkl : k < l.length
  ·obtain ⟨g0, rfl, hg0, hc0⟩ := own_at (cs := cV) (sz := 4) (fun _ => rfl) h0 hbel (List.getElem?_eq_getElem hkl)
   obtain ⟨g1, rfl, hg1, hc1⟩ := own_at (cs := cV) (sz := 4) (fun _ => rfl) h1 hbel (List.getElem?_eq_getElem hkl)
   have hz := hbel.size
   have d00 : ∀ y : Low _, y.wd.cell? ⟨g0, k * 4, none⟩ = some (.int .i64 l[k].k) := fun y => (y.cell (p := ⟨g0, k * 4, none⟩) (by show g0 < _; omega)).trans (hc0 0 _ rfl)
   have d01 : ∀ y : Low _, y.wd.cell? ⟨g0, k * 4 + 1, none⟩ = some (.int .i64 l[k].n) := fun y => (y.cell (p := ⟨g0, k * 4 + 1, none⟩) (by show g0 < _; omega)).trans (hc0 1 _ rfl)
   have d02 : ∀ y : Low _, y.wd.cell? ⟨g0, k * 4 + 2, none⟩ = some (.int .u64 (l[k].f : Int)) := fun y => (y.cell (p := ⟨g0, k * 4 + 2, none⟩) (by show g0 < _; omega)).trans (hc0 2 _ rfl)
   have d03 : ∀ y : Low _, y.wd.cell? ⟨g0, k * 4 + 3, none⟩ = some (.string l[k].s) := fun y => (y.cell (p := ⟨g0, k * 4 + 3, none⟩) (by show g0 < _; omega)).trans (hc0 3 _ rfl)
   have d10 : ∀ y : Low _, y.wd.cell? ⟨g1, k * 4, none⟩ = some (.int .i64 l[k].k) := fun y => (y.cell (p := ⟨g1, k * 4, none⟩) (by show g1 < _; omega)).trans (hc1 0 _ rfl)
   have d11 : ∀ y : Low _, y.wd.cell? ⟨g1, k * 4 + 1, none⟩ = some (.int .i64 l[k].n) := fun y => (y.cell (p := ⟨g1, k * 4 + 1, none⟩) (by show g1 < _; omega)).trans (hc1 1 _ rfl)
   have d12 : ∀ y : Low _, y.wd.cell? ⟨g1, k * 4 + 2, none⟩ = some (.int .u64 (l[k].f : Int)) := fun y => (y.cell (p := ⟨g1, k * 4 + 2, none⟩) (by show g1 < _; omega)).trans (hc1 2 _ rfl)
   have d13 : ∀ y : Low _, y.wd.cell? ⟨g1, k * 4 + 3, none⟩ = some (.string l[k].s) := fun y => (y.cell (p := ⟨g1, k * 4 + 3, none⟩) (by show g1 < _; omega)).trans (hc1 3 _ rfl)
   clear hc0 hc1 h0 h1
   go_wp2_with fail
   refine wp_region_low (by kernel_rfl) (by kernel_rfl) fun hsome => ?_
   repeat (go_big_quiet_step (fail))
   refine wpQuiet_nil ?_
   rintro _ ⟨x, rfl⟩
   have hx := x.low
   go_wp2
   go_roundw
   case rel => exact ⟨k + 1, by omega, by go_num, below_next hbel (Nat.le_refl _) hx⟩
   case measure => simp [intOf]; omega
  ·have hke : k = l.length := by omega
   clear h0 h1
   subst hke
   go_wp2
   go_ret
   exact ⟨rfl, hbel⟩
theorem row_below {w W : World} {B E sz n : Nat} {v : Value} {xs : List Value} (h : w.ownsRow B E sz v n xs) (hb : Below w.heap.size w W) : W.ownsRow B E sz v n xs := by
 refine h.kept (row := none) ⟨hb.os, hb.tape, hb.output, hb.size, fun k hk _ => hb.block k hk⟩ ?_
 cases v.ownBlock with
 | none => exact .inl rfl
 | some k => exact .inr (fun e => by cases e)
theorem Num.OwnS.belowS {B : Nat} {w W : World} {t : SS} {x : Stm} (h : OwnS B w t x) (hb : Below w.heap.size w W) : OwnS B W t x := ⟨row_below h.cols hb, row_below h.vals hb, row_below h.sets hb, row_below h.conds hb, row_below h.types hb⟩
structure Num.TwoB (w W : World) (A B : Array Value) : Prop where
 low : Below w.heap.size w W
 fst : Bx W w.heap.size 28 A
 snd : Bx W (w.heap.size + 1) 28 B
theorem Num.TwoB.next {w W W' : World} {A B : Array Value} (h : TwoB w W A B) (hb : Below W.heap.size W W') : TwoB w W' A B := ⟨below_next h.low (Nat.le_refl _) hb, heap_next h.fst hb, heap_next h.snd hb⟩
theorem low_cell {w : World} {b o : Nat} {v : Value} (hb : b < w.heap.size) (h : w.cell? ⟨b, o, none⟩ = some v) : ∀ y : Low w, y.wd.cell? ⟨b, o, none⟩ = some v := fun y => (y.cell (p := ⟨b, o, none⟩) hb).trans h
theorem same16_any {B0 B1 : Nat} (x : Stm) (t u : SS) (w : World) (h0 : OwnS B0 w t x) (h1 : OwnS B1 w u x) :
  Calls Tryz.prog 6 #[.agg #[.int .i64 x.kind, .string x.table, .string x.name, .slice t.co x.cols.length t.cc, .slice t.vo x.vals.length t.vc, .slice t.so x.sets.length t.sc, .slice t.qo x.conds.length t.qc, .bool x.uniq, .int .i64 x.type, .slice t.yo x.types.length t.yc], .agg #[.int .i64 x.kind, .string x.table, .string x.name, .slice u.co x.cols.length u.cc, .slice u.vo x.vals.length u.vc, .slice u.so x.sets.length u.sc, .slice u.qo x.conds.length u.qc, .bool x.uniq, .int .i64 x.type, .slice u.yo x.types.length u.yc]] w fun e w' => e = .returned (.bool true) ∧ Below w.heap.size w w' := by
 have hv : ∀ W, Below w.heap.size w W → Calls Tryz.prog 23 #[.slice t.vo x.vals.length t.vc, .slice u.vo x.vals.length u.vc] W fun e w' => e = .returned (.bool true) ∧ Below W.heap.size W w' := fun W hW => r2same_any _ _ _ _ _ W (row_below h0.vals hW) (row_below h1.vals hW)
 have e0 := own_len h0.cols
 have e1 := own_len h0.sets
 have e2 := own_len h0.conds
 have e3 := own_len h0.types
 have hml : maxLen ≤ 9223372036854775807 := by decide
 have hT0 : TwoB w ((w.alloc (.cells #[.int .i64 x.kind, .string x.table, .string x.name, .slice t.co x.cols.length t.cc, .slice t.vo x.vals.length t.vc, .slice t.so x.sets.length t.sc, .slice t.qo x.conds.length t.qc, .bool x.uniq, .int .i64 x.type, .slice t.yo x.types.length t.yc] 28)).alloc (.cells #[.int .i64 x.kind, .string x.table, .string x.name, .slice u.co x.cols.length u.cc, .slice u.vo x.vals.length u.vc, .slice u.so x.sets.length u.sc, .slice u.qo x.conds.length u.qc, .bool x.uniq, .int .i64 x.type, .slice u.yo x.types.length u.yc] 28)) #[.int .i64 x.kind, .string x.table, .string x.name, .slice t.co x.cols.length t.cc, .slice t.vo x.vals.length t.vc, .slice t.so x.sets.length t.sc, .slice t.qo x.conds.length t.qc, .bool x.uniq, .int .i64 x.type, .slice t.yo x.types.length t.yc] #[.int .i64 x.kind, .string x.table, .string x.name, .slice u.co x.cols.length u.cc, .slice u.vo x.vals.length u.vc, .slice u.so x.sets.length u.sc, .slice u.qo x.conds.length u.qc, .bool x.uniq, .int .i64 x.type, .slice u.yo x.types.length u.yc] := ⟨((Below.refl _ w).alloc (Nat.le_refl _) _).alloc (by simp) _, (Bx.newB rfl).alloc _, Bx.newB (by simp)⟩
 go_enter Tryz.func6, Tryz.ntmps6
 go_wp2_with (go_at_call 23; refine (hv _ hT0.low).mono ?_; rintro r w1 ⟨rfl, hb1⟩)
 have hT := hT0.next hb1
 clear hT0 hb1 hv
 go_loopw [5] (fun i wr => ∃ k : Nat, k ≤ x.cols.length ∧ i = .int .i64 (k : Int) ∧ TwoB w wr #[.int .i64 x.kind, .string x.table, .string x.name, .slice t.co x.cols.length t.cc, .slice t.vo x.vals.length t.vc, .slice t.so x.sets.length t.sc, .slice t.qo x.conds.length t.qc, .bool x.uniq, .int .i64 x.type, .slice t.yo x.types.length t.yc] #[.int .i64 x.kind, .string x.table, .string x.name, .slice u.co x.cols.length u.cc, .slice u.vo x.vals.length u.vc, .slice u.so x.sets.length u.sc, .slice u.qo x.conds.length u.qc, .bool x.uniq, .int .i64 x.type, .slice u.yo x.types.length u.yc]) (fun i _ => x.cols.length - (intOf i).toNat)
 case atStart => exact ⟨0, by omega, rfl, hT⟩
 case round =>
  obtain ⟨k0, hk0, rfl, hT0⟩ := hrel
  have f0 : wr.cell? ⟨w.heap.size, 3, none⟩ = some (.slice t.co x.cols.length t.cc) := hT0.fst.cell 3 _ rfl
  have s0 : wr.cell? ⟨w.heap.size + 1, 3, none⟩ = some (.slice u.co x.cols.length u.cc) := hT0.snd.cell 3 _ rfl
  by_cases hl0 : k0 < x.cols.length
  ·have hz0 := hT0.low.size
   have hlf0 := hT0.fst.lt
   have hls0 := hT0.snd.lt
   obtain ⟨g0, hg0, hb0, hc0⟩ := own_at (cs := cS) (sz := 1) (fun _ => rfl) h0.cols hT0.low (List.getElem?_eq_getElem hl0)
   obtain ⟨g1, hg1, hb1, hc1⟩ := own_at (cs := cS) (sz := 1) (fun _ => rfl) h1.cols hT0.low (List.getElem?_eq_getElem hl0)
   rw [hg0] at f0
   rw [hg1] at s0
   have d00 := low_cell (w := wr) (b := g0) (o := k0) (v := .string x.cols[k0]) (by omega) (by have h := hc0 0 (.string x.cols[k0]) rfl; rw [Nat.mul_one] at h; exact h)
   have d10 := low_cell (w := wr) (b := g1) (o := k0) (v := .string x.cols[k0]) (by omega) (by have h := hc1 0 (.string x.cols[k0]) rfl; rw [Nat.mul_one] at h; exact h)
   have df := low_cell hlf0 f0
   have ds := low_cell hls0 s0
   clear hc0 hc1 h0 h1 s0
   go_wp2_with fail
   refine wp_region_low (by kernel_rfl) (by kernel_rfl) fun hsome => ?_
   repeat (go_big_quiet_step (fail))
   refine wpQuiet_nil ?_
   rintro _ ⟨y, rfl⟩
   have hx := y.low
   go_wp2
   go_roundw
   case rel => exact ⟨k0 + 1, by omega, by go_num, hT0.next hx⟩
   case measure => simp [intOf]; omega
  ·obtain rfl : k0 = x.cols.length := by omega
   go_wp2
   go_loopw [6] (fun i wr => ∃ k : Nat, k ≤ x.sets.length ∧ i = .int .i64 (k : Int) ∧ TwoB w wr #[.int .i64 x.kind, .string x.table, .string x.name, .slice t.co x.cols.length t.cc, .slice t.vo x.vals.length t.vc, .slice t.so x.sets.length t.sc, .slice t.qo x.conds.length t.qc, .bool x.uniq, .int .i64 x.type, .slice t.yo x.types.length t.yc] #[.int .i64 x.kind, .string x.table, .string x.name, .slice u.co x.cols.length u.cc, .slice u.vo x.vals.length u.vc, .slice u.so x.sets.length u.sc, .slice u.qo x.conds.length u.qc, .bool x.uniq, .int .i64 x.type, .slice u.yo x.types.length u.yc]) (fun i _ => x.sets.length - (intOf i).toNat)
   case atStart => exact ⟨0, by omega, rfl, hT0⟩
   case round =>
    obtain ⟨k1, hk1, rfl, hT1⟩ := hrel
    have f1 : wr.cell? ⟨w.heap.size, 5, none⟩ = some (.slice t.so x.sets.length t.sc) := hT1.fst.cell 5 _ rfl
    have s1 : wr.cell? ⟨w.heap.size + 1, 5, none⟩ = some (.slice u.so x.sets.length u.sc) := hT1.snd.cell 5 _ rfl
    by_cases hl1 : k1 < x.sets.length
    ·have hz1 := hT1.low.size
     have hlf1 := hT1.fst.lt
     have hls1 := hT1.snd.lt
     obtain ⟨g0, hg0, hb0, hc0⟩ := own_at (cs := cT) (sz := 6) (fun _ => rfl) h0.sets hT1.low (List.getElem?_eq_getElem hl1)
     obtain ⟨g1, hg1, hb1, hc1⟩ := own_at (cs := cT) (sz := 6) (fun _ => rfl) h1.sets hT1.low (List.getElem?_eq_getElem hl1)
     rw [hg0] at f1
     rw [hg1] at s1
     have d00 := low_cell (w := wr) (b := g0) (o := k1 * 6) (v := .string x.sets[k1].col) (by omega) (hc0 0 (.string x.sets[k1].col) rfl)
     have d10 := low_cell (w := wr) (b := g1) (o := k1 * 6) (v := .string x.sets[k1].col) (by omega) (hc1 0 (.string x.sets[k1].col) rfl)
     have d01 := low_cell (w := wr) (b := g0) (o := k1 * 6 + 1) (v := .bool x.sets[k1].add) (by omega) (hc0 1 (.bool x.sets[k1].add) rfl)
     have d11 := low_cell (w := wr) (b := g1) (o := k1 * 6 + 1) (v := .bool x.sets[k1].add) (by omega) (hc1 1 (.bool x.sets[k1].add) rfl)
     have d02 := low_cell (w := wr) (b := g0) (o := k1 * 6 + 2) (v := .int .i64 x.sets[k1].v.k) (by omega) (hc0 2 (.int .i64 x.sets[k1].v.k) rfl)
     have d12 := low_cell (w := wr) (b := g1) (o := k1 * 6 + 2) (v := .int .i64 x.sets[k1].v.k) (by omega) (hc1 2 (.int .i64 x.sets[k1].v.k) rfl)
     have d03 := low_cell (w := wr) (b := g0) (o := k1 * 6 + 3) (v := .int .i64 x.sets[k1].v.n) (by omega) (hc0 3 (.int .i64 x.sets[k1].v.n) rfl)
     have d13 := low_cell (w := wr) (b := g1) (o := k1 * 6 + 3) (v := .int .i64 x.sets[k1].v.n) (by omega) (hc1 3 (.int .i64 x.sets[k1].v.n) rfl)
     have d04 := low_cell (w := wr) (b := g0) (o := k1 * 6 + 4) (v := .int .u64 (x.sets[k1].v.f : Int)) (by omega) (hc0 4 (.int .u64 (x.sets[k1].v.f : Int)) rfl)
     have d14 := low_cell (w := wr) (b := g1) (o := k1 * 6 + 4) (v := .int .u64 (x.sets[k1].v.f : Int)) (by omega) (hc1 4 (.int .u64 (x.sets[k1].v.f : Int)) rfl)
     have d05 := low_cell (w := wr) (b := g0) (o := k1 * 6 + 5) (v := .string x.sets[k1].v.s) (by omega) (hc0 5 (.string x.sets[k1].v.s) rfl)
     have d15 := low_cell (w := wr) (b := g1) (o := k1 * 6 + 5) (v := .string x.sets[k1].v.s) (by omega) (hc1 5 (.string x.sets[k1].v.s) rfl)
     have df := low_cell hlf1 f1
     have ds := low_cell hls1 s1
     clear hc0 hc1 h0 h1 s1
     go_wp2_with fail
     refine wp_region_low (by kernel_rfl) (by kernel_rfl) fun hsome => ?_
     repeat (go_big_quiet_step (fail))
     refine wpQuiet_nil ?_
     rintro _ ⟨y, rfl⟩
     have hx := y.low
     go_wp2
     go_roundw
     case rel => exact ⟨k1 + 1, by omega, by go_num, hT1.next hx⟩
     case measure => simp [intOf]; omega
    ·obtain rfl : k1 = x.sets.length := by omega
     go_wp2
     go_loopw [7] (fun i wr => ∃ k : Nat, k ≤ x.conds.length ∧ i = .int .i64 (k : Int) ∧ TwoB w wr #[.int .i64 x.kind, .string x.table, .string x.name, .slice t.co x.cols.length t.cc, .slice t.vo x.vals.length t.vc, .slice t.so x.sets.length t.sc, .slice t.qo x.conds.length t.qc, .bool x.uniq, .int .i64 x.type, .slice t.yo x.types.length t.yc] #[.int .i64 x.kind, .string x.table, .string x.name, .slice u.co x.cols.length u.cc, .slice u.vo x.vals.length u.vc, .slice u.so x.sets.length u.sc, .slice u.qo x.conds.length u.qc, .bool x.uniq, .int .i64 x.type, .slice u.yo x.types.length u.yc]) (fun i _ => x.conds.length - (intOf i).toNat)
     case atStart => exact ⟨0, by omega, rfl, hT1⟩
     case round =>
      obtain ⟨k2, hk2, rfl, hT2⟩ := hrel
      have f2 : wr.cell? ⟨w.heap.size, 6, none⟩ = some (.slice t.qo x.conds.length t.qc) := hT2.fst.cell 6 _ rfl
      have s2 : wr.cell? ⟨w.heap.size + 1, 6, none⟩ = some (.slice u.qo x.conds.length u.qc) := hT2.snd.cell 6 _ rfl
      by_cases hl2 : k2 < x.conds.length
      ·have hz2 := hT2.low.size
       have hlf2 := hT2.fst.lt
       have hls2 := hT2.snd.lt
       obtain ⟨g0, hg0, hb0, hc0⟩ := own_at (cs := cC) (sz := 6) (fun _ => rfl) h0.conds hT2.low (List.getElem?_eq_getElem hl2)
       obtain ⟨g1, hg1, hb1, hc1⟩ := own_at (cs := cC) (sz := 6) (fun _ => rfl) h1.conds hT2.low (List.getElem?_eq_getElem hl2)
       rw [hg0] at f2
       rw [hg1] at s2
       have d00 := low_cell (w := wr) (b := g0) (o := k2 * 6) (v := .string x.conds[k2].col) (by omega) (hc0 0 (.string x.conds[k2].col) rfl)
       have d10 := low_cell (w := wr) (b := g1) (o := k2 * 6) (v := .string x.conds[k2].col) (by omega) (hc1 0 (.string x.conds[k2].col) rfl)
       have d01 := low_cell (w := wr) (b := g0) (o := k2 * 6 + 1) (v := .int .i64 x.conds[k2].sign) (by omega) (hc0 1 (.int .i64 x.conds[k2].sign) rfl)
       have d11 := low_cell (w := wr) (b := g1) (o := k2 * 6 + 1) (v := .int .i64 x.conds[k2].sign) (by omega) (hc1 1 (.int .i64 x.conds[k2].sign) rfl)
       have d02 := low_cell (w := wr) (b := g0) (o := k2 * 6 + 2) (v := .int .i64 x.conds[k2].v.k) (by omega) (hc0 2 (.int .i64 x.conds[k2].v.k) rfl)
       have d12 := low_cell (w := wr) (b := g1) (o := k2 * 6 + 2) (v := .int .i64 x.conds[k2].v.k) (by omega) (hc1 2 (.int .i64 x.conds[k2].v.k) rfl)
       have d03 := low_cell (w := wr) (b := g0) (o := k2 * 6 + 3) (v := .int .i64 x.conds[k2].v.n) (by omega) (hc0 3 (.int .i64 x.conds[k2].v.n) rfl)
       have d13 := low_cell (w := wr) (b := g1) (o := k2 * 6 + 3) (v := .int .i64 x.conds[k2].v.n) (by omega) (hc1 3 (.int .i64 x.conds[k2].v.n) rfl)
       have d04 := low_cell (w := wr) (b := g0) (o := k2 * 6 + 4) (v := .int .u64 (x.conds[k2].v.f : Int)) (by omega) (hc0 4 (.int .u64 (x.conds[k2].v.f : Int)) rfl)
       have d14 := low_cell (w := wr) (b := g1) (o := k2 * 6 + 4) (v := .int .u64 (x.conds[k2].v.f : Int)) (by omega) (hc1 4 (.int .u64 (x.conds[k2].v.f : Int)) rfl)
       have d05 := low_cell (w := wr) (b := g0) (o := k2 * 6 + 5) (v := .string x.conds[k2].v.s) (by omega) (hc0 5 (.string x.conds[k2].v.s) rfl)
       have d15 := low_cell (w := wr) (b := g1) (o := k2 * 6 + 5) (v := .string x.conds[k2].v.s) (by omega) (hc1 5 (.string x.conds[k2].v.s) rfl)
       have df := low_cell hlf2 f2
       have ds := low_cell hls2 s2
       clear hc0 hc1 h0 h1 s2
       go_wp2_with fail
       refine wp_region_low (by kernel_rfl) (by kernel_rfl) fun hsome => ?_
       repeat (go_big_quiet_step (fail))
       refine wpQuiet_nil ?_
       rintro _ ⟨y, rfl⟩
       have hx := y.low
       go_wp2
       go_roundw
       case rel => exact ⟨k2 + 1, by omega, by go_num, hT2.next hx⟩
       case measure => simp [intOf]; omega
      ·obtain rfl : k2 = x.conds.length := by omega
       go_wp2
       go_loopw [8] (fun i wr => ∃ k : Nat, k ≤ x.types.length ∧ i = .int .i64 (k : Int) ∧ TwoB w wr #[.int .i64 x.kind, .string x.table, .string x.name, .slice t.co x.cols.length t.cc, .slice t.vo x.vals.length t.vc, .slice t.so x.sets.length t.sc, .slice t.qo x.conds.length t.qc, .bool x.uniq, .int .i64 x.type, .slice t.yo x.types.length t.yc] #[.int .i64 x.kind, .string x.table, .string x.name, .slice u.co x.cols.length u.cc, .slice u.vo x.vals.length u.vc, .slice u.so x.sets.length u.sc, .slice u.qo x.conds.length u.qc, .bool x.uniq, .int .i64 x.type, .slice u.yo x.types.length u.yc]) (fun i _ => x.types.length - (intOf i).toNat)
       case atStart => exact ⟨0, by omega, rfl, hT2⟩
       case round =>
        obtain ⟨k3, hk3, rfl, hT3⟩ := hrel
        have f3 : wr.cell? ⟨w.heap.size, 9, none⟩ = some (.slice t.yo x.types.length t.yc) := hT3.fst.cell 9 _ rfl
        have s3 : wr.cell? ⟨w.heap.size + 1, 9, none⟩ = some (.slice u.yo x.types.length u.yc) := hT3.snd.cell 9 _ rfl
        by_cases hl3 : k3 < x.types.length
        ·have hz3 := hT3.low.size
         have hlf3 := hT3.fst.lt
         have hls3 := hT3.snd.lt
         obtain ⟨g0, hg0, hb0, hc0⟩ := own_at (cs := cI) (sz := 1) (fun _ => rfl) h0.types hT3.low (List.getElem?_eq_getElem hl3)
         obtain ⟨g1, hg1, hb1, hc1⟩ := own_at (cs := cI) (sz := 1) (fun _ => rfl) h1.types hT3.low (List.getElem?_eq_getElem hl3)
         rw [hg0] at f3
         rw [hg1] at s3
         have d00 := low_cell (w := wr) (b := g0) (o := k3) (v := .int .i64 x.types[k3]) (by omega) (by have h := hc0 0 (.int .i64 x.types[k3]) rfl; rw [Nat.mul_one] at h; exact h)
         have d10 := low_cell (w := wr) (b := g1) (o := k3) (v := .int .i64 x.types[k3]) (by omega) (by have h := hc1 0 (.int .i64 x.types[k3]) rfl; rw [Nat.mul_one] at h; exact h)
         have df := low_cell hlf3 f3
         have ds := low_cell hls3 s3
         clear hc0 hc1 h0 h1 s3
         go_wp2_with fail
         refine wp_region_low (by kernel_rfl) (by kernel_rfl) fun hsome => ?_
         repeat (go_big_quiet_step (fail))
         refine wpQuiet_nil ?_
         rintro _ ⟨y, rfl⟩
         have hx := y.low
         go_wp2
         go_roundw
         case rel => exact ⟨k3 + 1, by omega, by go_num, hT3.next hx⟩
         case measure => simp [intOf]; omega
        ·obtain rfl : k3 = x.types.length := by omega
         go_wp2
         go_ret
         exact ⟨rfl, hT3.low⟩
end Go.Proofs.YtiajlhjjmlakmaaGreatDoor
