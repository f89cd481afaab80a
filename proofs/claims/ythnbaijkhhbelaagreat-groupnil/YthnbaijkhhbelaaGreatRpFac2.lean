/-
  Contracts: the face at each turn.
-/
import Derived.Test.YthnbaijkhhbelaaGreatRpFace
namespace Go.Proofs.YthnbaijkhhbelaaGreat
open Go.RowKit Num
open scoped Classical
set_option linter.unusedVariables false
set_option maxRecDepth 100000

theorem Num.LowB.drew {B : Nat} {p : Option Nat} {w W : World} (h : LowB B p w W) : LowB B p w W.drew := ⟨h.os, h.tape, h.output, h.size, h.block⟩
theorem x_drew {X : Option Obj → Prop} {p : Option Nat} {W : World} (h : ∀ k, p = some k → X W.heap[k]?) : ∀ k, p = some k → X W.drew.heap[k]? := h
theorem small_m0 {r : Rep} (h : SmallR r) : SmallM0 r := ⟨by have := h.ack; omega, by have := h.best; omega, by have := h.votes; omega, by have := h.voters; omega⟩
/-- The four boxes of the face. -/
structure Num.Four (w W : World) (r : Rep) (s : Sl) : Prop where
  b0 : BoxS W w.heap.size r s
  b1 : BoxF W (w.heap.size + 1) 46 13 (repF rep0 (.slice none 0 0) (.slice none 0 0) (.slice none 0 0) (.slice none 0 0) (.slice none 0 0) undef)
  b2 : Box1 W (w.heap.size + 1 + 1) 63 (.slice none 0 0)
  b3 : Box1 W (w.heap.size + 1 + 1 + 1) 26 (.int .i64 0)
theorem four_new (w : World) (r : Rep) (s : Sl) : Four w ((((w.alloc (repO r (.slice s.lo r.log.length s.lc) (.slice s.ao r.acked.length s.ac) (.slice s.vo r.votes.length s.vc) (.slice s.wo r.voters.length s.wc) (.slice s.bo r.best.length s.bc) 46)).alloc (repO0 46)).alloc (.cells #[.slice none 0 0] 63)).alloc (.cells #[.int .i64 0] 26)) r s :=
  ⟨(((box_rep w r (.slice s.lo r.log.length s.lc) (.slice s.ao r.acked.length s.ac) (.slice s.vo r.votes.length s.vc) (.slice s.wo r.voters.length s.wc) (.slice s.bo r.best.length s.bc) undef 46 w.heap.size rfl).alloc _).alloc _).alloc _, ((box_rep0 (w.alloc (repO r (.slice s.lo r.log.length s.lc) (.slice s.ao r.acked.length s.ac) (.slice s.vo r.votes.length s.vc) (.slice s.wo r.voters.length s.wc) (.slice s.bo r.best.length s.bc) 46)) undef 46 (w.heap.size + 1) (by simp)).alloc _).alloc _, alloc_box _ (heap_newB _ _ _ (by simp)), heap_newB _ _ _ (by simp)⟩
theorem Num.Four.kept {w W W' : World} {r : Rep} {s : Sl} (h : Four w W r s) (e : ∀ k, w.heap.size ≤ k → k < w.heap.size + 4 → W'.heap[k]? = W.heap[k]?) : Four w W' r s :=
  ⟨h.b0.kept (e _ (by omega) (by omega)), h.b1.kept (e _ (by omega) (by omega)), (e _ (by omega) (by omega)).trans h.b2, (e _ (by omega) (by omega)).trans h.b3⟩
theorem Num.Four.lt {w W : World} {r : Rep} {s : Sl} (h : Four w W r s) : w.heap.size + 4 ≤ W.heap.size := by
  have := (Array.getElem?_eq_some_iff.1 h.b3).1
  omega
theorem Num.Four.below {w W W' : World} {r : Rep} {s : Sl} (h : Four w W r s) (hb : Below W.heap.size W W') : Four w W' r s := h.kept fun k _ hk => hb.block k (by have := h.lt; omega)
/-- The copy in its box. -/
theorem turn_new {w w1 w2 : World} {r : Rep} {s2 : Sl} (hmay : May r) (h1 : w.heap.size + 4 ≤ w1.heap.size) (hb : Below w1.heap.size w1 w2) (hr : RowsS w1.heap.size w2 r s2) :
    Turn (w.heap.size + 4) (w2.alloc (.cells #[.int .i64 r.id, .int .i64 r.n, .int .i64 r.view, .int .i64 r.normal, .int .i64 r.how, .slice s2.lo r.log.length s2.lc, .int .i64 r.commit, .slice s2.ao r.acked.length s2.ac, .slice s2.vo r.votes.length s2.vc, .slice s2.wo r.voters.length s2.wc, .slice s2.bo r.best.length s2.bc, .int .i64 r.bestView, .int .i64 r.bestDone, .slice none 0 0] 143)) w2.heap.size r [] := by
  have hsz := hb.size
  have hbel := (Below.refl _ w2).alloc (Nat.le_refl _) (.cells #[.int .i64 r.id, .int .i64 r.n, .int .i64 r.view, .int .i64 r.normal, .int .i64 r.how, .slice s2.lo r.log.length s2.lc, .int .i64 r.commit, .slice s2.ao r.acked.length s2.ac, .slice s2.vo r.votes.length s2.vc, .slice s2.wo r.voters.length s2.wc, .slice s2.bo r.best.length s2.bc, .int .i64 r.bestView, .int .i64 r.bestDone, .slice none 0 0] 143)
  have hr' := hr.below hbel
  refine ⟨⟨_, _, _, _, _, .slice none 0 0, ⟨boxF_new w2 _ _ _ _ _ rfl rfl fun k hk => ?_, by omega, ⟨own_mono hr'.log h1, own_mono hr'.best h1, own_mono hr'.ack h1, own_mono hr'.vot h1, own_mono hr'.vor h1, hr'.a1, hr'.a2, hr'.a3, hr'.a4⟩⟩, OwnS.nil _ _ _ _ _⟩, by simp; omega, hmay.one, hmay.log.1, hmay.best.1.1, hmay.ack.1⟩
  match k, hk with
  | 0, _ => rfl
  | 1, _ => rfl
  | 2, _ => rfl
  | 3, _ => rfl
  | 4, _ => rfl
  | 5, _ => rfl
  | 6, _ => rfl
  | 7, _ => rfl
  | 8, _ => rfl
  | 9, _ => rfl
  | 10, _ => rfl
  | 11, _ => rfl
  | 12, _ => rfl
  | 13, _ => rfl
  | k + 14, hk => exact absurd hk (by omega)
/-- What is told beside an error. -/
def Num.Refused (w : World) (r : Rep) (e : Int) (p : Option Nat) (x : Ending) (w' : World) : Prop := ∃ s', x = .returned (.tuple #[repV r s', .slice none 0 0, .int .i64 e]) ∧ RowsS w.heap.size w' r s' ∧ LowB w.heap.size p w w'
theorem refused_told {w W w1 : World} {r : Rep} {s s' : Sl} {e : Int} {p : Option Nat} (h4 : Four w W r s) (hlow : LowB w.heap.size p w W) (hb1 : Below W.heap.size W w1) (hrw : RowsS W.heap.size w1 r s') : Refused w r e p (.returned (.tuple #[repV r s', .slice none 0 0, .int .i64 e])) (told w1 (w.heap.size + 1) (w.heap.size + 1 + 1) (w.heap.size + 1 + 1 + 1) r s' (.slice none 0 0) e) := by
  have h4' := h4.below hb1
  have hlt := h4.lt
  obtain ⟨t1, t2, t3, tk⟩ := told_is (by omega) (by omega) (by omega) h4'.b1 h4'.b2 h4'.b3 r s' (.slice none 0 0) e
  obtain ⟨z1, z2, z3, z4⟩ := told_size w1 (w.heap.size + 1) (w.heap.size + 1 + 1) (w.heap.size + 1 + 1 + 1) r s' (.slice none 0 0) e
  refine ⟨s', rfl, ?_, hlow.trans (LowB.trans (LowB.of_below (hb1.mono (by omega)) p) ⟨z2, z3, z4, Nat.le_of_eq z1.symm, fun k hk _ => tk k (by omega) (by omega) (by omega)⟩)⟩
  have hq := told_rowsR h4'.b1 h4'.b2 h4'.b3 (by omega) (by omega) (by omega) r s' (.slice none 0 0) e hrw
  exact ⟨own_mono hq.log (by omega), own_mono hq.best (by omega), own_mono hq.ack (by omega), own_mono hq.vot (by omega), own_mono hq.vor (by omega), hq.a1, hq.a2, hq.a3, hq.a4⟩
set_option maxRecDepth 100000 in
set_option maxHeartbeats 2000000 in
theorem face_arg (r : Rep) (s : Sl) (hsm : SmallR r) (hno : ¬ May r) (dv : Value) (p : Option Nat) (w : World) (hl : LiesR w w.heap.size s r) :
    Calls Tryz.prog 74 #[repV r s, dv] w fun x w' => Refused w r 1 p x w' := by
  have hmf : ∀ (fn : Fn) (first cap : Array Value) (w : World), (Instr.makeFunc fn first cap).run Tryz.prog w = .ok (.func fn first cap) w := fun _ _ _ _ => rfl
  have h4 := four_new w r s
  have hB : Below w.heap.size w ((((w.alloc (repO r (.slice s.lo r.log.length s.lc) (.slice s.ao r.acked.length s.ac) (.slice s.vo r.votes.length s.vc) (.slice s.wo r.voters.length s.wc) (.slice s.bo r.best.length s.bc) 46)).alloc (repO0 46)).alloc (.cells #[.slice none 0 0] 63)).alloc (.cells #[.int .i64 0] 26)) := ((((Below.refl _ w).alloc (Nat.le_refl _) _).alloc (by simp) _).alloc (by simp; omega) _).alloc (by simp; omega) _
  have hmay := may_any r s (small_m0 hsm) ((((w.alloc (repO r (.slice s.lo r.log.length s.lc) (.slice s.ao r.acked.length s.ac) (.slice s.vo r.votes.length s.vc) (.slice s.wo r.voters.length s.wc) (.slice s.bo r.best.length s.bc) 46)).alloc (repO0 46)).alloc (.cells #[.slice none 0 0] 63)).alloc (.cells #[.int .i64 0] 26)) (liesR_next hl hB hB.size)
  rw [tru_no hno] at hmay
  have hmust := fun W => must_no 1 W
  clear hno
  go_enter_defers Tryz.func74, Tryz.ntmps74
  go_wp2_with (first
    | (go_at_call 106; refine hmay.mono ?_; rintro e w1 ⟨rfl, hb1⟩)
    | (go_at_call 105; refine (hmust _).mono ?_; rintro e w2 ⟨rfl, hq⟩; have hq' := hq.symm; clear hq; subst hq'))
  have h41 := h4.below hb1
  have hw1 : Below w.heap.size w w1 := hB.trans (hb1.mono hB.size)
  refine doorF_panic w.heap.size _ rfl rfl rfl w1 r s hsm rep0 _ _ _ _ _ _ _ 1 h41.b0 h41.b1 h41.b2 h41.b3 (liesR_next hl hw1 hw1.size) ?_
  intro s' w2 hb2 hrw
  exact refused_told h41 (LowB.of_below hw1 p) hb2 hrw
end Go.Proofs.YthnbaijkhhbelaaGreat
