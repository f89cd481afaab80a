/-
  Contracts: the face at a doubt, and at a new beginning.
-/
import Derived.Test.YthnbaijkhhbelaaGreatRpFac2
namespace Go.Proofs.YthnbaijkhhbelaaGreat
open Go.RowKit Num
open scoped Classical
set_option linter.unusedVariables false
set_option maxRecDepth 100000

set_option maxRecDepth 100000 in
set_option maxHeartbeats 1500000 in
theorem face_no_suspect (r : Rep) (s : Sl) (hsm : SmallR r) (hyes : May r) (E : Int) (p : Option Nat) (w : World) (hp : ∀ k, p = some k → k < w.heap.size) (hl : LiesR w w.heap.size s r)
    (hdo : ∀ (W : World) (g : Nat), Below w.heap.size w W → Turn (w.heap.size + 4) W g r [] → Calls Tryz.prog 80 #[.pointer (some ⟨g, 0, none⟩)] W fun e W' => e = .panicked (boom E) ∧ LowB (w.heap.size + 4) p W W' ∧ (∀ k, p = some k → W'.heap[k]? = W.heap[k]?)) :
    Calls Tryz.prog 74 #[repV r s, .func (.func 80) #[] #[]] w fun x w' => Refused w r E none x w' := by
  have hmf : ∀ (fn : Fn) (first cap : Array Value) (w : World), (Instr.makeFunc fn first cap).run Tryz.prog w = .ok (.func fn first cap) w := fun _ _ _ _ => rfl
  have h4 := four_new w r s
  have hB : Below w.heap.size w ((((w.alloc (repO r (.slice s.lo r.log.length s.lc) (.slice s.ao r.acked.length s.ac) (.slice s.vo r.votes.length s.vc) (.slice s.wo r.voters.length s.wc) (.slice s.bo r.best.length s.bc) 46)).alloc (repO0 46)).alloc (.cells #[.slice none 0 0] 63)).alloc (.cells #[.int .i64 0] 26)) := ((((Below.refl _ w).alloc (Nat.le_refl _) _).alloc (by simp) _).alloc (by simp; omega) _).alloc (by simp; omega) _
  have hmay := may_any r s (small_m0 hsm) ((((w.alloc (repO r (.slice s.lo r.log.length s.lc) (.slice s.ao r.acked.length s.ac) (.slice s.vo r.votes.length s.vc) (.slice s.wo r.voters.length s.wc) (.slice s.bo r.best.length s.bc) 46)).alloc (repO0 46)).alloc (.cells #[.slice none 0 0] 63)).alloc (.cells #[.int .i64 0] 26)) (liesR_next hl hB hB.size)
  rw [tru_yes hyes] at hmay
  have hmust := fun W => must_yes 1 W
  have HY : Hid (May r) := hyes
  clear hyes
  go_enter_defers Tryz.func74, Tryz.ntmps74
  go_wp2_with (first
    | (go_at_call 106; refine hmay.mono ?_; rintro e w1 ⟨rfl, hb1⟩
       have h41 := h4.below hb1
       have hw1 : Below w.heap.size w w1 := hB.trans (hb1.mono hB.size)
       have hcop := copied_any r s hsm w1 (liesR_next hl hw1 hw1.size)
       obtain ⟨c0, c1, c2, c3, c4, c5, c6, c7, c8, c9, c10, c11, c12⟩ := h41.b0.rep (by omega))
    | (go_at_call 105; refine (hmust _).mono ?_; rintro e wn ⟨rfl, hq⟩; have hq' := hq.symm; clear hq; subst hq')
    | (go_at_call 103; refine hcop.mono ?_; rintro e w2 ⟨s2, rfl, hrw2, hb2⟩
       have hT := turn_new HY.out h41.lt hb2 hrw2
       have h42 := h41.below hb2
       have hw2 : Below w.heap.size w w2 := below_next hw1 (Nat.le_refl _) hb2
       have hd := hdo _ _ (hw2.alloc hw2.size _) hT
       clear hcop)
    | (go_at_call 80; refine hd.mono ?_; rintro e w3 ⟨rfl, hlo3, hpp3⟩))
  have hlo3' : LowB (w.heap.size + 4) none _ w3 := ⟨hlo3.os, hlo3.tape, hlo3.output, hlo3.size, fun k hk _ => if e : p = some k then hpp3 k e else hlo3.block k hk e⟩
  have hbA := (Below.refl _ w2).alloc (Nat.le_refl _) (.cells #[.int .i64 r.id, .int .i64 r.n, .int .i64 r.view, .int .i64 r.normal, .int .i64 r.how, .slice s2.lo r.log.length s2.lc, .int .i64 r.commit, .slice s2.ao r.acked.length s2.ac, .slice s2.vo r.votes.length s2.vc, .slice s2.wo r.voters.length s2.wc, .slice s2.bo r.best.length s2.bc, .int .i64 r.bestView, .int .i64 r.bestDone, .slice none 0 0] 143)
  have h43 : Four w w3 r s := (h42.below hbA).kept fun k _ hk => hlo3'.block k hk (by simp)
  have hw3 : Below w.heap.size w w3 := (below_next hw2 (Nat.le_refl _) hbA).trans (hlo3'.below.mono (by omega))
  refine doorF_panic w.heap.size _ rfl rfl rfl w3 r s hsm rep0 _ _ _ _ _ _ _ E h43.b0 h43.b1 h43.b2 h43.b3 (liesR_next hl hw3 hw3.size) ?_
  intro s' w4 hb4 hrw
  exact refused_told h43 (LowB.of_below hw3 none) hb4 hrw
set_option maxRecDepth 100000 in
set_option maxHeartbeats 1500000 in
theorem face_yes_suspect (r : Rep) (s : Sl) (hsm : SmallR r) (hyes : May r) (r' : Rep) (o' : Msgs) (p : Option Nat) (X : Option Obj → Prop) (w : World) (hp : ∀ k, p = some k → k < w.heap.size) (hl : LiesR w w.heap.size s r)
    (hdo : ∀ (W : World) (g : Nat), Below w.heap.size w W → Turn (w.heap.size + 4) W g r [] → Calls Tryz.prog 80 #[.pointer (some ⟨g, 0, none⟩)] W fun e W' => e = .returned (.tuple #[]) ∧ Turn (w.heap.size + 4) W' g r' o' ∧ LowB (w.heap.size + 4) p W W' ∧ (∀ k, p = some k → X W'.heap[k]?)) :
    Calls Tryz.prog 74 #[repV r s, .func (.func 80) #[] #[]] w fun x w' => ∃ s' xo xc, x = .returned (.tuple #[repV r' s', .slice xo o'.length xc, .int .i64 0]) ∧ RowsS w.heap.size w' r' s' ∧ OwnO w.heap.size w' (.slice xo o'.length xc) o' ∧ LowB w.heap.size p w w' ∧ (∀ k, p = some k → X w'.heap[k]?) := by
  have hmf : ∀ (fn : Fn) (first cap : Array Value) (w : World), (Instr.makeFunc fn first cap).run Tryz.prog w = .ok (.func fn first cap) w := fun _ _ _ _ => rfl
  have h4 := four_new w r s
  have hB : Below w.heap.size w ((((w.alloc (repO r (.slice s.lo r.log.length s.lc) (.slice s.ao r.acked.length s.ac) (.slice s.vo r.votes.length s.vc) (.slice s.wo r.voters.length s.wc) (.slice s.bo r.best.length s.bc) 46)).alloc (repO0 46)).alloc (.cells #[.slice none 0 0] 63)).alloc (.cells #[.int .i64 0] 26)) := ((((Below.refl _ w).alloc (Nat.le_refl _) _).alloc (by simp) _).alloc (by simp; omega) _).alloc (by simp; omega) _
  have hmay := may_any r s (small_m0 hsm) ((((w.alloc (repO r (.slice s.lo r.log.length s.lc) (.slice s.ao r.acked.length s.ac) (.slice s.vo r.votes.length s.vc) (.slice s.wo r.voters.length s.wc) (.slice s.bo r.best.length s.bc) 46)).alloc (repO0 46)).alloc (.cells #[.slice none 0 0] 63)).alloc (.cells #[.int .i64 0] 26)) (liesR_next hl hB hB.size)
  rw [tru_yes hyes] at hmay
  have hmust := fun W => must_yes 1 W
  have HY : Hid (May r) := hyes
  clear hyes
  go_enter_defers Tryz.func74, Tryz.ntmps74
  go_wp2_with (first
    | (go_at_call 106; refine hmay.mono ?_; rintro e w1 ⟨rfl, hb1⟩
       have h41 := h4.below hb1
       have hw1 : Below w.heap.size w w1 := hB.trans (hb1.mono hB.size)
       have hcop := copied_any r s hsm w1 (liesR_next hl hw1 hw1.size)
       obtain ⟨c0, c1, c2, c3, c4, c5, c6, c7, c8, c9, c10, c11, c12⟩ := h41.b0.rep (by omega))
    | (go_at_call 105; refine (hmust _).mono ?_; rintro e wn ⟨rfl, hq⟩; have hq' := hq.symm; clear hq; subst hq')
    | (go_at_call 103; refine hcop.mono ?_; rintro e w2 ⟨s2, rfl, hrw2, hb2⟩
       have hT := turn_new HY.out h41.lt hb2 hrw2
       have h42 := h41.below hb2
       have hw2 : Below w.heap.size w w2 := below_next hw1 (Nat.le_refl _) hb2
       have hd := hdo _ _ (hw2.alloc hw2.size _) hT
       clear hcop)
    | (go_at_call 80; refine hd.mono ?_; rintro e w3 ⟨rfl, hT3, hlo3, hX3⟩))
  have hbA := (Below.refl _ w2).alloc (Nat.le_refl _) (.cells #[.int .i64 r.id, .int .i64 r.n, .int .i64 r.view, .int .i64 r.normal, .int .i64 r.how, .slice s2.lo r.log.length s2.lc, .int .i64 r.commit, .slice s2.ao r.acked.length s2.ac, .slice s2.vo r.votes.length s2.vc, .slice s2.wo r.voters.length s2.wc, .slice s2.bo r.best.length s2.bc, .int .i64 r.bestView, .int .i64 r.bestDone, .slice none 0 0] 143)
  have h43 : Four w w3 r s := (h42.below hbA).kept fun k hk1 hk => hlo3.block k hk (fun e => by have := hp k e; omega)
  have hw3 : LowB w.heap.size p w w3 := (LowB.of_below (below_next hw2 (Nat.le_refl _) hbA) p).trans (hlo3.mono (by omega))
  obtain ⟨s3, xo, xc, ⟨d0, d1, d2, d3, d4, d5, d6, d7, d8, d9, d10, d11, d12, d13⟩, _, _, hH, hO⟩ := hT3.cells
  obtain ⟨r0, r1, r2, r3, r4, r5, r6, r7, r8, r9, r10, r11, r12⟩ := h43.b1.rep (by omega)
  have rz := h43.b1.unfrozen
  have x2 := box_cell h43.b2 0 _ rfl
  have y2 := box_open h43.b2 0
  have x3 := box_cell h43.b3 0 _ rfl
  have y3 := box_open h43.b3 0
  have hlt := h43.lt
  obtain ⟨t1, t2, t3, tk⟩ := told_is (by omega) (by omega) (by omega) h43.b1 h43.b2 h43.b3 r' s3 (.slice xo o'.length xc) 0
  obtain ⟨z1, z2, z3, z4⟩ := told_size w3 (w.heap.size + 1) (w.heap.size + 1 + 1) (w.heap.size + 1 + 1 + 1) r' s3 (.slice xo o'.length xc) 0
  have hq := told_rowsR h43.b1 h43.b2 h43.b3 (by omega) (by omega) (by omega) r' s3 (.slice xo o'.length xc) 0 hH.rows
  have hO' := told_own h43.b1 h43.b2 h43.b3 (by omega) (by omega) (by omega) r' s3 (.slice xo o'.length xc) 0 hO
  have hfin : RowsS w.heap.size (told w3 (w.heap.size + 1) (w.heap.size + 1 + 1) (w.heap.size + 1 + 1 + 1) r' s3 (.slice xo o'.length xc) 0) r' s3 := ⟨own_mono hq.log (by omega), own_mono hq.best (by omega), own_mono hq.ack (by omega), own_mono hq.vot (by omega), own_mono hq.vor (by omega), hq.a1, hq.a2, hq.a3, hq.a4⟩
  have hOf : OwnO w.heap.size (told w3 (w.heap.size + 1) (w.heap.size + 1 + 1) (w.heap.size + 1 + 1 + 1) r' s3 (.slice xo o'.length xc) 0) (.slice xo o'.length xc) o' := hO'.mono (by omega) (fun cs x h => by obtain ⟨c, e, h⟩ := h; exact ⟨c, e, own_mono h (by omega)⟩)
  have hLf : LowB w.heap.size p w (told w3 (w.heap.size + 1) (w.heap.size + 1 + 1) (w.heap.size + 1 + 1 + 1) r' s3 (.slice xo o'.length xc) 0) := hw3.trans ⟨z2, z3, z4, Nat.le_of_eq z1.symm, fun k hk _ => tk k (by omega) (by omega) (by omega)⟩
  have hXf : ∀ k, p = some k → X (told w3 (w.heap.size + 1) (w.heap.size + 1 + 1) (w.heap.size + 1 + 1 + 1) r' s3 (.slice xo o'.length xc) 0).heap[k]? := fun k hk => by
    have := hp k hk
    rw [tk k (by omega) (by omega) (by omega)]
    exact hX3 k hk
  clear hq hO' hH hO tk z1 z2 z3 z4 h43 h42 h41 h4 hmay hmust hrw2 hd hT hdo
  simp only [told, sets] at t1 t2 t3 hfin hOf hLf hXf
  go_region
  go_wp2
  refine doorF_ret w.heap.size _ rfl rfl rfl _ r' s3 (.slice xo o'.length xc) (.int .i64 0) t1.drew (heap_drew t2) (heap_drew t3) ?_
  exact ⟨s3, xo, xc, rfl, hfin.below (Below.refl _ _).drew, ownO_below hOf (Below.refl _ _).drew, hLf.drew, x_drew hXf⟩
set_option maxRecDepth 100000 in
set_option maxHeartbeats 1500000 in
theorem face_no_restart (r : Rep) (s : Sl) (hsm : SmallR r) (hyes : May r) (E : Int) (p : Option Nat) (w : World) (hp : ∀ k, p = some k → k < w.heap.size) (hl : LiesR w w.heap.size s r)
    (hdo : ∀ (W : World) (g : Nat), Below w.heap.size w W → Turn (w.heap.size + 4) W g r [] → Calls Tryz.prog 81 #[.pointer (some ⟨g, 0, none⟩)] W fun e W' => e = .panicked (boom E) ∧ LowB (w.heap.size + 4) p W W' ∧ (∀ k, p = some k → W'.heap[k]? = W.heap[k]?)) :
    Calls Tryz.prog 74 #[repV r s, .func (.func 81) #[] #[]] w fun x w' => Refused w r E none x w' := by
  have hmf : ∀ (fn : Fn) (first cap : Array Value) (w : World), (Instr.makeFunc fn first cap).run Tryz.prog w = .ok (.func fn first cap) w := fun _ _ _ _ => rfl
  have h4 := four_new w r s
  have hB : Below w.heap.size w ((((w.alloc (repO r (.slice s.lo r.log.length s.lc) (.slice s.ao r.acked.length s.ac) (.slice s.vo r.votes.length s.vc) (.slice s.wo r.voters.length s.wc) (.slice s.bo r.best.length s.bc) 46)).alloc (repO0 46)).alloc (.cells #[.slice none 0 0] 63)).alloc (.cells #[.int .i64 0] 26)) := ((((Below.refl _ w).alloc (Nat.le_refl _) _).alloc (by simp) _).alloc (by simp; omega) _).alloc (by simp; omega) _
  have hmay := may_any r s (small_m0 hsm) ((((w.alloc (repO r (.slice s.lo r.log.length s.lc) (.slice s.ao r.acked.length s.ac) (.slice s.vo r.votes.length s.vc) (.slice s.wo r.voters.length s.wc) (.slice s.bo r.best.length s.bc) 46)).alloc (repO0 46)).alloc (.cells #[.slice none 0 0] 63)).alloc (.cells #[.int .i64 0] 26)) (liesR_next hl hB hB.size)
  rw [tru_yes hyes] at hmay
  have hmust := fun W => must_yes 1 W
  have HY : Hid (May r) := hyes
  clear hyes
  go_enter_defers Tryz.func74, Tryz.ntmps74
  go_wp2_with (first
    | (go_at_call 106; refine hmay.mono ?_; rintro e w1 ⟨rfl, hb1⟩
       have h41 := h4.below hb1
       have hw1 : Below w.heap.size w w1 := hB.trans (hb1.mono hB.size)
       have hcop := copied_any r s hsm w1 (liesR_next hl hw1 hw1.size)
       obtain ⟨c0, c1, c2, c3, c4, c5, c6, c7, c8, c9, c10, c11, c12⟩ := h41.b0.rep (by omega))
    | (go_at_call 105; refine (hmust _).mono ?_; rintro e wn ⟨rfl, hq⟩; have hq' := hq.symm; clear hq; subst hq')
    | (go_at_call 103; refine hcop.mono ?_; rintro e w2 ⟨s2, rfl, hrw2, hb2⟩
       have hT := turn_new HY.out h41.lt hb2 hrw2
       have h42 := h41.below hb2
       have hw2 : Below w.heap.size w w2 := below_next hw1 (Nat.le_refl _) hb2
       have hd := hdo _ _ (hw2.alloc hw2.size _) hT
       clear hcop)
    | (go_at_call 81; refine hd.mono ?_; rintro e w3 ⟨rfl, hlo3, hpp3⟩))
  have hlo3' : LowB (w.heap.size + 4) none _ w3 := ⟨hlo3.os, hlo3.tape, hlo3.output, hlo3.size, fun k hk _ => if e : p = some k then hpp3 k e else hlo3.block k hk e⟩
  have hbA := (Below.refl _ w2).alloc (Nat.le_refl _) (.cells #[.int .i64 r.id, .int .i64 r.n, .int .i64 r.view, .int .i64 r.normal, .int .i64 r.how, .slice s2.lo r.log.length s2.lc, .int .i64 r.commit, .slice s2.ao r.acked.length s2.ac, .slice s2.vo r.votes.length s2.vc, .slice s2.wo r.voters.length s2.wc, .slice s2.bo r.best.length s2.bc, .int .i64 r.bestView, .int .i64 r.bestDone, .slice none 0 0] 143)
  have h43 : Four w w3 r s := (h42.below hbA).kept fun k _ hk => hlo3'.block k hk (by simp)
  have hw3 : Below w.heap.size w w3 := (below_next hw2 (Nat.le_refl _) hbA).trans (hlo3'.below.mono (by omega))
  refine doorF_panic w.heap.size _ rfl rfl rfl w3 r s hsm rep0 _ _ _ _ _ _ _ E h43.b0 h43.b1 h43.b2 h43.b3 (liesR_next hl hw3 hw3.size) ?_
  intro s' w4 hb4 hrw
  exact refused_told h43 (LowB.of_below hw3 none) hb4 hrw
set_option maxRecDepth 100000 in
set_option maxHeartbeats 1500000 in
theorem face_yes_restart (r : Rep) (s : Sl) (hsm : SmallR r) (hyes : May r) (r' : Rep) (o' : Msgs) (p : Option Nat) (X : Option Obj → Prop) (w : World) (hp : ∀ k, p = some k → k < w.heap.size) (hl : LiesR w w.heap.size s r)
    (hdo : ∀ (W : World) (g : Nat), Below w.heap.size w W → Turn (w.heap.size + 4) W g r [] → Calls Tryz.prog 81 #[.pointer (some ⟨g, 0, none⟩)] W fun e W' => e = .returned (.tuple #[]) ∧ Turn (w.heap.size + 4) W' g r' o' ∧ LowB (w.heap.size + 4) p W W' ∧ (∀ k, p = some k → X W'.heap[k]?)) :
    Calls Tryz.prog 74 #[repV r s, .func (.func 81) #[] #[]] w fun x w' => ∃ s' xo xc, x = .returned (.tuple #[repV r' s', .slice xo o'.length xc, .int .i64 0]) ∧ RowsS w.heap.size w' r' s' ∧ OwnO w.heap.size w' (.slice xo o'.length xc) o' ∧ LowB w.heap.size p w w' ∧ (∀ k, p = some k → X w'.heap[k]?) := by
  have hmf : ∀ (fn : Fn) (first cap : Array Value) (w : World), (Instr.makeFunc fn first cap).run Tryz.prog w = .ok (.func fn first cap) w := fun _ _ _ _ => rfl
  have h4 := four_new w r s
  have hB : Below w.heap.size w ((((w.alloc (repO r (.slice s.lo r.log.length s.lc) (.slice s.ao r.acked.length s.ac) (.slice s.vo r.votes.length s.vc) (.slice s.wo r.voters.length s.wc) (.slice s.bo r.best.length s.bc) 46)).alloc (repO0 46)).alloc (.cells #[.slice none 0 0] 63)).alloc (.cells #[.int .i64 0] 26)) := ((((Below.refl _ w).alloc (Nat.le_refl _) _).alloc (by simp) _).alloc (by simp; omega) _).alloc (by simp; omega) _
  have hmay := may_any r s (small_m0 hsm) ((((w.alloc (repO r (.slice s.lo r.log.length s.lc) (.slice s.ao r.acked.length s.ac) (.slice s.vo r.votes.length s.vc) (.slice s.wo r.voters.length s.wc) (.slice s.bo r.best.length s.bc) 46)).alloc (repO0 46)).alloc (.cells #[.slice none 0 0] 63)).alloc (.cells #[.int .i64 0] 26)) (liesR_next hl hB hB.size)
  rw [tru_yes hyes] at hmay
  have hmust := fun W => must_yes 1 W
  have HY : Hid (May r) := hyes
  clear hyes
  go_enter_defers Tryz.func74, Tryz.ntmps74
  go_wp2_with (first
    | (go_at_call 106; refine hmay.mono ?_; rintro e w1 ⟨rfl, hb1⟩
       have h41 := h4.below hb1
       have hw1 : Below w.heap.size w w1 := hB.trans (hb1.mono hB.size)
       have hcop := copied_any r s hsm w1 (liesR_next hl hw1 hw1.size)
       obtain ⟨c0, c1, c2, c3, c4, c5, c6, c7, c8, c9, c10, c11, c12⟩ := h41.b0.rep (by omega))
    | (go_at_call 105; refine (hmust _).mono ?_; rintro e wn ⟨rfl, hq⟩; have hq' := hq.symm; clear hq; subst hq')
    | (go_at_call 103; refine hcop.mono ?_; rintro e w2 ⟨s2, rfl, hrw2, hb2⟩
       have hT := turn_new HY.out h41.lt hb2 hrw2
       have h42 := h41.below hb2
       have hw2 : Below w.heap.size w w2 := below_next hw1 (Nat.le_refl _) hb2
       have hd := hdo _ _ (hw2.alloc hw2.size _) hT
       clear hcop)
    | (go_at_call 81; refine hd.mono ?_; rintro e w3 ⟨rfl, hT3, hlo3, hX3⟩))
  have hbA := (Below.refl _ w2).alloc (Nat.le_refl _) (.cells #[.int .i64 r.id, .int .i64 r.n, .int .i64 r.view, .int .i64 r.normal, .int .i64 r.how, .slice s2.lo r.log.length s2.lc, .int .i64 r.commit, .slice s2.ao r.acked.length s2.ac, .slice s2.vo r.votes.length s2.vc, .slice s2.wo r.voters.length s2.wc, .slice s2.bo r.best.length s2.bc, .int .i64 r.bestView, .int .i64 r.bestDone, .slice none 0 0] 143)
  have h43 : Four w w3 r s := (h42.below hbA).kept fun k hk1 hk => hlo3.block k hk (fun e => by have := hp k e; omega)
  have hw3 : LowB w.heap.size p w w3 := (LowB.of_below (below_next hw2 (Nat.le_refl _) hbA) p).trans (hlo3.mono (by omega))
  obtain ⟨s3, xo, xc, ⟨d0, d1, d2, d3, d4, d5, d6, d7, d8, d9, d10, d11, d12, d13⟩, _, _, hH, hO⟩ := hT3.cells
  obtain ⟨r0, r1, r2, r3, r4, r5, r6, r7, r8, r9, r10, r11, r12⟩ := h43.b1.rep (by omega)
  have rz := h43.b1.unfrozen
  have x2 := box_cell h43.b2 0 _ rfl
  have y2 := box_open h43.b2 0
  have x3 := box_cell h43.b3 0 _ rfl
  have y3 := box_open h43.b3 0
  have hlt := h43.lt
  obtain ⟨t1, t2, t3, tk⟩ := told_is (by omega) (by omega) (by omega) h43.b1 h43.b2 h43.b3 r' s3 (.slice xo o'.length xc) 0
  obtain ⟨z1, z2, z3, z4⟩ := told_size w3 (w.heap.size + 1) (w.heap.size + 1 + 1) (w.heap.size + 1 + 1 + 1) r' s3 (.slice xo o'.length xc) 0
  have hq := told_rowsR h43.b1 h43.b2 h43.b3 (by omega) (by omega) (by omega) r' s3 (.slice xo o'.length xc) 0 hH.rows
  have hO' := told_own h43.b1 h43.b2 h43.b3 (by omega) (by omega) (by omega) r' s3 (.slice xo o'.length xc) 0 hO
  have hfin : RowsS w.heap.size (told w3 (w.heap.size + 1) (w.heap.size + 1 + 1) (w.heap.size + 1 + 1 + 1) r' s3 (.slice xo o'.length xc) 0) r' s3 := ⟨own_mono hq.log (by omega), own_mono hq.best (by omega), own_mono hq.ack (by omega), own_mono hq.vot (by omega), own_mono hq.vor (by omega), hq.a1, hq.a2, hq.a3, hq.a4⟩
  have hOf : OwnO w.heap.size (told w3 (w.heap.size + 1) (w.heap.size + 1 + 1) (w.heap.size + 1 + 1 + 1) r' s3 (.slice xo o'.length xc) 0) (.slice xo o'.length xc) o' := hO'.mono (by omega) (fun cs x h => by obtain ⟨c, e, h⟩ := h; exact ⟨c, e, own_mono h (by omega)⟩)
  have hLf : LowB w.heap.size p w (told w3 (w.heap.size + 1) (w.heap.size + 1 + 1) (w.heap.size + 1 + 1 + 1) r' s3 (.slice xo o'.length xc) 0) := hw3.trans ⟨z2, z3, z4, Nat.le_of_eq z1.symm, fun k hk _ => tk k (by omega) (by omega) (by omega)⟩
  have hXf : ∀ k, p = some k → X (told w3 (w.heap.size + 1) (w.heap.size + 1 + 1) (w.heap.size + 1 + 1 + 1) r' s3 (.slice xo o'.length xc) 0).heap[k]? := fun k hk => by
    have := hp k hk
    rw [tk k (by omega) (by omega) (by omega)]
    exact hX3 k hk
  clear hq hO' hH hO tk z1 z2 z3 z4 h43 h42 h41 h4 hmay hmust hrw2 hd hT hdo
  simp only [told, sets] at t1 t2 t3 hfin hOf hLf hXf
  go_region
  go_wp2
  refine doorF_ret w.heap.size _ rfl rfl rfl _ r' s3 (.slice xo o'.length xc) (.int .i64 0) t1.drew (heap_drew t2) (heap_drew t3) ?_
  exact ⟨s3, xo, xc, rfl, hfin.below (Below.refl _ _).drew, ownO_below hOf (Below.refl _ _).drew, hLf.drew, x_drew hXf⟩
end Go.Proofs.YthnbaijkhhbelaaGreat
