/-
  Joined:
  Contracts: the face at a message.
  Contracts of a replica at work: a message that may not come; Take, whole, by what takes it.
  Contract: the program's Take, by what is made of its message; what it tells is the call's own.
-/
import Derived.Test.YtajbdffepfjegaaGreatRpG8
import Derived.Test.YtajbdffepfjegaaGreatRpG15
import Derived.Test.YtajbdffepfjegaaGreatRpG10
namespace Go.Proofs.YtajbdffepfjegaaGreat
open Go.RowKit Num
open scoped Classical
set_option linter.unusedVariables false
set_option maxRecDepth 100000

set_option maxRecDepth 100000 in
set_option maxHeartbeats 1500000 in
theorem face_no_take (r : Rep) (s : Sl) (hsm : SmallR r) (hyes : May r) (q0 : Value) (E : Int) (p : Option Nat) (w : World) (hp : ∀ k, p = some k → k < w.heap.size) (hl : LiesR w w.heap.size s r)
    (hdo : ∀ (W : World) (g : Nat), Below w.heap.size w W → Turn (w.heap.size + 4) W g r [] → Calls Tryz.prog 23 #[.pointer (some ⟨g, 0, none⟩), q0] W fun e W' => e = .panicked (boom E) ∧ LowB (w.heap.size + 4) p W W' ∧ (∀ k, p = some k → W'.heap[k]? = W.heap[k]?)) :
    Calls Tryz.prog 22 #[repV r s, .func (.func 23) #[] #[q0]] w fun x w' => Refused w r E none x w' := by
  have hmf : ∀ (fn : Fn) (first cap : Array Value) (w : World), (Instr.makeFunc fn first cap).run Tryz.prog w = .ok (.func fn first cap) w := fun _ _ _ _ => rfl
  have h4 := four_new w r s
  have hB : Below w.heap.size w ((((w.alloc (repO r (.slice s.lo r.log.length s.lc) (.slice s.ao r.acked.length s.ac) (.slice s.vo r.votes.length s.vc) (.slice s.wo r.voters.length s.wc) (.slice s.bo r.best.length s.bc) 25)).alloc (repO0 25)).alloc (.cells #[.slice none 0 0] 30)).alloc (.cells #[.int .i64 0] 35)) := ((((Below.refl _ w).alloc (Nat.le_refl _) _).alloc (by simp) _).alloc (by simp; omega) _).alloc (by simp; omega) _
  have hmay := may_any r s (small_m0 hsm) ((((w.alloc (repO r (.slice s.lo r.log.length s.lc) (.slice s.ao r.acked.length s.ac) (.slice s.vo r.votes.length s.vc) (.slice s.wo r.voters.length s.wc) (.slice s.bo r.best.length s.bc) 25)).alloc (repO0 25)).alloc (.cells #[.slice none 0 0] 30)).alloc (.cells #[.int .i64 0] 35)) (liesR_next hl hB hB.size)
  rw [tru_yes hyes] at hmay
  have hmust := fun W => must_yes 1 W
  have HY : Hid (May r) := hyes
  clear hyes
  go_enter_defers Tryz.func22, Tryz.ntmps22
  go_wp2_with (first
    | (go_at_call 37; refine hmay.mono ?_; rintro e w1 ⟨rfl, hb1⟩
       have h41 := h4.below hb1
       have hw1 : Below w.heap.size w w1 := hB.trans (hb1.mono hB.size)
       have hcop := copied_any r s hsm w1 (liesR_next hl hw1 hw1.size)
       obtain ⟨c0, c1, c2, c3, c4, c5, c6, c7, c8, c9, c10, c11, c12⟩ := h41.b0.rep (by omega))
    | (go_at_call 36; refine (hmust _).mono ?_; rintro e wn ⟨rfl, hq⟩; have hq' := hq.symm; clear hq; subst hq')
    | (go_at_call 34; refine hcop.mono ?_; rintro e w2 ⟨s2, rfl, hrw2, hb2⟩
       have hT := turn_new HY.out h41.lt hb2 hrw2
       have h42 := h41.below hb2
       have hw2 : Below w.heap.size w w2 := below_next hw1 (Nat.le_refl _) hb2
       have hd := hdo _ _ (hw2.alloc hw2.size _) hT
       clear hcop)
    | (go_at_call 23; refine hd.mono ?_; rintro e w3 ⟨rfl, hlo3, hpp3⟩))
  have hlo3' : LowB (w.heap.size + 4) none _ w3 := ⟨hlo3.os, hlo3.tape, hlo3.output, hlo3.size, fun k hk _ => if e : p = some k then hpp3 k e else hlo3.block k hk e⟩
  have hbA := (Below.refl _ w2).alloc (Nat.le_refl _) (.cells #[.int .i64 r.id, .int .i64 r.n, .int .i64 r.view, .int .i64 r.normal, .int .i64 r.how, .slice s2.lo r.log.length s2.lc, .int .i64 r.commit, .slice s2.ao r.acked.length s2.ac, .slice s2.vo r.votes.length s2.vc, .slice s2.wo r.voters.length s2.wc, .slice s2.bo r.best.length s2.bc, .int .i64 r.bestView, .int .i64 r.bestDone, .slice none 0 0] 65)
  have h43 : Four w w3 r s := (h42.below hbA).kept fun k _ hk => hlo3'.block k hk (by simp)
  have hw3 : Below w.heap.size w w3 := (below_next hw2 (Nat.le_refl _) hbA).trans (hlo3'.below.mono (by omega))
  refine doorF_panic w.heap.size _ rfl rfl rfl w3 r s hsm rep0 _ _ _ _ _ _ _ E h43.b0 h43.b1 h43.b2 h43.b3 (liesR_next hl hw3 hw3.size) ?_
  intro s' w4 hb4 hrw
  exact refused_told h43 (LowB.of_below hw3 none) hb4 hrw
set_option maxRecDepth 100000 in
set_option maxHeartbeats 1500000 in
theorem face_yes_take (r : Rep) (s : Sl) (hsm : SmallR r) (hyes : May r) (q0 : Value) (r' : Rep) (o' : Msgs) (p : Option Nat) (X : Option Obj → Prop) (w : World) (hp : ∀ k, p = some k → k < w.heap.size) (hl : LiesR w w.heap.size s r)
    (hdo : ∀ (W : World) (g : Nat), Below w.heap.size w W → Turn (w.heap.size + 4) W g r [] → Calls Tryz.prog 23 #[.pointer (some ⟨g, 0, none⟩), q0] W fun e W' => e = .returned (.tuple #[]) ∧ Turn (w.heap.size + 4) W' g r' o' ∧ LowB (w.heap.size + 4) p W W' ∧ (∀ k, p = some k → X W'.heap[k]?)) :
    Calls Tryz.prog 22 #[repV r s, .func (.func 23) #[] #[q0]] w fun x w' => ∃ s' xo xc, x = .returned (.tuple #[repV r' s', .slice xo o'.length xc, .int .i64 0]) ∧ RowsS w.heap.size w' r' s' ∧ OwnO w.heap.size w' (.slice xo o'.length xc) o' ∧ LowB w.heap.size p w w' ∧ (∀ k, p = some k → X w'.heap[k]?) := by
  have hmf : ∀ (fn : Fn) (first cap : Array Value) (w : World), (Instr.makeFunc fn first cap).run Tryz.prog w = .ok (.func fn first cap) w := fun _ _ _ _ => rfl
  have h4 := four_new w r s
  have hB : Below w.heap.size w ((((w.alloc (repO r (.slice s.lo r.log.length s.lc) (.slice s.ao r.acked.length s.ac) (.slice s.vo r.votes.length s.vc) (.slice s.wo r.voters.length s.wc) (.slice s.bo r.best.length s.bc) 25)).alloc (repO0 25)).alloc (.cells #[.slice none 0 0] 30)).alloc (.cells #[.int .i64 0] 35)) := ((((Below.refl _ w).alloc (Nat.le_refl _) _).alloc (by simp) _).alloc (by simp; omega) _).alloc (by simp; omega) _
  have hmay := may_any r s (small_m0 hsm) ((((w.alloc (repO r (.slice s.lo r.log.length s.lc) (.slice s.ao r.acked.length s.ac) (.slice s.vo r.votes.length s.vc) (.slice s.wo r.voters.length s.wc) (.slice s.bo r.best.length s.bc) 25)).alloc (repO0 25)).alloc (.cells #[.slice none 0 0] 30)).alloc (.cells #[.int .i64 0] 35)) (liesR_next hl hB hB.size)
  rw [tru_yes hyes] at hmay
  have hmust := fun W => must_yes 1 W
  have HY : Hid (May r) := hyes
  clear hyes
  go_enter_defers Tryz.func22, Tryz.ntmps22
  go_wp2_with (first
    | (go_at_call 37; refine hmay.mono ?_; rintro e w1 ⟨rfl, hb1⟩
       have h41 := h4.below hb1
       have hw1 : Below w.heap.size w w1 := hB.trans (hb1.mono hB.size)
       have hcop := copied_any r s hsm w1 (liesR_next hl hw1 hw1.size)
       obtain ⟨c0, c1, c2, c3, c4, c5, c6, c7, c8, c9, c10, c11, c12⟩ := h41.b0.rep (by omega))
    | (go_at_call 36; refine (hmust _).mono ?_; rintro e wn ⟨rfl, hq⟩; have hq' := hq.symm; clear hq; subst hq')
    | (go_at_call 34; refine hcop.mono ?_; rintro e w2 ⟨s2, rfl, hrw2, hb2⟩
       have hT := turn_new HY.out h41.lt hb2 hrw2
       have h42 := h41.below hb2
       have hw2 : Below w.heap.size w w2 := below_next hw1 (Nat.le_refl _) hb2
       have hd := hdo _ _ (hw2.alloc hw2.size _) hT
       clear hcop)
    | (go_at_call 23; refine hd.mono ?_; rintro e w3 ⟨rfl, hT3, hlo3, hX3⟩))
  have hbA := (Below.refl _ w2).alloc (Nat.le_refl _) (.cells #[.int .i64 r.id, .int .i64 r.n, .int .i64 r.view, .int .i64 r.normal, .int .i64 r.how, .slice s2.lo r.log.length s2.lc, .int .i64 r.commit, .slice s2.ao r.acked.length s2.ac, .slice s2.vo r.votes.length s2.vc, .slice s2.wo r.voters.length s2.wc, .slice s2.bo r.best.length s2.bc, .int .i64 r.bestView, .int .i64 r.bestDone, .slice none 0 0] 65)
  have h43 : Four w w3 r s := (h42.below hbA).kept fun k hk1 hk => hlo3.block k hk (fun e => by have := hp k e; omega)
  have hw3 : LowB w.heap.size p w w3 := (LowB.of_below (below_next hw2 (Nat.le_refl _) hbA) p).trans (hlo3.mono (by omega))
  obtain ⟨s3, xo, xc, ⟨d0, d1, d2, d3, d4, d5, d6, d7, d8, d9, d10, d11, d12, d13⟩, _, _, hH, hO⟩ := hT3.cells
  obtain ⟨r0, r1, r2, r3, r4, r5, r6, r7, r8, r9, r10, r11, r12⟩ := h43.b1.rep (by omega)
  have rz := h43.b1.unfrozen
  have x2 := box_cell h43.b2 0 _ rfl
  have y2 := box_open h43.b2 0
  have x3 := box_cell h43.b3 0 _ rfl
  have y3 := box_open h43.b3 0
  have hlt := h43.lt
  obtain ⟨t1, t2, t3, tk⟩ := told_is (by omega) (by omega) (by omega) h43.b1 h43.b2 h43.b3 r' s3 (.slice xo o'.length xc) 0
  obtain ⟨z1, z2, z3, z4⟩ := told_size w3 (w.heap.size + 1) (w.heap.size + 1 + 1) (w.heap.size + 1 + 1 + 1) r' s3 (.slice xo o'.length xc) 0
  have hq := told_rowsR h43.b1 h43.b2 h43.b3 (by omega) (by omega) (by omega) r' s3 (.slice xo o'.length xc) 0 hH.rows
  have hO' := told_own h43.b1 h43.b2 h43.b3 (by omega) (by omega) (by omega) r' s3 (.slice xo o'.length xc) 0 hO
  have hfin : RowsS w.heap.size (told w3 (w.heap.size + 1) (w.heap.size + 1 + 1) (w.heap.size + 1 + 1 + 1) r' s3 (.slice xo o'.length xc) 0) r' s3 := ⟨own_mono hq.log (by omega), own_mono hq.best (by omega), own_mono hq.ack (by omega), own_mono hq.vot (by omega), own_mono hq.vor (by omega), hq.a1, hq.a2, hq.a3, hq.a4⟩
  have hOf : OwnO w.heap.size (told w3 (w.heap.size + 1) (w.heap.size + 1 + 1) (w.heap.size + 1 + 1 + 1) r' s3 (.slice xo o'.length xc) 0) (.slice xo o'.length xc) o' := hO'.mono (by omega) (fun cs x h => by obtain ⟨c, e, h⟩ := h; exact ⟨c, e, own_mono h (by omega)⟩)
  have hLf : LowB w.heap.size p w (told w3 (w.heap.size + 1) (w.heap.size + 1 + 1) (w.heap.size + 1 + 1 + 1) r' s3 (.slice xo o'.length xc) 0) := hw3.trans ⟨z2, z3, z4, Nat.le_of_eq z1.symm, fun k hk _ => tk k (by omega) (by omega) (by omega)⟩
  have hXf : ∀ k, p = some k → X (told w3 (w.heap.size + 1) (w.heap.size + 1 + 1) (w.heap.size + 1 + 1 + 1) r' s3 (.slice xo o'.length xc) 0).heap[k]? := fun k hk => by
    have := hp k hk
    rw [tk k (by omega) (by omega) (by omega)]
    exact hX3 k hk
  clear hq hO' hH hO tk z1 z2 z3 z4 h43 h42 h41 h4 hmay hmust hrw2 hd hT hdo
  simp only [told, sets] at t1 t2 t3 hfin hOf hLf hXf
  go_region
  go_wp2
  refine doorF_ret w.heap.size _ rfl rfl rfl _ r' s3 (.slice xo o'.length xc) (.int .i64 0) t1.drew (heap_drew t2) (heap_drew t3) ?_
  exact ⟨s3, xo, xc, rfl, hfin.below (Below.refl _ _).drew, ownO_below hOf (Below.refl _ _).drew, hLf.drew, x_drew hXf⟩
end Go.Proofs.YtajbdffepfjegaaGreat
namespace Go.Proofs.YtajbdffepfjegaaGreat
open Go.RowKit Num
open scoped Classical
set_option linter.unusedVariables false
set_option maxRecDepth 100000
set_option maxRecDepth 100000 in
set_option maxHeartbeats 1000000 in
theorem take_bad1 (B g : Nat) (r : Rep) (m : Msg) (bo : Option Addr) (c : Nat) (hk : ¬ (1 ≤ m.a0 ∧ m.a0 ≤ 8)) (w : World) (h : Turn B w g r []) (hs : SrcE B w bo c m.log) :
    Calls Tryz.prog 24 #[.pointer (some ⟨g, 0, none⟩), msV m bo c] w fun e w' => e = .panicked (boom 1) ∧ Below B w w' := by
  have hif := fun W => isFrom_any 1 m.a0 8 W
  rw [tru_no hk] at hif
  have hmust := fun W => must_no 1 W
  clear hk
  have hT := tm_new h #[.int .i64 m.a0, .int .i64 m.a1, .int .i64 m.a2, .int .i64 m.a3, .int .i64 m.a4, .int .i64 m.a5, .int .i64 m.a6, .slice bo m.log.length c]
  have hgw : w.heap.size ≠ g := hT.ne
  have hlow : Below w.heap.size w (w.alloc (.cells #[.int .i64 m.a0, .int .i64 m.a1, .int .i64 m.a2, .int .i64 m.a3, .int .i64 m.a4, .int .i64 m.a5, .int .i64 m.a6, .slice bo m.log.length c] 27)) := (Below.refl _ w).alloc (Nat.le_refl _) _
  have hK := Keep.of_below hlow h.base
  have hs := hs.keep hK
  have hB := h.base
  go_enter Tryz.func24, Tryz.ntmps24
  go_wp2_with fail
  clear h
  have hmlt : w.heap.size < (w.alloc (.cells #[.int .i64 m.a0, .int .i64 m.a1, .int .i64 m.a2, .int .i64 m.a3, .int .i64 m.a4, .int .i64 m.a5, .int .i64 m.a6, .slice bo m.log.length c] 27)).heap.size := by simp
  have hmb : (w.alloc (.cells #[.int .i64 m.a0, .int .i64 m.a1, .int .i64 m.a2, .int .i64 m.a3, .int .i64 m.a4, .int .i64 m.a5, .int .i64 m.a6, .slice bo m.log.length c] 27)).heap[w.heap.size]? = some (.cells #[.int .i64 m.a0, .int .i64 m.a1, .int .i64 m.a2, .int .i64 m.a3, .int .i64 m.a4, .int .i64 m.a5, .int .i64 m.a6, .slice bo m.log.length c] 27 (0, 0)) := hT.box
  obtain ⟨MB, hMB⟩ : ∃ M : Nat × Obj, M = (w.heap.size, .cells #[.int .i64 m.a0, .int .i64 m.a1, .int .i64 m.a2, .int .i64 m.a3, .int .i64 m.a4, .int .i64 m.a5, .int .i64 m.a6, .slice bo m.log.length c] 27 (0, 0)) := ⟨_, rfl⟩
  have HMX : Hid (∀ (w3 : World) (r' : Rep) (o' : Msgs), TM MB B w3 g r' o' → w3.heap[w.heap.size]? = some (.cells #[.int .i64 m.a0, .int .i64 m.a1, .int .i64 m.a2, .int .i64 m.a3, .int .i64 m.a4, .int .i64 m.a5, .int .i64 m.a6, .slice bo m.log.length c] 27 (0, 0))) := fun w3 r' o' h3 => by
    have := h3.box
    rw [hMB] at this
    exact this
  rw [← hMB] at hT
  clear hMB
  generalize (w.alloc (.cells #[.int .i64 m.a0, .int .i64 m.a1, .int .i64 m.a2, .int .i64 m.a3, .int .i64 m.a4, .int .i64 m.a5, .int .i64 m.a6, .slice bo m.log.length c] 27)) = W at *
  obtain ⟨sk, xok, xck, ⟨k0, k1, k2, k3, k4, k5, k6, k7, k8, k9, k10, k11, k12, k13⟩, kz, _, kH, _⟩ := hT.turn.cells
  obtain ⟨c0, c1, c2, c3, c4, c5, c6, c7⟩ := msg_cells hmb
  go_wp2_with (first
    | (go_at_call 38; refine (kinds_any g W).mono ?_; rintro e wn ⟨rfl, t, rfl⟩
       have hb2 : Below W.heap.size W (W.alloc (.cells (kindsV g) t (0, 0))) := (Below.refl _ W).alloc (Nat.le_refl _) _
       have hT2 := hT.below hb2
       have hbx := HMX.out _ _ _ hT2
       have hs2 := hs.keep (Keep.of_below hb2 hT.base)
       have hK2 := hK.trans (Keep.of_below hb2 hT.base)
       clear k0 k1 k2 k3 k4 k5 k6 k7 k8 k9 k10 k11 k12 k13 kz kH c0 c1 c2 c3 c4 c5 c6 c7
       obtain ⟨c0, c1, c2, c3, c4, c5, c6, c7⟩ := msg_cells hbx
       generalize W.alloc (.cells (kindsV g) t (0, 0)) = V at *)
    | (go_at_call 39; refine (hif _).mono ?_; rintro e wn ⟨rfl, hq⟩; have hq' := hq.symm; clear hq; subst hq')
    | (go_at_call 36; refine (hmust _).mono ?_; rintro e wn ⟨rfl, hq⟩; have hq' := hq.symm; clear hq; subst hq')
    | (go_at_call 40; refine (mayCome_any B g r [] m bo c V hT2.turn hs2).mono ?_; rintro e w3 ⟨rfl, hb3⟩
       skip
       have hK3 := hK2.trans (Keep.of_below hb3 hT2.base)))
  exact ⟨rfl, rfl, hK2.low⟩
set_option maxRecDepth 100000 in
set_option maxHeartbeats 1000000 in
theorem take_bad2 (B g : Nat) (r : Rep) (m : Msg) (bo : Option Addr) (c : Nat) (hk : 1 ≤ m.a0 ∧ m.a0 ≤ 8) (hno : ¬ MsgOk r m) (w : World) (h : Turn B w g r []) (hs : SrcE B w bo c m.log) :
    Calls Tryz.prog 24 #[.pointer (some ⟨g, 0, none⟩), msV m bo c] w fun e w' => e = .panicked (boom 1) ∧ Below B w w' := by
  have hif := fun W => isFrom_any 1 m.a0 8 W
  rw [tru_yes hk] at hif
  have hmust := fun W => must_no 1 W
  have HO : Hid (¬ MsgOk r m) := hno
  clear hno
  clear hk
  have hT := tm_new h #[.int .i64 m.a0, .int .i64 m.a1, .int .i64 m.a2, .int .i64 m.a3, .int .i64 m.a4, .int .i64 m.a5, .int .i64 m.a6, .slice bo m.log.length c]
  have hgw : w.heap.size ≠ g := hT.ne
  have hlow : Below w.heap.size w (w.alloc (.cells #[.int .i64 m.a0, .int .i64 m.a1, .int .i64 m.a2, .int .i64 m.a3, .int .i64 m.a4, .int .i64 m.a5, .int .i64 m.a6, .slice bo m.log.length c] 27)) := (Below.refl _ w).alloc (Nat.le_refl _) _
  have hK := Keep.of_below hlow h.base
  have hs := hs.keep hK
  have hB := h.base
  go_enter Tryz.func24, Tryz.ntmps24
  go_wp2_with fail
  clear h
  have hmlt : w.heap.size < (w.alloc (.cells #[.int .i64 m.a0, .int .i64 m.a1, .int .i64 m.a2, .int .i64 m.a3, .int .i64 m.a4, .int .i64 m.a5, .int .i64 m.a6, .slice bo m.log.length c] 27)).heap.size := by simp
  have hmb : (w.alloc (.cells #[.int .i64 m.a0, .int .i64 m.a1, .int .i64 m.a2, .int .i64 m.a3, .int .i64 m.a4, .int .i64 m.a5, .int .i64 m.a6, .slice bo m.log.length c] 27)).heap[w.heap.size]? = some (.cells #[.int .i64 m.a0, .int .i64 m.a1, .int .i64 m.a2, .int .i64 m.a3, .int .i64 m.a4, .int .i64 m.a5, .int .i64 m.a6, .slice bo m.log.length c] 27 (0, 0)) := hT.box
  obtain ⟨MB, hMB⟩ : ∃ M : Nat × Obj, M = (w.heap.size, .cells #[.int .i64 m.a0, .int .i64 m.a1, .int .i64 m.a2, .int .i64 m.a3, .int .i64 m.a4, .int .i64 m.a5, .int .i64 m.a6, .slice bo m.log.length c] 27 (0, 0)) := ⟨_, rfl⟩
  have HMX : Hid (∀ (w3 : World) (r' : Rep) (o' : Msgs), TM MB B w3 g r' o' → w3.heap[w.heap.size]? = some (.cells #[.int .i64 m.a0, .int .i64 m.a1, .int .i64 m.a2, .int .i64 m.a3, .int .i64 m.a4, .int .i64 m.a5, .int .i64 m.a6, .slice bo m.log.length c] 27 (0, 0))) := fun w3 r' o' h3 => by
    have := h3.box
    rw [hMB] at this
    exact this
  rw [← hMB] at hT
  clear hMB
  generalize (w.alloc (.cells #[.int .i64 m.a0, .int .i64 m.a1, .int .i64 m.a2, .int .i64 m.a3, .int .i64 m.a4, .int .i64 m.a5, .int .i64 m.a6, .slice bo m.log.length c] 27)) = W at *
  obtain ⟨sk, xok, xck, ⟨k0, k1, k2, k3, k4, k5, k6, k7, k8, k9, k10, k11, k12, k13⟩, kz, _, kH, _⟩ := hT.turn.cells
  obtain ⟨c0, c1, c2, c3, c4, c5, c6, c7⟩ := msg_cells hmb
  go_wp2_with (first
    | (go_at_call 38; refine (kinds_any g W).mono ?_; rintro e wn ⟨rfl, t, rfl⟩
       have hb2 : Below W.heap.size W (W.alloc (.cells (kindsV g) t (0, 0))) := (Below.refl _ W).alloc (Nat.le_refl _) _
       have hT2 := hT.below hb2
       have hbx := HMX.out _ _ _ hT2
       have hs2 := hs.keep (Keep.of_below hb2 hT.base)
       have hK2 := hK.trans (Keep.of_below hb2 hT.base)
       clear k0 k1 k2 k3 k4 k5 k6 k7 k8 k9 k10 k11 k12 k13 kz kH c0 c1 c2 c3 c4 c5 c6 c7
       obtain ⟨c0, c1, c2, c3, c4, c5, c6, c7⟩ := msg_cells hbx
       generalize W.alloc (.cells (kindsV g) t (0, 0)) = V at *)
    | (go_at_call 39; refine (hif _).mono ?_; rintro e wn ⟨rfl, hq⟩; have hq' := hq.symm; clear hq; subst hq')
    | (go_at_call 36; refine (hmust _).mono ?_; rintro e wn ⟨rfl, hq⟩; have hq' := hq.symm; clear hq; subst hq')
    | (go_at_call 40; refine (mayCome_any B g r [] m bo c V hT2.turn hs2).mono ?_; rintro e w3 ⟨rfl, hb3⟩
       rw [tru_no HO.out]
       have hK3 := hK2.trans (Keep.of_below hb3 hT2.base)))
  exact ⟨rfl, rfl, hK3.low⟩
set_option maxRecDepth 100000 in
set_option maxHeartbeats 1000000 in
theorem doTake_yes (g b : Nat) (m : Msg) (bo : Option Addr) (c : Nat) (R : World → Prop) (W : World) (hb : W.heap[b]? = some (.cells #[.int .i64 m.a0, .int .i64 m.a1, .int .i64 m.a2, .int .i64 m.a3, .int .i64 m.a4, .int .i64 m.a5, .int .i64 m.a6, .slice bo m.log.length c] 27 (0, 0))) (ht : Calls Tryz.prog 24 #[.pointer (some ⟨g, 0, none⟩), msV m bo c] W fun e w' => e = .returned (.tuple #[]) ∧ R w') :
    Calls Tryz.prog 23 #[.pointer (some ⟨g, 0, none⟩), .pointer (some ⟨b, 0, none⟩)] W fun e w' => e = .returned (.tuple #[]) ∧ R w' := by
  obtain ⟨c0, c1, c2, c3, c4, c5, c6, c7⟩ := msg_cells hb
  clear hb
  go_enter Tryz.func23, Tryz.ntmps23
  go_wp2_with (first
    | (go_at_call 24; refine ht.mono ?_; rintro e wn ⟨rfl, hr⟩))
  go_end0
  exact ⟨rfl, hr⟩
set_option maxRecDepth 100000 in
set_option maxHeartbeats 1000000 in
theorem doTake_no (g b : Nat) (m : Msg) (bo : Option Addr) (c : Nat) (R : World → Prop) (W : World) (hb : W.heap[b]? = some (.cells #[.int .i64 m.a0, .int .i64 m.a1, .int .i64 m.a2, .int .i64 m.a3, .int .i64 m.a4, .int .i64 m.a5, .int .i64 m.a6, .slice bo m.log.length c] 27 (0, 0))) (ht : Calls Tryz.prog 24 #[.pointer (some ⟨g, 0, none⟩), msV m bo c] W fun e w' => e = .panicked (boom 1) ∧ R w') :
    Calls Tryz.prog 23 #[.pointer (some ⟨g, 0, none⟩), .pointer (some ⟨b, 0, none⟩)] W fun e w' => e = .panicked (boom 1) ∧ R w' := by
  obtain ⟨c0, c1, c2, c3, c4, c5, c6, c7⟩ := msg_cells hb
  clear hb
  go_enter Tryz.func23, Tryz.ntmps23
  go_wp2_with (first
    | (go_at_call 24; refine ht.mono ?_; rintro e wn ⟨rfl, hr⟩))
  exact ⟨rfl, rfl, hr⟩
set_option maxRecDepth 100000 in
set_option maxHeartbeats 1000000 in
theorem take_of (r : Rep) (s : Sl) (m : Msg) (bo : Option Addr) (c : Nat) (r' : Rep) (o' : Msgs) (E : Int)
    (hf : ∀ (W : World) (b : Nat), LiesR W W.heap.size s r → LiesE W W.heap.size bo m.log → W.heap[b]? = some (.cells #[.int .i64 m.a0, .int .i64 m.a1, .int .i64 m.a2, .int .i64 m.a3, .int .i64 m.a4, .int .i64 m.a5, .int .i64 m.a6, .slice bo m.log.length c] 27 (0, 0)) → Calls Tryz.prog 22 #[repV r s, .func (.func 23) #[] #[.pointer (some ⟨b, 0, none⟩)]] W (FaceSays W r' o' E))
    (w : World) (hl : LiesR w w.heap.size s r) (hm : LiesE w w.heap.size bo m.log) :
    Calls Tryz.prog 12 #[repV r s, msV m bo c] w fun x w' => ∃ s' xo xc, x = .returned (.tuple #[repV r' s', .slice xo o'.length xc, .int .i64 E]) ∧ LiesR w' w'.heap.size s' r' ∧ LiesM w' w'.heap.size xo o' ∧ Below w.heap.size w w' := by
  have hmf : ∀ (fn : Fn) (first cap : Array Value) (w : World), (Instr.makeFunc fn first cap).run Tryz.prog w = .ok (.func fn first cap) w := fun _ _ _ _ => rfl
  have hB : Below w.heap.size w (((w.alloc (repO r (.slice s.lo r.log.length s.lc) (.slice s.ao r.acked.length s.ac) (.slice s.vo r.votes.length s.vc) (.slice s.wo r.voters.length s.wc) (.slice s.bo r.best.length s.bc) 25)).alloc (.cells #[.int .i64 m.a0, .int .i64 m.a1, .int .i64 m.a2, .int .i64 m.a3, .int .i64 m.a4, .int .i64 m.a5, .int .i64 m.a6, .slice bo m.log.length c] 27)).alloc (repO0 25)) := (((Below.refl _ w).alloc (Nat.le_refl _) _).alloc (by simp) _).alloc (by simp; omega) _
  have hbx : (((w.alloc (repO r (.slice s.lo r.log.length s.lc) (.slice s.ao r.acked.length s.ac) (.slice s.vo r.votes.length s.vc) (.slice s.wo r.voters.length s.wc) (.slice s.bo r.best.length s.bc) 25)).alloc (.cells #[.int .i64 m.a0, .int .i64 m.a1, .int .i64 m.a2, .int .i64 m.a3, .int .i64 m.a4, .int .i64 m.a5, .int .i64 m.a6, .slice bo m.log.length c] 27)).alloc (repO0 25)).heap[w.heap.size + 1]? = some (.cells #[.int .i64 m.a0, .int .i64 m.a1, .int .i64 m.a2, .int .i64 m.a3, .int .i64 m.a4, .int .i64 m.a5, .int .i64 m.a6, .slice bo m.log.length c] 27 (0, 0)) := ((Below.refl ((w.alloc (repO r (.slice s.lo r.log.length s.lc) (.slice s.ao r.acked.length s.ac) (.slice s.vo r.votes.length s.vc) (.slice s.wo r.voters.length s.wc) (.slice s.bo r.best.length s.bc) 25)).alloc (.cells #[.int .i64 m.a0, .int .i64 m.a1, .int .i64 m.a2, .int .i64 m.a3, .int .i64 m.a4, .int .i64 m.a5, .int .i64 m.a6, .slice bo m.log.length c] 27)).heap.size ((w.alloc (repO r (.slice s.lo r.log.length s.lc) (.slice s.ao r.acked.length s.ac) (.slice s.vo r.votes.length s.vc) (.slice s.wo r.voters.length s.wc) (.slice s.bo r.best.length s.bc) 25)).alloc (.cells #[.int .i64 m.a0, .int .i64 m.a1, .int .i64 m.a2, .int .i64 m.a3, .int .i64 m.a4, .int .i64 m.a5, .int .i64 m.a6, .slice bo m.log.length c] 27))).alloc (Nat.le_refl _) (repO0 25)).block _ (by simp) |>.trans (by rw [show w.heap.size + 1 = (w.alloc (repO r (.slice s.lo r.log.length s.lc) (.slice s.ao r.acked.length s.ac) (.slice s.vo r.votes.length s.vc) (.slice s.wo r.voters.length s.wc) (.slice s.bo r.best.length s.bc) 25)).heap.size by simp]; exact heap_new _ _)
  have hface := hf (((w.alloc (repO r (.slice s.lo r.log.length s.lc) (.slice s.ao r.acked.length s.ac) (.slice s.vo r.votes.length s.vc) (.slice s.wo r.voters.length s.wc) (.slice s.bo r.best.length s.bc) 25)).alloc (.cells #[.int .i64 m.a0, .int .i64 m.a1, .int .i64 m.a2, .int .i64 m.a3, .int .i64 m.a4, .int .i64 m.a5, .int .i64 m.a6, .slice bo m.log.length c] 27)).alloc (repO0 25)) (w.heap.size + 1) (liesR_next hl hB hB.size) (liesE_next hm hB hB.size) hbx
  have by0 := box_rep0 ((w.alloc (repO r (.slice s.lo r.log.length s.lc) (.slice s.ao r.acked.length s.ac) (.slice s.vo r.votes.length s.vc) (.slice s.wo r.voters.length s.wc) (.slice s.bo r.best.length s.bc) 25)).alloc (.cells #[.int .i64 m.a0, .int .i64 m.a1, .int .i64 m.a2, .int .i64 m.a3, .int .i64 m.a4, .int .i64 m.a5, .int .i64 m.a6, .slice bo m.log.length c] 27)) undef 25 (w.heap.size + 1 + 1) (by simp)
  clear hf hl hm hbx
  go_enter Tryz.func12, Tryz.ntmps12
  go_wp2_with (first
    | (go_at_call 22; refine hface.mono ?_; rintro e w1 ⟨s', xo, xc, rfl, hR1, hO1, hb1⟩
       have bz := by0.below hb1
       have hw1 := hB.trans (hb1.mono hB.size)
       obtain ⟨bG, hS, hwG⟩ := res_box (show w.heap.size ≤ w.heap.size + 1 + 1 by omega) bz hw1 r' s'
       have hRG := rowsS_lies (hR1.stay hS (by decide) (by decide))
       have hOG := ownO_liesM (ownO_stay hO1 hS (by decide) (by decide))
       obtain ⟨d0, d1, d2, d3, d4, d5, d6, d7, d8, d9, d10, d11, d12⟩ := bz.rep (by omega)
       have dz := bz.unfrozen
       obtain ⟨g0, g1, g2, g3, g4, g5, g6, g7, g8, g9, g10, g11, g12⟩ := bG.rep (by omega)
       simp only [sets] at hRG hOG hwG g0 g1 g2 g3 g4 g5 g6 g7 g8 g9 g10 g11 g12
       clear hR1 hO1 hS bG bz hw1 hface by0 hb1 hB))
  refine bodyPost_ret (v := .tuple #[repV r' s', .slice xo o'.length xc, .int .i64 E]) (by simp [results, Tryz.results12, go_sem, g0, g1, g2, g3, g4, g5, g6, g7, g8, g9, g10, g11, g12]) rfl ⟨s', xo, xc, rfl, hRG, hOG, hwG⟩
end Go.Proofs.YtajbdffepfjegaaGreat
namespace Go.Proofs.YtajbdffepfjegaaGreat
open Go.RowKit Num
open scoped Classical
set_option linter.unusedVariables false
set_option maxRecDepth 100000
/-- What Take answers, by what is made of a message that may come. -/
def Num.takG (r : Rep) (m : Msg) (q : Rep × Msgs) [∀ x, Decidable (May x)] [∀ x y, Decidable (MsgOk x y)] : Rep × Msgs × Int :=
  if May r then
    if (1 ≤ m.a0 ∧ m.a0 ≤ 8) ∧ MsgOk r m then (q.1, q.2, 0) else (r, [], 1)
  else (r, [], 1)
theorem rowsS_mono {B B' : Nat} {w : World} {r : Rep} {s : Sl} (h : RowsS B w r s) (hB : B' ≤ B) : RowsS B' w r s := ⟨own_mono h.log hB, own_mono h.best hB, own_mono h.ack hB, own_mono h.vot hB, own_mono h.vor hB, h.a1, h.a2, h.a3, h.a4⟩
set_option maxRecDepth 100000 in
set_option maxHeartbeats 1000000 in
theorem take_ofS (r : Rep) (s : Sl) (m : Msg) (bo : Option Addr) (c : Nat) (r' : Rep) (o' : Msgs) (E : Int)
    (hf : ∀ (W : World) (b : Nat), LiesR W W.heap.size s r → LiesE W W.heap.size bo m.log → W.heap[b]? = some (.cells #[.int .i64 m.a0, .int .i64 m.a1, .int .i64 m.a2, .int .i64 m.a3, .int .i64 m.a4, .int .i64 m.a5, .int .i64 m.a6, .slice bo m.log.length c] 27 (0, 0)) → Calls Tryz.prog 22 #[repV r s, .func (.func 23) #[] #[.pointer (some ⟨b, 0, none⟩)]] W (FaceSays W r' o' E))
    (w : World) (hl : LiesR w w.heap.size s r) (hm : LiesE w w.heap.size bo m.log) :
    Calls Tryz.prog 12 #[repV r s, msV m bo c] w fun x w' => ∃ s' xo xc, x = .returned (.tuple #[repV r' s', .slice xo o'.length xc, .int .i64 E]) ∧ RowsS w.heap.size w' r' s' ∧ OwnO w.heap.size w' (.slice xo o'.length xc) o' ∧ Below w.heap.size w w' := by
  have hmf : ∀ (fn : Fn) (first cap : Array Value) (w : World), (Instr.makeFunc fn first cap).run Tryz.prog w = .ok (.func fn first cap) w := fun _ _ _ _ => rfl
  have hB : Below w.heap.size w (((w.alloc (repO r (.slice s.lo r.log.length s.lc) (.slice s.ao r.acked.length s.ac) (.slice s.vo r.votes.length s.vc) (.slice s.wo r.voters.length s.wc) (.slice s.bo r.best.length s.bc) 25)).alloc (.cells #[.int .i64 m.a0, .int .i64 m.a1, .int .i64 m.a2, .int .i64 m.a3, .int .i64 m.a4, .int .i64 m.a5, .int .i64 m.a6, .slice bo m.log.length c] 27)).alloc (repO0 25)) := (((Below.refl _ w).alloc (Nat.le_refl _) _).alloc (by simp) _).alloc (by simp; omega) _
  have hbx : (((w.alloc (repO r (.slice s.lo r.log.length s.lc) (.slice s.ao r.acked.length s.ac) (.slice s.vo r.votes.length s.vc) (.slice s.wo r.voters.length s.wc) (.slice s.bo r.best.length s.bc) 25)).alloc (.cells #[.int .i64 m.a0, .int .i64 m.a1, .int .i64 m.a2, .int .i64 m.a3, .int .i64 m.a4, .int .i64 m.a5, .int .i64 m.a6, .slice bo m.log.length c] 27)).alloc (repO0 25)).heap[w.heap.size + 1]? = some (.cells #[.int .i64 m.a0, .int .i64 m.a1, .int .i64 m.a2, .int .i64 m.a3, .int .i64 m.a4, .int .i64 m.a5, .int .i64 m.a6, .slice bo m.log.length c] 27 (0, 0)) := ((Below.refl ((w.alloc (repO r (.slice s.lo r.log.length s.lc) (.slice s.ao r.acked.length s.ac) (.slice s.vo r.votes.length s.vc) (.slice s.wo r.voters.length s.wc) (.slice s.bo r.best.length s.bc) 25)).alloc (.cells #[.int .i64 m.a0, .int .i64 m.a1, .int .i64 m.a2, .int .i64 m.a3, .int .i64 m.a4, .int .i64 m.a5, .int .i64 m.a6, .slice bo m.log.length c] 27)).heap.size ((w.alloc (repO r (.slice s.lo r.log.length s.lc) (.slice s.ao r.acked.length s.ac) (.slice s.vo r.votes.length s.vc) (.slice s.wo r.voters.length s.wc) (.slice s.bo r.best.length s.bc) 25)).alloc (.cells #[.int .i64 m.a0, .int .i64 m.a1, .int .i64 m.a2, .int .i64 m.a3, .int .i64 m.a4, .int .i64 m.a5, .int .i64 m.a6, .slice bo m.log.length c] 27))).alloc (Nat.le_refl _) (repO0 25)).block _ (by simp) |>.trans (by rw [show w.heap.size + 1 = (w.alloc (repO r (.slice s.lo r.log.length s.lc) (.slice s.ao r.acked.length s.ac) (.slice s.vo r.votes.length s.vc) (.slice s.wo r.voters.length s.wc) (.slice s.bo r.best.length s.bc) 25)).heap.size by simp]; exact heap_new _ _)
  have hface := hf (((w.alloc (repO r (.slice s.lo r.log.length s.lc) (.slice s.ao r.acked.length s.ac) (.slice s.vo r.votes.length s.vc) (.slice s.wo r.voters.length s.wc) (.slice s.bo r.best.length s.bc) 25)).alloc (.cells #[.int .i64 m.a0, .int .i64 m.a1, .int .i64 m.a2, .int .i64 m.a3, .int .i64 m.a4, .int .i64 m.a5, .int .i64 m.a6, .slice bo m.log.length c] 27)).alloc (repO0 25)) (w.heap.size + 1) (liesR_next hl hB hB.size) (liesE_next hm hB hB.size) hbx
  have by0 := box_rep0 ((w.alloc (repO r (.slice s.lo r.log.length s.lc) (.slice s.ao r.acked.length s.ac) (.slice s.vo r.votes.length s.vc) (.slice s.wo r.voters.length s.wc) (.slice s.bo r.best.length s.bc) 25)).alloc (.cells #[.int .i64 m.a0, .int .i64 m.a1, .int .i64 m.a2, .int .i64 m.a3, .int .i64 m.a4, .int .i64 m.a5, .int .i64 m.a6, .slice bo m.log.length c] 27)) undef 25 (w.heap.size + 1 + 1) (by simp)
  clear hf hl hm hbx
  go_enter Tryz.func12, Tryz.ntmps12
  go_wp2_with (first
    | (go_at_call 22; refine hface.mono ?_; rintro e w1 ⟨s', xo, xc, rfl, hR1, hO1, hb1⟩
       have bz := by0.below hb1
       have hw1 := hB.trans (hb1.mono hB.size)
       obtain ⟨bG, hS, hwG⟩ := res_box (show w.heap.size ≤ w.heap.size + 1 + 1 by omega) bz hw1 r' s'
       have hRG := rowsS_mono (hR1.stay hS (by decide) (by decide)) hB.size
       have hOG := ownO_mono (ownO_stay hO1 hS (by decide) (by decide)) hB.size
       obtain ⟨d0, d1, d2, d3, d4, d5, d6, d7, d8, d9, d10, d11, d12⟩ := bz.rep (by omega)
       have dz := bz.unfrozen
       obtain ⟨g0, g1, g2, g3, g4, g5, g6, g7, g8, g9, g10, g11, g12⟩ := bG.rep (by omega)
       simp only [sets] at hRG hOG hwG g0 g1 g2 g3 g4 g5 g6 g7 g8 g9 g10 g11 g12
       clear hR1 hO1 hS bG bz hw1 hface by0 hb1 hB))
  refine bodyPost_ret (v := .tuple #[repV r' s', .slice xo o'.length xc, .int .i64 E]) (by simp [results, Tryz.results12, go_sem, g0, g1, g2, g3, g4, g5, g6, g7, g8, g9, g10, g11, g12]) rfl ⟨s', xo, xc, rfl, hRG, hOG, hwG⟩
set_option maxHeartbeats 1000000 in
theorem takeG_any (r : Rep) (s : Sl) (m : Msg) (bo : Option Addr) (c : Nat) (hsm : SmallR r) (q : Rep × Msgs) (hT : May r → 1 ≤ m.a0 ∧ m.a0 ≤ 8 → MsgOk r m → ∀ (B g : Nat) (W : World), Turn B W g r [] → SrcE B W bo c m.log → Calls Tryz.prog 24 #[.pointer (some ⟨g, 0, none⟩), msV m bo c] W fun e w' => e = .returned (.tuple #[]) ∧ Turn B w' g q.1 q.2 ∧ Below B W w') (w : World) (hl : LiesR w w.heap.size s r) (hm : LiesE w w.heap.size bo m.log) :
    Calls Tryz.prog 12 #[repV r s, msV m bo c] w fun x w' => ∃ s' xo xc, x = .returned (.tuple #[repV (takG r m q).1 s', .slice xo (takG r m q).2.1.length xc, .int .i64 (takG r m q).2.2]) ∧ RowsS w.heap.size w' (takG r m q).1 s' ∧ OwnO w.heap.size w' (.slice xo (takG r m q).2.1.length xc) (takG r m q).2.1 ∧ Below w.heap.size w w' := by
  refine take_ofS r s m bo c _ _ _ (fun W b hW hM hb => ?_) w hl hm
  have hbl := (Array.getElem?_eq_some_iff.1 hb).1
  unfold takG
  by_cases h1 : May r
  · rw [if_pos h1]
    by_cases h2 : (1 ≤ m.a0 ∧ m.a0 ≤ 8) ∧ MsgOk r m
    · rw [if_pos h2]
      refine (face_yes_take r s hsm h1 _ q.1 q.2 none (fun _ => True) W (by simp) hW fun W1 g hb1 hT1 => (doTake_yes g b m bo c _ W1 ((hb1.block b hbl).trans hb) (hT h1 h2.1 h2.2 _ g W1 hT1 (.inl (liesE_next hM hb1 (by omega))))).mono ?_).mono ?_
      · rintro e W2 ⟨rfl, hT2, hb2⟩
        exact ⟨rfl, hT2, LowB.of_below hb2 none, by simp⟩
      · rintro x W2 ⟨s', xo, xc, rfl, hR, hO, hL, _⟩
        exact ⟨s', xo, xc, rfl, hR, hO, hL.below⟩
    · rw [if_neg h2]
      by_cases h3 : 1 ≤ m.a0 ∧ m.a0 ≤ 8
      · refine (face_no_take r s hsm h1 _ 1 none W (by simp) hW fun W1 g hb1 hT1 => (doTake_no g b m bo c _ W1 ((hb1.block b hbl).trans hb) (take_bad2 _ g r m bo c h3 (fun h => h2 ⟨h3, h⟩) W1 hT1 (.inl (liesE_next hM hb1 (by omega))))).mono ?_).mono fun x W2 h => says_refused h
        rintro e W2 ⟨rfl, hb2⟩
        exact ⟨rfl, LowB.of_below hb2 none, by simp⟩
      · refine (face_no_take r s hsm h1 _ 1 none W (by simp) hW fun W1 g hb1 hT1 => (doTake_no g b m bo c _ W1 ((hb1.block b hbl).trans hb) (take_bad1 _ g r m bo c h3 W1 hT1 (.inl (liesE_next hM hb1 (by omega))))).mono ?_).mono fun x W2 h => says_refused h
        rintro e W2 ⟨rfl, hb2⟩
        exact ⟨rfl, LowB.of_below hb2 none, by simp⟩
  · rw [if_neg h1]
    exact (face_arg r s hsm h1 _ none W hW).mono fun x W2 h => says_refused h
end Go.Proofs.YtajbdffepfjegaaGreat
