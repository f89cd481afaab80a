/-
  Joined:
  Contracts: the face at something new.
  Contracts of a replica at work: it proposes (11.3).
  Contracts of a replica at work: it proposes (11.3): where it is full, where it goes through.
  Contracts: the program's Propose, where it goes through.
  Contracts: the document's example, in part.
-/
import Derived.Test.YtajbdffepfjegaaGreatRpG8
import Derived.Test.YtajbdffepfjegaaGreatRpG4
import Derived.Test.YtajbdffepfjegaaGreatRpMay
import Derived.Test.YtajbdffepfjegaaGreatRpG7
namespace Go.Proofs.YtajbdffepfjegaaGreat
open Go.RowKit Num
open scoped Classical
set_option linter.unusedVariables false
set_option maxRecDepth 100000

set_option maxRecDepth 100000 in
set_option maxHeartbeats 1500000 in
theorem face_no_propose (r : Rep) (s : Sl) (hsm : SmallR r) (hyes : May r) (q0 : Value) (q1 : Value) (q2 : Value) (E : Int) (p : Option Nat) (w : World) (hp : ∀ k, p = some k → k < w.heap.size) (hl : LiesR w w.heap.size s r)
    (hdo : ∀ (W : World) (g : Nat), Below w.heap.size w W → Turn (w.heap.size + 4) W g r [] → Calls Tryz.prog 31 #[.pointer (some ⟨g, 0, none⟩), q0, q1, q2] W fun e W' => e = .panicked (boom E) ∧ LowB (w.heap.size + 4) p W W' ∧ (∀ k, p = some k → W'.heap[k]? = W.heap[k]?)) :
    Calls Tryz.prog 22 #[repV r s, .func (.func 31) #[] #[q0, q1, q2]] w fun x w' => Refused w r E none x w' := by
  have hmf : ∀ (fn : Fn) (first cap : Array Value) (w : World), (Instr.makeFunc fn first cap).run Tryz.prog w = .ok (.func fn first cap) w := fun _ _ _ _ => rfl
  have h4 := four_new w r s
  have hB : Below w.heap.size w ((((w.alloc (repO r (.slice s.lo r.log.length s.lc) (.slice s.ao r.acked.length s.ac) (.slice s.vo r.votes.length s.vc) (.slice s.wo r.voters.length s.wc) (.slice s.bo r.best.length s.bc) 25)).alloc (repO0 25)).alloc (.cells #[.slice none 0 0] 30)).alloc (.cells #[.int .i64 0] 35)) := ((((Below.refl _ w).alloc (Nat.le_refl _) _).alloc (by simp) _).alloc (by simp; omega) _).alloc (by simp; omega) _
  have hmay := may_any r s (small_m0 hsm) ((((w.alloc (repO r (.slice s.lo r.log.length s.lc) (.slice s.ao r.acked.length s.ac) (.slice s.vo r.votes.length s.vc) (.slice s.wo r.voters.length s.wc) (.slice s.bo r.best.length s.bc) 25)).alloc (repO0 25)).alloc (.cells #[.slice none 0 0] 30)).alloc (.cells #[.int .i64 0] 35)) (liesR_next hl hB hB.size)
  rw [tru_yes hyes] at hmay
  have hmust := fun W => must_yes 1 W
  have HY : Hid (May r) := hyes
  clear hyes
  go_enter_defers Tryz.func22, Tryz.ntmps22
  go_wp2_with (first
    | (go_at_call 37; refine hmay.mono ?_; rintro e w1 ⟨rfl, hb1⟩
       have h41 := h4.below hb1
       have hw1 : Below w.heap.size w w1 := hB.trans (hb1.mono hB.size)
       have hcop := copied_any r s hsm w1 (liesR_next hl hw1 hw1.size)
       obtain ⟨c0, c1, c2, c3, c4, c5, c6, c7, c8, c9, c10, c11, c12⟩ := h41.b0.rep (by omega))
    | (go_at_call 36; refine (hmust _).mono ?_; rintro e wn ⟨rfl, hq⟩; have hq' := hq.symm; clear hq; subst hq')
    | (go_at_call 34; refine hcop.mono ?_; rintro e w2 ⟨s2, rfl, hrw2, hb2⟩
       have hT := turn_new HY.out h41.lt hb2 hrw2
       have h42 := h41.below hb2
       have hw2 : Below w.heap.size w w2 := below_next hw1 (Nat.le_refl _) hb2
       have hd := hdo _ _ (hw2.alloc hw2.size _) hT
       clear hcop)
    | (go_at_call 31; refine hd.mono ?_; rintro e w3 ⟨rfl, hlo3, hpp3⟩))
  have hlo3' : LowB (w.heap.size + 4) none _ w3 := ⟨hlo3.os, hlo3.tape, hlo3.output, hlo3.size, fun k hk _ => if e : p = some k then hpp3 k e else hlo3.block k hk e⟩
  have hbA := (Below.refl _ w2).alloc (Nat.le_refl _) (.cells #[.int .i64 r.id, .int .i64 r.n, .int .i64 r.view, .int .i64 r.normal, .int .i64 r.how, .slice s2.lo r.log.length s2.lc, .int .i64 r.commit, .slice s2.ao r.acked.length s2.ac, .slice s2.vo r.votes.length s2.vc, .slice s2.wo r.voters.length s2.wc, .slice s2.bo r.best.length s2.bc, .int .i64 r.bestView, .int .i64 r.bestDone, .slice none 0 0] 65)
  have h43 : Four w w3 r s := (h42.below hbA).kept fun k _ hk => hlo3'.block k hk (by simp)
  have hw3 : Below w.heap.size w w3 := (below_next hw2 (Nat.le_refl _) hbA).trans (hlo3'.below.mono (by omega))
  refine doorF_panic w.heap.size _ rfl rfl rfl w3 r s hsm rep0 _ _ _ _ _ _ _ E h43.b0 h43.b1 h43.b2 h43.b3 (liesR_next hl hw3 hw3.size) ?_
  intro s' w4 hb4 hrw
  exact refused_told h43 (LowB.of_below hw3 none) hb4 hrw
set_option maxRecDepth 100000 in
set_option maxHeartbeats 1500000 in
theorem face_yes_propose (r : Rep) (s : Sl) (hsm : SmallR r) (hyes : May r) (q0 : Value) (q1 : Value) (q2 : Value) (r' : Rep) (o' : Msgs) (p : Option Nat) (X : Option Obj → Prop) (w : World) (hp : ∀ k, p = some k → k < w.heap.size) (hl : LiesR w w.heap.size s r)
    (hdo : ∀ (W : World) (g : Nat), Below w.heap.size w W → Turn (w.heap.size + 4) W g r [] → Calls Tryz.prog 31 #[.pointer (some ⟨g, 0, none⟩), q0, q1, q2] W fun e W' => e = .returned (.tuple #[]) ∧ Turn (w.heap.size + 4) W' g r' o' ∧ LowB (w.heap.size + 4) p W W' ∧ (∀ k, p = some k → X W'.heap[k]?)) :
    Calls Tryz.prog 22 #[repV r s, .func (.func 31) #[] #[q0, q1, q2]] w fun x w' => ∃ s' xo xc, x = .returned (.tuple #[repV r' s', .slice xo o'.length xc, .int .i64 0]) ∧ RowsS w.heap.size w' r' s' ∧ OwnO w.heap.size w' (.slice xo o'.length xc) o' ∧ LowB w.heap.size p w w' ∧ (∀ k, p = some k → X w'.heap[k]?) := by
  have hmf : ∀ (fn : Fn) (first cap : Array Value) (w : World), (Instr.makeFunc fn first cap).run Tryz.prog w = .ok (.func fn first cap) w := fun _ _ _ _ => rfl
  have h4 := four_new w r s
  have hB : Below w.heap.size w ((((w.alloc (repO r (.slice s.lo r.log.length s.lc) (.slice s.ao r.acked.length s.ac) (.slice s.vo r.votes.length s.vc) (.slice s.wo r.voters.length s.wc) (.slice s.bo r.best.length s.bc) 25)).alloc (repO0 25)).alloc (.cells #[.slice none 0 0] 30)).alloc (.cells #[.int .i64 0] 35)) := ((((Below.refl _ w).alloc (Nat.le_refl _) _).alloc (by simp) _).alloc (by simp; omega) _).alloc (by simp; omega) _
  have hmay := may_any r s (small_m0 hsm) ((((w.alloc (repO r (.slice s.lo r.log.length s.lc) (.slice s.ao r.acked.length s.ac) (.slice s.vo r.votes.length s.vc) (.slice s.wo r.voters.length s.wc) (.slice s.bo r.best.length s.bc) 25)).alloc (repO0 25)).alloc (.cells #[.slice none 0 0] 30)).alloc (.cells #[.int .i64 0] 35)) (liesR_next hl hB hB.size)
  rw [tru_yes hyes] at hmay
  have hmust := fun W => must_yes 1 W
  have HY : Hid (May r) := hyes
  clear hyes
  go_enter_defers Tryz.func22, Tryz.ntmps22
  go_wp2_with (first
    | (go_at_call 37; refine hmay.mono ?_; rintro e w1 ⟨rfl, hb1⟩
       have h41 := h4.below hb1
       have hw1 : Below w.heap.size w w1 := hB.trans (hb1.mono hB.size)
       have hcop := copied_any r s hsm w1 (liesR_next hl hw1 hw1.size)
       obtain ⟨c0, c1, c2, c3, c4, c5, c6, c7, c8, c9, c10, c11, c12⟩ := h41.b0.rep (by omega))
    | (go_at_call 36; refine (hmust _).mono ?_; rintro e wn ⟨rfl, hq⟩; have hq' := hq.symm; clear hq; subst hq')
    | (go_at_call 34; refine hcop.mono ?_; rintro e w2 ⟨s2, rfl, hrw2, hb2⟩
       have hT := turn_new HY.out h41.lt hb2 hrw2
       have h42 := h41.below hb2
       have hw2 : Below w.heap.size w w2 := below_next hw1 (Nat.le_refl _) hb2
       have hd := hdo _ _ (hw2.alloc hw2.size _) hT
       clear hcop)
    | (go_at_call 31; refine hd.mono ?_; rintro e w3 ⟨rfl, hT3, hlo3, hX3⟩))
  have hbA := (Below.refl _ w2).alloc (Nat.le_refl _) (.cells #[.int .i64 r.id, .int .i64 r.n, .int .i64 r.view, .int .i64 r.normal, .int .i64 r.how, .slice s2.lo r.log.length s2.lc, .int .i64 r.commit, .slice s2.ao r.acked.length s2.ac, .slice s2.vo r.votes.length s2.vc, .slice s2.wo r.voters.length s2.wc, .slice s2.bo r.best.length s2.bc, .int .i64 r.bestView, .int .i64 r.bestDone, .slice none 0 0] 65)
  have h43 : Four w w3 r s := (h42.below hbA).kept fun k hk1 hk => hlo3.block k hk (fun e => by have := hp k e; omega)
  have hw3 : LowB w.heap.size p w w3 := (LowB.of_below (below_next hw2 (Nat.le_refl _) hbA) p).trans (hlo3.mono (by omega))
  obtain ⟨s3, xo, xc, ⟨d0, d1, d2, d3, d4, d5, d6, d7, d8, d9, d10, d11, d12, d13⟩, _, _, hH, hO⟩ := hT3.cells
  obtain ⟨r0, r1, r2, r3, r4, r5, r6, r7, r8, r9, r10, r11, r12⟩ := h43.b1.rep (by omega)
  have rz := h43.b1.unfrozen
  have x2 := box_cell h43.b2 0 _ rfl
  have y2 := box_open h43.b2 0
  have x3 := box_cell h43.b3 0 _ rfl
  have y3 := box_open h43.b3 0
  have hlt := h43.lt
  obtain ⟨t1, t2, t3, tk⟩ := told_is (by omega) (by omega) (by omega) h43.b1 h43.b2 h43.b3 r' s3 (.slice xo o'.length xc) 0
  obtain ⟨z1, z2, z3, z4⟩ := told_size w3 (w.heap.size + 1) (w.heap.size + 1 + 1) (w.heap.size + 1 + 1 + 1) r' s3 (.slice xo o'.length xc) 0
  have hq := told_rowsR h43.b1 h43.b2 h43.b3 (by omega) (by omega) (by omega) r' s3 (.slice xo o'.length xc) 0 hH.rows
  have hO' := told_own h43.b1 h43.b2 h43.b3 (by omega) (by omega) (by omega) r' s3 (.slice xo o'.length xc) 0 hO
  have hfin : RowsS w.heap.size (told w3 (w.heap.size + 1) (w.heap.size + 1 + 1) (w.heap.size + 1 + 1 + 1) r' s3 (.slice xo o'.length xc) 0) r' s3 := ⟨own_mono hq.log (by omega), own_mono hq.best (by omega), own_mono hq.ack (by omega), own_mono hq.vot (by omega), own_mono hq.vor (by omega), hq.a1, hq.a2, hq.a3, hq.a4⟩
  have hOf : OwnO w.heap.size (told w3 (w.heap.size + 1) (w.heap.size + 1 + 1) (w.heap.size + 1 + 1 + 1) r' s3 (.slice xo o'.length xc) 0) (.slice xo o'.length xc) o' := hO'.mono (by omega) (fun cs x h => by obtain ⟨c, e, h⟩ := h; exact ⟨c, e, own_mono h (by omega)⟩)
  have hLf : LowB w.heap.size p w (told w3 (w.heap.size + 1) (w.heap.size + 1 + 1) (w.heap.size + 1 + 1 + 1) r' s3 (.slice xo o'.length xc) 0) := hw3.trans ⟨z2, z3, z4, Nat.le_of_eq z1.symm, fun k hk _ => tk k (by omega) (by omega) (by omega)⟩
  have hXf : ∀ k, p = some k → X (told w3 (w.heap.size + 1) (w.heap.size + 1 + 1) (w.heap.size + 1 + 1 + 1) r' s3 (.slice xo o'.length xc) 0).heap[k]? := fun k hk => by
    have := hp k hk
    rw [tk k (by omega) (by omega) (by omega)]
    exact hX3 k hk
  clear hq hO' hH hO tk z1 z2 z3 z4 h43 h42 h41 h4 hmay hmust hrw2 hd hT hdo
  simp only [told, sets] at t1 t2 t3 hfin hOf hLf hXf
  go_region
  go_wp2
  refine doorF_ret w.heap.size _ rfl rfl rfl _ r' s3 (.slice xo o'.length xc) (.int .i64 0) t1.drew (heap_drew t2) (heap_drew t3) ?_
  exact ⟨s3, xo, xc, rfl, hfin.below (Below.refl _ _).drew, ownO_below hOf (Below.refl _ _).drew, hLf.drew, x_drew hXf⟩
end Go.Proofs.YtajbdffepfjegaaGreat
namespace Go.Proofs.YtajbdffepfjegaaGreat
open Go.RowKit Num
open scoped Classical
set_option linter.unusedVariables false
set_option maxRecDepth 100000

/-- An entry is appended to the log, nothing being sent yet. -/
theorem app_en {t : TypeId} {N : Nat} {x : Value} {B : Nat} {W : World} {g : Nat} {r : Rep} {vl va vv vw vb : Value} (h : Hold t N x B W g r vl va vv vw vb) (hN : N ≤ 14) (hE : t ≠ 48) (hI : t ≠ 3) (hB : B ≤ W.heap.size) (hlen : r.log.length ≤ 1000) (more : List Ent) (hm : more.length ≤ 1000) (bo : Option Addr) (c : Nat) (hheld : Held W bo more.length 2 (enCells more)) (ty : TypeId) :
    ∃ v' w', (Builtin.append_ #[22, 22] ty #[vl, .slice bo more.length c]).run Tryz.prog W = .ok v' w' ∧
      (∃ ao cap, v' = .slice ao (r.log ++ more).length cap) ∧ BoxF w' g t N (repF r vl va vv vw vb x) ∧
      Hold t N x B (w'.setCell ⟨g, 5, none⟩ v') g { r with log := r.log ++ more } v' va vv vw vb ∧ Stay (fun _ => False) 48 W w' ∧ Below B W w' ∧ (∀ k, k < W.heap.size → vl.ownBlock ≠ some k → w'.heap[k]? = W.heap[k]?) := by
  obtain ⟨v', w', hr, h2, h3, h4⟩ := run_app_g Tryz.underlying22 Tryz.infoEn (by decide) W ty B vl _ _ h.rows.log bo more.length c _ hheld (by omega) hB
  have hs : Stay (fun _ => False) 48 W w' := Stay.grown h.rows.log h3
  have hbx := h.box.stay hs hE
  have hcl : (enCells r.log ++ enCells more) = enCells (r.log ++ more) := by simp [enCells]
  rw [hcl, ← List.length_append] at h2
  have hbest := h.rows.best.kept h3 (by
    cases hvb : vb.ownBlock with
    | none => exact .inl rfl
    | some k => exact .inr (fun e => h.rows.a1 k e.symm hvb))
  have ha1 : Apart v' vb := fun k k1 k2 => by
    rcases h4 with e | ⟨q, e, hq⟩
    · rw [e] at k1
      exact h.rows.a1 k k1 k2
    · rw [e] at k1
      cases k1
      have := (h.rows.best.lt _ k2).2
      omega
  have hform := own_form h2
  refine ⟨v', w', hr, hform, hbx, ⟨((sets_box [(5, v')] hbx).1).ext14 hN ⟨rfl, rfl, rfl, rfl, rfl, rfl, rfl, rfl, rfl, rfl, rfl, rfl, rfl, rfl⟩, h.base, RowsR.stay ⟨h2, hbest, own_stay h.rows.ack hs (by decide) (fun _ h => h), own_stay h.rows.vot hs (by decide) (fun _ h => h), own_stay h.rows.vor hs (by decide) (fun _ h => h), ha1, h.rows.a2, h.rows.a3, h.rows.a4⟩ (sets_box [(5, v')] hbx).2 hE hI⟩, hs, (Below.refl B W).grown h3 hB (fun j hj => (h.rows.log.lt j hj).1), fun k hk hn => h3.block k hk (fun e => hn e.symm)⟩
def Num.propT (r : Rep) (time : Int) : Int := max (max time 1) (lastT r.log + 1)
def Num.propR (r : Rep) (e : Ent) : Rep := { r with log := r.log ++ [e], acked := r.acked.set r.id.toNat ((r.log.length + 1 : Nat) : Int), commit := if r.n = 1 then ((r.log.length + 1 : Nat) : Int) else r.commit }
def Num.propM (r : Rep) (e : Ent) : Msgs := allM (propR r e) (msg 1 ((r.log.length + 1 : Nat) : Int) (propR r e).commit 0 [e])
theorem prop_arg (B g : Nat) (r : Rep) (o : Msgs) (time : Int) (d : ByteArray) (w : World) (h : Turn B w g r o) (hno : ¬ ((0 ≤ time ∧ time ≤ 1099511627775) ∧ d.size ≤ 20000)) :
    Calls Tryz.prog 32 #[.pointer (some ⟨g, 0, none⟩), .int .i64 time, .string d] w fun e w' => e = .panicked (boom 1) ∧ w' = w := by
  have hm := fun W => must_no 1 W
  have hf := fun W => isFrom_any 0 time 1099511627775 W
  clear h
  by_cases q : 0 ≤ time ∧ time ≤ 1099511627775
  · rw [tru_yes q] at hf
    have q2 : ¬ (d.size : Int) ≤ 20000 := fun e => hno ⟨q, by omega⟩
    have q3 : decide ((d.size : Int) ≤ 20000) = false := decide_eq_false q2
    clear hno q
    go_enter Tryz.func32, Tryz.ntmps32
    go_wp2_with (first
      | (go_at_call 39; refine (hf _).mono ?_; rintro e wn ⟨rfl, hq⟩; have hq' := hq.symm; clear hq; subst hq')
      | (go_at_call 36; refine (hm _).mono ?_; rintro e wn ⟨rfl, hq⟩; have hq' := hq.symm; clear hq; subst hq'))
    exact ⟨rfl, rfl, rfl⟩
  · rw [tru_no q] at hf
    clear hno q
    go_enter Tryz.func32, Tryz.ntmps32
    go_wp2_with (first
      | (go_at_call 39; refine (hf _).mono ?_; rintro e wn ⟨rfl, hq⟩; have hq' := hq.symm; clear hq; subst hq')
      | (go_at_call 36; refine (hm _).mono ?_; rintro e wn ⟨rfl, hq⟩; have hq' := hq.symm; clear hq; subst hq'))
    exact ⟨rfl, rfl, rfl⟩
theorem prop_prim (B g : Nat) (r : Rep) (o : Msgs) (time : Int) (d : ByteArray) (w : World) (h : Turn B w g r o) (hv : 0 ≤ r.view ∧ r.view < 1099511627776) (hyes : (0 ≤ time ∧ time ≤ 1099511627775) ∧ d.size ≤ 20000) (hno : ¬ (r.how = 0 ∧ r.view % r.n = r.id)) :
    Calls Tryz.prog 32 #[.pointer (some ⟨g, 0, none⟩), .int .i64 time, .string d] w fun e w' => e = .panicked (boom 17) ∧ Below w.heap.size w w' := by
  have hm := fun W => must_yes 1 W
  have hm2 := fun W => must_no 17 W
  have hf := fun W => isFrom_any 0 time 1099511627775 W
  have hL := leadsT_any B g r o w h hv
  rw [← Bool.decide_and, decide_eq_false hno] at hL
  rw [tru_yes hyes.1] at hf
  have q2 : (d.size : Int) ≤ 20000 := by have := hyes.2; omega
  clear h hyes hno
  go_enter Tryz.func32, Tryz.ntmps32
  go_wp2_with (first
    | (go_at_call 39; refine (hf _).mono ?_; rintro e wn ⟨rfl, hq⟩; have hq' := hq.symm; clear hq; subst hq')
    | (go_at_call 36; have tk := hm; refine (hm _).mono ?_; rintro e wn ⟨rfl, hq⟩; have hq' := hq.symm; clear hq; subst hq'; clear hm tk)
    | (go_at_call 49; refine hL.mono ?_; rintro e w1 ⟨rfl, hb1⟩)
    | (go_at_call 36; refine (hm2 _).mono ?_; rintro e wn ⟨rfl, hq⟩; have hq' := hq.symm; clear hq; subst hq'))
  exact ⟨rfl, rfl, hb1⟩
theorem ownO_nil_stay {B : Nat} {w w' : World} {v : Value} (h : OwnO B w v []) {e : TypeId} (hs : Stay (fun _ => False) e w w') (h1 : 27 ≠ e) : OwnO B w' v [] := by
  obtain ⟨css, a, b, c, d⟩ := h
  exact ⟨css, a, b, own_stay c hs h1 (fun _ h => h), fun i cs x _ hx => by simp at hx⟩
theorem own_someV {w : World} {B e sz n : Nat} {v : Value} {xs : List Value} (h : w.ownsRow B e sz v n xs) (hn : n ≠ 0) : ∃ g C, v = .slice (some ⟨g, 0, none⟩) n C := by
  rcases h.2 with ⟨_, h0⟩ | ⟨g, cap, cur, hv, _⟩
  · exact absurd h0 hn
  · exact ⟨g, cap, hv⟩
theorem en_cells (w : World) (e : Ent) : Held (w.alloc (.cells #[.int .i64 e.time, .string e.data] 48)).drew (some ⟨w.heap.size, 0, none⟩) [e].length 2 (enCells [e]) :=
  ⟨rfl, enCells_one _, fun h => (by cases h), fun a h j u hj => by cases h; exact new_cells w 48 [.int .i64 e.time, .string e.data] _ rfl j u hj⟩
theorem own_en (w : World) (e : Ent) : (w.alloc (.cells #[.int .i64 e.time, .string e.data] 48)).ownsRow w.heap.size 48 2 (.slice (some ⟨w.heap.size, 0, none⟩) [e].length 1) [e].length (enCells [e]) :=
  ⟨rfl, .inr ⟨w.heap.size, 1, _, rfl, Nat.le_refl _, heap_new w _, Nat.le_refl _, by unfold maxLen; omega, rfl, rfl⟩⟩
end Go.Proofs.YtajbdffepfjegaaGreat
namespace Go.Proofs.YtajbdffepfjegaaGreat
open Go.RowKit Num
open scoped Classical
set_option linter.unusedVariables false
set_option maxRecDepth 100000

set_option maxRecDepth 100000 in
set_option maxHeartbeats 1000000 in
theorem prop_full1a (B g : Nat) (r : Rep) (time L : Int) (d : ByteArray) (w : World) (h : Turn B w g r []) (hv : 0 ≤ r.view ∧ r.view < 1099511627776) (hL2 : lastT r.log = L) (hlt : 0 ≤ L ∧ L < 1099511627776) (hyes : (0 ≤ time ∧ time ≤ 1099511627775) ∧ d.size ≤ 20000) (hlead : r.how = 0 ∧ r.view % r.n = r.id) (n1 : ¬ time < 1) (n2 : ¬ time < L + 1) (q3 : (r.log.length : Int) < 1000) (q4 : ¬ time < 1099511627776) :
    Calls Tryz.prog 32 #[.pointer (some ⟨g, 0, none⟩), .int .i64 time, .string d] w fun e w' => e = .panicked (boom 4) ∧ Below w.heap.size w w' := by
  have hm := fun W => must_yes 1 W
  have hm2 := fun W => must_yes 17 W
  have hf := fun W => isFrom_any 0 time 1099511627775 W
  have hL := leadsT_any B g r [] w h hv
  rw [← Bool.decide_and, decide_eq_true hlead] at hL
  rw [tru_yes hyes.1] at hf
  have q2 : (d.size : Int) ≤ 20000 := by have := hyes.2; omega
  have hLT := fun W (hb : Below w.heap.size w W) => lastTimeT_any B g r [] W (h.below hb)
  rw [hL2] at hLT
  have hw : IntKind.i64.wrap (L + 1) = L + 1 := by rw [IntKind.wrap_i64]; omega
  have HC : Hid (∀ W, Below w.heap.size w W → ∃ lo lc, W.cell? ⟨g, 5, none⟩ = some (.slice lo r.log.length lc)) := fun W hb => by
    obtain ⟨s, xo, xc, ⟨k0, k1, k2, k3, k4, k5, _⟩, _⟩ := (h.below hb).cells
    exact ⟨_, _, k5⟩
  have hm3 := fun W => must_no 4 W
  have q5 : decide (time < 1099511627776) = false := decide_eq_false q4
  clear h hyes hlead hL2
  go_enter Tryz.func32, Tryz.ntmps32
  go_wp2_with (first
  | (go_at_call 39; refine (hf _).mono ?_; rintro e wn ⟨rfl, hq⟩; have hq' := hq.symm; clear hq; subst hq')
  | (go_at_call 36; have tk := hm; refine (hm _).mono ?_; rintro e wn ⟨rfl, hq⟩; have hq' := hq.symm; clear hq; subst hq'; clear hm tk)
  | (go_at_call 49; refine hL.mono ?_; rintro e w1 ⟨rfl, hb1⟩; have hLx := hLT _ hb1; clear hL)
  | (go_at_call 36; have tk := hm2; refine (hm2 _).mono ?_; rintro e wn ⟨rfl, hq⟩; have hq' := hq.symm; clear hq; subst hq'; clear hm2 tk)
  | (go_at_call 50; refine hLx.mono ?_; rintro e w2 ⟨rfl, hb2⟩; have hb3 := below_next hb1 (Nat.le_refl _) hb2; obtain ⟨lo, lc, c5⟩ := HC.out _ hb3; have c5z := fun ob : Obj => alloc_cell ob c5; clear hLx)
  | (go_at_call 36; refine (hm3 _).mono ?_; rintro e wn ⟨rfl, hq⟩; have hq' := hq.symm; clear hq; subst hq'))
  exact ⟨rfl, rfl, hb3.alloc hb3.size _⟩
set_option maxRecDepth 100000 in
set_option maxHeartbeats 1000000 in
theorem prop_full2a (B g : Nat) (r : Rep) (time L : Int) (d : ByteArray) (w : World) (h : Turn B w g r []) (hv : 0 ≤ r.view ∧ r.view < 1099511627776) (hL2 : lastT r.log = L) (hlt : 0 ≤ L ∧ L < 1099511627776) (hyes : (0 ≤ time ∧ time ≤ 1099511627775) ∧ d.size ≤ 20000) (hlead : r.how = 0 ∧ r.view % r.n = r.id) (n1 : ¬ time < 1) (n2 : ¬ time < L + 1) (q3 : ¬ (r.log.length : Int) < 1000) :
    Calls Tryz.prog 32 #[.pointer (some ⟨g, 0, none⟩), .int .i64 time, .string d] w fun e w' => e = .panicked (boom 4) ∧ Below w.heap.size w w' := by
  have hm := fun W => must_yes 1 W
  have hm2 := fun W => must_yes 17 W
  have hf := fun W => isFrom_any 0 time 1099511627775 W
  have hL := leadsT_any B g r [] w h hv
  rw [← Bool.decide_and, decide_eq_true hlead] at hL
  rw [tru_yes hyes.1] at hf
  have q2 : (d.size : Int) ≤ 20000 := by have := hyes.2; omega
  have hLT := fun W (hb : Below w.heap.size w W) => lastTimeT_any B g r [] W (h.below hb)
  rw [hL2] at hLT
  have hw : IntKind.i64.wrap (L + 1) = L + 1 := by rw [IntKind.wrap_i64]; omega
  have HC : Hid (∀ W, Below w.heap.size w W → ∃ lo lc, W.cell? ⟨g, 5, none⟩ = some (.slice lo r.log.length lc)) := fun W hb => by
    obtain ⟨s, xo, xc, ⟨k0, k1, k2, k3, k4, k5, _⟩, _⟩ := (h.below hb).cells
    exact ⟨_, _, k5⟩
  have hm3 := fun W => must_no 4 W
  have q5 : decide ((r.log.length : Int) < 1000) = false := decide_eq_false q3
  clear h hyes hlead hL2
  go_enter Tryz.func32, Tryz.ntmps32
  go_wp2_with (first
  | (go_at_call 39; refine (hf _).mono ?_; rintro e wn ⟨rfl, hq⟩; have hq' := hq.symm; clear hq; subst hq')
  | (go_at_call 36; have tk := hm; refine (hm _).mono ?_; rintro e wn ⟨rfl, hq⟩; have hq' := hq.symm; clear hq; subst hq'; clear hm tk)
  | (go_at_call 49; refine hL.mono ?_; rintro e w1 ⟨rfl, hb1⟩; have hLx := hLT _ hb1; clear hL)
  | (go_at_call 36; have tk := hm2; refine (hm2 _).mono ?_; rintro e wn ⟨rfl, hq⟩; have hq' := hq.symm; clear hq; subst hq'; clear hm2 tk)
  | (go_at_call 50; refine hLx.mono ?_; rintro e w2 ⟨rfl, hb2⟩; have hb3 := below_next hb1 (Nat.le_refl _) hb2; obtain ⟨lo, lc, c5⟩ := HC.out _ hb3; have c5z := fun ob : Obj => alloc_cell ob c5; clear hLx)
  | (go_at_call 36; refine (hm3 _).mono ?_; rintro e wn ⟨rfl, hq⟩; have hq' := hq.symm; clear hq; subst hq'))
  exact ⟨rfl, rfl, hb3.alloc hb3.size _⟩
set_option maxRecDepth 100000 in
set_option maxHeartbeats 2000000 in
theorem prop_yesa (B g : Nat) (r : Rep) (time L : Int) (d : ByteArray) (w : World) (h : Turn B w g r []) (hv : 0 ≤ r.view ∧ r.view < 1099511627776) (hL2 : lastT r.log = L) (hlt : 0 ≤ L ∧ L < 1099511627776) (hyes : (0 ≤ time ∧ time ≤ 1099511627775) ∧ d.size ≤ 20000) (hlead : r.how = 0 ∧ r.view % r.n = r.id) (n1 : ¬ time < 1) (n2 : ¬ time < L + 1) (q3 : (r.log.length : Int) < 1000) (q4 : time < 1099511627776) :
    Calls Tryz.prog 32 #[.pointer (some ⟨g, 0, none⟩), .int .i64 time, .string d] w fun e w' => e = .returned (.int .i64 ((r.log.length + 1 : Nat) : Int)) ∧ Turn B w' g (propR r ⟨time, d⟩) (propM r ⟨time, d⟩) ∧ Below B w w' := by
  have hm := fun W => must_yes 1 W
  have hm2 := fun W => must_yes 17 W
  have hf := fun W => isFrom_any 0 time 1099511627775 W
  have hL := leadsT_any B g r [] w h hv
  rw [← Bool.decide_and, decide_eq_true hlead] at hL
  rw [tru_yes hyes.1] at hf
  have q2 : (d.size : Int) ≤ 20000 := by have := hyes.2; omega
  have hLT := fun W (hb : Below w.heap.size w W) => lastTimeT_any B g r [] W (h.below hb)
  rw [hL2] at hLT
  have hw : IntKind.i64.wrap (L + 1) = L + 1 := by rw [IntKind.wrap_i64]; omega
  have HC : Hid (∀ W, Below w.heap.size w W → ∃ lo lc, W.cell? ⟨g, 5, none⟩ = some (.slice lo r.log.length lc)) := fun W hb => by
    obtain ⟨s, xo, xc, ⟨k0, k1, k2, k3, k4, k5, _⟩, _⟩ := (h.below hb).cells
    exact ⟨_, _, k5⟩
  have hm3 := fun W => must_yes 4 W
  have HT : Hid (∀ W, Below w.heap.size w W → Turn B W g r []) := fun W hb => h.below hb
  have hB := h.base
  have hnb := one_bounds h.one
  have hal := h.al
  have h1 := h.one
  have hbl := h.bl
  clear h hyes hlead hL2
  go_enter Tryz.func32, Tryz.ntmps32
  go_wp2_with (first
  | (go_at_call 39; refine (hf _).mono ?_; rintro e wn ⟨rfl, hq⟩; have hq' := hq.symm; clear hq; subst hq')
  | (go_at_call 36; have tk := hm; refine (hm _).mono ?_; rintro e wn ⟨rfl, hq⟩; have hq' := hq.symm; clear hq; subst hq'; clear hm tk)
  | (go_at_call 49; refine hL.mono ?_; rintro e w1 ⟨rfl, hb1⟩; have hLx := hLT _ hb1; clear hL)
  | (go_at_call 36; have tk := hm2; refine (hm2 _).mono ?_; rintro e wn ⟨rfl, hq⟩; have hq' := hq.symm; clear hq; subst hq'; clear hm2 tk)
  | (go_at_call 50; refine hLx.mono ?_; rintro e w2 ⟨rfl, hb2⟩; have hb3 := below_next hb1 (Nat.le_refl _) hb2; obtain ⟨lo, lc, c5⟩ := HC.out _ hb3; have c5z := fun ob : Obj => alloc_cell ob c5; clear hLx)
  | (go_at_call 36; refine (hm3 _).mono ?_; rintro e wn ⟨rfl, hq⟩; have hq' := hq.symm; clear hq; subst hq'))
  clear c5 c5z HC
  obtain ⟨s, xo, xc, _, _, _, hH2, hO2⟩ := (HT.out _ hb3).cells
  have hbX : Below w2.heap.size w2 (w2.alloc (.cells #[.int .i64 time, .string d] 48)) := (Below.refl _ w2).alloc (Nat.le_refl _) _
  have bE : (w2.alloc (.cells #[.int .i64 time, .string d] 48)).heap[w2.heap.size]? = some (.cells #[.int .i64 time, .string d] 48 (0, 0)) := heap_new w2 _
  have hgw : g < w2.heap.size := hH2.box.lt
  have hlw : ∀ k, (Value.slice s.lo r.log.length s.lc).ownBlock = some k → k < w2.heap.size := fun k hk => (hH2.rows.log.lt k hk).2
  obtain ⟨ga, ca, hva⟩ := own_someV hH2.rows.ack (by omega)
  have hga : ga < w2.heap.size := (hH2.rows.ack.lt ga (by rw [hva]; rfl)).2
  rw [hva] at hH2
  have hHX := hH2.below hbX
  have hOX := ownO_below hO2 hbX
  have hB2 : B ≤ (w2.alloc (.cells #[.int .i64 time, .string d] 48)).heap.size := Nat.le_trans hB (Nat.le_trans hb3.size hbX.size)
  have hlow : Below B w (w2.alloc (.cells #[.int .i64 time, .string d] 48)) := (hb3.mono hB).trans (hbX.mono (Nat.le_trans hB hb3.size))
  have hszX : w2.heap.size < (w2.alloc (.cells #[.int .i64 time, .string d] 48)).heap.size := by simp
  clear hH2 hO2 hva HT hbX
  generalize w2.alloc (.cells #[.int .i64 time, .string d] 48) = X at *
  have hbY : Below X.heap.size X (X.alloc (.cells #[.int .i64 time, .string d] 48)).drew := ((Below.refl _ X).alloc (Nat.le_refl _) _).drew
  obtain ⟨v', w4, hr, ⟨ao4, cap4, rfl⟩, bx4, hH5, hs4, hb4, hoff⟩ := app_en (hHX.below hbY) (by omega) (by decide) (by decide) (Nat.le_trans hB2 hbY.size) (by omega) [(⟨time, d⟩ : Ent)] (by simp) (some ⟨X.heap.size, 0, none⟩) 1 (en_cells X (⟨time, d⟩ : Ent)) 22
  have hr' : (Builtin.append_ #[22, 22] 22 #[.slice s.lo r.log.length s.lc, .slice (some ⟨X.heap.size, 0, none⟩) 1 1]).run Tryz.prog (X.alloc (.cells #[.int .i64 time, .string d] 48)).drew = _ := hr
  have hK : (r.log ++ [(⟨time, d⟩ : Ent)]).length = r.log.length + 1 := by simp
  have bE4 : w4.heap[w2.heap.size]? = some (.cells #[.int .i64 time, .string d] 48 (0, 0)) := ((hoff _ (Nat.lt_of_lt_of_le hszX hbY.size) (fun e => Nat.lt_irrefl _ (hlw _ e))).trans (hbY.block _ hszX)).trans bE
  have hO4 := ownO_nil_stay (ownO_below hOX hbY) hs4 (by decide)
  have hb4' : Below B X w4 := (hbY.mono hB2).trans hb4
  rw [hK] at hr' hH5
  obtain ⟨K, hKe⟩ : ∃ K, r.log.length + 1 = K := ⟨_, rfl⟩
  have hKi : ((K : Nat) : Int) = (r.log.length : Int) + 1 := by omega
  rw [hKe] at hr' hH5
  have bx5 := hH5.box
  have bE5 : (w4.setCell ⟨g, 5, none⟩ (.slice ao4 K cap4)).heap[w2.heap.size]? = some (.cells #[.int .i64 time, .string d] 48 (0, 0)) := (Below.heap_setCell _ _ _ _ (by show w2.heap.size ≠ g; omega)).trans bE4
  have hO5 := ownO_stay hO4 (bx4.stays 5 (.slice ao4 K cap4)) (by decide) (by decide)
  have hb5 : Below B X (w4.setCell ⟨g, 5, none⟩ (.slice ao4 K cap4)) := hb4'.setCell (p := ⟨g, 5, none⟩) hH5.base _
  obtain ⟨hH6, hs6, hk6⟩ := hold_ack hH5 rfl (by decide) (Nat.le_trans hB2 hb5.size) r.id.toNat (K : Int)
  have hO6 := ownO_stay hO5 hs6 (by decide) (by decide)
  have bE6 : ((w4.setCell ⟨g, 5, none⟩ (.slice ao4 K cap4)).setCell ⟨ga, r.id.toNat, none⟩ (.int .i64 (K : Int))).heap[w2.heap.size]? = some (.cells #[.int .i64 time, .string d] 48 (0, 0)) := (Below.heap_setCell _ _ _ _ (by show w2.heap.size ≠ ga; omega)).trans bE5
  have hb6 := (hlow.trans hb5).trans hk6.low
  have hT6 : Turn B _ g { r with log := r.log ++ [(⟨time, d⟩ : Ent)], acked := r.acked.set r.id.toNat (K : Int) } [] := ⟨⟨_, _, _, _, _, _, hH6, hO6⟩, Nat.le_trans hB hb6.size, h1, by show (r.log ++ [(⟨time, d⟩ : Ent)]).length ≤ 1000; omega, hbl, by show ((r.acked.set r.id.toNat (K : Int)).length : Int) = r.n; rw [List.length_set]; exact hal⟩
  obtain ⟨_, _, _, _, _, k5, _⟩ := hHX.cells (by omega)
  have k5z := fun ob : Obj => alloc_cell ob k5
  have e0 := box_cell bE 0 _ rfl
  have e1 := box_cell bE 1 _ rfl
  have d5 : w4.cell? ⟨g, 5, none⟩ = some (.slice s.lo r.log.length s.lc) := bx4.cell 5 (by omega)
  have y5 := bx4.unfrozen 5
  obtain ⟨f0, f1, f2, f3, f4, f5, f6, f7, _⟩ := hH5.cells (by omega)
  have ca := hH5.rows.ack.cells (g := ga) rfl r.id.toNat (.int .i64 (r.acked[r.id.toNat]'(by omega))) (by simp [inCells])
  rw [Addr.add_lit, Nat.zero_add] at ca
  have za := hH5.rows.ack.frozenAt r.id.toNat
  have n1 : r.id < (r.acked.length : Int) := by omega
  have n2 : ¬ r.id < 0 := by omega
  clear hH6 hO6 hO5 hH5 bx5 bE5 hO4 bE4 hHX hOX hs4 hs6 hk6 hb5 hb4' hb4 bx4 hr hoff hlw bE hbY hszX
  have hke : Hid (r.log.length + 1 = K) := hKe
  clear hKi hKe hK
  have HS : Hid (∀ (Y : World) (q : Rep) (n : Nat), Y.heap.size = n → Turn B Y g q [] → Calls Tryz.prog 51 #[.pointer (some ⟨g, 0, none⟩), .agg #[.int .i64 1, .int .i64 0, .int .i64 0, .int .i64 0, .int .i64 (K : Int), .int .i64 q.commit, .int .i64 0, .slice (some ⟨n, 0, none⟩) 1 1]] (Y.alloc (.cells #[.int .i64 time, .string d] 48)).drew fun e w' => e = .returned (.tuple #[]) ∧ Turn B w' g q (allM q (msg 1 (K : Int) q.commit 0 [(⟨time, d⟩ : Ent)])) ∧ Keep B (Y.alloc (.cells #[.int .i64 time, .string d] 48)).drew w') := fun Y q n hn hq => by
    subst hn
    exact sendAllT_any B g q [] (msg 1 (K : Int) q.commit 0 [(⟨time, d⟩ : Ent)]) (some ⟨Y.heap.size, 0, none⟩) 1 _ (hq.below ((Below.refl _ Y).alloc (Nat.le_refl _) _).drew) (.inr (own_mono (own_below (own_en Y (⟨time, d⟩ : Ent)) (Below.refl _ _).drew) hq.base)) (by simp) (by simp)
  go_region_law (refine step_app_run rfl (.tmp 45) (.tmp 47) 22 rfl (.slice s.lo r.log.length s.lc) (.slice (some ⟨X.heap.size, 0, none⟩) 1 1) (by simp [Act.eval]) (by simp [Act.eval]) hr' ?_)
  all_goals
    clear k5 k5z e0 e1 d5 y5 hr'
    go_wp2
    go_region
    clear f0 f1 f2 f3 f4 f5 f6 f7 ca za
    have hT6 := hT6.drew
    have bE6 := heap_drew bE6
    have hb6 := hb6.drew
    generalize ((w4.setCell ⟨g, 5, none⟩ (.slice ao4 K cap4)).setCell ⟨ga, r.id.toNat, none⟩ (.int .i64 (K : Int))).drew = Z at *
    by_cases hn : r.n = 1
    · have hn2 : (r.n == 1) = true := by simp [hn]
      obtain ⟨s7, xo7, xc7, ⟨_, m1, _, _, _, _, m6, _⟩, mz, _⟩ := hT6.cells
      obtain ⟨hT7, hK7⟩ := turn_sets hT6 [(6, .int .i64 (K : Int))] { r with log := r.log ++ [(⟨time, d⟩ : Ent)], acked := r.acked.set r.id.toNat (K : Int), commit := (K : Int) } (fun _ _ _ _ _ _ f f' e e' => by subst e e'; exact ⟨rfl, rfl, rfl, rfl, rfl, rfl, rfl, rfl, rfl, rfl, rfl, rfl, rfl, rfl⟩) rfl rfl rfl rfl rfl rfl rfl
      have HF : Hid (∀ W, Turn B W g { r with log := r.log ++ [(⟨time, d⟩ : Ent)], acked := r.acked.set r.id.toNat (K : Int), commit := (K : Int) } (allM { r with log := r.log ++ [(⟨time, d⟩ : Ent)], acked := r.acked.set r.id.toNat (K : Int), commit := (K : Int) } (msg 1 (K : Int) (K : Int) 0 [(⟨time, d⟩ : Ent)])) → Turn B W g (propR r (⟨time, d⟩ : Ent)) (propM r (⟨time, d⟩ : Ent))) := fun W h => by
        have e : propR r (⟨time, d⟩ : Ent) = { r with log := r.log ++ [(⟨time, d⟩ : Ent)], acked := r.acked.set r.id.toNat (K : Int), commit := (K : Int) } := by unfold propR; rw [if_pos hn, hke.out]
        unfold propM
        rw [e, hke.out]
        exact h
      have hall := HS.out _ _ Z.heap.size (by simp [sets, World.setCell]) hT7
      have hn' : Hid (r.n = 1) := hn
      clear hn HS
      simp only [sets] at hT7 hK7 hall
      have bE7 : (Z.setCell ⟨g, 6, none⟩ (.int .i64 (K : Int))).heap[w2.heap.size]? = some (.cells #[.int .i64 time, .string d] 48 (0, 0)) := (Below.heap_setCell _ _ _ _ (by show w2.heap.size ≠ g; omega)).trans bE6
      have e0 := box_cell bE7 0 _ rfl
      have e1 := box_cell bE7 1 _ rfl
      obtain ⟨s8, xo8, xc8, ⟨_, _, _, _, _, _, p6, _⟩, _⟩ := hT7.cells
      have p6z := fun ob : Obj => alloc_cell ob p6
      go_wp2
      go_region_law (first
        | (go_simp; go_at_call 51; refine hall.mono ?_; rintro e w8 ⟨rfl, hT8, hK8⟩))
      all_goals
        go_wp2
        go_ret
        exact ⟨by rw [hke.out]; rfl, HF.out _ hT8, ((hb6.trans hK7.low).trans (((Below.refl _ _).alloc (Nat.le_refl _) _).drew.mono hT7.base)).trans hK8.low⟩
    · have hn2 : (r.n == 1) = false := by simp [hn]
      have hn3 : decide (r.n = 1) = false := decide_eq_false hn
      obtain ⟨s7, xo7, xc7, ⟨_, m1, _, _, _, _, m6, _⟩, mz, _⟩ := hT6.cells
      have HF : Hid (∀ W, Turn B W g { r with log := r.log ++ [(⟨time, d⟩ : Ent)], acked := r.acked.set r.id.toNat (K : Int) } (allM { r with log := r.log ++ [(⟨time, d⟩ : Ent)], acked := r.acked.set r.id.toNat (K : Int) } (msg 1 (K : Int) r.commit 0 [(⟨time, d⟩ : Ent)])) → Turn B W g (propR r (⟨time, d⟩ : Ent)) (propM r (⟨time, d⟩ : Ent))) := fun W h => by
        have e : propR r (⟨time, d⟩ : Ent) = { r with log := r.log ++ [(⟨time, d⟩ : Ent)], acked := r.acked.set r.id.toNat (K : Int) } := by unfold propR; rw [if_neg hn, hke.out]
        unfold propM
        rw [e, hke.out]
        exact h
      have hall := HS.out _ _ _ rfl hT6
      clear HS
      have e0 := box_cell bE6 0 _ rfl
      have e1 := box_cell bE6 1 _ rfl
      have m6z := fun ob : Obj => alloc_cell ob m6
      have hTd := hT6
      go_wp2
      go_region_law (first
        | (go_simp; go_at_call 51; refine hall.mono ?_; rintro e w8 ⟨rfl, hT8, hK8⟩))
      all_goals
        go_wp2
        go_ret
        exact ⟨by rw [hke.out]; rfl, HF.out _ hT8, (hb6.trans (((Below.refl _ _).alloc (Nat.le_refl _) _).drew.mono hTd.base)).trans hK8.low⟩
end Go.Proofs.YtajbdffepfjegaaGreat
namespace Go.Proofs.YtajbdffepfjegaaGreat
open Go.RowKit Num
open scoped Classical
set_option linter.unusedVariables false
set_option maxRecDepth 100000

theorem own_off {w : World} {B e sz n : Nat} {v : Value} {xs : List Value} (h : w.ownsRow B e sz v n xs) {k : Nat} (hk : k < B) (i : Nat) (u : Value) : (w.setCell ⟨k, i, none⟩ u).ownsRow B e sz v n xs := h.kept (grown_set w k i u) (by
  cases hv : v.ownBlock with
  | none => exact .inl rfl
  | some j => exact .inr (fun e => by cases e; have := (h.lt _ hv).1; omega))
/-- What is written below its base does not turn it. -/
theorem turn_low {B : Nat} {w : World} {g : Nat} {r : Rep} {o : Msgs} (h : Turn B w g r o) {k : Nat} (hk : k < B) (i : Nat) (u : Value) : Turn B (w.setCell ⟨k, i, none⟩ u) g r o := by
  obtain ⟨⟨vl, va, vv, vw, vb, x, h, ho⟩, hB, h1, hl, hl2, ha⟩ := h
  have hg : g ≠ k := by have := h.base; omega
  obtain ⟨css, a, b, c, d⟩ := ho
  exact ⟨⟨vl, va, vv, vw, vb, x, ⟨boxF_far h.box hg u, h.base, ⟨own_off h.rows.log hk i u, own_off h.rows.best hk i u, own_off h.rows.ack hk i u, own_off h.rows.vot hk i u, own_off h.rows.vor hk i u, h.rows.a1, h.rows.a2, h.rows.a3, h.rows.a4⟩⟩, ⟨css, a, b, own_off c hk i u, fun j cs y hj hy => by
    obtain ⟨c, e1, h4⟩ := d j cs y hj hy
    exact ⟨c, e1, own_off h4 hk i u⟩⟩⟩, by simpa [World.setCell] using hB, h1, hl, hl2, ha⟩
set_option maxRecDepth 100000 in
set_option maxHeartbeats 2000000 in
theorem propose_ok (r : Rep) (s : Sl) (time : Int) (d : ByteArray) (hsm : SmallR r) (hyes : May r) (r' : Rep) (o' : Msgs) (K : Int)
    (hdo : ∀ (B g : Nat) (W : World), Turn B W g r [] → Calls Tryz.prog 32 #[.pointer (some ⟨g, 0, none⟩), .int .i64 time, .string d] W fun e W' => e = .returned (.int .i64 K) ∧ Turn B W' g r' o' ∧ Below B W W')
    (w : World) (hl : LiesR w w.heap.size s r) :
    Calls Tryz.prog 21 #[repV r s, .int .i64 time, .string d] w fun x w' => ∃ s' xo xc, x = .returned (.tuple #[repV r' s', .slice xo o'.length xc, .int .i64 K, .int .i64 0]) ∧ RowsS w.heap.size w' r' s' ∧ OwnO w.heap.size w' (.slice xo o'.length xc) o' ∧ Below w.heap.size w w' := by
  have hmf : ∀ (fn : Fn) (first cap : Array Value) (w : World), (Instr.makeFunc fn first cap).run Tryz.prog w = .ok (.func fn first cap) w := fun _ _ _ _ => rfl
  have hB : Below w.heap.size w (((((w.alloc (repO r (.slice s.lo r.log.length s.lc) (.slice s.ao r.acked.length s.ac) (.slice s.vo r.votes.length s.vc) (.slice s.wo r.voters.length s.wc) (.slice s.bo r.best.length s.bc) 25)).alloc (.cells #[.int .i64 time] 3)).alloc (.cells #[.string d] 9)).alloc (repO0 25)).alloc (.cells #[.int .i64 0] 3)) := (((((Below.refl _ w).alloc (Nat.le_refl _) _).alloc (by simp) _).alloc (by simp; omega) _).alloc (by simp; omega) _).alloc (by simp; omega) _
  have hsz : (((((w.alloc (repO r (.slice s.lo r.log.length s.lc) (.slice s.ao r.acked.length s.ac) (.slice s.vo r.votes.length s.vc) (.slice s.wo r.voters.length s.wc) (.slice s.bo r.best.length s.bc) 25)).alloc (.cells #[.int .i64 time] 3)).alloc (.cells #[.string d] 9)).alloc (repO0 25)).alloc (.cells #[.int .i64 0] 3)).heap.size = w.heap.size + 5 := by simp
  have e1 : Box1 (((((w.alloc (repO r (.slice s.lo r.log.length s.lc) (.slice s.ao r.acked.length s.ac) (.slice s.vo r.votes.length s.vc) (.slice s.wo r.voters.length s.wc) (.slice s.bo r.best.length s.bc) 25)).alloc (.cells #[.int .i64 time] 3)).alloc (.cells #[.string d] 9)).alloc (repO0 25)).alloc (.cells #[.int .i64 0] 3)) (w.heap.size + 1) 3 (.int .i64 time) := alloc_box _ (alloc_box _ (alloc_box _ (heap_newB _ _ _ (by simp))))
  have e2 : Box1 (((((w.alloc (repO r (.slice s.lo r.log.length s.lc) (.slice s.ao r.acked.length s.ac) (.slice s.vo r.votes.length s.vc) (.slice s.wo r.voters.length s.wc) (.slice s.bo r.best.length s.bc) 25)).alloc (.cells #[.int .i64 time] 3)).alloc (.cells #[.string d] 9)).alloc (repO0 25)).alloc (.cells #[.int .i64 0] 3)) (w.heap.size + 1 + 1) 9 (.string d) := alloc_box _ (alloc_box _ (heap_newB _ _ _ (by simp)))
  have e3 : BoxF (((((w.alloc (repO r (.slice s.lo r.log.length s.lc) (.slice s.ao r.acked.length s.ac) (.slice s.vo r.votes.length s.vc) (.slice s.wo r.voters.length s.wc) (.slice s.bo r.best.length s.bc) 25)).alloc (.cells #[.int .i64 time] 3)).alloc (.cells #[.string d] 9)).alloc (repO0 25)).alloc (.cells #[.int .i64 0] 3)) (w.heap.size + 1 + 1 + 1) 25 13 (repF rep0 (.slice none 0 0) (.slice none 0 0) (.slice none 0 0) (.slice none 0 0) (.slice none 0 0) undef) := (box_rep0 _ undef 25 (w.heap.size + 1 + 1 + 1) (by simp)).alloc _
  have e4 : Box1 (((((w.alloc (repO r (.slice s.lo r.log.length s.lc) (.slice s.ao r.acked.length s.ac) (.slice s.vo r.votes.length s.vc) (.slice s.wo r.voters.length s.wc) (.slice s.bo r.best.length s.bc) 25)).alloc (.cells #[.int .i64 time] 3)).alloc (.cells #[.string d] 9)).alloc (repO0 25)).alloc (.cells #[.int .i64 0] 3)) (w.heap.size + 1 + 1 + 1 + 1) 3 (.int .i64 0) := heap_newB _ _ _ (by simp)
  have hface := face_yes_propose r s hsm hyes (.pointer (some ⟨w.heap.size + 1, 0, none⟩)) (.pointer (some ⟨w.heap.size + 1 + 1, 0, none⟩)) (.pointer (some ⟨w.heap.size + 1 + 1 + 1 + 1, 0, none⟩)) r' o' (some (w.heap.size + 1 + 1 + 1 + 1)) (fun o => o = some (.cells #[.int .i64 K] 3 (0, 0))) (((((w.alloc (repO r (.slice s.lo r.log.length s.lc) (.slice s.ao r.acked.length s.ac) (.slice s.vo r.votes.length s.vc) (.slice s.wo r.voters.length s.wc) (.slice s.bo r.best.length s.bc) 25)).alloc (.cells #[.int .i64 time] 3)).alloc (.cells #[.string d] 9)).alloc (repO0 25)).alloc (.cells #[.int .i64 0] 3)) (fun k hk => by cases hk; rw [hsz]; omega) (liesR_next hl hB hB.size) (fun W g hW hT => by
    have k1 := below_box hW e1
    have k2 := below_box hW e2
    have k4 := below_box hW e4
    have c1 := box_cell k1 0 _ rfl
    have c2 := box_cell k2 0 _ rfl
    have hd := hdo _ g W hT
    have hp4 : w.heap.size + 1 + 1 + 1 + 1 < (((((w.alloc (repO r (.slice s.lo r.log.length s.lc) (.slice s.ao r.acked.length s.ac) (.slice s.vo r.votes.length s.vc) (.slice s.wo r.voters.length s.wc) (.slice s.bo r.best.length s.bc) 25)).alloc (.cells #[.int .i64 time] 3)).alloc (.cells #[.string d] 9)).alloc (repO0 25)).alloc (.cells #[.int .i64 0] 3)).heap.size := by rw [hsz]; omega
    clear hdo hl hB e1 e2 e3 e4 k1 k2 hsm hyes
    generalize (((((w.alloc (repO r (.slice s.lo r.log.length s.lc) (.slice s.ao r.acked.length s.ac) (.slice s.vo r.votes.length s.vc) (.slice s.wo r.voters.length s.wc) (.slice s.bo r.best.length s.bc) 25)).alloc (.cells #[.int .i64 time] 3)).alloc (.cells #[.string d] 9)).alloc (repO0 25)).alloc (.cells #[.int .i64 0] 3)).heap.size = N at *
    have HK : Hid (∀ W1, Below (N + 4) W W1 → Box1 W1 (w.heap.size + 1 + 1 + 1 + 1) 3 (.int .i64 0)) := fun W1 h1 => (h1.block _ (by omega)).trans k4
    clear k4 hsz
    go_enter Tryz.func31, Tryz.ntmps31
    go_wp2_with (first
      | (go_at_call 32; refine hd.mono ?_; rintro e W1 ⟨rfl, hT1, hb1⟩; have q4 := HK.out _ hb1; have c4 := box_cell q4 0 _ rfl; have z4 := box_open q4 0))
    go_end0
    exact ⟨rfl, turn_low hT1 (by omega) _ _, ⟨hb1.os, hb1.tape, hb1.output, by simpa [World.setCell] using hb1.size, fun k hk hn => (Below.heap_setCell _ _ _ _ (fun e => hn (congrArg some e.symm))).trans (hb1.block k hk)⟩, fun k hk => by cases hk; exact box1_set q4 _⟩)
  have hlt : ∀ w1, LowB (((((w.alloc (repO r (.slice s.lo r.log.length s.lc) (.slice s.ao r.acked.length s.ac) (.slice s.vo r.votes.length s.vc) (.slice s.wo r.voters.length s.wc) (.slice s.bo r.best.length s.bc) 25)).alloc (.cells #[.int .i64 time] 3)).alloc (.cells #[.string d] 9)).alloc (repO0 25)).alloc (.cells #[.int .i64 0] 3)).heap.size (some (w.heap.size + 1 + 1 + 1 + 1)) (((((w.alloc (repO r (.slice s.lo r.log.length s.lc) (.slice s.ao r.acked.length s.ac) (.slice s.vo r.votes.length s.vc) (.slice s.wo r.voters.length s.wc) (.slice s.bo r.best.length s.bc) 25)).alloc (.cells #[.int .i64 time] 3)).alloc (.cells #[.string d] 9)).alloc (repO0 25)).alloc (.cells #[.int .i64 0] 3)) w1 → BoxF w1 (w.heap.size + 1 + 1 + 1) 25 13 (repF rep0 (.slice none 0 0) (.slice none 0 0) (.slice none 0 0) (.slice none 0 0) (.slice none 0 0) undef) := fun w1 h1 => e3.kept (h1.block _ (by rw [hsz]; omega) (by simp))
  have HF : Hid (∀ w1, LowB (((((w.alloc (repO r (.slice s.lo r.log.length s.lc) (.slice s.ao r.acked.length s.ac) (.slice s.vo r.votes.length s.vc) (.slice s.wo r.voters.length s.wc) (.slice s.bo r.best.length s.bc) 25)).alloc (.cells #[.int .i64 time] 3)).alloc (.cells #[.string d] 9)).alloc (repO0 25)).alloc (.cells #[.int .i64 0] 3)).heap.size (some (w.heap.size + 1 + 1 + 1 + 1)) (((((w.alloc (repO r (.slice s.lo r.log.length s.lc) (.slice s.ao r.acked.length s.ac) (.slice s.vo r.votes.length s.vc) (.slice s.wo r.voters.length s.wc) (.slice s.bo r.best.length s.bc) 25)).alloc (.cells #[.int .i64 time] 3)).alloc (.cells #[.string d] 9)).alloc (repO0 25)).alloc (.cells #[.int .i64 0] 3)) w1 → Below w.heap.size w w1) := fun w1 h1 => hB.trans ⟨h1.os, h1.tape, h1.output, h1.size, fun k hk => h1.block k (by rw [hsz]; omega) (by simp; omega)⟩
  clear e1 e2 e4 hdo
  go_enter Tryz.func21, Tryz.ntmps21
  go_wp2_with (first
    | (go_at_call 22; refine hface.mono ?_; rintro e w1 ⟨s', xo, xc, rfl, hR1, hO1, hL1, hX1⟩))
  have bz := hlt _ hL1
  have hw1 := HF.out _ hL1
  have bp : Box1 w1 (w.heap.size + 1 + 1 + 1 + 1) 3 (.int .i64 K) := hX1 _ rfl
  have hN : w.heap.size ≤ (((((w.alloc (repO r (.slice s.lo r.log.length s.lc) (.slice s.ao r.acked.length s.ac) (.slice s.vo r.votes.length s.vc) (.slice s.wo r.voters.length s.wc) (.slice s.bo r.best.length s.bc) 25)).alloc (.cells #[.int .i64 time] 3)).alloc (.cells #[.string d] 9)).alloc (repO0 25)).alloc (.cells #[.int .i64 0] 3)).heap.size := by rw [hsz]; omega
  clear hface hlt HF hL1 hX1 e3 hB
  have hR1' : RowsS w.heap.size w1 r' s' := ⟨own_mono hR1.log hN, own_mono hR1.best hN, own_mono hR1.ack hN, own_mono hR1.vot hN, own_mono hR1.vor hN, hR1.a1, hR1.a2, hR1.a3, hR1.a4⟩
  have hO1' : OwnO w.heap.size w1 (.slice xo o'.length xc) o' := hO1.mono hN (fun cs x h => by obtain ⟨c, e, h⟩ := h; exact ⟨c, e, own_mono h hN⟩)
  have hbA : Below w1.heap.size w1 (w1.alloc (repO r' (.slice s'.lo r'.log.length s'.lc) (.slice s'.ao r'.acked.length s'.ac) (.slice s'.vo r'.votes.length s'.vc) (.slice s'.wo r'.voters.length s'.wc) (.slice s'.bo r'.best.length s'.bc) 25)) := (Below.refl _ w1).alloc (Nat.le_refl _) _
  have bN := box_rep w1 r' (.slice s'.lo r'.log.length s'.lc) (.slice s'.ao r'.acked.length s'.ac) (.slice s'.vo r'.votes.length s'.vc) (.slice s'.wo r'.voters.length s'.wc) (.slice s'.bo r'.best.length s'.bc) undef 25 w1.heap.size rfl
  have bz2 := bz.below hbA
  have bp2 := below_box hbA bp
  have hR2 := hR1'.below hbA
  have hO2 := ownO_below hO1' hbA
  have hw2 := below_next hw1 (Nat.le_refl _) hbA
  clear hR1 hO1 hR1' hO1' bz bp hw1 hbA hsz hN
  generalize w1.alloc (repO r' (.slice s'.lo r'.log.length s'.lc) (.slice s'.ao r'.acked.length s'.ac) (.slice s'.vo r'.votes.length s'.vc) (.slice s'.wo r'.voters.length s'.wc) (.slice s'.bo r'.best.length s'.bc) 25) = V at *
  obtain ⟨c0, c1, c2, c3, c4, c5, c6, c7, c8, c9, c10, c11, c12⟩ := bN.rep (by omega)
  obtain ⟨d0, d1, d2, d3, d4, d5, d6, d7, d8, d9, d10, d11, d12⟩ := bz2.rep (by omega)
  have dz := bz2.unfrozen
  have cp := box_cell bp2 0 _ rfl
  have bG := box_whole bz2 (by omega) r' (.slice s'.lo r'.log.length s'.lc) (.slice s'.ao r'.acked.length s'.ac) (.slice s'.vo r'.votes.length s'.vc) (.slice s'.wo r'.voters.length s'.wc) (.slice s'.bo r'.best.length s'.bc)
  have hRG := hR2.stay (sets_box [(0, .int .i64 r'.id), (1, .int .i64 r'.n), (2, .int .i64 r'.view), (3, .int .i64 r'.normal), (4, .int .i64 r'.how), (5, .slice s'.lo r'.log.length s'.lc), (6, .int .i64 r'.commit), (7, .slice s'.ao r'.acked.length s'.ac), (8, .slice s'.vo r'.votes.length s'.vc), (9, .slice s'.wo r'.voters.length s'.wc), (10, .slice s'.bo r'.best.length s'.bc), (11, .int .i64 r'.bestView), (12, .int .i64 r'.bestDone)] bz2).2 (by decide) (by decide)
  have hOG := ownO_stay hO2 (sets_box [(0, .int .i64 r'.id), (1, .int .i64 r'.n), (2, .int .i64 r'.view), (3, .int .i64 r'.normal), (4, .int .i64 r'.how), (5, .slice s'.lo r'.log.length s'.lc), (6, .int .i64 r'.commit), (7, .slice s'.ao r'.acked.length s'.ac), (8, .slice s'.vo r'.votes.length s'.vc), (9, .slice s'.wo r'.voters.length s'.wc), (10, .slice s'.bo r'.best.length s'.bc), (11, .int .i64 r'.bestView), (12, .int .i64 r'.bestDone)] bz2).2 (by decide) (by decide)
  have hwG := hw2.trans (sets_below (show w.heap.size ≤ w.heap.size + 1 + 1 + 1 by omega) [(0, .int .i64 r'.id), (1, .int .i64 r'.n), (2, .int .i64 r'.view), (3, .int .i64 r'.normal), (4, .int .i64 r'.how), (5, .slice s'.lo r'.log.length s'.lc), (6, .int .i64 r'.commit), (7, .slice s'.ao r'.acked.length s'.ac), (8, .slice s'.vo r'.votes.length s'.vc), (9, .slice s'.wo r'.voters.length s'.wc), (10, .slice s'.bo r'.best.length s'.bc), (11, .int .i64 r'.bestView), (12, .int .i64 r'.bestDone)] V)
  simp only [sets] at bG hRG hOG hwG
  obtain ⟨g0, g1, g2, g3, g4, g5, g6, g7, g8, g9, g10, g11, g12⟩ := bG.rep (by omega)
  clear bN bz2 bp2 hR2 hO2 hw2 bG
  go_region
  all_goals
    go_wp2
    refine bodyPost_ret (v := .tuple #[repV r' s', .slice xo o'.length xc, .int .i64 K, .int .i64 0]) (by simp [results, Tryz.results21, go_sem, g0, g1, g2, g3, g4, g5, g6, g7, g8, g9, g10, g11, g12]) rfl ⟨s', xo, xc, rfl, hRG.below (Below.refl _ _).drew, ownO_below hOG (Below.refl _ _).drew, hwG.drew⟩
end Go.Proofs.YtajbdffepfjegaaGreat
namespace Go.Proofs.YtajbdffepfjegaaGreat
open Go.RowKit Num
open scoped Classical
set_option linter.unusedVariables false
set_option maxRecDepth 100000

theorem new_may : May (newR 0 3) :=
  ⟨⟨.inr (.inl rfl), Int.le_refl _, by show (0 : Int) < 3; omega⟩, ⟨⟨Int.le_refl _, by show (0 : Int) < _; omega⟩, ⟨Int.le_refl _, Int.le_refl _⟩, .inl rfl, fun _ => rfl⟩, ⟨Nat.zero_le _, fun i x hx => by simp [newR, rep0] at hx⟩, ⟨Int.le_refl _, by show (0 : Int) ≤ _; simp [newR, rep0]⟩, ⟨rfl, fun i x hx => by
    have h0 : x = 0 := by
      have hm := List.mem_of_getElem? hx
      have hm2 : x ∈ List.replicate 3 (0 : Int) := hm
      exact (List.mem_replicate.1 hm2).2
    subst h0
    exact ⟨Int.le_refl _, by simp [newR, rep0]⟩⟩, fun i x hx => by simp [newR, rep0] at hx, fun i x hx => by simp [newR, rep0] at hx, ⟨⟨Nat.zero_le _, fun i x hx => by simp [newR, rep0] at hx⟩, ⟨Int.le_refl _, by show (-1 : Int) < _; omega⟩, ⟨Int.le_refl _, by simp [newR, rep0]⟩⟩⟩
theorem awake_key (d : ByteArray) (hd : d.size ≤ 20000) : ∃ (q r' : Rep) (o' : Msgs), q = newR 0 3 ∧ SmallR q ∧ May q ∧ r'.log.length = 1 ∧ r'.commit = 0 ∧ o'.length = 2 ∧ ∀ (B g : Nat) (W : World), Turn B W g q [] → Calls Tryz.prog 32 #[.pointer (some ⟨g, 0, none⟩), .int .i64 5, .string d] W fun e W' => e = .returned (.int .i64 1) ∧ Turn B W' g r' o' ∧ Below B W W' := by
  refine ⟨newR 0 3, propR (newR 0 3) ⟨5, d⟩, propM (newR 0 3) ⟨5, d⟩, rfl, ⟨Nat.zero_le _, Nat.zero_le _, by simp [newR], Nat.zero_le _, Nat.zero_le _⟩, new_may, rfl, rfl, rfl, fun B g W h => ?_⟩
  exact prop_yesa B g (newR 0 3) 5 0 d W h ⟨Int.le_refl _, by show (0 : Int) < _; omega⟩ rfl ⟨Int.le_refl _, by omega⟩ ⟨⟨by omega, by omega⟩, hd⟩ ⟨rfl, rfl⟩ (by omega) (by omega) (by simp [newR, rep0]) (by omega)
set_option maxRecDepth 100000 in
set_option maxHeartbeats 1000000 in
theorem awake_any (w : World) : Calls Tryz.prog 9 #[] w fun e w' => e = .returned (.bool true) ∧ Below w.heap.size w w' := by
  obtain ⟨q, r', o', hq, hsm, hmay, hl1, hc0, ho2, hdo⟩ := awake_key { data := #[120] } (by decide)
  have hnew := fun W => new_yes 0 3 ⟨.inr (.inl rfl), by omega, by omega⟩ W
  rw [← hq] at hnew
  have hnum := fun n W => num_any n W
  have hpro := fun s W hl => propose_ok q s 5 { data := #[120] } hsm hmay r' o' 1 hdo W hl
  have i1 : ((r'.log.length : Nat) : Int) = 1 := by omega
  have i2 : ((o'.length : Nat) : Int) = 2 := by omega
  clear hq hsm hmay hdo hl1 ho2
  go_enter Tryz.func9, Tryz.ntmps9
  go_wp2_with (first
    | (go_at_call 20; refine (hnew _).mono ?_; rintro e w1 ⟨s1, rfl, hl1, hb1⟩; have hp := fun ob : Obj => hpro s1 (w1.alloc ob) (liesR_next hl1 ((Below.refl _ w1).alloc (Nat.le_refl _) ob) ((Below.refl _ w1).alloc (Nat.le_refl _) ob).size); clear hnew hpro)
    | (go_at_call 21; refine (hp _).mono ?_; rintro e w2 ⟨s2, xo, xc, rfl, _, _, hb2⟩; clear hp)
    | (go_at_call 13; refine (hnum _ _).mono ?_; rintro e wn ⟨rfl, hq⟩; have hq' := hq.symm; clear hq; subst hq'))
  go_ret
  exact ⟨rfl, (below_next (below_next hb1 (Nat.le_refl _) ((Below.refl _ w1).alloc (Nat.le_refl _) _)) (Nat.le_refl _) hb2).alloc (Nat.le_trans hb1.size (Nat.le_trans (by simp) hb2.size)) _⟩
end Go.Proofs.YtajbdffepfjegaaGreat
