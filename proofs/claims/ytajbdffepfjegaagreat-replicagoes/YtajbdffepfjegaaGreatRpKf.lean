/-
  Contracts of a replica at work: what it makes of a new entry.
-/
import Derived.Test.YtajbdffepfjegaaGreatRpG14
namespace Go.Proofs.YtajbdffepfjegaaGreat
open Go.RowKit Num
open scoped Classical
set_option linter.unusedVariables false
set_option maxRecDepth 100000

theorem own_liesE {w : World} {B : Nat} {ao : Option Addr} {n c : Nat} {l : List Ent} (h : w.ownsRow B 48 2 (.slice ao n c) l.length (enCells l)) : LiesE w w.heap.size ao l := by
  obtain ⟨bo, bc, e, hl⟩ := ownE_lies h
  cases e
  exact hl
/-- A log is put behind the replica's own. -/
theorem tm_app {M : Nat × Obj} {B : Nat} {W : World} {g : Nat} {r : Rep} (h : TM M B W g r []) (more : List Ent) (hm : more.length ≤ 1000) (hl : r.log.length + more.length ≤ 1000) {bo : Option Addr} {c : Nat} (hs : SrcE B W bo c more) :
    ∃ (lo : Option Addr) (lc : Nat) (v' : Value) (w' : World), W.cell? ⟨g, 5, none⟩ = some (.slice lo r.log.length lc) ∧ (Builtin.append_ #[22, 22] 22 #[.slice lo r.log.length lc, .slice bo more.length c]).run Tryz.prog W = .ok v' w' ∧
      (∃ ao cap, v' = .slice ao (r.log ++ more).length cap) ∧ w'.cell? ⟨g, 5, none⟩ = some (.slice lo r.log.length lc) ∧ (∀ k, w'.frozen? ⟨g, k, none⟩ = false) ∧ TM M B (w'.setCell ⟨g, 5, none⟩ v') g { r with log := r.log ++ more } [] ∧ Below B W (w'.setCell ⟨g, 5, none⟩ v') := by
  obtain ⟨⟨vl, va, vv, vw, vb, x, hH, ho, hx⟩, hM, hne, hty, hB, h1, hl0, hb, ha⟩ := h
  obtain ⟨lo, lc, rfl, _⟩ := ownE_lies hH.rows.log
  obtain ⟨v', w', hr, ⟨ao, cap, rfl⟩, bx, hH', hst, hbel, hoff⟩ := app_en hH (by omega) (by decide) (by decide) hB hl0 more hm bo c (liesE_src (hs.lies hB)) 22
  have hcell := bx.cell 5 (by omega)
  have hS2 := bx.stays 5 (.slice ao (r.log ++ more).length cap)
  have hbel2 : Below B W (w'.setCell ⟨g, 5, none⟩ (.slice ao (r.log ++ more).length cap)) := hbel.setCell (p := ⟨g, 5, none⟩) hH.base _
  exact ⟨lo, lc, _, w', hH.box.cell 5 (by omega), hr, ⟨ao, cap, rfl⟩, hcell, bx.unfrozen, ⟨⟨_, _, _, _, _, _, hH', ownO_stay (ownO_nil_stay ho hst (by decide)) hS2 (by decide) (by decide), hx⟩, msg_stay hty (msg_stay hty hM hst (by decide)) hS2 (by decide), hne, hty, Nat.le_trans hB hbel2.size, h1, by rw [List.length_append]; exact hl, hb, ha⟩, hbel2⟩
theorem fit_one {a b : List Ent} (h1 : b.length = 1) (hb : LogOk b) : FitP a b ↔ lastT a < lastT b ∧ a.length < 1000 ∨ a = [] := by
  obtain ⟨y, rfl⟩ : ∃ y, b = [y] := List.length_eq_one_iff.1 h1
  have hy : lastT [y] = y.time := rfl
  rw [hy]
  unfold FitP
  constructor
  · rintro (h | h | ⟨h, y', h', h''⟩)
    · exact .inr h
    · cases h
    · simp at h'
      subst h'
      simp at h
      exact .inl ⟨h'', by omega⟩
  · rintro (⟨h, h'⟩ | h)
    · exact .inr (.inr ⟨by simp; omega, y, rfl, h⟩)
    · exact .inl h
theorem next_iff {r : Rep} {m : Msg} (h1 : m.log.length = 1) (hb : LogOk m.log) : (m.a4 = (r.log.length : Int) + 1 ∧ lastT r.log < lastT m.log ∧ r.log.length < 1000) ↔ (m.a4 = (r.log.length : Int) + 1 ∧ FitP r.log m.log) := by
  rw [fit_one h1 hb]
  constructor
  · rintro ⟨a, b, c⟩
    exact ⟨a, .inl ⟨b, c⟩⟩
  · rintro ⟨a, ⟨b, c⟩ | b⟩
    · exact ⟨a, b, c⟩
    · obtain ⟨y, hy⟩ : ∃ y, m.log = [y] := List.length_eq_one_iff.1 h1
      refine ⟨a, ?_, by rw [b]; simp⟩
      have h0 := (hb.2 0 y (by rw [hy]; rfl)).1
      rw [b, hy]
      exact h0
set_option maxRecDepth 100000 in
set_option maxHeartbeats 1000000 in
theorem prepareA (B g : Nat) (r : Rep) (o : Msgs) (m : Msg) (bo : Option Addr) (c : Nat) (hv : 0 ≤ m.a3 ∧ m.a3 < 1099511627776) (hno : m.a3 < r.view ∨ m.a3 % r.n ≠ m.a1)  (hol : o.length ≤ 50) (w : World) (h : Turn B w g r o) (hs : SrcE B w bo c m.log) :
    Calls Tryz.prog 59 #[.pointer (some ⟨g, 0, none⟩), msV m bo c] w fun e w' => e = .returned (.tuple #[]) ∧ Turn B w' g r o ∧ Keep B w w' := by
  have hT := tm_new h #[.int .i64 m.a0, .int .i64 m.a1, .int .i64 m.a2, .int .i64 m.a3, .int .i64 m.a4, .int .i64 m.a5, .int .i64 m.a6, .slice bo m.log.length c]
  have hlow : Below w.heap.size w (w.alloc (.cells #[.int .i64 m.a0, .int .i64 m.a1, .int .i64 m.a2, .int .i64 m.a3, .int .i64 m.a4, .int .i64 m.a5, .int .i64 m.a6, .slice bo m.log.length c] 27)) := (Below.refl _ w).alloc (Nat.le_refl _) _
  have hK := Keep.of_below hlow h.base
  have hs := hs.keep hK
  have hB := h.base
  have HNO : Hid (m.a3 < r.view ∨ m.a3 % r.n ≠ m.a1) := hno
  clear hno
  go_enter Tryz.func59, Tryz.ntmps59
  go_wp2_with fail
  clear h
  have hmlt : w.heap.size < (w.alloc (.cells #[.int .i64 m.a0, .int .i64 m.a1, .int .i64 m.a2, .int .i64 m.a3, .int .i64 m.a4, .int .i64 m.a5, .int .i64 m.a6, .slice bo m.log.length c] 27)).heap.size := by simp
  have hmb : (w.alloc (.cells #[.int .i64 m.a0, .int .i64 m.a1, .int .i64 m.a2, .int .i64 m.a3, .int .i64 m.a4, .int .i64 m.a5, .int .i64 m.a6, .slice bo m.log.length c] 27)).heap[w.heap.size]? = some (.cells #[.int .i64 m.a0, .int .i64 m.a1, .int .i64 m.a2, .int .i64 m.a3, .int .i64 m.a4, .int .i64 m.a5, .int .i64 m.a6, .slice bo m.log.length c] 27 (0, 0)) := hT.box
  obtain ⟨MB, hMB⟩ : ∃ M : Nat × Obj, M = (w.heap.size, .cells #[.int .i64 m.a0, .int .i64 m.a1, .int .i64 m.a2, .int .i64 m.a3, .int .i64 m.a4, .int .i64 m.a5, .int .i64 m.a6, .slice bo m.log.length c] 27 (0, 0)) := ⟨_, rfl⟩
  have HMX : Hid (∀ (w3 : World) (r' : Rep) (o' : Msgs), TM MB B w3 g r' o' → w3.heap[w.heap.size]? = some (.cells #[.int .i64 m.a0, .int .i64 m.a1, .int .i64 m.a2, .int .i64 m.a3, .int .i64 m.a4, .int .i64 m.a5, .int .i64 m.a6, .slice bo m.log.length c] 27 (0, 0))) := fun w3 r' o' h3 => by
    have := h3.box
    rw [hMB] at this
    exact this
  rw [← hMB] at hT
  clear hMB
  generalize (w.alloc (.cells #[.int .i64 m.a0, .int .i64 m.a1, .int .i64 m.a2, .int .i64 m.a3, .int .i64 m.a4, .int .i64 m.a5, .int .i64 m.a6, .slice bo m.log.length c] 27)) = W at *
  obtain ⟨sk, xok, xck, ⟨k0, k1, k2, k3, k4, k5, k6, k7, k8, k9, k10, k11, k12, k13⟩, kz, _, kH, _⟩ := hT.turn.cells
  obtain ⟨c0, c1, c2, c3, c4, c5, c6, c7⟩ := msg_cells hmb
  have hf := followsA B g r o m bo c hv HNO.out hol W hT.turn hs
  clear HNO
  go_wp2_with (first
    | (go_at_call 77; refine hf.mono ?_; rintro e w1 ⟨rfl, hb1⟩; have hT1 := hT.below hb1))
  first
    | go_end0
    | refine bodyPost_ret (results_none rfl _ _ _) rfl ?_
  exact ⟨rfl, hT1.turn, hK.trans (Keep.of_below hb1 hT.base)⟩
set_option maxRecDepth 100000 in
set_option maxHeartbeats 1000000 in
theorem prepareC (B g : Nat) (r : Rep) (o : Msgs) (m : Msg) (bo : Option Addr) (c : Nat) (hv : 0 ≤ m.a3 ∧ m.a3 < 1099511627776) (hyes : ¬ (m.a3 < r.view ∨ m.a3 % r.n ≠ m.a1)) (hno : ¬ (m.a3 = r.view ∧ r.how = 0))  (hol : o.length ≤ 50) (w : World) (h : Turn B w g r o) (hs : SrcE B w bo c m.log) :
    Calls Tryz.prog 59 #[.pointer (some ⟨g, 0, none⟩), msV m bo c] w fun e w' => e = .returned (.tuple #[]) ∧ Turn B w' g (behindR r m.a3) (o ++ askM (behindR r m.a3) m.a1 r.commit) ∧ Keep B w w' := by
  have hT := tm_new h #[.int .i64 m.a0, .int .i64 m.a1, .int .i64 m.a2, .int .i64 m.a3, .int .i64 m.a4, .int .i64 m.a5, .int .i64 m.a6, .slice bo m.log.length c]
  have hlow : Below w.heap.size w (w.alloc (.cells #[.int .i64 m.a0, .int .i64 m.a1, .int .i64 m.a2, .int .i64 m.a3, .int .i64 m.a4, .int .i64 m.a5, .int .i64 m.a6, .slice bo m.log.length c] 27)) := (Below.refl _ w).alloc (Nat.le_refl _) _
  have hK := Keep.of_below hlow h.base
  have hs := hs.keep hK
  have hB := h.base
  have HNO : Hid (¬ (m.a3 < r.view ∨ m.a3 % r.n ≠ m.a1) ∧ ¬ (m.a3 = r.view ∧ r.how = 0)) := ⟨hyes, hno⟩
  clear hno hyes
  go_enter Tryz.func59, Tryz.ntmps59
  go_wp2_with fail
  clear h
  have hmlt : w.heap.size < (w.alloc (.cells #[.int .i64 m.a0, .int .i64 m.a1, .int .i64 m.a2, .int .i64 m.a3, .int .i64 m.a4, .int .i64 m.a5, .int .i64 m.a6, .slice bo m.log.length c] 27)).heap.size := by simp
  have hmb : (w.alloc (.cells #[.int .i64 m.a0, .int .i64 m.a1, .int .i64 m.a2, .int .i64 m.a3, .int .i64 m.a4, .int .i64 m.a5, .int .i64 m.a6, .slice bo m.log.length c] 27)).heap[w.heap.size]? = some (.cells #[.int .i64 m.a0, .int .i64 m.a1, .int .i64 m.a2, .int .i64 m.a3, .int .i64 m.a4, .int .i64 m.a5, .int .i64 m.a6, .slice bo m.log.length c] 27 (0, 0)) := hT.box
  obtain ⟨MB, hMB⟩ : ∃ M : Nat × Obj, M = (w.heap.size, .cells #[.int .i64 m.a0, .int .i64 m.a1, .int .i64 m.a2, .int .i64 m.a3, .int .i64 m.a4, .int .i64 m.a5, .int .i64 m.a6, .slice bo m.log.length c] 27 (0, 0)) := ⟨_, rfl⟩
  have HMX : Hid (∀ (w3 : World) (r' : Rep) (o' : Msgs), TM MB B w3 g r' o' → w3.heap[w.heap.size]? = some (.cells #[.int .i64 m.a0, .int .i64 m.a1, .int .i64 m.a2, .int .i64 m.a3, .int .i64 m.a4, .int .i64 m.a5, .int .i64 m.a6, .slice bo m.log.length c] 27 (0, 0))) := fun w3 r' o' h3 => by
    have := h3.box
    rw [hMB] at this
    exact this
  rw [← hMB] at hT
  clear hMB
  generalize (w.alloc (.cells #[.int .i64 m.a0, .int .i64 m.a1, .int .i64 m.a2, .int .i64 m.a3, .int .i64 m.a4, .int .i64 m.a5, .int .i64 m.a6, .slice bo m.log.length c] 27)) = W at *
  obtain ⟨sk, xok, xck, ⟨k0, k1, k2, k3, k4, k5, k6, k7, k8, k9, k10, k11, k12, k13⟩, kz, _, kH, _⟩ := hT.turn.cells
  obtain ⟨c0, c1, c2, c3, c4, c5, c6, c7⟩ := msg_cells hmb
  have hf := followsC B g r o m bo c hv HNO.out.1 HNO.out.2 hol W hT.turn hs
  clear HNO
  go_wp2_with (first
    | (go_at_call 77; refine hf.mono ?_; rintro e w1 ⟨rfl, hT1, hK1⟩))
  first
    | go_end0
    | refine bodyPost_ret (results_none rfl _ _ _) rfl ?_
  exact ⟨rfl, hT1, hK.trans hK1⟩
set_option maxRecDepth 100000 in
set_option maxHeartbeats 1000000 in
theorem prepareY (B g : Nat) (r : Rep) (m : Msg) (bo : Option Addr) (c : Nat) (hv : 0 ≤ m.a3 ∧ m.a3 < 1099511627776) (hyes : ¬ (m.a3 < r.view ∨ m.a3 % r.n ≠ m.a1)) (hy2 : m.a3 = r.view ∧ r.how = 0) (hp1 : m.log.length = 1) (hlm : LogOk m.log) (hlr : LogOk r.log) (he : m.a4 = (r.log.length : Int) + 1) (hfp : FitP r.log m.log)  (w : World) (h : Turn B w g r []) (hs : SrcE B w bo c m.log) :
    Calls Tryz.prog 59 #[.pointer (some ⟨g, 0, none⟩), msV m bo c] w fun e w' => e = .returned (.tuple #[]) ∧ Turn B w' g (raiseR { r with log := r.log ++ m.log } m.a5) (preM (raiseR { r with log := r.log ++ m.log } m.a5) m.a1) ∧ Below B w w' := by
  have hT := tm_new h #[.int .i64 m.a0, .int .i64 m.a1, .int .i64 m.a2, .int .i64 m.a3, .int .i64 m.a4, .int .i64 m.a5, .int .i64 m.a6, .slice bo m.log.length c]
  have hlow : Below w.heap.size w (w.alloc (.cells #[.int .i64 m.a0, .int .i64 m.a1, .int .i64 m.a2, .int .i64 m.a3, .int .i64 m.a4, .int .i64 m.a5, .int .i64 m.a6, .slice bo m.log.length c] 27)) := (Below.refl _ w).alloc (Nat.le_refl _) _
  have hK := Keep.of_below hlow h.base
  have hs := hs.keep hK
  have hB := h.base
  have HY : Hid (¬ (m.a3 < r.view ∨ m.a3 % r.n ≠ m.a1) ∧ (m.a3 = r.view ∧ r.how = 0)) := ⟨hyes, hy2⟩
  clear hyes hy2
  have HP : Hid (m.log.length = 1) := hp1
  have HLM : Hid (LogOk m.log) := hlm
  have hml := hlm.1
  clear hp1 hlm hlr
  have HE : Hid (m.a4 = (r.log.length : Int) + 1) := he
  have HF : Hid (FitP r.log m.log) := hfp
  clear he hfp
  go_enter Tryz.func59, Tryz.ntmps59
  go_wp2_with fail
  clear h
  have hmlt : w.heap.size < (w.alloc (.cells #[.int .i64 m.a0, .int .i64 m.a1, .int .i64 m.a2, .int .i64 m.a3, .int .i64 m.a4, .int .i64 m.a5, .int .i64 m.a6, .slice bo m.log.length c] 27)).heap.size := by simp
  have hmb : (w.alloc (.cells #[.int .i64 m.a0, .int .i64 m.a1, .int .i64 m.a2, .int .i64 m.a3, .int .i64 m.a4, .int .i64 m.a5, .int .i64 m.a6, .slice bo m.log.length c] 27)).heap[w.heap.size]? = some (.cells #[.int .i64 m.a0, .int .i64 m.a1, .int .i64 m.a2, .int .i64 m.a3, .int .i64 m.a4, .int .i64 m.a5, .int .i64 m.a6, .slice bo m.log.length c] 27 (0, 0)) := hT.box
  obtain ⟨MB, hMB⟩ : ∃ M : Nat × Obj, M = (w.heap.size, .cells #[.int .i64 m.a0, .int .i64 m.a1, .int .i64 m.a2, .int .i64 m.a3, .int .i64 m.a4, .int .i64 m.a5, .int .i64 m.a6, .slice bo m.log.length c] 27 (0, 0)) := ⟨_, rfl⟩
  have HMX : Hid (∀ (w3 : World) (r' : Rep) (o' : Msgs), TM MB B w3 g r' o' → w3.heap[w.heap.size]? = some (.cells #[.int .i64 m.a0, .int .i64 m.a1, .int .i64 m.a2, .int .i64 m.a3, .int .i64 m.a4, .int .i64 m.a5, .int .i64 m.a6, .slice bo m.log.length c] 27 (0, 0))) := fun w3 r' o' h3 => by
    have := h3.box
    rw [hMB] at this
    exact this
  rw [← hMB] at hT
  clear hMB
  generalize (w.alloc (.cells #[.int .i64 m.a0, .int .i64 m.a1, .int .i64 m.a2, .int .i64 m.a3, .int .i64 m.a4, .int .i64 m.a5, .int .i64 m.a6, .slice bo m.log.length c] 27)) = W at *
  obtain ⟨sk, xok, xck, ⟨k0, k1, k2, k3, k4, k5, k6, k7, k8, k9, k10, k11, k12, k13⟩, kz, _, kH, _⟩ := hT.turn.cells
  obtain ⟨c0, c1, c2, c3, c4, c5, c6, c7⟩ := msg_cells hmb
  have hf := followsD B g r [] m bo c hv HY.out.1 HY.out.2 (by simp) W hT.turn hs
  clear HY
  have hlen := hT.ll
  have i1 : IntKind.i64.wrap ((r.log.length : Int) + 1) = (r.log.length : Int) + 1 := by rw [IntKind.wrap_i64]; omega
  go_wp2_with (first
    | (go_at_call 77; refine hf.mono ?_; rintro e w1 ⟨rfl, hb1⟩
       have hT1 := hT.below hb1
       have hbp := HMX.out _ _ _ hT1
       obtain ⟨cp0, cp1, cp2, cp3, cp4, cp5, cp6, cp7⟩ := msg_cells hbp
       obtain ⟨sp, xop, xcp, ⟨kp0, kp1, kp2, kp3, kp4, kp5, kp6, kp7, kp8, kp9, kp10, kp11, kp12, kp13⟩, zp, _, Hp, _⟩ := hT1.turn.cells
       have hs1 := hs.keep (Keep.of_below hb1 hT.base)
       have hfit := fun n => fit_any r.log m.log hlen hml sp.lo bo sp.lc c (w1.drewN n) (own_liesE (own_below Hp.rows.log (below_drewN (Below.refl _ w1) n))) ((hs1.keep (keep_drewN n hT1.base)).lies (hT1.drewN n).base)
       clear hf))
  rw [tru_yes HF.out] at hfit
  have hq : (m.a4 == (r.log.length : Int) + 1) = true := by rw [HE.out]; simp
  go_quiet (first | (go_at_call 78; refine Calls.quiet_of (hfit _)))
  clear hq
  go_wp2_with fail
  have hl2 : r.log.length + m.log.length ≤ 1000 := by
    rcases HF.out with h | h | ⟨h, _⟩
    · rw [h]; simp; omega
    · rw [h]; simp; omega
    · exact h
  obtain ⟨lo2, lc2, v', w3, q5, hr, ⟨ao3, cap3, rfl⟩, d5, dz, hT3, hb3⟩ := tm_app ((hT1.drewN nq).drew) m.log (by omega) hl2 ((hs1.keep (keep_drewN nq hT1.base)).keep (Keep.refl _ _).drew)
  have e5 := q5.symm.trans kp5
  simp only [Option.some.injEq, Value.slice.injEq, true_and] at e5
  obtain ⟨rfl, rfl⟩ := e5
  obtain ⟨lg, hlg⟩ : ∃ lg, r.log ++ m.log = lg := ⟨_, rfl⟩
  have HL : Hid ((lg.length : Int) = (r.log.length : Int) + 1) := by
    rw [← hlg, List.length_append, HP.out]
    simp [Hid]
  rw [hlg] at hr hT3 hb3
  have HG : Hid (r.log ++ m.log = lg) := hlg
  clear hlg q5
  go_region_law (refine step_app_run rfl (.tmp 33) (.tmp 35) 22 rfl (.slice sp.lo r.log.length sp.lc) (.slice bo m.log.length c) (by simp [Act.eval]) (by simp [Act.eval]) hr ?_)
  all_goals
    clear hr d5 dz
    generalize w3.setCell ⟨g, 5, none⟩ (.slice ao3 lg.length cap3) = X at *
    have hbX := HMX.out _ _ _ hT3
    obtain ⟨x0, x1, x2, x3, x4, x5, x6, x7⟩ := msg_cells hbX
    have hr := raiseM_any MB B g _ [] m.a5 X hT3
    go_wp2_with (first
      | (go_at_call 79; refine hr.mono ?_; rintro e w5 ⟨rfl, hT5, hK5⟩
         have hbq := HMX.out _ _ _ hT5
         obtain ⟨y0, y1, y2, y3, y4, y5, y6, y7⟩ := msg_cells hbq
         obtain ⟨sq, xoq, xcq, ⟨_, _, _, _, _, kq5, _⟩, _⟩ := hT5.turn.cells
         have kq5' : w5.cell? ⟨g, 5, none⟩ = some (.slice sq.lo lg.length sq.lc) := kq5
         have hd : decide ((lg.length : Int) < m.a4) = false := decide_eq_false (by have := HL.out; have := HE.out; omega)
         clear kq5 hr))
    go_quiet (fail)
    have hpre := fun n => preM_any MB B g _ [] m.a1 (w5.drewN n) (hT5.drewN n) (by simp)
    go_wp2_with (first
      | (go_at_call 81; refine (hpre _).mono ?_; rintro e w6 ⟨rfl, hT6, hK6⟩))
    first
      | go_end0
      | refine bodyPost_ret (results_none rfl _ _ _) rfl ?_
    rw [HG.out]
    exact ⟨rfl, hT6.turn, ((((hK.trans (Keep.of_below hb1 hT.base)).trans (keep_drewN _ hT1.base)).drew.low.trans hb3).trans hK5.low).trans ((keep_drewN _ hT5.base).trans hK6).low⟩
set_option maxRecDepth 100000 in
set_option maxHeartbeats 1000000 in
theorem prepareN1 (B g : Nat) (r : Rep) (m : Msg) (bo : Option Addr) (c : Nat) (hv : 0 ≤ m.a3 ∧ m.a3 < 1099511627776) (hyes : ¬ (m.a3 < r.view ∨ m.a3 % r.n ≠ m.a1)) (hy2 : m.a3 = r.view ∧ r.how = 0) (hp1 : m.log.length = 1) (hlm : LogOk m.log) (hlr : LogOk r.log) (he : m.a4 = (r.log.length : Int) + 1) (hfp : ¬ FitP r.log m.log)  (w : World) (h : Turn B w g r []) (hs : SrcE B w bo c m.log) :
    Calls Tryz.prog 59 #[.pointer (some ⟨g, 0, none⟩), msV m bo c] w fun e w' => e = .returned (.tuple #[]) ∧ Turn B w' g (raiseR r m.a5) (askM (raiseR r m.a5) m.a1 (r.log.length : Int)) ∧ Keep B w w' := by
  have hT := tm_new h #[.int .i64 m.a0, .int .i64 m.a1, .int .i64 m.a2, .int .i64 m.a3, .int .i64 m.a4, .int .i64 m.a5, .int .i64 m.a6, .slice bo m.log.length c]
  have hlow : Below w.heap.size w (w.alloc (.cells #[.int .i64 m.a0, .int .i64 m.a1, .int .i64 m.a2, .int .i64 m.a3, .int .i64 m.a4, .int .i64 m.a5, .int .i64 m.a6, .slice bo m.log.length c] 27)) := (Below.refl _ w).alloc (Nat.le_refl _) _
  have hK := Keep.of_below hlow h.base
  have hs := hs.keep hK
  have hB := h.base
  have HY : Hid (¬ (m.a3 < r.view ∨ m.a3 % r.n ≠ m.a1) ∧ (m.a3 = r.view ∧ r.how = 0)) := ⟨hyes, hy2⟩
  clear hyes hy2
  have HP : Hid (m.log.length = 1) := hp1
  have HLM : Hid (LogOk m.log) := hlm
  have hml := hlm.1
  clear hp1 hlm hlr
  have HE : Hid (m.a4 = (r.log.length : Int) + 1) := he
  have HF : Hid (¬ FitP r.log m.log) := hfp
  have HGT : Hid ((r.log.length : Int) < m.a4) := by unfold Hid; omega
  clear he hfp
  go_enter Tryz.func59, Tryz.ntmps59
  go_wp2_with fail
  clear h
  have hmlt : w.heap.size < (w.alloc (.cells #[.int .i64 m.a0, .int .i64 m.a1, .int .i64 m.a2, .int .i64 m.a3, .int .i64 m.a4, .int .i64 m.a5, .int .i64 m.a6, .slice bo m.log.length c] 27)).heap.size := by simp
  have hmb : (w.alloc (.cells #[.int .i64 m.a0, .int .i64 m.a1, .int .i64 m.a2, .int .i64 m.a3, .int .i64 m.a4, .int .i64 m.a5, .int .i64 m.a6, .slice bo m.log.length c] 27)).heap[w.heap.size]? = some (.cells #[.int .i64 m.a0, .int .i64 m.a1, .int .i64 m.a2, .int .i64 m.a3, .int .i64 m.a4, .int .i64 m.a5, .int .i64 m.a6, .slice bo m.log.length c] 27 (0, 0)) := hT.box
  obtain ⟨MB, hMB⟩ : ∃ M : Nat × Obj, M = (w.heap.size, .cells #[.int .i64 m.a0, .int .i64 m.a1, .int .i64 m.a2, .int .i64 m.a3, .int .i64 m.a4, .int .i64 m.a5, .int .i64 m.a6, .slice bo m.log.length c] 27 (0, 0)) := ⟨_, rfl⟩
  have HMX : Hid (∀ (w3 : World) (r' : Rep) (o' : Msgs), TM MB B w3 g r' o' → w3.heap[w.heap.size]? = some (.cells #[.int .i64 m.a0, .int .i64 m.a1, .int .i64 m.a2, .int .i64 m.a3, .int .i64 m.a4, .int .i64 m.a5, .int .i64 m.a6, .slice bo m.log.length c] 27 (0, 0))) := fun w3 r' o' h3 => by
    have := h3.box
    rw [hMB] at this
    exact this
  rw [← hMB] at hT
  clear hMB
  generalize (w.alloc (.cells #[.int .i64 m.a0, .int .i64 m.a1, .int .i64 m.a2, .int .i64 m.a3, .int .i64 m.a4, .int .i64 m.a5, .int .i64 m.a6, .slice bo m.log.length c] 27)) = W at *
  obtain ⟨sk, xok, xck, ⟨k0, k1, k2, k3, k4, k5, k6, k7, k8, k9, k10, k11, k12, k13⟩, kz, _, kH, _⟩ := hT.turn.cells
  obtain ⟨c0, c1, c2, c3, c4, c5, c6, c7⟩ := msg_cells hmb
  have hf := followsD B g r [] m bo c hv HY.out.1 HY.out.2 (by simp) W hT.turn hs
  clear HY
  have hlen := hT.ll
  have i1 : IntKind.i64.wrap ((r.log.length : Int) + 1) = (r.log.length : Int) + 1 := by rw [IntKind.wrap_i64]; omega
  go_wp2_with (first
    | (go_at_call 77; refine hf.mono ?_; rintro e w1 ⟨rfl, hb1⟩
       have hT1 := hT.below hb1
       have hbp := HMX.out _ _ _ hT1
       obtain ⟨cp0, cp1, cp2, cp3, cp4, cp5, cp6, cp7⟩ := msg_cells hbp
       obtain ⟨sp, xop, xcp, ⟨kp0, kp1, kp2, kp3, kp4, kp5, kp6, kp7, kp8, kp9, kp10, kp11, kp12, kp13⟩, zp, _, Hp, _⟩ := hT1.turn.cells
       have hs1 := hs.keep (Keep.of_below hb1 hT.base)
       have hfit := fun n => fit_any r.log m.log hlen hml sp.lo bo sp.lc c (w1.drewN n) (own_liesE (own_below Hp.rows.log (below_drewN (Below.refl _ w1) n))) ((hs1.keep (keep_drewN n hT1.base)).lies (hT1.drewN n).base)
       clear hf))
  rw [tru_no HF.out] at hfit
  have hq : (m.a4 == (r.log.length : Int) + 1) = true := by rw [HE.out]; simp
  go_quiet (first | (go_at_call 78; refine Calls.quiet_of (hfit _)))
  clear hq
  have hr := fun n => raiseM_any MB B g r [] m.a5 (w1.drewN n) (hT1.drewN n)
  go_wp2_with (first
    | (go_at_call 79; refine (hr _).mono ?_; rintro e w5 ⟨rfl, hT5, hK5⟩
       have hbq := HMX.out _ _ _ hT5
       obtain ⟨y0, y1, y2, y3, y4, y5, y6, y7⟩ := msg_cells hbq
       obtain ⟨sq, xoq, xcq, ⟨_, _, _, _, _, kq5, _⟩, _⟩ := hT5.turn.cells
       have kq5' : w5.cell? ⟨g, 5, none⟩ = some (.slice sq.lo r.log.length sq.lc) := kq5
       have hd : decide ((r.log.length : Int) < m.a4) = true := decide_eq_true HGT.out
       clear kq5 hr))
  go_quiet (fail)
  go_wp2_with fail
  have hask := fun n => askM_any MB B g (raiseR r m.a5) [] m.a1 (r.log.length : Int) ((w5.drewN n).drew) (hT5.drewN n).drew (by simp)
  go_region_with (go_at_call 80; refine (hask _).mono ?_; rintro e w6 ⟨rfl, hT6, hK6⟩)
  all_goals
    go_wp2
    first
      | go_end0
      | refine bodyPost_ret (results_none rfl _ _ _) rfl ?_
    exact ⟨rfl, hT6.turn, ((((hK.trans (Keep.of_below hb1 hT.base)).trans (keep_drewN _ hT1.base)).trans hK5).trans (keep_drewN _ hT5.base)).trans ((Keep.refl _ _).drew.trans hK6)⟩
set_option maxRecDepth 100000 in
set_option maxHeartbeats 1000000 in
theorem prepareN2 (B g : Nat) (r : Rep) (m : Msg) (bo : Option Addr) (c : Nat) (hv : 0 ≤ m.a3 ∧ m.a3 < 1099511627776) (hyes : ¬ (m.a3 < r.view ∨ m.a3 % r.n ≠ m.a1)) (hy2 : m.a3 = r.view ∧ r.how = 0) (hp1 : m.log.length = 1) (hlm : LogOk m.log) (hlr : LogOk r.log) (he : ¬ m.a4 = (r.log.length : Int) + 1) (hgt : (r.log.length : Int) < m.a4)  (w : World) (h : Turn B w g r []) (hs : SrcE B w bo c m.log) :
    Calls Tryz.prog 59 #[.pointer (some ⟨g, 0, none⟩), msV m bo c] w fun e w' => e = .returned (.tuple #[]) ∧ Turn B w' g (raiseR r m.a5) (askM (raiseR r m.a5) m.a1 (r.log.length : Int)) ∧ Keep B w w' := by
  have hT := tm_new h #[.int .i64 m.a0, .int .i64 m.a1, .int .i64 m.a2, .int .i64 m.a3, .int .i64 m.a4, .int .i64 m.a5, .int .i64 m.a6, .slice bo m.log.length c]
  have hlow : Below w.heap.size w (w.alloc (.cells #[.int .i64 m.a0, .int .i64 m.a1, .int .i64 m.a2, .int .i64 m.a3, .int .i64 m.a4, .int .i64 m.a5, .int .i64 m.a6, .slice bo m.log.length c] 27)) := (Below.refl _ w).alloc (Nat.le_refl _) _
  have hK := Keep.of_below hlow h.base
  have hs := hs.keep hK
  have hB := h.base
  have HY : Hid (¬ (m.a3 < r.view ∨ m.a3 % r.n ≠ m.a1) ∧ (m.a3 = r.view ∧ r.how = 0)) := ⟨hyes, hy2⟩
  clear hyes hy2
  have HP : Hid (m.log.length = 1) := hp1
  have HLM : Hid (LogOk m.log) := hlm
  have hml := hlm.1
  clear hp1 hlm hlr
  have HE : Hid (¬ m.a4 = (r.log.length : Int) + 1) := he
  have HGT : Hid ((r.log.length : Int) < m.a4) := hgt
  clear he hgt
  go_enter Tryz.func59, Tryz.ntmps59
  go_wp2_with fail
  clear h
  have hmlt : w.heap.size < (w.alloc (.cells #[.int .i64 m.a0, .int .i64 m.a1, .int .i64 m.a2, .int .i64 m.a3, .int .i64 m.a4, .int .i64 m.a5, .int .i64 m.a6, .slice bo m.log.length c] 27)).heap.size := by simp
  have hmb : (w.alloc (.cells #[.int .i64 m.a0, .int .i64 m.a1, .int .i64 m.a2, .int .i64 m.a3, .int .i64 m.a4, .int .i64 m.a5, .int .i64 m.a6, .slice bo m.log.length c] 27)).heap[w.heap.size]? = some (.cells #[.int .i64 m.a0, .int .i64 m.a1, .int .i64 m.a2, .int .i64 m.a3, .int .i64 m.a4, .int .i64 m.a5, .int .i64 m.a6, .slice bo m.log.length c] 27 (0, 0)) := hT.box
  obtain ⟨MB, hMB⟩ : ∃ M : Nat × Obj, M = (w.heap.size, .cells #[.int .i64 m.a0, .int .i64 m.a1, .int .i64 m.a2, .int .i64 m.a3, .int .i64 m.a4, .int .i64 m.a5, .int .i64 m.a6, .slice bo m.log.length c] 27 (0, 0)) := ⟨_, rfl⟩
  have HMX : Hid (∀ (w3 : World) (r' : Rep) (o' : Msgs), TM MB B w3 g r' o' → w3.heap[w.heap.size]? = some (.cells #[.int .i64 m.a0, .int .i64 m.a1, .int .i64 m.a2, .int .i64 m.a3, .int .i64 m.a4, .int .i64 m.a5, .int .i64 m.a6, .slice bo m.log.length c] 27 (0, 0))) := fun w3 r' o' h3 => by
    have := h3.box
    rw [hMB] at this
    exact this
  rw [← hMB] at hT
  clear hMB
  generalize (w.alloc (.cells #[.int .i64 m.a0, .int .i64 m.a1, .int .i64 m.a2, .int .i64 m.a3, .int .i64 m.a4, .int .i64 m.a5, .int .i64 m.a6, .slice bo m.log.length c] 27)) = W at *
  obtain ⟨sk, xok, xck, ⟨k0, k1, k2, k3, k4, k5, k6, k7, k8, k9, k10, k11, k12, k13⟩, kz, _, kH, _⟩ := hT.turn.cells
  obtain ⟨c0, c1, c2, c3, c4, c5, c6, c7⟩ := msg_cells hmb
  have hf := followsD B g r [] m bo c hv HY.out.1 HY.out.2 (by simp) W hT.turn hs
  clear HY
  have hlen := hT.ll
  have i1 : IntKind.i64.wrap ((r.log.length : Int) + 1) = (r.log.length : Int) + 1 := by rw [IntKind.wrap_i64]; omega
  go_wp2_with (first
    | (go_at_call 77; refine hf.mono ?_; rintro e w1 ⟨rfl, hb1⟩
       have hT1 := hT.below hb1
       have hbp := HMX.out _ _ _ hT1
       obtain ⟨cp0, cp1, cp2, cp3, cp4, cp5, cp6, cp7⟩ := msg_cells hbp
       obtain ⟨sp, xop, xcp, ⟨kp0, kp1, kp2, kp3, kp4, kp5, kp6, kp7, kp8, kp9, kp10, kp11, kp12, kp13⟩, zp, _, Hp, _⟩ := hT1.turn.cells
       have hs1 := hs.keep (Keep.of_below hb1 hT.base)
       have hfit := fun n => fit_any r.log m.log hlen hml sp.lo bo sp.lc c (w1.drewN n) (own_liesE (own_below Hp.rows.log (below_drewN (Below.refl _ w1) n))) ((hs1.keep (keep_drewN n hT1.base)).lies (hT1.drewN n).base)
       clear hf))
  have hq : (m.a4 == (r.log.length : Int) + 1) = false := by simp [HE.out]
  go_quiet (first | (go_at_call 78; refine Calls.quiet_of (hfit _)))
  clear hq
  have hr := fun n => raiseM_any MB B g r [] m.a5 (w1.drewN n) (hT1.drewN n)
  go_wp2_with (first
    | (go_at_call 79; refine (hr _).mono ?_; rintro e w5 ⟨rfl, hT5, hK5⟩
       have hbq := HMX.out _ _ _ hT5
       obtain ⟨y0, y1, y2, y3, y4, y5, y6, y7⟩ := msg_cells hbq
       obtain ⟨sq, xoq, xcq, ⟨_, _, _, _, _, kq5, _⟩, _⟩ := hT5.turn.cells
       have kq5' : w5.cell? ⟨g, 5, none⟩ = some (.slice sq.lo r.log.length sq.lc) := kq5
       have hd : decide ((r.log.length : Int) < m.a4) = true := decide_eq_true HGT.out
       clear kq5 hr))
  go_quiet (fail)
  go_wp2_with fail
  have hask := fun n => askM_any MB B g (raiseR r m.a5) [] m.a1 (r.log.length : Int) ((w5.drewN n).drew) (hT5.drewN n).drew (by simp)
  go_region_with (go_at_call 80; refine (hask _).mono ?_; rintro e w6 ⟨rfl, hT6, hK6⟩)
  all_goals
    go_wp2
    first
      | go_end0
      | refine bodyPost_ret (results_none rfl _ _ _) rfl ?_
    exact ⟨rfl, hT6.turn, ((((hK.trans (Keep.of_below hb1 hT.base)).trans (keep_drewN _ hT1.base)).trans hK5).trans (keep_drewN _ hT5.base)).trans ((Keep.refl _ _).drew.trans hK6)⟩
set_option maxRecDepth 100000 in
set_option maxHeartbeats 1000000 in
theorem prepareN3 (B g : Nat) (r : Rep) (m : Msg) (bo : Option Addr) (c : Nat) (hv : 0 ≤ m.a3 ∧ m.a3 < 1099511627776) (hyes : ¬ (m.a3 < r.view ∨ m.a3 % r.n ≠ m.a1)) (hy2 : m.a3 = r.view ∧ r.how = 0) (hp1 : m.log.length = 1) (hlm : LogOk m.log) (hlr : LogOk r.log) (he : ¬ m.a4 = (r.log.length : Int) + 1) (hgt : ¬ (r.log.length : Int) < m.a4)  (w : World) (h : Turn B w g r []) (hs : SrcE B w bo c m.log) :
    Calls Tryz.prog 59 #[.pointer (some ⟨g, 0, none⟩), msV m bo c] w fun e w' => e = .returned (.tuple #[]) ∧ Turn B w' g (raiseR r m.a5) (preM (raiseR r m.a5) m.a1) ∧ Keep B w w' := by
  have hT := tm_new h #[.int .i64 m.a0, .int .i64 m.a1, .int .i64 m.a2, .int .i64 m.a3, .int .i64 m.a4, .int .i64 m.a5, .int .i64 m.a6, .slice bo m.log.length c]
  have hlow : Below w.heap.size w (w.alloc (.cells #[.int .i64 m.a0, .int .i64 m.a1, .int .i64 m.a2, .int .i64 m.a3, .int .i64 m.a4, .int .i64 m.a5, .int .i64 m.a6, .slice bo m.log.length c] 27)) := (Below.refl _ w).alloc (Nat.le_refl _) _
  have hK := Keep.of_below hlow h.base
  have hs := hs.keep hK
  have hB := h.base
  have HY : Hid (¬ (m.a3 < r.view ∨ m.a3 % r.n ≠ m.a1) ∧ (m.a3 = r.view ∧ r.how = 0)) := ⟨hyes, hy2⟩
  clear hyes hy2
  have HP : Hid (m.log.length = 1) := hp1
  have HLM : Hid (LogOk m.log) := hlm
  have hml := hlm.1
  clear hp1 hlm hlr
  have HE : Hid (¬ m.a4 = (r.log.length : Int) + 1) := he
  have HGT : Hid (¬ (r.log.length : Int) < m.a4) := hgt
  clear he hgt
  go_enter Tryz.func59, Tryz.ntmps59
  go_wp2_with fail
  clear h
  have hmlt : w.heap.size < (w.alloc (.cells #[.int .i64 m.a0, .int .i64 m.a1, .int .i64 m.a2, .int .i64 m.a3, .int .i64 m.a4, .int .i64 m.a5, .int .i64 m.a6, .slice bo m.log.length c] 27)).heap.size := by simp
  have hmb : (w.alloc (.cells #[.int .i64 m.a0, .int .i64 m.a1, .int .i64 m.a2, .int .i64 m.a3, .int .i64 m.a4, .int .i64 m.a5, .int .i64 m.a6, .slice bo m.log.length c] 27)).heap[w.heap.size]? = some (.cells #[.int .i64 m.a0, .int .i64 m.a1, .int .i64 m.a2, .int .i64 m.a3, .int .i64 m.a4, .int .i64 m.a5, .int .i64 m.a6, .slice bo m.log.length c] 27 (0, 0)) := hT.box
  obtain ⟨MB, hMB⟩ : ∃ M : Nat × Obj, M = (w.heap.size, .cells #[.int .i64 m.a0, .int .i64 m.a1, .int .i64 m.a2, .int .i64 m.a3, .int .i64 m.a4, .int .i64 m.a5, .int .i64 m.a6, .slice bo m.log.length c] 27 (0, 0)) := ⟨_, rfl⟩
  have HMX : Hid (∀ (w3 : World) (r' : Rep) (o' : Msgs), TM MB B w3 g r' o' → w3.heap[w.heap.size]? = some (.cells #[.int .i64 m.a0, .int .i64 m.a1, .int .i64 m.a2, .int .i64 m.a3, .int .i64 m.a4, .int .i64 m.a5, .int .i64 m.a6, .slice bo m.log.length c] 27 (0, 0))) := fun w3 r' o' h3 => by
    have := h3.box
    rw [hMB] at this
    exact this
  rw [← hMB] at hT
  clear hMB
  generalize (w.alloc (.cells #[.int .i64 m.a0, .int .i64 m.a1, .int .i64 m.a2, .int .i64 m.a3, .int .i64 m.a4, .int .i64 m.a5, .int .i64 m.a6, .slice bo m.log.length c] 27)) = W at *
  obtain ⟨sk, xok, xck, ⟨k0, k1, k2, k3, k4, k5, k6, k7, k8, k9, k10, k11, k12, k13⟩, kz, _, kH, _⟩ := hT.turn.cells
  obtain ⟨c0, c1, c2, c3, c4, c5, c6, c7⟩ := msg_cells hmb
  have hf := followsD B g r [] m bo c hv HY.out.1 HY.out.2 (by simp) W hT.turn hs
  clear HY
  have hlen := hT.ll
  have i1 : IntKind.i64.wrap ((r.log.length : Int) + 1) = (r.log.length : Int) + 1 := by rw [IntKind.wrap_i64]; omega
  go_wp2_with (first
    | (go_at_call 77; refine hf.mono ?_; rintro e w1 ⟨rfl, hb1⟩
       have hT1 := hT.below hb1
       have hbp := HMX.out _ _ _ hT1
       obtain ⟨cp0, cp1, cp2, cp3, cp4, cp5, cp6, cp7⟩ := msg_cells hbp
       obtain ⟨sp, xop, xcp, ⟨kp0, kp1, kp2, kp3, kp4, kp5, kp6, kp7, kp8, kp9, kp10, kp11, kp12, kp13⟩, zp, _, Hp, _⟩ := hT1.turn.cells
       have hs1 := hs.keep (Keep.of_below hb1 hT.base)
       have hfit := fun n => fit_any r.log m.log hlen hml sp.lo bo sp.lc c (w1.drewN n) (own_liesE (own_below Hp.rows.log (below_drewN (Below.refl _ w1) n))) ((hs1.keep (keep_drewN n hT1.base)).lies (hT1.drewN n).base)
       clear hf))
  have hq : (m.a4 == (r.log.length : Int) + 1) = false := by simp [HE.out]
  go_quiet (first | (go_at_call 78; refine Calls.quiet_of (hfit _)))
  clear hq
  have hr := fun n => raiseM_any MB B g r [] m.a5 (w1.drewN n) (hT1.drewN n)
  go_wp2_with (first
    | (go_at_call 79; refine (hr _).mono ?_; rintro e w5 ⟨rfl, hT5, hK5⟩
       have hbq := HMX.out _ _ _ hT5
       obtain ⟨y0, y1, y2, y3, y4, y5, y6, y7⟩ := msg_cells hbq
       obtain ⟨sq, xoq, xcq, ⟨_, _, _, _, _, kq5, _⟩, _⟩ := hT5.turn.cells
       have kq5' : w5.cell? ⟨g, 5, none⟩ = some (.slice sq.lo r.log.length sq.lc) := kq5
       have hd : decide ((r.log.length : Int) < m.a4) = false := decide_eq_false (by have := HGT.out; omega)
       clear kq5 hr))
  go_quiet (fail)
  have hpre := fun n => preM_any MB B g _ [] m.a1 (w5.drewN n) (hT5.drewN n) (by simp)
  go_wp2_with (first
    | (go_at_call 81; refine (hpre _).mono ?_; rintro e w6 ⟨rfl, hT6, hK6⟩))
  first
    | go_end0
    | refine bodyPost_ret (results_none rfl _ _ _) rfl ?_
  exact ⟨rfl, hT6.turn, (((hK.trans (Keep.of_below hb1 hT.base)).trans (keep_drewN _ hT1.base)).trans hK5).trans ((keep_drewN _ hT5.base).trans hK6)⟩
theorem prepare_any (B g : Nat) (r : Rep) (m : Msg) (bo : Option Addr) (c : Nat) (hv : 0 ≤ m.a3 ∧ m.a3 < 1099511627776) (hp1 : m.log.length = 1) (hlm : LogOk m.log) (hlr : LogOk r.log) (w : World) (h : Turn B w g r []) (hs : SrcE B w bo c m.log) :
    Calls Tryz.prog 59 #[.pointer (some ⟨g, 0, none⟩), msV m bo c] w fun e w' => e = .returned (.tuple #[]) ∧ Turn B w' g (prepareH r m).1 (prepareH r m).2 ∧ Below B w w' := by
  unfold prepareH
  by_cases h1 : m.a3 < r.view ∨ m.a3 % r.n ≠ m.a1
  · rw [if_pos h1]
    exact (prepareA B g r [] m bo c hv h1 (by simp) w h hs).mono fun e w' h => ⟨h.1, h.2.1, h.2.2.low⟩
  · rw [if_neg h1]
    by_cases h2 : m.a3 = r.view ∧ r.how = 0
    · rw [if_pos h2]
      by_cases h3 : m.a4 = (r.log.length : Int) + 1
      · by_cases h4 : FitP r.log m.log
        · have e1 : nextR r m = { r with log := r.log ++ m.log } := if_pos ((next_iff hp1 hlm).2 ⟨h3, h4⟩)
          have e2 : ¬ (((raiseR (nextR r m) m.a5).log.length : Int) < m.a4) := by
            rw [e1]
            show ¬ (((r.log ++ m.log).length : Int) < m.a4)
            rw [List.length_append, hp1]
            omega
          refine (prepareY B g r m bo c hv h1 h2 hp1 hlm hlr h3 h4 w h hs).mono ?_
          rintro e w' ⟨a, b, c⟩
          refine ⟨a, ?_, c⟩
          show Turn B w' g (raiseR (nextR r m) m.a5) (if ((raiseR (nextR r m) m.a5).log.length : Int) < m.a4 then askM (raiseR (nextR r m) m.a5) m.a1 ((raiseR (nextR r m) m.a5).log.length : Int) else preM (raiseR (nextR r m) m.a5) m.a1)
          rw [if_neg e2, e1]
          exact b
        · have e1 : nextR r m = r := if_neg (fun h => h4 ((next_iff hp1 hlm).1 h).2)
          refine (prepareN1 B g r m bo c hv h1 h2 hp1 hlm hlr h3 h4 w h hs).mono ?_
          rintro e w' ⟨a, b, c⟩
          refine ⟨a, ?_, c.low⟩
          show Turn B w' g (raiseR (nextR r m) m.a5) (if ((raiseR (nextR r m) m.a5).log.length : Int) < m.a4 then askM (raiseR (nextR r m) m.a5) m.a1 ((raiseR (nextR r m) m.a5).log.length : Int) else preM (raiseR (nextR r m) m.a5) m.a1)
          rw [e1, if_pos (show ((raiseR r m.a5).log.length : Int) < m.a4 by show (r.log.length : Int) < m.a4; omega)]
          exact b
      · have e1 : nextR r m = r := if_neg (fun h => h3 h.1)
        by_cases h4 : (r.log.length : Int) < m.a4
        · skip
          refine (prepareN2 B g r m bo c hv h1 h2 hp1 hlm hlr h3 h4 w h hs).mono ?_
          rintro e w' ⟨a, b, c⟩
          refine ⟨a, ?_, c.low⟩
          show Turn B w' g (raiseR (nextR r m) m.a5) (if ((raiseR (nextR r m) m.a5).log.length : Int) < m.a4 then askM (raiseR (nextR r m) m.a5) m.a1 ((raiseR (nextR r m) m.a5).log.length : Int) else preM (raiseR (nextR r m) m.a5) m.a1)
          rw [e1, if_pos (show ((raiseR r m.a5).log.length : Int) < m.a4 from h4)]
          exact b
        · skip
          refine (prepareN3 B g r m bo c hv h1 h2 hp1 hlm hlr h3 h4 w h hs).mono ?_
          rintro e w' ⟨a, b, c⟩
          refine ⟨a, ?_, c.low⟩
          show Turn B w' g (raiseR (nextR r m) m.a5) (if ((raiseR (nextR r m) m.a5).log.length : Int) < m.a4 then askM (raiseR (nextR r m) m.a5) m.a1 ((raiseR (nextR r m) m.a5).log.length : Int) else preM (raiseR (nextR r m) m.a5) m.a1)
          rw [e1, if_neg (show ¬ ((raiseR r m.a5).log.length : Int) < m.a4 from h4)]
          exact b
    · rw [if_neg h2]
      exact (prepareC B g r [] m bo c hv h1 h2 (by simp) w h hs).mono fun e w' h => ⟨h.1, h.2.1, h.2.2.low⟩
end Go.Proofs.YtajbdffepfjegaaGreat
