/-
  Contracts of a replica at work: it tells its state.
-/
import Derived.Test.YtajbdffepfjegaaGreatRpKo
import Derived.Test.YtajbdffepfjegaaGreatRpG10
import Derived.Deep.CutRange
namespace Go.Proofs.YtajbdffepfjegaaGreat
open Go.RowKit Num
open scoped Classical
set_option linter.unusedVariables false
set_option maxRecDepth 100000

set_option maxRecDepth 100000 in
set_option maxHeartbeats 3000000 in
theorem tellA (B g : Nat) (r : Rep) (o : Msgs) (hv : 0 ≤ r.view ∧ r.view < 1099511627776) (hne : ¬ r.view % r.n = r.id) (hol : o.length ≤ 40) (w : World) (h : Turn B w g r o) :
    Calls Tryz.prog 87 #[.pointer (some ⟨g, 0, none⟩)] w fun e w' => e = .returned (.tuple #[]) ∧ Turn B w' g r (o ++ oneM r (msg 5 0 r.commit r.normal r.log) (r.view % r.n)) ∧ Keep B w w' := by
  obtain ⟨s, xo, xc, ⟨k0, k1, k2, k3, k4, k5, k6, k7, k8, k9, k10, k11, k12, k13⟩, z, _, hH, _⟩ := h.cells
  have hb : Below w.heap.size w (w.alloc (.cells #[.int .i64 5, .int .i64 0, .int .i64 0, .int .i64 0, .int .i64 0, .int .i64 r.commit, .int .i64 r.normal, .slice s.lo r.log.length s.lc] 27)).drew := ((Below.refl _ w).alloc (Nat.le_refl _) _).drew
  have h1 := h.below hb
  have hp := primaryT_any B g r o r.view _ h1 hv
  have hsend := sendT_any B g r o (msg 5 0 r.commit r.normal r.log) s.lo s.lc (r.view % r.n) _ h1 (.inr (hH.below hb).rows.log) h.ll (by omega)
  have hKb := Keep.of_below hb h.base
  have hn3 : (r.view % r.n != r.id) = true := by simp [hne]
  have hn4 : decide (r.view % r.n = r.id) = false := decide_eq_false hne
  obtain ⟨s1, xo1, xc1, ⟨j0, _, j2, _⟩, _⟩ := h1.cells
  have hbx := heap_drew (heap_new w (.cells #[.int .i64 5, .int .i64 0, .int .i64 0, .int .i64 0, .int .i64 0, .int .i64 r.commit, .int .i64 r.normal, .slice s.lo r.log.length s.lc] 27))
  have k3z := fun ob : Obj => alloc_cell ob k3
  have k5z := fun ob : Obj => alloc_cell ob k5
  have k6z := fun ob : Obj => alloc_cell ob k6
  clear h
  go_enter Tryz.func87, Tryz.ntmps87
  go_wp2_with fail
  go_cut [2] from 4 to 19 (fun p wx => p = .pointer (some ⟨w.heap.size, 0, none⟩) ∧ wx = (w.alloc (.cells #[.int .i64 5, .int .i64 0, .int .i64 0, .int .i64 0, .int .i64 0, .int .i64 r.commit, .int .i64 r.normal, .slice s.lo r.log.length s.lc] 27)).drew)
  case first =>
    go_region
    all_goals
      go_wp2_with fail
      go_meet
      case rel => exact ⟨rfl, rfl⟩
  case rest =>
    obtain ⟨rfl, rfl⟩ := hcut
    generalize (w.alloc (.cells #[.int .i64 5, .int .i64 0, .int .i64 0, .int .i64 0, .int .i64 0, .int .i64 r.commit, .int .i64 r.normal, .slice s.lo r.log.length s.lc] 27)).drew = X at *
    obtain ⟨c0, c1, c2, c3, c4, c5, c6, c7⟩ := msg_cells (m := (msg 5 0 r.commit r.normal r.log)) (bo := s.lo) (c := s.lc) hbx
    go_wp2_with (first
      | (go_at_call 75; refine hp.mono ?_; rintro e wn ⟨rfl, hq⟩; have hq' := hq.symm; clear hq; subst hq')
      | (go_at_call 76; refine hsend.mono ?_; rintro e w3 ⟨rfl, hT3, hK3⟩))
    first
      | go_end0
      | refine bodyPost_ret (results_none rfl _ _ _) rfl ?_
    exact ⟨rfl, hT3, hKb.trans hK3⟩
/-- The message's box is written. -/
theorem turn_msg {M : Nat × Obj} {B : Nat} {w : World} {g : Nat} {r : Rep} {o : Msgs} (h : TM M B w g r o) (hB : B ≤ M.1) (i : Nat) (u : Value) :
    (∀ cs : Array Value, w.heap[M.1]? = some (.cells cs 27 (0, 0)) → TM (M.1, .cells (cs.setIfInBounds i u) 27 (0, 0)) B (w.setCell ⟨M.1, i, none⟩ u) g r o) ∧ Keep B w (w.setCell ⟨M.1, i, none⟩ u) := by
  obtain ⟨⟨vl, va, vv, vw, vb, x, hH, ho, hx⟩, hM, hne, ⟨cs0, fr0, hty⟩, hB0, h1, hl, hb, ha⟩ := h
  rw [hty] at hM
  have hst := ms_stay (i := i) hM u
  have hlow : Below B w (w.setCell ⟨M.1, i, none⟩ u) := (Below.refl B w).setCell (p := ⟨M.1, i, none⟩) hB _
  refine ⟨fun cs hcs => ⟨⟨vl, va, vv, vw, vb, x, hH.stay hst (by decide) (by decide) (by decide), ownO_off ho hM hx u, hx⟩, (heap_setCell_same w M.1 i _ _ _ hcs).trans (by simp), hne, ⟨_, _, rfl⟩, Nat.le_trans hB0 hlow.size, h1, hl, hb, ha⟩, Keep.of_stay hlow hst (by decide)⟩
def Num.tellR (r : Rep) : Rep × Msgs := if r.view % r.n = r.id then statesR r r.id r.normal r.commit r.log else (r, oneM r (msg 5 0 r.commit r.normal r.log) (r.view % r.n))
theorem tell_eq {r : Rep} (hh : r.how = 1) (he : r.view % r.n = r.id) : stateH r ⟨5, r.id, 0, r.view, 0, r.commit, r.normal, r.log⟩ = statesR r r.id r.normal r.commit r.log := by
  unfold stateH
  have eu : upR r r.view = (r, []) := if_neg (Int.lt_irrefl _)
  rw [if_neg (fun h => Or.elim h (Int.lt_irrefl _) (fun h => h he))]
  show (if (upR r r.view).1.how = 1 then ((statesR (upR r r.view).1 r.id r.normal r.commit r.log).1, (upR r r.view).2 ++ (statesR (upR r r.view).1 r.id r.normal r.commit r.log).2) else upR r r.view) = _
  rw [eu, if_pos hh]
  rfl
set_option maxRecDepth 100000 in
set_option maxHeartbeats 3000000 in
theorem tellB (B g : Nat) (r : Rep) (o : Msgs) (hv : 0 ≤ r.view ∧ r.view < 1099511627776) (heq : r.view % r.n = r.id) (hh : r.how = 1) (hids : IdsOk r.voters r.n) (hvl : r.voters.length ≤ 900) (hol : o.length ≤ 40) (w : World) (h : Turn B w g r o) :
    Calls Tryz.prog 87 #[.pointer (some ⟨g, 0, none⟩)] w fun e w' => e = .returned (.tuple #[]) ∧ Turn B w' g (statesR r r.id r.normal r.commit r.log).1 (o ++ (statesR r r.id r.normal r.commit r.log).2) ∧ Keep B w w' := by
  have hBw := h.base
  have hll := h.ll
  obtain ⟨s, xo, xc, ⟨k0, k1, k2, k3, k4, k5, k6, k7, k8, k9, k10, k11, k12, k13⟩, z, _, hH, _⟩ := h.cells
  have hb : Below w.heap.size w (w.alloc (.cells #[.int .i64 5, .int .i64 0, .int .i64 0, .int .i64 0, .int .i64 0, .int .i64 r.commit, .int .i64 r.normal, .slice s.lo r.log.length s.lc] 27)).drew := ((Below.refl _ w).alloc (Nat.le_refl _) _).drew
  have hTM := (tm_new h #[.int .i64 5, .int .i64 0, .int .i64 0, .int .i64 0, .int .i64 0, .int .i64 r.commit, .int .i64 r.normal, .slice s.lo r.log.length s.lc]).drew
  have h1 := h.below hb
  have hp := primaryT_any B g r o r.view _ h1 hv
  rw [heq] at hp
  have hKb := Keep.of_below hb h.base
  obtain ⟨s1, xo1, xc1, ⟨j0, _, j2, _⟩, _⟩ := h1.cells
  have hbx := heap_drew (heap_new w (.cells #[.int .i64 5, .int .i64 0, .int .i64 0, .int .i64 0, .int .i64 0, .int .i64 r.commit, .int .i64 r.normal, .slice s.lo r.log.length s.lc] 27))
  have hH2 := hH.below hb
  have k3z := fun ob : Obj => alloc_cell ob k3
  have k5z := fun ob : Obj => alloc_cell ob k5
  have k6z := fun ob : Obj => alloc_cell ob k6
  have HH : Hid (r.how = 1 ∧ r.view % r.n = r.id ∧ IdsOk r.voters r.n) := ⟨hh, heq, hids⟩
  clear h hh heq hids
  go_enter Tryz.func87, Tryz.ntmps87
  go_wp2_with fail
  go_cut [2] from 4 to 19 (fun p wx => p = .pointer (some ⟨w.heap.size, 0, none⟩) ∧ wx = (w.alloc (.cells #[.int .i64 5, .int .i64 0, .int .i64 0, .int .i64 0, .int .i64 0, .int .i64 r.commit, .int .i64 r.normal, .slice s.lo r.log.length s.lc] 27)).drew)
  case first =>
    go_region
    all_goals
      go_wp2_with fail
      go_meet
      case rel => exact ⟨rfl, rfl⟩
  case rest =>
    obtain ⟨rfl, rfl⟩ := hcut
    clear k3z k5z k6z k0 k1 k2 k3 k4 k5 k6 k7 k8 k9 k10 k11 k12 k13 z
    generalize (w.alloc (.cells #[.int .i64 5, .int .i64 0, .int .i64 0, .int .i64 0, .int .i64 0, .int .i64 r.commit, .int .i64 r.normal, .slice s.lo r.log.length s.lc] 27)).drew = X at *
    obtain ⟨c0, c1, c2, c3, c4, c5, c6, c7⟩ := msg_cells (m := (msg 5 0 r.commit r.normal r.log)) (bo := s.lo) (c := s.lc) hbx
    have hT1 := (turn_msg hTM hBw 1 (.int .i64 r.id)).1 _ hbx
    have hK1 := (turn_msg hTM hBw 1 (.int .i64 r.id)).2
    have hb1 := hT1.box
    have hT2 := (turn_msg hT1 hBw 3 (.int .i64 r.view)).1 _ hb1
    have hK2 := (turn_msg hT1 hBw 3 (.int .i64 r.view)).2
    have hb2 : ((X.setCell ⟨w.heap.size, 1, none⟩ (.int .i64 r.id)).setCell ⟨w.heap.size, 3, none⟩ (.int .i64 r.view)).heap[w.heap.size]? = some (.cells #[.int .i64 5, .int .i64 r.id, .int .i64 0, .int .i64 r.view, .int .i64 0, .int .i64 r.commit, .int .i64 r.normal, .slice s.lo r.log.length s.lc] 27 (0, 0)) := hT2.box
    have hrow : ((X.setCell ⟨w.heap.size, 1, none⟩ (.int .i64 r.id)).setCell ⟨w.heap.size, 3, none⟩ (.int .i64 r.view)).ownsRow B 48 2 (.slice s.lo r.log.length s.lc) r.log.length (enCells r.log) := own_stay (own_stay hH2.rows.log (ms_stay (i := 1) hbx _) (by decide) (fun _ h => h)) (ms_stay (i := 3) hb1 _) (by decide) (fun _ h => h)
    have hT2t := hT2.turn
    have hK12 := hK1.trans hK2
    have zz := box_open hbx
    clear hT1 hK1 hK2 hb1 hTM hH2 hT2
    go_wp2_with (first
      | (go_at_call 75; refine hp.mono ?_; rintro e wn ⟨rfl, hq⟩; have hq' := hq.symm; clear hq; subst hq'))
    go_region
    have hst := state_any B g r o ⟨5, r.id, 0, r.view, 0, r.commit, r.normal, r.log⟩ s.lo s.lc hv HH.out.2.2 hvl hll hol _ hT2t.drew (.inr (own_below hrow (Below.refl _ _).drew))
    rw [tell_eq HH.out.1 HH.out.2.1] at hst
    clear HH
    go_wp2_with (first
      | (go_at_call 63; refine hst.mono ?_; rintro e w3 ⟨rfl, hT3, hK3⟩))
    first
      | go_end0
      | refine bodyPost_ret (results_none rfl _ _ _) rfl ?_
    exact ⟨rfl, hT3, (hKb.trans hK12).trans ((Keep.refl _ _).drew.trans hK3)⟩
theorem tell_any (B g : Nat) (r : Rep) (o : Msgs) (hv : 0 ≤ r.view ∧ r.view < 1099511627776) (hh : r.how = 1) (hids : IdsOk r.voters r.n) (hvl : r.voters.length ≤ 900) (hol : o.length ≤ 40) (w : World) (h : Turn B w g r o) :
    Calls Tryz.prog 87 #[.pointer (some ⟨g, 0, none⟩)] w fun e w' => e = .returned (.tuple #[]) ∧ Turn B w' g (tellR r).1 (o ++ (tellR r).2) ∧ Keep B w w' := by
  unfold tellR
  by_cases h1 : r.view % r.n = r.id
  · rw [if_pos h1]
    exact tellB B g r o hv h1 hh hids hvl hol w h
  · rw [if_neg h1]
    exact tellA B g r o hv h1 hol w h
end Go.Proofs.YtajbdffepfjegaaGreat
