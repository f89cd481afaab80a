/-
  Plain: a replica that may be stays one, whatever it makes of what comes (11.7); its view never falls.
-/
import Derived.Test.YtajbdffepfjegaaGreatRpLa
namespace Go.Proofs.YtajbdffepfjegaaGreat
open Go.RowKit Num
open scoped Classical
set_option linter.unusedVariables false
set_option maxRecDepth 100000

theorem ids_no (n : Int) : IdsOk [] n := fun i x hx => by simp at hx
theorem log_nil : LogOk [] := ⟨Nat.zero_le _, fun i x hx => by simp at hx⟩
theorem ids_one {k n : Int} (h : 0 ≤ k ∧ k < n) : IdsOk [k] n := fun i x hx => by
  cases i with
  | zero =>
    simp at hx
    subst hx
    exact ⟨by show (-1 : Int) < _; omega, h.2⟩
  | succ i => simp at hx
theorem ack_fresh {n id : Int} (h : OneOf id n) (k : Int) (hk : 0 ≤ k) : AckOk (ackL n.toNat id.toNat k) n k := by
  have h0 := h.1
  have h1 := h.2
  refine ⟨by unfold ackL; rw [List.length_set, List.length_replicate]; omega, fun i x hx => ?_⟩
  unfold ackL at hx
  rw [List.getElem?_set] at hx
  split at hx
  · rw [List.length_replicate] at hx
    split at hx
    · simp at hx
      subst hx
      exact ⟨hk, Int.le_refl _⟩
    · cases hx
  · have hm := List.mem_of_getElem? hx
    have h2 := (List.mem_replicate.1 hm).2
    subst h2
    exact ⟨Int.le_refl _, hk⟩
theorem best_clear (r : Rep) : BestOk (clearR r) := ⟨log_nil, ⟨Int.le_refl _, by show (-1 : Int) < _; omega⟩, ⟨Int.le_refl _, by show (0 : Int) ≤ _; simp [clearR]⟩⟩
theorem may_clear {r : Rep} (h : May r) : May (clearR r) := ⟨h.one, h.views, h.log, h.com, h.ack, ids_no _, ids_no _, best_clear r⟩
theorem com_in (r : Rep) (hr : 0 ≤ r.commit) (log : List Ent) (c : Int) : 0 ≤ comR r log c ∧ comR r log c ≤ (log.length : Int) := by
  unfold comR
  split <;> omega
theorem may_normal {r : Rep} (h : May r) {log : List Ent} (hl : LogOk log) {v : Int} (hv : 0 ≤ v ∧ v < 1099511627776) (c : Int) : May (normalR r log v c) :=
  ⟨h.one, ⟨hv, ⟨hv.1, Int.le_refl _⟩, .inl rfl, fun _ => rfl⟩, hl, com_in r h.com.1 log c, ack_fresh h.one _ (by omega), ids_no _, ids_no _, best_clear { r with view := v, normal := v, how := 0, log := log, commit := comR r log c }⟩
theorem may_change {r : Rep} (h : May r) {v : Int} (hv : r.view ≤ v ∧ v < 1099511627776) : May (changeR r v) := by
  have h2 := h.views
  exact ⟨h.one, ⟨⟨by show 0 ≤ v; have := h2.1.1; omega, hv.2⟩, ⟨h2.2.1.1, Int.le_trans h2.2.1.2 hv.1⟩, .inr (.inl rfl), fun e => by cases e⟩, h.log, h.com, h.ack, ids_one h.one.2, ids_no _, best_clear r⟩
theorem may_behind {r : Rep} (h : May r) {v : Int} (hv : r.view ≤ v ∧ v < 1099511627776) : May (behindR r v) := by
  have h2 := h.views
  exact ⟨h.one, ⟨⟨by show 0 ≤ v; have := h2.1.1; omega, hv.2⟩, ⟨h2.2.1.1, Int.le_trans h2.2.1.2 hv.1⟩, .inr (.inr rfl), fun e => by cases e⟩, h.log, h.com, h.ack, ids_no _, ids_no _, best_clear { r with view := v, how := 2 }⟩
theorem may_raise {r : Rep} (h : May r) (c : Int) : May (raiseR r c) :=
  ⟨h.one, h.views, h.log, by have := h.com; show 0 ≤ min (max r.commit c) (r.log.length : Int) ∧ min (max r.commit c) (r.log.length : Int) ≤ (r.log.length : Int); omega, h.ack, h.votes, h.voters, h.best⟩
theorem may_log {r : Rep} (h : May r) {log : List Ent} (hl : LogOk log) (hle : r.log.length ≤ log.length) : May { r with log := log } := by
  have hc := h.com
  exact ⟨h.one, h.views, hl, ⟨hc.1, by show r.commit ≤ (log.length : Int); omega⟩, ⟨h.ack.1, fun i x hx => by have := h.ack.2 i x hx; show 0 ≤ x ∧ x ≤ (log.length : Int); omega⟩, h.votes, h.voters, h.best⟩
theorem may_next {r : Rep} (h : May r) {m : Msg} (hm : LogOk m.log) (h1 : m.log.length = 1) : May (nextR r m) := by
  unfold nextR
  by_cases hc : m.a4 = (r.log.length : Int) + 1 ∧ lastT r.log < lastT m.log ∧ r.log.length < 1000
  · rw [if_pos hc]
    refine may_log h ?_ (by rw [List.length_append]; omega)
    refine (logOk_append h.log hm).2 (.inr (.inr ⟨by omega, ?_⟩))
    match hml : m.log, h1 with
    | [y], _ =>
      refine ⟨y, rfl, ?_⟩
      have : lastT m.log = y.time := by rw [hml]; rfl
      omega
  · rw [if_neg hc]
    exact h
theorem may_best {r : Rep} (h : May r) {frm was com : Int} {log : List Ent} (hf : 0 ≤ frm ∧ frm < r.n) (hn : frm ∉ r.voters) (hw : 0 ≤ was ∧ was < 1099511627776) (hc : 0 ≤ com) (hl : LogOk log) : May (bestR r frm was com log) := by
  unfold bestR
  have hb := h.best
  refine ⟨?_, ?_, ?_, ?_, ?_, ?_, ?_, ?_⟩
  all_goals dsimp only
  all_goals split
  · exact h.one
  · exact h.one
  · exact h.views
  · exact h.views
  · exact h.log
  · exact h.log
  · exact h.com
  · exact h.com
  · exact h.ack
  · exact h.ack
  · exact h.votes
  · exact h.votes
  · exact addI_ids h.voters hn hf
  · exact addI_ids h.voters hn hf
  · refine ⟨hl, ⟨by show -1 ≤ was; omega, hw.2⟩, ?_⟩
    have := hb.2.2
    show 0 ≤ min (max r.bestDone com) (log.length : Int) ∧ min (max r.bestDone com) (log.length : Int) ≤ (log.length : Int)
    omega
  · refine ⟨hb.1, hb.2.1, ?_⟩
    have := hb.2.2
    show 0 ≤ min (max r.bestDone com) (r.best.length : Int) ∧ min (max r.bestDone com) (r.best.length : Int) ≤ (r.best.length : Int)
    omega
theorem best_same (r : Rep) (frm was com : Int) (log : List Ent) : (bestR r frm was com log).view = r.view ∧ (bestR r frm was com log).n = r.n ∧ (bestR r frm was com log).id = r.id ∧ (bestR r frm was com log).commit = r.commit ∧ (bestR r frm was com log).log = r.log ∧ (bestR r frm was com log).normal = r.normal ∧ (bestR r frm was com log).how = r.how := by
  unfold bestR
  dsimp only
  split <;> exact ⟨rfl, rfl, rfl, rfl, rfl, rfl, rfl⟩
theorem may_states {r : Rep} (h : May r) {frm was com : Int} {log : List Ent} (hf : 0 ≤ frm ∧ frm < r.n) (hw : 0 ≤ was ∧ was < 1099511627776) (hc : 0 ≤ com) (hl : LogOk log) : May (statesR r frm was com log).1 ∧ (statesR r frm was com log).1.view = r.view := by
  unfold statesR
  by_cases h1 : frm ∈ r.voters
  · rw [if_pos h1]
    exact ⟨h, rfl⟩
  · rw [if_neg h1]
    have hb := may_best h hf h1 hw hc hl
    split
    · exact ⟨may_normal hb hb.best.1 h.views.1 _, rfl⟩
    · exact ⟨hb, (best_same r frm was com log).1⟩
theorem may_up {r : Rep} (h : May r) {v : Int} (hv : 0 ≤ v ∧ v < 1099511627776) : May (upR r v).1 ∧ r.view ≤ (upR r v).1.view ∧ (upR r v).1.n = r.n ∧ (upR r v).1.id = r.id := by
  unfold upR
  split
  · exact ⟨may_change h (by omega), by show r.view ≤ v; omega, rfl, rfl⟩
  · exact ⟨h, Int.le_refl _, rfl, rfl⟩
theorem may_votes {r : Rep} (h : May r) {frm : Int} (hf : 0 ≤ frm ∧ frm < r.n) (hn : frm ∉ r.votes) : May { r with votes := addI r.votes frm } := ⟨h.one, h.views, h.log, h.com, h.ack, addI_ids h.votes hn hf, h.voters, h.best⟩
theorem may_vote {r : Rep} (h : May r) {frm : Int} (hf : 0 ≤ frm ∧ frm < r.n) (hn : frm ∉ r.votes) : May (voteR r frm).1 ∧ (voteR r frm).1.view = r.view := by
  have hv := may_votes h hf hn
  unfold voteR
  split
  · split
    · exact may_states hv h.one.2 ⟨h.views.2.1.1, by have := h.views.2.1.2; have := h.views.1.2; omega⟩ h.com.1 h.log
    · exact ⟨hv, rfl⟩
  · exact ⟨hv, rfl⟩
theorem may_reached {r : Rep} (h : May r) {b : Int} (hb : b ≤ (r.log.length : Int)) : May (reachedR r b).1 := by
  unfold reachedR
  split
  · have := h.com
    exact ⟨h.one, h.views, h.log, ⟨by show 0 ≤ b; omega, hb⟩, h.ack, h.votes, h.voters, h.best⟩
  · exact h
theorem bestC_in (l : List Int) (n c : Int) : ∀ k : Nat, c ≤ bestC l n c k ∧ bestC l n c k ≤ c + k := by
  intro k
  induction k with
  | zero => exact ⟨Int.le_refl _, by show c ≤ c + 0; omega⟩
  | succ k ih =>
    show c ≤ (if mostN n ≤ (reachN l (c + (k + 1 : Nat)) : Int) then c + (k + 1 : Nat) else bestC l n c k) ∧ (if mostN n ≤ (reachN l (c + (k + 1 : Nat)) : Int) then c + (k + 1 : Nat) else bestC l n c k) ≤ c + (k + 1 : Nat)
    split <;> omega
theorem may_acked {r : Rep} (h : May r) (m : Msg) (hm : 0 ≤ m.a4) (a : Int) (ha : 0 ≤ a) : May (ackedR r m a) := by
  refine ⟨h.one, h.views, h.log, h.com, ⟨by show ((r.acked.set _ _).length : Int) = r.n; rw [List.length_set]; exact h.ack.1, fun i x hx => ?_⟩, h.votes, h.voters, h.best⟩
  have hx : (r.acked.set m.a1.toNat (min (max a m.a4) (r.log.length : Int)))[i]? = some x := hx
  rw [List.getElem?_set] at hx
  split at hx
  · split at hx
    · simp at hx
      subst hx
      show 0 ≤ min (max a m.a4) (r.log.length : Int) ∧ min (max a m.a4) (r.log.length : Int) ≤ (r.log.length : Int)
      omega
    · cases hx
  · exact h.ack.2 i x hx
/-- Whatever it takes, it may be, and its view does not fall. -/
theorem may_takeH {r : Rep} {m : Msg} (h : May r) (hm : MsgOk r m) (hk : 1 ≤ m.a0 ∧ m.a0 ≤ 8) : May (takeH r m).1 ∧ r.view ≤ (takeH r m).1.view := by
  obtain ⟨⟨hv, hi, hc, hw⟩, hone, hoth, hto, hlog, hpre⟩ := hm
  have hf : 0 ≤ m.a1 ∧ m.a1 < r.n := hone.2
  have hv' : 0 ≤ m.a3 ∧ m.a3 < 1099511627776 := ⟨hv.1, by have := hv.2; omega⟩
  have hi' : 0 ≤ m.a4 ∧ m.a4 < 1099511627776 := ⟨hi.1, by have := hi.2; omega⟩
  have hc' : 0 ≤ m.a5 ∧ m.a5 < 1099511627776 := ⟨hc.1, by have := hc.2; omega⟩
  have hw' : 0 ≤ m.a6 ∧ m.a6 < 1099511627776 := ⟨hw.1, by have := hw.2; omega⟩
  unfold takeH
  split
  · rename_i hk1
    have h1 : m.log.length = 1 := hpre.resolve_left (fun e => e hk1)
    unfold prepareH
    split
    · exact ⟨h, Int.le_refl _⟩
    · rename_i hq
      split
      · dsimp only
        refine ⟨may_raise (may_next h hlog h1) _, ?_⟩
        show r.view ≤ (nextR r m).view
        unfold nextR
        split <;> exact Int.le_refl _
      · exact ⟨may_behind h (by omega), by show r.view ≤ m.a3; omega⟩
  split
  · unfold preparedH
    split
    · have ha : 0 ≤ atI r.acked m.a1 := by
        unfold atI
        split
        · rename_i x hx
          exact (h.ack.2 _ x hx).1
        · exact Int.le_refl _
      have hq := may_acked h m hi'.1 _ ha
      dsimp only
      have hb := bestC_in (ackedR r m (atI r.acked m.a1)).acked (ackedR r m (atI r.acked m.a1)).n (ackedR r m (atI r.acked m.a1)).commit ((ackedR r m (atI r.acked m.a1)).log.length - (ackedR r m (atI r.acked m.a1)).commit.toNat)
      have hcm := hq.com
      refine ⟨may_reached hq (by omega), ?_⟩
      unfold reachedR
      split <;> exact Int.le_refl _
    · exact ⟨h, Int.le_refl _⟩
  split
  · unfold commitH
    split
    · exact ⟨h, Int.le_refl _⟩
    · rename_i hq
      split
      · exact ⟨may_raise h _, Int.le_refl _⟩
      · exact ⟨may_behind h (by omega), by show r.view ≤ m.a3; omega⟩
  split
  · unfold changeH
    obtain ⟨u1, u2, u3, u4⟩ := may_up h hv'
    split
    · exact ⟨h, Int.le_refl _⟩
    · split
      · rename_i hq
        obtain ⟨v1, v2⟩ := may_vote u1 (by rw [u3]; exact hf) hq.2
        exact ⟨v1, by show r.view ≤ (voteR (upR r m.a3).1 m.a1).1.view; rw [v2]; exact u2⟩
      · exact ⟨u1, u2⟩
  split
  · unfold stateH
    obtain ⟨u1, u2, u3, u4⟩ := may_up h hv'
    split
    · exact ⟨h, Int.le_refl _⟩
    · split
      · obtain ⟨v1, v2⟩ := may_states u1 (frm := m.a1) (was := m.a6) (com := m.a5) (log := m.log) (by rw [u3]; exact hf) hw' hc'.1 hlog
        exact ⟨v1, by show r.view ≤ (statesR (upR r m.a3).1 m.a1 m.a6 m.a5 m.log).1.view; rw [v2]; exact u2⟩
      · exact ⟨u1, u2⟩
  split
  · unfold viewH
    split
    · exact ⟨h, Int.le_refl _⟩
    · exact ⟨may_normal h hlog hv' _, by show r.view ≤ m.a3; omega⟩
  split
  · unfold askH
    split <;> exact ⟨h, Int.le_refl _⟩
  · unfold logH
    split
    · split
      · split
        · rename_i hL
          exact ⟨may_normal h hL h.views.1 _, Int.le_refl _⟩
        · exact ⟨h, Int.le_refl _⟩
      · split
        · split
          · rename_i hL
            exact ⟨may_raise (may_log h hL (by rw [List.length_append]; omega)) _, Int.le_refl _⟩
          · exact ⟨h, Int.le_refl _⟩
        · exact ⟨h, Int.le_refl _⟩
    · exact ⟨h, Int.le_refl _⟩
end Go.Proofs.YtajbdffepfjegaaGreat
