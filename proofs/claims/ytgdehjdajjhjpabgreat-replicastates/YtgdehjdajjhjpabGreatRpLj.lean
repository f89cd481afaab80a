/-
  What a replica is and sends behind a message is small: votes and states.
-/
import Derived.Test.YtgdehjdajjhjpabGreatRpG5
import Derived.Test.YtgdehjdajjhjpabGreatRpSl
namespace Go.Proofs.YtgdehjdajjhjpabGreat
open Go.RowKit Num
open scoped Classical
set_option linter.unusedVariables false
set_option maxRecDepth 100000
theorem sz_change {n : Nat} (hn : 1 ≤ n) {r : Rep} (h : Sz n r) (v : Int) : Sz n (changeR r v) := ⟨h.log, Nat.zero_le _, h.ack, hn, Nat.zero_le _⟩
theorem sz_best {n : Nat} {r : Rep} (h : Sz n r) (frm was com : Int) {log : List Ent} (hl : log.length ≤ n) : Sz (n + 1) (bestR r frm was com log) := by
  have h2 := h.mono (Nat.le_succ n)
  by_cases hc : BestC r was log
  · rw [bestR_yes hc]
    exact ⟨h2.log, Nat.le_succ_of_le hl, h2.ack, h2.vot, by show (addI r.voters frm).length ≤ n + 1; rw [addI_len]; have := h.vor; omega⟩
  · rw [bestR_no hc]
    exact ⟨h2.log, h2.best, h2.ack, h2.vot, by show (addI r.voters frm).length ≤ n + 1; rw [addI_len]; have := h.vor; omega⟩
theorem bestR_id (r : Rep) (frm was com : Int) (log : List Ent) : (bestR r frm was com log).id = r.id := by
  by_cases hc : BestC r was log
  · rw [bestR_yes hc]
  · rw [bestR_no hc]
theorem sz_states {n : Nat} (hn : 5 ≤ n) {r : Rep} (h1 : OneOf r.id r.n) (h : Sz n r) (frm was com : Int) {log : List Ent} (hl : log.length ≤ n) : Sz (n + 1) (statesR r frm was com log).1 ∧ SzM (n + 1) (statesR r frm was com log).2 := by
  have hb := sz_best h frm was com hl
  have h2 : OneOf (bestR r frm was com log).id (bestR r frm was com log).n := by rw [bestR_id, (bestR_same r frm was com log).1]; exact h1
  have hno := sz_normal (n := n + 1) (by omega) h2 hb.best r.view (bestR r frm was com log).bestDone
  unfold statesR
  split
  · exact ⟨h.mono (Nat.le_succ n), szM_nil _⟩
  · split
    · exact ⟨hno, szM_all (n := n + 1) (by omega) (show OneOf (normalR (bestR r frm was com log) (bestR r frm was com log).best r.view (bestR r frm was com log).bestDone).id (normalR (bestR r frm was com log) (bestR r frm was com log).best r.view (bestR r frm was com log).bestDone).n from h2) _ hno.log⟩
    · exact ⟨hb, szM_nil _⟩
theorem sz_up {n : Nat} (hn : 5 ≤ n) {r : Rep} (h1 : OneOf r.id r.n) (h : Sz n r) (v : Int) : Sz n (upR r v).1 ∧ SzM n (upR r v).2 ∧ OneOf (upR r v).1.id (upR r v).1.n := by
  unfold upR
  split
  · exact ⟨sz_change (by omega) h v, szM_all hn (show OneOf (changeR r v).id (changeR r v).n from h1) _ (Nat.zero_le _), h1⟩
  · exact ⟨h, szM_nil _, h1⟩
theorem sz_vote {n : Nat} (hn : 5 ≤ n) {r : Rep} (h1 : OneOf r.id r.n) (h : Sz n r) (frm : Int) : Sz (n + 2) (voteR r frm).1 ∧ SzM (n + 2) (voteR r frm).2 := by
  have hv : Sz (n + 1) { r with votes := addI r.votes frm } := ⟨Nat.le_succ_of_le h.log, Nat.le_succ_of_le h.best, Nat.le_succ_of_le h.ack, by show (addI r.votes frm).length ≤ n + 1; rw [addI_len]; have := h.vot; omega, Nat.le_succ_of_le h.vor⟩
  unfold voteR
  split
  · split
    · exact sz_states (by omega) (r := { r with votes := addI r.votes frm }) h1 hv _ _ _ (Nat.le_succ_of_le h.log)
    · exact ⟨hv.mono (by omega), szM_one (by omega) _ _ _ (by have := h.log; show r.log.length ≤ n + 2; omega)⟩
  · exact ⟨hv.mono (by omega), szM_nil _⟩
theorem sz_changeH {r : Rep} {m : Msg} (h1 : OneOf r.id r.n) (h : Sz 100000 r) (hm : m.log.length ≤ 100000) : Sz 1000000 (changeH r m).1 ∧ SzM 1000000 (changeH r m).2 := by
  have hN : Sz 1000000 r := h.mono (by omega)
  have hnil : Sz 1000000 r ∧ SzM 1000000 [] := ⟨hN, szM_nil _⟩
  have hpre : ∀ (q : Rep) (tt : Int), SzM 1000000 (preM q tt) := fun q tt => szM_one (by omega) _ _ _ (Nat.zero_le _)
  have hask : ∀ (q : Rep) (tt i : Int), SzM 1000000 (askM q tt i) := fun q tt i => szM_one (by omega) _ _ _ (Nat.zero_le _)
  have hbeh : ∀ v, Sz 1000000 (behindR r v) := fun v => ⟨hN.log, Nat.zero_le _, hN.ack, Nat.zero_le _, Nat.zero_le _⟩
  have hrai : ∀ (q : Rep) (c : Int), Sz 1000000 q → Sz 1000000 (raiseR q c) := fun q c hq => ⟨hq.log, hq.best, hq.ack, hq.vot, hq.vor⟩
  have happ : ∀ (a b : List Ent), a.length ≤ 100000 → b.length ≤ 100000 → (a ++ b).length ≤ 1000000 := fun a b ha hb => by rw [List.length_append]; omega
  obtain ⟨u1, u2, u3⟩ := sz_up (n := 100000) (by omega) h1 h m.a3
  unfold changeH
  split
  · exact hnil
  · split
    · obtain ⟨v1, v2⟩ := sz_vote (n := 100000) (by omega) u3 u1 m.a1
      exact ⟨v1.mono (by omega), szM_app (n := 100002) (u2.mono (by omega)) v2 (by omega)⟩
    · exact ⟨u1.mono (by omega), u2.mono (by omega)⟩
theorem sz_stateH {r : Rep} {m : Msg} (h1 : OneOf r.id r.n) (h : Sz 100000 r) (hm : m.log.length ≤ 100000) : Sz 1000000 (stateH r m).1 ∧ SzM 1000000 (stateH r m).2 := by
  have hN : Sz 1000000 r := h.mono (by omega)
  have hnil : Sz 1000000 r ∧ SzM 1000000 [] := ⟨hN, szM_nil _⟩
  have hpre : ∀ (q : Rep) (tt : Int), SzM 1000000 (preM q tt) := fun q tt => szM_one (by omega) _ _ _ (Nat.zero_le _)
  have hask : ∀ (q : Rep) (tt i : Int), SzM 1000000 (askM q tt i) := fun q tt i => szM_one (by omega) _ _ _ (Nat.zero_le _)
  have hbeh : ∀ v, Sz 1000000 (behindR r v) := fun v => ⟨hN.log, Nat.zero_le _, hN.ack, Nat.zero_le _, Nat.zero_le _⟩
  have hrai : ∀ (q : Rep) (c : Int), Sz 1000000 q → Sz 1000000 (raiseR q c) := fun q c hq => ⟨hq.log, hq.best, hq.ack, hq.vot, hq.vor⟩
  have happ : ∀ (a b : List Ent), a.length ≤ 100000 → b.length ≤ 100000 → (a ++ b).length ≤ 1000000 := fun a b ha hb => by rw [List.length_append]; omega
  obtain ⟨u1, u2, u3⟩ := sz_up (n := 100000) (by omega) h1 h m.a3
  unfold stateH
  split
  · exact hnil
  · split
    · obtain ⟨v1, v2⟩ := sz_states (n := 100000) (by omega) u3 u1 m.a1 m.a6 m.a5 hm
      exact ⟨v1.mono (by omega), szM_app (n := 100001) (u2.mono (by omega)) v2 (by omega)⟩
    · exact ⟨u1.mono (by omega), u2.mono (by omega)⟩
end Go.Proofs.YtgdehjdajjhjpabGreat
