/-
  Plain: what is committed does not fall, but where a state or a short log comes (11.7, as ReplicaGoes asks it).
-/
import Derived.Test.YtajbdffepfjegaaGreatRpMy
import Derived.Test.YtajbdffepfjegaaGreatRpG16
namespace Go.Proofs.YtajbdffepfjegaaGreat
open Go.RowKit Num
open scoped Classical
set_option linter.unusedVariables false
set_option maxRecDepth 100000

/-- None but itself has told it its state. -/
def Num.VotOk (r : Rep) : Prop := r.voters = [] ∨ r.voters = [r.id]
theorem may_small {r : Rep} (h : May r) : SmallR r := by
  have hn := h.one.1
  have h1 := ids_len h.votes (by omega)
  have h2 := ids_len h.voters (by omega)
  have h3 := h.ack.1
  have h4 := h.log.1
  have h5 := h.best.1.1
  exact ⟨by omega, by omega, by omega, by omega, by omega⟩
theorem com_ge {r : Rep} (h1 : ¬ r.n = 1) {log : List Ent} (hl : r.commit ≤ (log.length : Int)) (c : Int) : r.commit ≤ comR r log c := by
  unfold comR
  rw [if_neg h1]
  omega
theorem up_same (r : Rep) (v : Int) (hv : VotOk r) : (upR r v).1.commit = r.commit ∧ VotOk (upR r v).1 ∧ (upR r v).1.id = r.id ∧ (upR r v).1.n = r.n := by
  unfold upR
  split
  · exact ⟨rfl, .inl rfl, rfl, rfl⟩
  · exact ⟨rfl, hv, rfl, rfl⟩
theorem vote_same {r : Rep} (hn : r.n = 3 ∨ r.n = 5) (frm : Int) (hv : VotOk r) : (voteR r frm).1.commit = r.commit ∧ VotOk (voteR r frm).1 := by
  unfold voteR
  split
  · split
    · unfold statesR
      by_cases h1 : r.id ∈ r.voters
      · rw [if_pos (show r.id ∈ ({ r with votes := addI r.votes frm } : Rep).voters from h1)]
        exact ⟨rfl, hv⟩
      · rw [if_neg (show ¬ r.id ∈ ({ r with votes := addI r.votes frm } : Rep).voters from h1)]
        have h0 : r.voters = [] := by
          rcases hv with h | h
          · exact h
          · exact absurd (by rw [h]; exact List.mem_singleton.2 rfl) h1
        obtain ⟨b1, b2, b3, b4, _⟩ := best_same { r with votes := addI r.votes frm } r.id r.normal r.commit r.log
        have hvv : (bestR { r with votes := addI r.votes frm } r.id r.normal r.commit r.log).voters = [r.id] := by
          unfold bestR
          dsimp only
          split <;> (show addI r.voters r.id = [r.id]; rw [h0]; rfl)
        rw [if_neg (by rw [hvv]; show ¬ (1 : Int) = mostN r.n; unfold mostN; omega)]
        exact ⟨b4, .inr (by rw [hvv, b3])⟩
    · exact ⟨rfl, hv⟩
  · exact ⟨rfl, hv⟩
theorem com_takeH {r : Rep} {m : Msg} (h : May r) (hm : MsgOk r m) (hk : 1 ≤ m.a0 ∧ m.a0 ≤ 8) (hvt : VotOk r) (h5 : ¬ m.a0 = 5) (h6 : m.a0 = 6 → r.commit ≤ (m.log.length : Int)) : r.commit ≤ (takeH r m).1.commit ∧ VotOk (takeH r m).1 := by
  have hn1 : ¬ r.n = 1 := by
    intro e
    have h1 := hm.one.2
    have h2 := h.one.2
    have h3 := hm.oth
    omega
  have hn : r.n = 3 ∨ r.n = 5 := h.one.1.resolve_left hn1
  have hc := h.com
  unfold takeH
  split
  · unfold prepareH
    split
    · exact ⟨Int.le_refl _, hvt⟩
    · split
      · dsimp only
        unfold nextR
        split
        · exact ⟨by show r.commit ≤ min (max r.commit m.a5) ((r.log ++ m.log).length : Int); rw [List.length_append]; omega, hvt⟩
        · exact ⟨by show r.commit ≤ min (max r.commit m.a5) (r.log.length : Int); omega, hvt⟩
      · exact ⟨Int.le_refl _, .inl rfl⟩
  split
  · unfold preparedH
    split
    · dsimp only
      unfold reachedR
      split
      · rename_i hlt
        exact ⟨Int.le_of_lt hlt, hvt⟩
      · exact ⟨Int.le_refl _, hvt⟩
    · exact ⟨Int.le_refl _, hvt⟩
  split
  · unfold commitH
    split
    · exact ⟨Int.le_refl _, hvt⟩
    · split
      · exact ⟨by show r.commit ≤ min (max r.commit m.a5) (r.log.length : Int); omega, hvt⟩
      · exact ⟨Int.le_refl _, .inl rfl⟩
  split
  · unfold changeH
    obtain ⟨u1, u2, u3, u4⟩ := up_same r m.a3 hvt
    split
    · exact ⟨Int.le_refl _, hvt⟩
    · split
      · obtain ⟨v1, v2⟩ := vote_same (r := (upR r m.a3).1) (by rw [u4]; exact hn) m.a1 u2
        exact ⟨by show r.commit ≤ (voteR (upR r m.a3).1 m.a1).1.commit; rw [v1, u1]; exact Int.le_refl _, v2⟩
      · exact ⟨by rw [u1]; exact Int.le_refl _, u2⟩
  split
  · rename_i e
    unfold viewH
    split
    · exact ⟨Int.le_refl _, hvt⟩
    · exact ⟨com_ge hn1 (h6 e) _, .inl rfl⟩
  split
  · unfold askH
    split <;> exact ⟨Int.le_refl _, hvt⟩
  · unfold logH
    split
    · rename_i hq
      split
      · rename_i hq2
        split
        · refine ⟨com_ge hn1 ?_ _, .inl rfl⟩
          rw [List.length_append, List.length_take]
          have := hm.nums.2.1.1
          omega
        · exact ⟨Int.le_refl _, hvt⟩
      · split
        · split
          · exact ⟨by show r.commit ≤ min (max r.commit m.a5) ((r.log ++ m.log.drop (r.log.length - m.a4.toNat)).length : Int); rw [List.length_append]; omega, hvt⟩
          · exact ⟨Int.le_refl _, hvt⟩
        · exact ⟨Int.le_refl _, hvt⟩
    · exact ⟨Int.le_refl _, hvt⟩
/-- What Take makes of a replica that may be, as ReplicaGoes asks it. -/
theorem go_step {r : Rep} {m : Msg} (h : May r) (hvt : VotOk r) (h5 : ¬ m.a0 = 5) (h6 : m.a0 = 6 → r.commit ≤ (m.log.length : Int)) (q : Rep × Msgs × Int) (hq : takG r m (takeH r m) = q) : (q.2.2 = 0 ∨ (q.2.2 = 1 ∧ q.1 = r)) ∧ May q.1 ∧ r.view ≤ q.1.view ∧ r.commit ≤ q.1.commit ∧ VotOk q.1 := by
  subst hq
  unfold takG
  rw [if_pos h]
  split
  · rename_i hk
    obtain ⟨a, b⟩ := may_takeH h hk.2 hk.1
    obtain ⟨c, d⟩ := com_takeH h hk.2 hk.1 hvt h5 h6
    exact ⟨.inl rfl, a, b, c, d⟩
  · exact ⟨.inr ⟨rfl, rfl⟩, h, Int.le_refl _, Int.le_refl _, hvt⟩
/-- Take, whole: what it tells is the call's own. -/
theorem take_anyS (hP : PrepC) (r : Rep) (s : Sl) (m : Msg) (bo : Option Addr) (c : Nat) (hsm : SmallR r) (hmc : m.log.length ≤ c) (w : World) (hl : LiesR w w.heap.size s r) (hm : LiesE w w.heap.size bo m.log) :
    Calls Tryz.prog 12 #[repV r s, msV m bo c] w fun x w' => ∃ s' xo xc, x = .returned (.tuple #[repV (takG r m (takeH r m)).1 s', .slice xo (takG r m (takeH r m)).2.1.length xc, .int .i64 (takG r m (takeH r m)).2.2]) ∧ RowsS w.heap.size w' (takG r m (takeH r m)).1 s' ∧ OwnO w.heap.size w' (.slice xo (takG r m (takeH r m)).2.1.length xc) (takG r m (takeH r m)).2.1 ∧ Below w.heap.size w w' :=
  takeG_any r s m bo c hsm (takeH r m) (fun h1 h2 h3 B g W hT hS => turn_take hP B g r m bo c h1 hsm h2 h3 hmc W hT hS) w hl hm
end Go.Proofs.YtajbdffepfjegaaGreat
