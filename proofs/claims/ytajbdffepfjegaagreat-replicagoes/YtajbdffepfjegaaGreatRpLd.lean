/-
  Contract: MsgPrepared is taken as it should be, by what mostReach tells.
-/
import Derived.Test.YtajbdffepfjegaaGreatRpLa
import Derived.Test.YtajbdffepfjegaaGreatRpLc
namespace Go.Proofs.YtajbdffepfjegaaGreat
open Go.RowKit Num
open scoped Classical
set_option linter.unusedVariables false
set_option maxRecDepth 100000
theorem reached_same {r : Rep} {m : Msg} {a x : Int} (hcom : 0 ≤ r.commit ∧ r.commit ≤ (r.log.length : Int)) (hack : AckOk r.acked r.n (r.log.length : Int)) (hx : x ∈ (ackedR r m a).acked) (hM : ∀ i, i ≤ x ↔ mostN r.n ≤ (reachN (ackedR r m a).acked i : Int)) :
    reachedR (ackedR r m a) x = reachedR (ackedR r m a) (bestC (ackedR r m a).acked r.n r.commit (r.log.length - r.commit.toNat)) := by
  have hxl : x ≤ (r.log.length : Int) := by
    rcases List.mem_or_eq_of_mem_set hx with h | h
    · obtain ⟨j, hj, e⟩ := List.getElem_of_mem h
      exact (hack.2 j x (by rw [List.getElem?_eq_getElem hj, e])).2
    · rw [h]
      omega
  rw [bestC_is (ackedR r m a).acked r.n r.commit x hM]
  by_cases hc : r.commit < x
  · rw [if_pos hc, show min x (r.commit + ((r.log.length - r.commit.toNat : Nat) : Int)) = x by omega]
  · rw [if_neg hc]
    unfold reachedR
    rw [if_neg (show ¬ (ackedR r m a).commit < x from hc), if_neg (show ¬ (ackedR r m a).commit < r.commit from Int.lt_irrefl _)]
theorem prepared_of (hMost : MostC) : PrepC := by
  intro B g r m bo c hmay hok w h hs
  unfold preparedH
  by_cases h1 : m.a3 = r.view
  · by_cases h2 : r.how = 0 ∧ r.view % r.n = r.id
    · rw [if_pos ⟨h1, h2.1, h2.2⟩]
      have hal := hmay.ack.1
      have hfrom := hok.one.2
      have hlt : m.a1.toNat < r.acked.length := by omega
      have ha := List.getElem?_eq_getElem hlt
      have hat : atI r.acked m.a1 = r.acked[m.a1.toNat] := by
        unfold atI
        rw [ha]
      rw [hat]
      exact prep3 B g r m bo c hmay.views.1 hMost h1 h2 _ ha ⟨hfrom.1, by omega⟩ _ _ (fun x hx hM => reached_same hmay.com hmay.ack hx hM) w h hs
    · rw [if_neg (fun h => h2 ⟨h.2.1, h.2.2⟩)]
      exact prep2 B g r m bo c hmay.views.1 h1 h2 w h hs
  · rw [if_neg (fun h => h1 h.1)]
    exact prep1 B g r m bo c hmay.views.1 h1 w h hs
end Go.Proofs.YtajbdffepfjegaaGreat
