/-
  Contract of the document's own replica: what it makes of a change of the view.
-/
import Derived.Test.YtgdehjdajjhjpabGreatRpSn
import Derived.Test.YtgdehjdajjhjpabGreatRpSo
import Derived.Test.YtgdehjdajjhjpabGreatRpSp
namespace Go.Proofs.YtgdehjdajjhjpabGreat
open Go.RowKit Num
open scoped Classical
set_option linter.unusedVariables false
set_option maxRecDepth 100000
theorem rchange_any (B g : Nat) (r : Rep) (m : Msg) (bo : Option Addr) (c : Nat) (hv : 0 ≤ m.a3 ∧ m.a3 < 1099511627776) (hrv : 0 ≤ r.view ∧ r.view < 1099511627776) (hvt : r.votes.length ≤ 20) (hvl : r.voters.length ≤ 20) (hoth : m.a1 ≠ r.id) (w : World) (h : TurnR B w g r) (hs : SrcE B w bo c m.log) :
    Calls Tryz.prog 28 #[.pointer (some ⟨g, 0, none⟩), msV m bo c] w fun e w' => ∃ v, e = .returned v ∧ OwnO B w' v (changeH r m).2 ∧ TurnR B w' g (changeH r m).1 ∧ Below B w w' := by
  unfold changeH
  by_cases h1 : m.a3 < r.view
  · rw [if_pos h1]
    exact rchange_a B g r m bo c hv hrv hvt hvl h1 w h hs
  · rw [if_neg h1]
    by_cases h3 : m.a3 = r.view
    · have e2 : upR r m.a3 = (r, []) := by unfold upR; rw [if_neg (by omega)]
      rw [e2]
      by_cases h4 : r.how = 1
      · by_cases h5 : m.a1 ∈ r.votes
        · rw [if_neg (fun q => q.2 h5)]
          exact rchange_c B g r m bo c hv hrv hvt hvl h1 h3 h4 h5 w h hs
        · rw [if_pos ⟨h4, h5⟩]
          unfold voteR
          by_cases h6 : ((addI r.votes m.a1).length : Int) = mostN r.n
          · rw [if_pos h6]
            by_cases h7 : r.view % r.n = r.id
            · rw [if_pos h7]
              exact rchange_eN B g r m bo c hv hrv hvt hvl h1 h3 h4 h5 h6 h7 w h hs
            · rw [if_neg h7]
              exact rchange_fN B g r m bo c hv hrv hvt hvl h1 h3 h4 h5 h6 h7 w h hs
          · rw [if_neg h6]
            exact rchange_dN B g r m bo c hv hrv hvt hvl h1 h3 h4 h5 h6 w h hs
      · rw [if_neg (fun q => h4 q.1)]
        exact rchange_b B g r m bo c hv hrv hvt hvl h1 h3 h4 w h hs
    · have e2 : upR r m.a3 = (changeR r m.a3, allM (changeR r m.a3) (msg 4 0 0 0 [])) := by unfold upR; rw [if_pos (by omega)]
      have h5 : m.a1 ∉ (changeR r m.a3).votes := fun q => hoth (List.mem_singleton.1 q)
      rw [e2, if_pos ⟨rfl, h5⟩]
      unfold voteR
      by_cases h6 : ((addI (changeR r m.a3).votes m.a1).length : Int) = mostN r.n
      · rw [if_pos (show ((addI (changeR r m.a3).votes m.a1).length : Int) = mostN (changeR r m.a3).n from h6)]
        by_cases h7 : (changeR r m.a3).view % r.n = r.id
        · rw [if_pos (show (changeR r m.a3).view % (changeR r m.a3).n = (changeR r m.a3).id from h7)]
          exact rchange_eU B g r m bo c hv hrv hvt hvl h1 h3 h5 h6 h7 w h hs
        · rw [if_neg (show ¬ (changeR r m.a3).view % (changeR r m.a3).n = (changeR r m.a3).id from h7)]
          exact rchange_fU B g r m bo c hv hrv hvt hvl h1 h3 h5 h6 h7 w h hs
      · rw [if_neg (show ¬ ((addI (changeR r m.a3).votes m.a1).length : Int) = mostN (changeR r m.a3).n from h6)]
        exact (rchange_dU B g r m bo c hv hrv hvt hvl h1 h3 h5 h6 w h hs).mono fun e w1 ⟨v, e1, ho, ht, hb⟩ => ⟨v, e1, by simpa using ho, ht, hb⟩
end Go.Proofs.YtgdehjdajjhjpabGreat
