/-
  Contracts of the document's own replica: what it makes of a new entry, and of what is committed.
-/
import Derived.Test.YtgdehjdajjhjpaaGreatRpSi
import Derived.Test.YtgdehjdajjhjpaaGreatRpSj
import Derived.Test.YtgdehjdajjhjpaaGreatRpSk
namespace Go.Proofs.YtgdehjdajjhjpaaGreat
open Go.RowKit Num
open scoped Classical
set_option linter.unusedVariables false
set_option maxRecDepth 100000
theorem rcommit_any (B g : Nat) (r : Rep) (m : Msg) (bo : Option Addr) (c : Nat) (hv : 0 ≤ m.a3 ∧ m.a3 < 1099511627776) (hk : m.a0 = 3) (w : World) (h : TurnR B w g r) (hs : SrcE B w bo c m.log) :
    Calls Tryz.prog 27 #[.pointer (some ⟨g, 0, none⟩), msV m bo c] w fun e w' => ∃ v, e = .returned v ∧ OwnO B w' v (commitH r m).2 ∧ TurnR B w' g (commitH r m).1 ∧ Below B w w' := by
  unfold commitH
  by_cases h1 : m.a3 < r.view
  · rw [if_pos (.inl h1)]
    exact rprep_a B g r m bo c hv h1 w h hs
  · by_cases h2 : m.a3 % r.n = m.a1
    · rw [if_neg (fun q => by rcases q with q | q; exact h1 q; exact q h2)]
      by_cases h3 : m.a3 = r.view
      · by_cases h4 : r.how = 0
        · rw [if_pos ⟨h3, h4⟩]
          have h5 : ¬ m.a0 = 1 := by omega
          dsimp only
          by_cases h9 : (r.log.length : Int) < m.a5
          · rw [if_pos (show ((raiseR r m.a5).log.length : Int) < m.a5 from h9)]
            by_cases h0 : r.log = []
            · exact rprep_k3e_ask B g r m bo c hv h1 h2 h3 h4 h5 h0 h9 w h hs
            · exact rprep_k3s_ask B g r m bo c hv h1 h2 h3 h4 h5 h0 h9 w h hs
          · rw [if_neg (show ¬ ((raiseR r m.a5).log.length : Int) < m.a5 from h9)]
            by_cases h0 : r.log = []
            · exact rprep_k3e_nil B g r m bo c hv h1 h2 h3 h4 h5 h0 h9 w h hs
            · exact rprep_k3s_nil B g r m bo c hv h1 h2 h3 h4 h5 h0 h9 w h hs
        · rw [if_neg (fun q => h4 q.2)]
          exact rprep_d B g r m bo c hv h1 h2 h3 h4 w h hs
      · rw [if_neg (fun q => h3 q.1)]
        exact rprep_c B g r m bo c hv h1 h2 h3 w h hs
    · rw [if_pos (.inr h2)]
      exact rprep_b B g r m bo c hv h1 h2 w h hs
theorem rprepare_any (B g : Nat) (r : Rep) (m : Msg) (bo : Option Addr) (c : Nat) (hv : 0 ≤ m.a3 ∧ m.a3 < 1099511627776) (hk : m.a0 = 1) (hp1 : m.log.length = 1) (w : World) (h : TurnR B w g r) (hs : SrcE B w bo c m.log) :
    Calls Tryz.prog 27 #[.pointer (some ⟨g, 0, none⟩), msV m bo c] w fun e w' => ∃ v, e = .returned v ∧ OwnO B w' v (prepareH r m).2 ∧ TurnR B w' g (prepareH r m).1 ∧ Below B w w' := by
  unfold prepareH
  by_cases h1 : m.a3 < r.view
  · rw [if_pos (.inl h1)]
    exact rprep_a B g r m bo c hv h1 w h hs
  · by_cases h2 : m.a3 % r.n = m.a1
    · rw [if_neg (fun q => by rcases q with q | q; exact h1 q; exact q h2)]
      by_cases h3 : m.a3 = r.view
      · by_cases h4 : r.how = 0
        · rw [if_pos ⟨h3, h4⟩]
          dsimp only
          by_cases h6 : m.a4 = (r.log.length : Int) + 1
          · by_cases h7 : lastT r.log < lastT m.log
            · by_cases h8 : r.log.length < 1000
              · have en : nextR r m = { r with log := r.log ++ m.log } := by unfold nextR; rw [if_pos ⟨h6, h7, h8⟩]
                rw [en, if_neg (by show ¬ ((r.log ++ m.log).length : Int) < m.a4; rw [List.length_append, hp1]; omega)]
                by_cases h0 : r.log = []
                · exact rprep_k1ye_pre B g r m bo c hv h1 h2 h3 h4 hk hp1 h0 h6 h7 h8 w h hs
                · exact rprep_k1ys_pre B g r m bo c hv h1 h2 h3 h4 hk hp1 h0 h6 h7 h8 w h hs
              · have en : nextR r m = r := by unfold nextR; rw [if_neg (fun q => h8 q.2.2)]
                rw [en, if_pos (by show (r.log.length : Int) < m.a4; omega)]
                by_cases h0 : r.log = []
                · exact rprep_k1n3e_ask B g r m bo c hv h1 h2 h3 h4 hk hp1 h0 h6 h7 h8 w h hs
                · exact rprep_k1n3s_ask B g r m bo c hv h1 h2 h3 h4 hk hp1 h0 h6 h7 h8 w h hs
            · have en : nextR r m = r := by unfold nextR; rw [if_neg (fun q => h7 q.2.1)]
              rw [en, if_pos (by show (r.log.length : Int) < m.a4; omega)]
              by_cases h0 : r.log = []
              · exact rprep_k1n2e_ask B g r m bo c hv h1 h2 h3 h4 hk hp1 h0 h6 h7 w h hs
              · exact rprep_k1n2s_ask B g r m bo c hv h1 h2 h3 h4 hk hp1 h0 h6 h7 w h hs
          · have en : nextR r m = r := by unfold nextR; rw [if_neg (fun q => h6 q.1)]
            rw [en]
            by_cases h9 : (r.log.length : Int) < m.a4
            · rw [if_pos (show ((raiseR r m.a5).log.length : Int) < m.a4 from h9)]
              by_cases h0 : r.log = []
              · exact rprep_k1n1e_ask B g r m bo c hv h1 h2 h3 h4 hk hp1 h0 h6 h9 w h hs
              · exact rprep_k1n1s_ask B g r m bo c hv h1 h2 h3 h4 hk hp1 h0 h6 h9 w h hs
            · rw [if_neg (show ¬ ((raiseR r m.a5).log.length : Int) < m.a4 from h9)]
              by_cases h0 : r.log = []
              · exact rprep_k1n1e_pre B g r m bo c hv h1 h2 h3 h4 hk hp1 h0 h6 h9 w h hs
              · exact rprep_k1n1s_pre B g r m bo c hv h1 h2 h3 h4 hk hp1 h0 h6 h9 w h hs
        · rw [if_neg (fun q => h4 q.2)]
          exact rprep_d B g r m bo c hv h1 h2 h3 h4 w h hs
      · rw [if_neg (fun q => h3 q.1)]
        exact rprep_c B g r m bo c hv h1 h2 h3 w h hs
    · rw [if_pos (.inr h2)]
      exact rprep_b B g r m bo c hv h1 h2 w h hs
end Go.Proofs.YtgdehjdajjhjpaaGreat
