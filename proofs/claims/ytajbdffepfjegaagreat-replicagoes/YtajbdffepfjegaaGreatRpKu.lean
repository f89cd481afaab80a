/-
  Contracts of a replica at work: what it makes of a change of the view, of a log: whichever way.
-/
import Derived.Test.YtajbdffepfjegaaGreatRpKq
import Derived.Test.YtajbdffepfjegaaGreatRpKt
namespace Go.Proofs.YtajbdffepfjegaaGreat
open Go.RowKit Num
open scoped Classical
set_option linter.unusedVariables false
set_option maxRecDepth 100000

theorem tell_vote (r : Rep) (frm : Int) : tellR { r with votes := addI r.votes frm } = (if r.view % r.n = r.id then statesR { r with votes := addI r.votes frm } r.id r.normal r.commit r.log else ({ r with votes := addI r.votes frm }, oneM r (msg 5 0 r.commit r.normal r.log) (r.view % r.n))) := rfl
theorem change_any (B g : Nat) (r : Rep) (o : Msgs) (m : Msg) (bo : Option Addr) (c : Nat) (hv : 0 ≤ m.a3 ∧ m.a3 < 1099511627776) (hrv : 0 ≤ r.view ∧ r.view < 1099511627776) (hids : IdsOk r.votes r.n) (hvo : IdsOk r.voters r.n) (hne : m.a1 ≠ r.id) (hid : 0 ≤ r.id ∧ r.id < r.n) (hvl : r.votes.length ≤ 900) (hwl : r.voters.length ≤ 900) (hol : o.length ≤ 30) (w : World) (h : Turn B w g r o) (hs : SrcE B w bo c m.log) :
    Calls Tryz.prog 62 #[.pointer (some ⟨g, 0, none⟩), msV m bo c] w fun e w' => e = .returned (.tuple #[]) ∧ Turn B w' g (changeH r m).1 (o ++ (changeH r m).2) ∧ Keep B w w' := by
  unfold changeH
  by_cases h1 : m.a3 < r.view
  · rw [if_pos h1, List.append_nil]
    exact changeNlt B g r o m bo c hv hrv h1 (by omega) hvl hwl hol w h hs
  · rw [if_neg h1]
    by_cases h2 : r.view < m.a3
    · have eu : upR r m.a3 = (changeR r m.a3, allM (changeR r m.a3) (msg 4 0 0 0 [])) := if_pos h2
      rw [eu]
      have hh : (changeR r m.a3).how = 1 := rfl
      have hin : m.a1 ∉ (changeR r m.a3).votes := by
        show m.a1 ∉ [r.id]
        simpa using hne
      have hi2 : IdsOk (changeR r m.a3).votes (changeR r m.a3).n := by
        intro i x hx
        cases i with
        | zero =>
          have : x = r.id := by
            have hx' : some r.id = some x := hx
            cases hx'
            rfl
          subst this
          exact ⟨by show (-1 : Int) < r.id; omega, hid.2⟩
        | succ i => exact absurd hx (by show ([r.id] : List Int)[i + 1]? ≠ some x; simp)
      have hv2 : IdsOk (changeR r m.a3).voters (changeR r m.a3).n := ids_nil _
      rw [if_pos ⟨hh, hin⟩, ← List.append_assoc]
      unfold voteR
      by_cases h3 : ((addI (changeR r m.a3).votes m.a1).length : Int) = mostN (changeR r m.a3).n
      · rw [if_pos h3, ← tell_vote]
        exact changeGyes B g r o m bo c hv hrv h1 h2 hh hin hi2 hv2 h3 hvl hwl hol w h hs
      · rw [if_neg h3]
        refine (changeGno B g r o m bo c hv hrv h1 h2 hh hin hi2 hv2 h3 hvl hwl hol w h hs).mono ?_
        rintro e w' ⟨a, b, c⟩
        refine ⟨a, ?_, c⟩
        have e2 : o ++ allM (changeR r m.a3) (msg 4 0 0 0 []) ++ ([] : Msgs) = o ++ allM (changeR r m.a3) (msg 4 0 0 0 []) := List.append_nil _
        have b2 : Turn B w' g { changeR r m.a3 with votes := addI (changeR r m.a3).votes m.a1 } (o ++ allM (changeR r m.a3) (msg 4 0 0 0 []) ++ ([] : Msgs)) := e2.symm ▸ b
        exact b2
    · have eu : upR r m.a3 = (r, []) := if_neg h2
      rw [eu]
      by_cases h4 : r.how = 1
      · by_cases h5 : m.a1 ∈ r.votes
        · rw [if_neg (fun h => h.2 h5), List.append_nil]
          exact changeNhas B g r o m bo c hv hrv h1 h2 h4 h5 hvl hwl hol w h hs
        · rw [if_pos ⟨h4, h5⟩, List.nil_append]
          unfold voteR
          by_cases h3 : ((addI r.votes m.a1).length : Int) = mostN r.n
          · rw [if_pos h3, ← tell_vote]
            exact changeNyes B g r o m bo c hv hrv h1 h2 h4 h5 hids hvo h3 hvl hwl hol w h hs
          · rw [if_neg h3, List.append_nil]
            exact changeNno B g r o m bo c hv hrv h1 h2 h4 h5 hids hvo h3 hvl hwl hol w h hs
      · rw [if_neg (fun h => h4 h.1), List.append_nil]
        exact changeNhow B g r o m bo c hv hrv h1 h2 h4 hvl hwl hol w h hs
theorem log_any (B g : Nat) (r : Rep) (m : Msg) (bo : Option Addr) (c : Nat) (h4 : 0 ≤ m.a4 ∧ m.a4 < 1099511627776) (hrv : 0 ≤ r.view ∧ r.view < 1099511627776) (hrc : 0 ≤ r.commit ∧ r.commit ≤ (r.log.length : Int)) (hlr : LogOk r.log) (hlm : LogOk m.log) (hmc : m.log.length ≤ c) (w : World) (h : Turn B w g r []) (hs : SrcE B w bo c m.log) :
    Calls Tryz.prog 66 #[.pointer (some ⟨g, 0, none⟩), msV m bo c] w fun e w' => e = .returned (.tuple #[]) ∧ Turn B w' g (logH r m).1 (logH r m).2 ∧ Below B w w' := by
  unfold logH
  by_cases h1 : m.a3 = r.view
  · by_cases h2 : m.a4 ≤ (r.log.length : Int)
    · rw [if_pos ⟨h1, h2⟩]
      have h2' : ¬ (r.log.length : Int) < m.a4 := by omega
      by_cases h3 : r.how = 2 ∧ m.a4 ≤ r.commit ∧ r.commit ≤ m.a4 + (m.log.length : Int)
      · rw [if_pos h3]
        exact logA B g r m bo c h4 hrv hrc hlr hlm hmc ⟨⟨h1, h2'⟩, h3⟩ w h hs
      · rw [if_neg h3]
        by_cases h5 : r.how = 0
        · by_cases h6 : r.view % r.n = r.id
          · rw [if_neg (fun h => h.2 h6)]
            exact logD B g r m bo c h4 hrv hrc hlr hlm hmc ⟨⟨h1, h2'⟩, h5, h6⟩ w h hs
          · rw [if_pos ⟨h5, h6⟩]
            exact logE B g r m bo c h4 hrv hrc hlr hlm hmc ⟨⟨h1, h2'⟩, h5, h6⟩ w h hs
        · rw [if_neg (fun h => h5 h.1)]
          by_cases h7 : r.how = 2
          · exact logB B g r m bo c h4 hrv hrc hlr hlm hmc ⟨⟨h1, h2'⟩, h7, fun e => h3 ⟨h7, e⟩⟩ w h hs
          · exact logC B g r m bo c h4 hrv hrc hlr hlm hmc ⟨⟨h1, h2'⟩, h7, h5⟩ w h hs
    · rw [if_neg (fun h => h2 h.2)]
      exact log2 B g r m bo c h4 hrv hrc hlr hlm hmc ⟨h1, by omega⟩ w h hs
  · rw [if_neg (fun h => h1 h.1)]
    exact log1 B g r m bo c h4 hrv hrc hlr hlm hmc h1 w h hs
end Go.Proofs.YtajbdffepfjegaaGreat
