/-
  Contracts of a replica at work: what it makes of a state.
-/
import Derived.Test.YtajbdffepfjegaaGreatRpKl
import Derived.Test.YtajbdffepfjegaaGreatRpKm
import Derived.Test.YtajbdffepfjegaaGreatRpKn
namespace Go.Proofs.YtajbdffepfjegaaGreat
open Go.RowKit Num
open scoped Classical
set_option linter.unusedVariables false
set_option maxRecDepth 100000

theorem ids_nil (n : Int) : IdsOk [] n := fun i x hx => by simp at hx
theorem state_any (B g : Nat) (r : Rep) (o : Msgs) (m : Msg) (bo : Option Addr) (c : Nat) (hv : 0 ≤ m.a3 ∧ m.a3 < 1099511627776) (hids : IdsOk r.voters r.n) (hvl : r.voters.length ≤ 900) (hml : m.log.length ≤ 1000) (hol : o.length ≤ 40) (w : World) (h : Turn B w g r o) (hs : SrcE B w bo c m.log) :
    Calls Tryz.prog 63 #[.pointer (some ⟨g, 0, none⟩), msV m bo c] w fun e w' => e = .returned (.tuple #[]) ∧ Turn B w' g (stateH r m).1 (o ++ (stateH r m).2) ∧ Keep B w w' := by
  unfold stateH
  by_cases h1 : m.a3 < r.view
  · rw [if_pos (.inl h1), List.append_nil]
    exact statelt B g r o m bo c hv h1 (by omega) w h hs
  · by_cases h2 : m.a3 % r.n = r.id
    · rw [if_neg (fun h => Or.elim h h1 (fun h => h h2))]
      by_cases h3 : r.view < m.a3
      · have eu : upR r m.a3 = (changeR r m.a3, allM (changeR r m.a3) (msg 4 0 0 0 [])) := if_pos h3
        rw [eu]
        have hh : (changeR r m.a3).how = 1 := rfl
        have hin : m.a1 ∉ (changeR r m.a3).voters := by
          show m.a1 ∉ ([] : List Int)
          simp
        have hid2 : IdsOk (changeR r m.a3).voters (changeR r m.a3).n := ids_nil _
        rw [if_pos hh]
        unfold statesR
        rw [if_neg hin, ← List.append_assoc]
        by_cases h4 : ((bestR (changeR r m.a3) m.a1 m.a6 m.a5 m.log).voters.length : Int) = mostN (changeR r m.a3).n
        · rw [if_pos h4]
          exact stateGyes B g r o m bo c hv h1 h2 h3 hh hin hid2 h4 hvl hml hol w h hs
        · rw [if_neg h4]
          refine (stateGno B g r o m bo c hv h1 h2 h3 hh hin hid2 h4 hvl hml hol w h hs).mono ?_
          rintro e w' ⟨a, b, c⟩
          refine ⟨a, ?_, c⟩
          show Turn B w' g (bestR (changeR r m.a3) m.a1 m.a6 m.a5 m.log) (o ++ allM (changeR r m.a3) (msg 4 0 0 0 []) ++ [])
          rw [List.append_nil]
          exact b
      · have eu : upR r m.a3 = (r, []) := if_neg h3
        rw [eu]
        by_cases h5 : r.how = 1
        · rw [if_pos h5, List.nil_append]
          unfold statesR
          by_cases h6 : m.a1 ∈ r.voters
          · rw [if_pos h6, List.append_nil]
            exact stateNhas B g r o m bo c hv h1 h2 h3 h5 h6 hvl hml hol w h hs
          · rw [if_neg h6]
            by_cases h4 : ((bestR r m.a1 m.a6 m.a5 m.log).voters.length : Int) = mostN r.n
            · rw [if_pos h4]
              exact stateNyes B g r o m bo c hv h1 h2 h3 h5 h6 hids h4 hvl hml hol w h hs
            · rw [if_neg h4, List.append_nil]
              exact stateNno B g r o m bo c hv h1 h2 h3 h5 h6 hids h4 hvl hml hol w h hs
        · rw [if_neg h5, List.append_nil]
          exact stateNhow B g r o m bo c hv h1 h2 h3 h5 hvl hml hol w h hs
    · rw [if_pos (.inr h2), List.append_nil]
      exact statene B g r o m bo c hv h1 h2 (by omega) w h hs
end Go.Proofs.YtajbdffepfjegaaGreat
