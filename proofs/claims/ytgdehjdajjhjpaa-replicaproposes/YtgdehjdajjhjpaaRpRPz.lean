/-
  Contracts: the document's own Propose.
-/
import Derived.Test.YtgdehjdajjhjpaaRpRPy
import Derived.Test.YtgdehjdajjhjpaaRpRPw
import Derived.Test.YtgdehjdajjhjpaaRpPrP
namespace Go.Proofs.Ytgdehjdajjhjpaa
open Go.RowKit Num
open scoped Classical
set_option linter.unusedVariables false

theorem lies_some {w : World} {B : Nat} {ao : Option Addr} {l : List Ent} (h : LiesE w B ao l) (hne : l ≠ []) : ∃ a, ao = some a := by
  cases ao with
  | some a => exact ⟨a, rfl⟩
  | none => exact absurd (liesE_none h) hne
theorem rpropose_any (r : Rep) (s : Sl) (hsm : SmallR r) (time : Int) (d : ByteArray) (w : World) (hl : LiesR w w.heap.size s r) :
    Calls Try.prog 17 #[repV r s, .int .i64 time, .string d] w fun x w' => ∃ s' xo xc, x = .returned (.tuple #[repV (proR r time d).1 s', .slice xo (proR r time d).2.1.length xc, .int .i64 (proR r time d).2.2.1, .int .i64 (proR r time d).2.2.2]) ∧ LiesR w' w'.heap.size s' (proR r time d).1 ∧ LiesM w' w'.heap.size xo (proR r time d).2.1 ∧ Below w.heap.size w w' := by
  unfold proR
  by_cases h0 : May r
  · by_cases h1 : 0 ≤ time ∧ time < 1099511627776
    · by_cases h2 : d.size ≤ 20000
      · rw [if_pos ⟨h0, ⟨h1.1, by omega⟩, h2⟩]
        by_cases h3 : r.how = 0
        · by_cases h4 : r.view % r.n = r.id
          · rw [if_pos ⟨h3, h4⟩]
            by_cases h5 : r.log = []
            · have h6 : r.log.length < 1000 ∧ propT r time < 1099511627776 := by
                refine ⟨by rw [h5]; simp, ?_⟩
                unfold propT
                rw [h5]
                have : lastT ([] : List Ent) = 0 := rfl
                omega
              rw [if_pos h6]
              by_cases h7 : r.n = 1
              · exact rpro_ye1 r s hsm time d h0 h1 h2 h3 h4 _ rfl h5 h6.1 h6.2 h7 w hl
              · exact rpro_yem r s hsm time d h0 h1 h2 h3 h4 _ rfl h5 h6.1 h6.2 h7 w hl
            · obtain ⟨lo, lc, ao, ac, vo, vc, wo, wc, bo, bc⟩ := s
              obtain ⟨la, hla⟩ := lies_some hl.log h5
              have hla2 : lo = some la := hla
              subst hla2
              by_cases h6 : r.log.length < 1000
              · by_cases h8 : propT r time < 1099511627776
                · rw [if_pos ⟨h6, h8⟩]
                  by_cases h7 : r.n = 1
                  · exact rpro_yf1 r la lc ao ac vo vc wo wc bo bc hsm time d h0 h1 h2 h3 h4 _ rfl h5 h6 h8 h7 w hl
                  · exact rpro_yfm r la lc ao ac vo vc wo wc bo bc hsm time d h0 h1 h2 h3 h4 _ rfl h5 h6 h8 h7 w hl
                · rw [if_neg (fun h => h8 h.2)]
                  exact rpro_c2 r la lc ao ac vo vc wo wc bo bc hsm time d h0 h1 h2 h3 h4 _ rfl h5 h6 h8 w hl
              · rw [if_neg (fun h => h6 h.1)]
                exact rpro_c1 r la lc ao ac vo vc wo wc bo bc hsm time d h0 h1 h2 h3 h4 _ rfl h5 h6 w hl
          · rw [if_neg (fun h => h4 h.2)]
            exact rpro_b1 r s hsm time d h0 h1 h2 h3 h4 w hl
        · rw [if_neg (fun h => h3 h.1)]
          exact rpro_b0 r s hsm time d h0 h1 h2 h3 w hl
      · rw [if_neg (fun h => h2 h.2.2)]
        exact rpro_a2 r s hsm time d h0 h1 h2 w hl
    · rw [if_neg (fun h => h1 ⟨h.2.1.1, by have := h.2.1.2; omega⟩)]
      exact rpro_a1 r s hsm time d h0 h1 w hl
  · rw [if_neg (fun h => h0 h.1)]
    exact rpro_a0 r s hsm time d h0 w hl
theorem pro_small {r : Rep} {t : Int} {d : ByteArray} (h : SmallR r) : (proR r t d).1.log.length ≤ 1000000 ∧ (proR r t d).1.best.length ≤ 1000000 ∧ (proR r t d).1.acked.length ≤ 1000000 ∧ (proR r t d).1.votes.length ≤ 1000000 ∧ (proR r t d).1.voters.length ≤ 1000000 := by
  have h1 := h.log
  have h2 := h.best
  have h3 := h.ack
  have h4 := h.votes
  have h5 := h.voters
  have hr : r.log.length ≤ 1000000 ∧ r.best.length ≤ 1000000 ∧ r.acked.length ≤ 1000000 ∧ r.votes.length ≤ 1000000 ∧ r.voters.length ≤ 1000000 := by omega
  unfold proR
  split
  · split
    · split
      · refine ⟨?_, hr.2.1, ?_, hr.2.2.2.1, hr.2.2.2.2⟩
        · show (r.log ++ [_]).length ≤ _
          rw [List.length_append]
          simp
          omega
        · show (r.acked.set _ _).length ≤ _
          rw [List.length_set]
          omega
      · exact hr
    · exact hr
  · exact hr
theorem pro_smallM {r : Rep} {t : Int} {d : ByteArray} (h : SmallR r) : (proR r t d).2.1.length ≤ 1000000 ∧ ∀ m ∈ (proR r t d).2.1, m.log.length ≤ 1000000 := by
  have hz : ([] : Msgs).length ≤ 1000000 ∧ ∀ m ∈ ([] : Msgs), m.log.length ≤ 1000000 := ⟨by simp, fun m hm => by simp at hm⟩
  unfold proR
  split
  · rename_i hm
    have hn := hm.1.one.1
    split
    · split
      · refine ⟨?_, fun m hm => ?_⟩
        · show (propM r _).length ≤ _
          have := restM_len (propR r ⟨propT r t, d⟩) (msg 1 ((r.log.length + 1 : Nat) : Int) (propR r ⟨propT r t, d⟩).commit 0 [⟨propT r t, d⟩]) 0
          have e : (propR r ⟨propT r t, d⟩).n = r.n := rfl
          rw [e] at this
          unfold propM allM
          omega
        · have : m.log = [⟨propT r t, d⟩] := restM_log (r := propR r ⟨propT r t, d⟩) (m := msg 1 ((r.log.length + 1 : Nat) : Int) (propR r ⟨propT r t, d⟩).commit 0 [⟨propT r t, d⟩]) (k := 0) hm
          rw [this]
          simp
      · exact hz
    · exact hz
  · exact hz
end Go.Proofs.Ytgdehjdajjhjpaa
