/-
  Contracts: the document's own: pages without a key (7.3), of whatever pages.
-/
import Derived.Test.YtdllfplgenpalaaPRefF
import Derived.Test.YtdllfplgenpalaaPRefG
import Derived.Test.YtdllfplgenpalaaPRefH
import Derived.Test.YtdllfplgenpalaaPDelB
namespace Go.Proofs.Ytdllfplgenpalaa
open Go.RowKit Num
open scoped Classical
set_option linter.unusedVariables false

theorem refDel_there (ps : Pages) (hr : RightP ps) (hne : ps ≠ []) (ao : Option Addr) (cap : Nat) (k : ByteArray) (h900 : ps.length ≤ 900) (p : List Pr) (hp : ps[ofP ps k]? = some p) (hh : hasK p k = true) (w : World) (hl : LiesPg w w.heap.size ao ps) :
    Calls Try.prog 17 #[.slice ao ps.length cap, .string k] w fun e w' => ∃ ao' cap', e = .returned (.slice ao' (delP ps k).length cap') ∧ LiesPg w' w'.heap.size ao' (delP ps k) ∧ Below w.heap.size w w' := by
  have st := refDel_start ps hr hne ao cap k h900 p hp hh w hl
  have hp8 := hr.1 p (List.mem_of_getElem? hp)
  have hol := (List.getElem?_eq_some_iff.1 hp).1
  obtain ⟨x, hx, hxk⟩ := hasK_yes hh
  have hjl := (List.getElem?_eq_some_iff.1 hx).1
  have hdl : (delL p k).length = p.length - 1 := by
    rw [delL_at (right_page hr hp) hx hxk]
    simp
    omega
  by_cases h0 : delL p k = []
  · exact del_w1 ps _ (delP ps k) ao cap k (ofP ps k) p (delL p k) h900 hol rfl w st h0 (by rw [h0, gone_nz (fun q hq => (hr.1 q hq).1) hol, del_gone hp h0])
  · have h1 : 1 ≤ (delL p k).length := List.length_pos_iff.2 h0
    have hless := del_less hp h0 (by omega)
    have hnz : ∀ y ∈ ps.set (ofP ps k) (delL p k), 1 ≤ y.length ∧ y.length ≤ 100 := by
      intro y hy
      rcases List.mem_or_eq_of_mem_set hy with h | h
      · have := hr.1 y h
        omega
      · rw [h]
        omega
    have hLM : (ps.set (ofP ps k) (delL p k))[ofP ps k]? = some (delL p k) := List.getElem?_set_self hol
    have hLl : (ps.set (ofP ps k) (delL p k)).length = ps.length := List.length_set
    have hall : (ps.set (ofP ps k) (delL p k)).filter nz = ps.set (ofP ps k) (delL p k) := nz_all fun y hy => (hnz y hy).1
    rw [hless]
    generalize hp' : delL p k = p' at *
    generalize hM : ofP ps k = M at *
    unfold joinedP
    rw [hLl]
    by_cases hlast : M + 1 = ps.length
    · rw [if_pos hlast]
      by_cases hz : M = 0
      · subst hz
        rw [if_pos rfl]
        match ps, hlast with
        | [y0], _ => exact del_w6 y0 ao cap k p p' w st ⟨by omega, by omega⟩
      · rw [if_neg hz]
        obtain ⟨m, rfl⟩ : ∃ m, M = m + 1 := ⟨M - 1, by omega⟩
        have hq : (ps.set (m + 1) p')[m]? = some ((ps.set (m + 1) p')[m]'(by omega)) := List.getElem?_eq_getElem _
        have hql := hnz _ (List.mem_of_getElem? hq)
        generalize ((ps.set (m + 1) p')[m]'(by omega)) = q at *
        have hJ : joinP (ps.set (m + 1) p') (m + 1 - 1) = if q.length + p'.length ≤ 4 then (ps.set (m + 1) p').take m ++ ((q ++ p') :: (ps.set (m + 1) p').drop (m + 2)) else ps.set (m + 1) p' := by
          unfold joinP
          rw [show m + 1 - 1 = m by omega, hq, hLM]
        rw [hJ]
        by_cases h4 : q.length + p'.length ≤ 4
        · rw [if_pos h4]
          exact del_w4 ps _ _ ao cap k m p p' h900 hol rfl w st ⟨h1, by omega⟩ hlast q hq hql (by omega) (fun y hy => (hnz y hy).1) rfl
        · rw [if_neg h4]
          exact del_w5 ps _ _ ao cap k m p p' h900 hol rfl w st ⟨h1, by omega⟩ hlast q hq hql (by omega) hall
    · rw [if_neg hlast]
      have hq : (ps.set M p')[M + 1]? = some ((ps.set M p')[M + 1]'(by omega)) := List.getElem?_eq_getElem _
      have hql := hnz _ (List.mem_of_getElem? hq)
      generalize ((ps.set M p')[M + 1]'(by omega)) = q at *
      have hJ : joinP (ps.set M p') M = if p'.length + q.length ≤ 4 then (ps.set M p').take M ++ ((p' ++ q) :: (ps.set M p').drop (M + 2)) else ps.set M p' := by
        unfold joinP
        rw [hLM, hq]
      rw [hJ]
      by_cases h4 : p'.length + q.length ≤ 4
      · rw [if_pos h4]
        exact del_w2 ps _ _ ao cap k M p p' h900 hol rfl w st ⟨h1, by omega⟩ q hq hql h4 (fun y hy => (hnz y hy).1) rfl
      · rw [if_neg h4]
        exact del_w3 ps _ _ ao cap k M p p' h900 hol rfl w st ⟨h1, by omega⟩ q hq hql h4 hall
set_option maxRecDepth 100000 in
set_option maxHeartbeats 2000000 in
theorem refDel_any (ps : Pages) (ao : Option Addr) (cap : Nat) (k : ByteArray) (h900 : ps.length ≤ 900) (hp4 : ∀ p ∈ ps, p.length ≤ 1000) (w : World) (hl : LiesPg w w.heap.size ao ps) :
    Calls Try.prog 17 #[.slice ao ps.length cap, .string k] w fun e w' => ∃ ao' cap', e = .returned (.slice ao' (delA ps k).length cap') ∧ LiesPg w' w'.heap.size ao' (delA ps k) ∧ Below w.heap.size w w' := by
  by_cases hr : RightP ps
  · rw [delA_yes hr]
    have hno : lookA ps k = none → delP ps k = ps → Calls Try.prog 17 #[.slice ao ps.length cap, .string k] w fun e w' => ∃ ao' cap', e = .returned (.slice ao' (delP ps k).length cap') ∧ LiesPg w' w'.heap.size ao' (delP ps k) ∧ Below w.heap.size w w' := by
      intro h1 h2
      have hright := refRight_yes ps ao cap h900 hp4 hr w hl
      have hget0 := refGet_any ps ao cap k h900 hp4 w hl
      rw [h1] at hget0
      have hget : Calls Try.prog 19 #[.slice ao ps.length cap, .string k] w fun e w' => e = .returned (.tuple #[.string ⟨#[]⟩, .bool false]) ∧ w' = w := hget0
      have hcop := refCopied_any ps ao cap (by omega) hp4 w hl
      rw [h2]
      clear hget0 h1 h2 hr
      go_enter Try.func17, Try.ntmps17
      go_wp2_with (first
        | (go_at_call 10; refine hright.mono ?_; rintro e w1 ⟨rfl, hqq⟩; have hqq' := hqq.symm; clear hqq; subst hqq')
        | (go_at_call 19; refine hget.mono ?_; rintro e w1 ⟨rfl, hqq⟩; have hqq' := hqq.symm; clear hqq; subst hqq')
        | (go_at_call 32; refine hcop.mono ?_; rintro e w1 ⟨v1, rfl, ho1, hb1⟩; obtain ⟨ao1, cap1, rfl, hl1⟩ := ownPs_lies ho1))
      go_ret
      exact ⟨ao1, cap1, rfl, hl1, hb1⟩
    by_cases hne : ps = []
    · subst hne
      exact hno (by rw [lookA_yes hr]; rfl) rfl
    · have hof := of_lt k hne
      have hp : ps[ofP ps k]? = some (ps[ofP ps k]'hof) := List.getElem?_eq_getElem hof
      cases hh : hasK (ps[ofP ps k]'hof) k with
      | true => exact refDel_there ps hr hne ao cap k h900 _ hp hh w hl
      | false => exact hno (by rw [lookA_yes hr, look_no hr hp hh]) (del_not hr hp hh)
  · have hright := refRight_no ps ao cap h900 hp4 hr w hl
    rw [delA_no hr]
    clear hr
    go_enter Try.func17, Try.ntmps17
    go_wp2_with (first
      | (go_at_call 10; refine hright.mono ?_; rintro e w1 ⟨rfl, hqq⟩; have hqq' := hqq.symm; clear hqq; subst hqq'))
    go_ret
    exact ⟨none, 0, rfl, lies_nil _ _ _, Below.refl _ _⟩
end Go.Proofs.Ytdllfplgenpalaa
