/-
  Contracts: pages without a key (7.3), of whatever pages.
-/
import Derived.Test.YtgldgedbinbigaaPDel
import Derived.Test.YtgldgedbinbigaaPPutC
namespace Go.Proofs.Ytgldgedbinbigaa
open Go.RowKit Num
open scoped Classical
set_option linter.unusedVariables false

set_option maxRecDepth 100000 in
set_option maxHeartbeats 4000000 in
theorem joinedO (B gq Cq : Nat) (cs : List Value) (p : List Pr) (w : World) (hB : B ≤ w.heap.size) (hown : OwnPg B w (.slice (some ⟨gq, 0, none⟩) 1 Cq) cs [p]) :
    Calls Try.prog 56 #[.slice (some ⟨gq, 0, none⟩) 1 Cq, .int .i64 0] w fun e w' => ∃ ao cap, e = .returned (.slice ao 1 cap) ∧ OwnPs B w' (.slice ao 1 cap) [p] ∧ Below B w w' := by
  have hdone : ∀ z : Low w, ∃ ao cap, Ending.returned (.slice (some ⟨gq, 0, none⟩) 1 Cq) = .returned (.slice ao 1 cap) ∧ OwnPs B z.wd (.slice ao 1 cap) [p] ∧ Below B w z.wd := fun z => ⟨_, _, rfl, ownPg_ps (ownPg_below hown z.low), z.low.mono hB⟩
  clear hown
  go_enter Try.func56, Try.ntmps56
  go_wp2_with fail
  refine wp_region_low (by kernel_rfl) (by kernel_rfl) fun hsome => ?_
  repeat (go_big_quiet_step (fail))
  refine wpQuiet_nil ?_
  rintro _ ⟨z, rfl⟩
  have hz := hdone z
  go_wp2
  go_ret
  exact hz
theorem joined_any (B gq Cq i : Nat) (cs : List Value) (ps : Pages) (hi : i < ps.length) (hlen : ∀ p ∈ ps, 1 ≤ p.length ∧ p.length ≤ 100) (hn : ps.length ≤ 1000) (w : World) (hB : B ≤ w.heap.size) (hown : OwnPg B w (.slice (some ⟨gq, 0, none⟩) ps.length Cq) cs ps) :
    Calls Try.prog 56 #[.slice (some ⟨gq, 0, none⟩) ps.length Cq, .int .i64 (i : Int)] w fun e w' => ∃ ao cap, e = .returned (.slice ao (joinedP ps i).length cap) ∧ OwnPs B w' (.slice ao (joinedP ps i).length cap) (joinedP ps i) ∧ Below B w w' := by
  unfold joinedP
  by_cases hlast : i + 1 = ps.length
  · rw [if_pos hlast]
    by_cases hz : i = 0
    · subst hz
      rw [if_pos rfl]
      match ps, hlast with
      | [p], _ => exact joinedO B gq Cq cs p w hB hown
    · rw [if_neg hz]
      obtain ⟨m, rfl⟩ : ∃ m, i = m + 1 := ⟨i - 1, by omega⟩
      have hp : ps[m]? = some (ps[m]'(by omega)) := List.getElem?_eq_getElem _
      have hq : ps[m + 1]? = some (ps[m + 1]'(by omega)) := List.getElem?_eq_getElem _
      exact joinedL B gq Cq m cs ps _ _ hlast hp hq (hlen _ (List.mem_of_getElem? hp)) (hlen _ (List.mem_of_getElem? hq)) hn w hB hown
  · rw [if_neg hlast]
    have hp : ps[i]? = some (ps[i]'(by omega)) := List.getElem?_eq_getElem _
    have hq : ps[i + 1]? = some (ps[i + 1]'(by omega)) := List.getElem?_eq_getElem _
    exact joinedM B gq Cq i cs ps _ _ (by omega) hp hq (hlen _ (List.mem_of_getElem? hp)) (hlen _ (List.mem_of_getElem? hq)) hn w hB hown
/-- 7.3, of whatever pages. -/
def Num.delA (ps : Pages) (k : ByteArray) [Decidable (RightP ps)] : Pages := if RightP ps then delP ps k else []
theorem delA_yes {ps : Pages} {k : ByteArray} (h : RightP ps) : delA ps k = delP ps k := if_pos h
theorem delA_no {ps : Pages} {k : ByteArray} (h : ¬ RightP ps) : delA ps k = [] := if_neg h
set_option maxRecDepth 100000 in
set_option maxHeartbeats 4000000 in
theorem del_there (ps : Pages) (hr : RightP ps) (hne : ps ≠ []) (ao : Option Addr) (cap : Nat) (k : ByteArray) (h1000 : ps.length ≤ 900) (p : List Pr) (hp : ps[ofP ps k]? = some p) (hh : hasK p k = true) (w : World) (hl : LiesPg w w.heap.size ao ps) :
    Calls Try.prog 46 #[.slice ao ps.length cap, .string k] w fun e w' => ∃ ao' cap', e = .returned (.slice ao' (delP ps k).length cap') ∧ LiesPg w' w'.heap.size ao' (delP ps k) ∧ Below w.heap.size w w' := by
  obtain ⟨hright, hcop, hfind⟩ := put_start ps hr hne ao cap k h1000 p hp w hl
  have hp8 := hr.1 p (List.mem_of_getElem? hp)
  have hol := (List.getElem?_eq_some_iff.1 hp).1
  have f1 : ((ofP ps k : Nat) : Int) < (ps.length : Int) := by omega
  rw [hh] at hfind
  obtain ⟨x, hx, hxk⟩ := hasK_yes hh
  have hde := delL_at (right_page hr hp) hx hxk
  have hjl := (List.getElem?_eq_some_iff.1 hx).1
  have hdl : (delL p k).length = p.length - 1 := by
    rw [hde]
    simp
    omega
  have hgone : delL p k = [] → delP ps k = ps.take (ofP ps k) ++ ps.drop (ofP ps k + 1) := del_gone hp
  have hless : delL p k ≠ [] → delP ps k = joinedP (ps.set (ofP ps k) (delL p k)) (ofP ps k) := fun h0 => del_less hp h0 (by omega)
  have hall := hr.1
  clear hh hxk hr
  generalize delP ps k = out at *
  generalize delL p k = p' at *
  generalize ofP ps k = M at *
  generalize cntK p k = J at *
  have hsplit : prCells p = prCells (p.take J) ++ [.string x.key, .string x.val] ++ prCells (p.drop (J + 1)) := by
    rw [show [Value.string x.key, Value.string x.val] = prCells [x] from rfl, ← prCells_append, ← prCells_append, List.append_assoc, List.singleton_append, ← drop_at hx, List.take_append_drop]
  have hcells : prCells p' = prCells (p.take J) ++ prCells (p.drop (J + 1)) := by rw [hde, prCells_append]
  have hcall : ∀ (w3 : World) B g C, w3.ownsRow B 69 2 (.slice (some ⟨g, 0, none⟩) p.length C) p.length (prCells p) → Calls Try.prog 54 #[.slice (some ⟨g, 0, none⟩) p.length C, .int .i64 (J : Int), .int .i64 ((J : Int) + 1)] w3 fun e w' => e = .returned (.slice (some ⟨g, 0, none⟩) (p.length - 1) C) ∧ w'.ownsRow B 69 2 (.slice (some ⟨g, 0, none⟩) (p.length - 1) C) (p.length - 1) (prCells p') ∧ w3.grownBy w' (some g) := by
    intro w3 B g C hpw
    rw [hcells]
    have h := cut_pr B g C p.length J (J + 1) (p.length - 1) (prCells (p.take J)) [.string x.key, .string x.val] (prCells (p.drop (J + 1))) (by rw [prCells_len, List.length_take]; omega) (by simp) (by rw [prCells_len, List.length_drop]) (prCells_one _) (by omega) (by omega) (by omega) (by omega) w3 (by rw [← hsplit]; exact hpw)
    rw [show (((J + 1 : Nat)) : Int) = (J : Int) + 1 by omega] at h
    exact h
  have hturn : ∀ (w3 w4 : World) B gq Cq g C cs, OwnPg B w3 (.slice (some ⟨gq, 0, none⟩) ps.length Cq) cs ps → cs[M]? = some (.slice (some ⟨g, 0, none⟩) p.length C) → w4.ownsRow B 69 2 (.slice (some ⟨g, 0, none⟩) (p.length - 1) C) (p.length - 1) (prCells p') → w3.grownBy w4 (some g) →
      w4.cell? ⟨gq, M, none⟩ = some (.slice (some ⟨g, 0, none⟩) p.length C) ∧ w4.frozen? ⟨gq, M, none⟩ = false ∧
      OwnPg B (w4.setCell ⟨gq, M, none⟩ (.slice (some ⟨g, 0, none⟩) (p.length - 1) C)) (.slice (some ⟨gq, 0, none⟩) ps.length Cq) (cs.set M (.slice (some ⟨g, 0, none⟩) (p.length - 1) C)) (ps.set M p') ∧ Below B w3 (w4.setCell ⟨gq, M, none⟩ (.slice (some ⟨g, 0, none⟩) (p.length - 1) C)) ∧ (w4.setCell ⟨gq, M, none⟩ (.slice (some ⟨g, 0, none⟩) (p.length - 1) C)).cell? ⟨gq, M, none⟩ = some (.slice (some ⟨g, 0, none⟩) (p.length - 1) C) := by
    intro w3 w4 B gq Cq g C cs hown hc h4 hg4
    have hpw := hown.pages M _ p hc hp
    have hr4 := hown.row.kept hg4 (ne_or (own_unlike hown.row hpw (by decide)))
    obtain ⟨h1, h2⟩ := ownPg_turn (w1 := w4) (c' := .slice (some ⟨g, 0, none⟩) (p.length - 1) C) (p' := p') hown hc hp (by rw [hdl]; exact h4) hg4 (.inl rfl)
    have hlc := hown.len
    refine ⟨row_cell hr4 hc, hr4.frozenAt M, h1, h2, ?_⟩
    have hlen : (ps.set M p').length = ps.length := by simp
    have hrow := h1.row
    rw [hlen] at hrow
    exact row_cell hrow (List.getElem?_set_self (by omega))
  have hend1 : p.length - 1 = 0 → ∀ (w5 : World) B gq Cq cs, OwnPg B w5 (.slice (some ⟨gq, 0, none⟩) ps.length Cq) cs (ps.set M p') → B ≤ w5.heap.size → Calls Try.prog 55 #[.slice (some ⟨gq, 0, none⟩) ps.length Cq, .int .i64 (M : Int), .int .i64 ((M : Int) + 1)] w5 fun e w' => ∃ ao' cap', e = .returned (.slice ao' out.length cap') ∧ LiesPg w' w'.heap.size ao' out ∧ Below B w5 w' := by
    intro h0 w5 B gq Cq cs hown hB
    have hlen : (ps.set M p').length = ps.length := by simp
    rw [← hlen] at hown
    have h := delPage B gq Cq M cs (ps.set M p') (by omega) (by omega) w5 hB hown
    rw [hlen] at h
    refine h.mono ?_
    rintro e w' ⟨rfl, ho, hb⟩
    rw [List.take_set_of_le (Nat.le_refl _), List.drop_set_of_lt (by omega), ← hgone (List.eq_nil_of_length_eq_zero (by omega))] at ho
    obtain ⟨ao2, cap2, e, hl2⟩ := ownPs_lies ho
    exact ⟨ao2, cap2, by rw [e], hl2, hb⟩
  have hend2 : p.length - 1 ≠ 0 → ∀ (w5 : World) B gq Cq cs, OwnPg B w5 (.slice (some ⟨gq, 0, none⟩) ps.length Cq) cs (ps.set M p') → B ≤ w5.heap.size → Calls Try.prog 56 #[.slice (some ⟨gq, 0, none⟩) ps.length Cq, .int .i64 (M : Int)] w5 fun e w' => ∃ ao' cap', e = .returned (.slice ao' out.length cap') ∧ LiesPg w' w'.heap.size ao' out ∧ Below B w5 w' := by
    intro h0 w5 B gq Cq cs hown hB
    have hlen : (ps.set M p').length = ps.length := by simp
    rw [← hlen] at hown
    have h := joined_any B gq Cq M cs (ps.set M p') (by omega) (fun q hq => by
      rcases List.mem_or_eq_of_mem_set hq with h | h
      · have := hall q h
        omega
      · rw [h]
        omega) (by omega) w5 hB hown
    rw [hlen] at h
    rw [← hless (by rintro rfl; simp at hdl; omega)] at h
    refine h.mono ?_
    rintro e w' ⟨ao', cap', rfl, ho, hb⟩
    obtain ⟨ao2, cap2, e, hl2⟩ := ownPs_lies ho
    exact ⟨ao2, cap2, by rw [e], hl2, hb⟩
  clear hcells hsplit hgone hless hde
  by_cases h8 : p.length - 1 = 0
  · have h9 := hend1 h8
    rw [h8] at hcall hturn
    clear hend1 hend2
    go_enter Try.func46, Try.ntmps46
    go_wp2_with (first
      | (go_at_call 49; refine hright.mono ?_; rintro e w1 ⟨rfl, hb1⟩)
      | (go_at_call 50; refine (hcop w1 hb1).mono ?_; rintro e w2 ⟨gq, Cq, cs, rfl, hown2, hb2⟩)
      | (go_at_call 51; refine (hfind _ gq Cq cs w2 hown2).mono ?_; rintro e w3 ⟨rfl, hown3, hb3⟩
         obtain ⟨g, C, hc, hpw, k1⟩ := ownPg_page hown3 hp (by omega))
      | (go_at_call 54; refine (hcall w3 _ g C hpw).mono ?_; rintro e w4 ⟨rfl, ho4, hg4⟩
         obtain ⟨k2, k3, hown5, hb5, k4⟩ := hturn w3 w4 _ gq Cq g C cs hown3 hc ho4 hg4)
      | (go_at_call 55; refine (h9 _ _ gq Cq _ hown5 (by have := hb1.size; have := hb2.size; have := hb3.size; have := hb5.size; omega)).mono ?_; rintro e w6 ⟨ao6, cap6, rfl, hl6, hb6⟩))
    go_ret
    have s1 := hb1.size
    have s2 := hb2.size
    have s3 := hb3.size
    have hbb := ((hb1.trans (hb2.mono s1)).trans (hb3.mono (by omega))).trans (hb5.mono s1)
    exact ⟨ao6, cap6, rfl, hl6, hbb.trans (hb6.mono s1)⟩
  · have h9 := hend2 h8
    have h10 : ¬ ((p.length - 1 : Nat) : Int) = 0 := by omega
    generalize p.length - 1 = L at *
    have h11 : ¬ L = 0 := h8
    clear hend1 hend2
    go_enter Try.func46, Try.ntmps46
    go_wp2_with (first
      | (go_at_call 49; refine hright.mono ?_; rintro e w1 ⟨rfl, hb1⟩)
      | (go_at_call 50; refine (hcop w1 hb1).mono ?_; rintro e w2 ⟨gq, Cq, cs, rfl, hown2, hb2⟩)
      | (go_at_call 51; refine (hfind _ gq Cq cs w2 hown2).mono ?_; rintro e w3 ⟨rfl, hown3, hb3⟩
         obtain ⟨g, C, hc, hpw, k1⟩ := ownPg_page hown3 hp (by omega))
      | (go_at_call 54; refine (hcall w3 _ g C hpw).mono ?_; rintro e w4 ⟨rfl, ho4, hg4⟩
         obtain ⟨k2, k3, hown5, hb5, k4⟩ := hturn w3 w4 _ gq Cq g C cs hown3 hc ho4 hg4)
      | (go_at_call 56; refine (h9 _ _ gq Cq _ hown5 (by have := hb1.size; have := hb2.size; have := hb3.size; have := hb5.size; omega)).mono ?_; rintro e w6 ⟨ao6, cap6, rfl, hl6, hb6⟩))
    go_ret
    have s1 := hb1.size
    have s2 := hb2.size
    have s3 := hb3.size
    have hbb := ((hb1.trans (hb2.mono s1)).trans (hb3.mono (by omega))).trans (hb5.mono s1)
    exact ⟨ao6, cap6, rfl, hl6, hbb.trans (hb6.mono s1)⟩
set_option maxRecDepth 100000 in
set_option maxHeartbeats 4000000 in
theorem del_any (ps : Pages) (ao : Option Addr) (cap : Nat) (k : ByteArray) (h900 : ps.length ≤ 900) (hp4 : ∀ p ∈ ps, p.length ≤ 1000) (w : World) (hl : LiesPg w w.heap.size ao ps) :
    Calls Try.prog 46 #[.slice ao ps.length cap, .string k] w fun e w' => ∃ ao' cap', e = .returned (.slice ao' (delA ps k).length cap') ∧ LiesPg w' w'.heap.size ao' (delA ps k) ∧ Below w.heap.size w w' := by
  by_cases hr : RightP ps
  · rw [delA_yes hr]
    by_cases hne : ps = []
    · subst hne
      have hright := right_any [] ao cap (by simp) (by simp) w hl
      rw [tru_yes hr] at hright
      rw [show delP [] k = [] from rfl]
      have hcop := fun w1 => copied_any [] ao cap (by simp) (by simp) w1 (lies_nil w1 _ _)
      clear hr
      go_enter Try.func46, Try.ntmps46
      go_wp2_with (first
        | (go_at_call 49; refine hright.mono ?_; rintro e w1 ⟨rfl, hb1⟩)
        | (go_at_call 50; refine (hcop w1).mono ?_; rintro e w2 ⟨v2, cs, rfl, hown2, hb2⟩
           obtain ⟨ao2, cap2, rfl, _⟩ := ownPg_lies hown2)
        | (go_at_call 51; refine (find_none ao2 cap2 k w2).mono ?_; rintro e w3 ⟨rfl, hb3⟩))
      go_ret
      exact ⟨ao2, cap2, rfl, lies_nil _ _ _, below_next (below_next hb1 (Nat.le_refl _) hb2) (Nat.le_refl _) hb3⟩
    · have hof := of_lt k hne
      have hp : ps[ofP ps k]? = some (ps[ofP ps k]'hof) := List.getElem?_eq_getElem hof
      cases hh : hasK (ps[ofP ps k]'hof) k with
      | true => exact del_there ps hr hne ao cap k h900 _ hp hh w hl
      | false =>
        rw [del_not hr hp hh]
        obtain ⟨hright, hcop, hfind⟩ := put_start ps hr hne ao cap k h900 _ hp w hl
        rw [hh] at hfind
        clear hr hh
        go_enter Try.func46, Try.ntmps46
        go_wp2_with (first
          | (go_at_call 49; refine hright.mono ?_; rintro e w1 ⟨rfl, hb1⟩)
          | (go_at_call 50; refine (hcop w1 hb1).mono ?_; rintro e w2 ⟨gq, Cq, cs, rfl, hown2, hb2⟩)
          | (go_at_call 51; refine (hfind _ gq Cq cs w2 hown2).mono ?_; rintro e w3 ⟨rfl, hown3, hb3⟩))
        go_ret
        exact ⟨_, _, rfl, ownPg_at hown3, below_next (below_next hb1 (Nat.le_refl _) hb2) (Nat.le_refl _) hb3⟩
  · have hright := right_any ps ao cap (by omega) hp4 w hl
    rw [tru_no hr] at hright
    rw [delA_no hr]
    clear hr
    go_enter Try.func46, Try.ntmps46
    go_wp2_with (first
      | (go_at_call 49; refine hright.mono ?_; rintro e w1 ⟨rfl, hb1⟩))
    go_ret
    exact ⟨none, 0, rfl, lies_nil _ _ _, hb1⟩
end Go.Proofs.Ytgldgedbinbigaa
