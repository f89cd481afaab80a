/-
  Contracts: a page let go; two neighbours that become one (7.3).
-/
import Derived.Test.YtgldgedbinbigaaPPutB
import Derived.Test.YtgldgedbinbigaaPDlM
namespace Go.Proofs.Ytgldgedbinbigaa
open Go.RowKit Num
open scoped Classical
set_option linter.unusedVariables false

theorem delPage (B gq Cq i : Nat) (cs : List Value) (ps : Pages) (hi : i < ps.length) (hn : ps.length ≤ 1000) (w : World) (hB : B ≤ w.heap.size) (hown : OwnPg B w (.slice (some ⟨gq, 0, none⟩) ps.length Cq) cs ps) :
    Calls Try.prog 55 #[.slice (some ⟨gq, 0, none⟩) ps.length Cq, .int .i64 (i : Int), .int .i64 ((i : Int) + 1)] w fun e w' => e = .returned (.slice (some ⟨gq, 0, none⟩) (ps.length - 1) Cq) ∧ OwnPs B w' (.slice (some ⟨gq, 0, none⟩) (ps.length - 1) Cq) (ps.take i ++ ps.drop (i + 1)) ∧ Below B w w' := by
  obtain ⟨hl, hrow, hV, hap⟩ := hown
  have hone := pages_one hl hV
  have hgq := hrow.lt gq rfl
  have hc : cs[i]? = some (cs[i]'(by omega)) := List.getElem?_eq_getElem _
  have h := cut_pg B gq Cq ps.length i (i + 1) (ps.length - 1) (cs.take i) [cs[i]'(by omega)] (cs.drop (i + 1)) (by rw [List.length_take]; omega) (by simp) (by rw [List.length_drop]; omega) (fun v hv => hone v (List.mem_of_mem_drop hv)) (by omega) (by omega) (by omega) (by omega) w (by
    rw [List.append_assoc, List.singleton_append, ← drop_at hc, List.take_append_drop]
    exact hrow)
  rw [show (((i + 1 : Nat)) : Int) = (i : Int) + 1 by omega] at h
  refine h.mono ?_
  rintro e w' ⟨rfl, hrow', hgr⟩
  have hkeep : ∀ (d : Value) (r : List Pr), w.ownsRow B 69 2 d r.length (prCells r) → w'.ownsRow B 69 2 d r.length (prCells r) := fun d r hd => hd.kept hgr (ne_or (fun g hg hx => own_unlike hrow hd (by decide) g hx hg))
  refine ⟨rfl, ownPs_mk (cs := cs.take i ++ cs.drop (i + 1)) ?_ ?_ ?_, below_grown hgr hgq.1 hB⟩
  · simp [hl]
  · have e1 : (ps.take i ++ ps.drop (i + 1)).length = ps.length - 1 := by
      simp
      omega
    rw [e1]
    exact hrow'
  · exact pagesV_append (take_one hl i) (fun j d r hd hr => hkeep d r (pagesV_take hV i j d r hd hr)) (fun j d r hd hr => hkeep d r (pagesV_drop hV (i + 1) j d r hd hr))
set_option maxRecDepth 100000 in
set_option maxHeartbeats 1000000 in
theorem find_none (ao : Option Addr) (cap : Nat) (k : ByteArray) (w : World) :
    Calls Try.prog 51 #[.slice ao 0 cap, .string k] w fun e w' => e = .returned (.tuple #[.int .i64 0, .int .i64 0, .bool false]) ∧ Below w.heap.size w w' := by
  go_enter Try.func51, Try.ntmps51
  go_wp2
  go_ret3
  exact ⟨rfl, boxes_below _ _ _⟩

set_option maxRecDepth 100000 in
set_option maxHeartbeats 4000000 in
theorem joinedM (B gq Cq m : Nat) (cs : List Value) (ps : Pages) (p q : List Pr) (hm : m + 1 < ps.length) (hp : ps[m]? = some p) (hq : ps[m + 1]? = some q) (h1 : 1 ≤ p.length ∧ p.length ≤ 100) (h2 : 1 ≤ q.length ∧ q.length ≤ 100) (hn : ps.length ≤ 1000) (w : World) (hB : B ≤ w.heap.size) (hown : OwnPg B w (.slice (some ⟨gq, 0, none⟩) ps.length Cq) cs ps) :
    Calls Try.prog 56 #[.slice (some ⟨gq, 0, none⟩) ps.length Cq, .int .i64 (m : Int)] w fun e w' => ∃ ao cap, e = .returned (.slice ao (joinP ps m).length cap) ∧ OwnPs B w' (.slice ao (joinP ps m).length cap) (joinP ps m) ∧ Below B w w' := by
  have hJ : joinP ps m = if p.length + q.length ≤ 4 then ps.take m ++ ((p ++ q) :: ps.drop (m + 2)) else ps := by
    unfold joinP
    rw [hp, hq]
  obtain ⟨g, C, hc, hpw, k1⟩ := ownPg_page hown hp (by omega)
  obtain ⟨g2, C2, hc2, hqw, k2⟩ := ownPg_page hown hq (by omega)
  have d1 : ∀ z : Low w, z.wd.cell? ⟨gq, m, none⟩ = some (.slice (some ⟨g, 0, none⟩) p.length C) := fun z => (z.cell (cell_lt k1)).trans k1
  have d2 : ∀ z : Low w, z.wd.cell? ⟨gq, m + 1, none⟩ = some (.slice (some ⟨g2, 0, none⟩) q.length C2) := fun z => (z.cell (cell_lt k2)).trans k2
  have f0 : decide ((m : Int) < 0) = false := by simp
  have f1 : (m : Int) < (ps.length : Int) := by omega
  have f2 : (m : Int) + 1 < (ps.length : Int) := by omega
  have f3 : ¬ ((m : Int) = (ps.length : Int) - 1) := by omega
  have f4 : IntKind.i64.wrap ((m : Int) + 1) = (m : Int) + 1 := by rw [IntKind.wrap_i64]; omega
  have f5 : (0 : Int) ≤ (m : Int) + 1 := by omega
  have f6 : ((m : Int) + 1).toNat = m + 1 := by omega
  
  by_cases h4 : p.length + q.length ≤ 4
  · rw [if_pos h4] at hJ
    have f8 : ¬ (4 : Int) < (p.length : Int) + (q.length : Int) := by omega
    have hturn : ∀ (w3 w4 : World) ao4 cap4, Below w.heap.size w w3 → w4.ownsRow B 69 2 (.slice ao4 (p ++ q).length cap4) (p ++ q).length (prCells (p ++ q)) → w3.grownBy w4 (some g) → Near w3 (.slice (some ⟨g, 0, none⟩) p.length C) (.slice ao4 (p ++ q).length cap4) →
        w4.cell? ⟨gq, m, none⟩ = some (.slice (some ⟨g, 0, none⟩) p.length C) ∧ w4.frozen? ⟨gq, m, none⟩ = false ∧
        Calls Try.prog 55 #[.slice (some ⟨gq, 0, none⟩) ps.length Cq, .int .i64 ((m : Int) + 1), .int .i64 ((m : Int) + 2)] (w4.setCell ⟨gq, m, none⟩ (.slice ao4 (p.length + q.length) cap4)) fun e w' => ∃ ao cap, e = .returned (.slice ao (joinP ps m).length cap) ∧ OwnPs B w' (.slice ao (joinP ps m).length cap) (joinP ps m) ∧ Below B w w' := by
      intro w3 w4 ao4 cap4 hb3 h4w hg4 hn4
      have hown3 := ownPg_below hown hb3
      have hr4 := hown3.row.kept hg4 (ne_or (own_unlike hown3.row (own_below hpw hb3) (by decide)))
      obtain ⟨t1, t2⟩ := ownPg_turn (w1 := w4) (c' := .slice ao4 (p ++ q).length cap4) (p' := p ++ q) hown3 hc hp h4w hg4 hn4
      refine ⟨row_cell hr4 hc, hr4.frozenAt m, ?_⟩
      have hlen : (ps.set m (p ++ q)).length = ps.length := by simp
      rw [← hlen] at t1
      have hd := delPage B gq Cq (m + 1) _ (ps.set m (p ++ q)) (by omega) (by omega) _ (by have := t2.size; have := hb3.size; omega) t1
      rw [hlen, List.length_append, show (((m + 1 : Nat)) : Int) = (m : Int) + 1 by omega, show (m : Int) + 1 + 1 = (m : Int) + 2 by omega] at hd
      refine hd.mono ?_
      rintro e w' ⟨rfl, ho, hb⟩
      have e1 : (ps.set m (p ++ q)).take (m + 1) ++ (ps.set m (p ++ q)).drop (m + 1 + 1) = joinP ps m := by
        have hx : (ps.set m (p ++ q))[m]? = some (p ++ q) := List.getElem?_set_self (by omega)
        rw [take_succ_at hx, List.take_set_of_le (Nat.le_refl _), List.drop_set_of_lt (by omega), hJ]
        simp
      rw [e1] at ho
      obtain ⟨ao, cap, e, _⟩ := ownPs_lies ho
      rw [e] at ho ⊢
      rw [List.length_append] at t2
      exact ⟨ao, cap, rfl, ho, ((hb3.mono hB).trans t2).trans hb⟩
    clear hJ
    obtain ⟨bo2, c2, e2, hlq, _⟩ := own_lies hqw
    cases e2
    have hBw : B ≤ w.drew.heap.size := hB
    clear hc hc2 hown hqw hp hq
    go_enter Try.func56, Try.ntmps56
    go_wp2_with fail
    refine wp_region_low (by kernel_rfl) (by kernel_rfl) fun hsome => ?_
    repeat (go_big_quiet_step (fail))
    refine wpQuiet_nil ?_
    rintro _ ⟨z, rfl⟩
    have hz := z.low
    have hz1 := d1 z
    have hz2 := d2 z
    obtain ⟨W, hWe⟩ : ∃ W, W = z.wd := ⟨_, rfl⟩
    rw [← hWe] at hz hz1 hz2 ⊢
    have hpz := own_below hpw hz
    have hlz : LiesPr W W.heap.size (some ⟨g2, 0, none⟩) q := liesPr_next hlq hz hz.size
    have hz3 : W.drew.cell? ⟨gq, m, none⟩ = some (.slice (some ⟨g, 0, none⟩) p.length C) := hz1
    have hz4 : W.drew.cell? ⟨gq, m + 1, none⟩ = some (.slice (some ⟨g2, 0, none⟩) q.length C2) := hz2
    have hBz : B ≤ W.drew.heap.size := Nat.le_trans hB hz.size
    clear d1 d2 hWe hsome
    go_wp2_with fail
    go_region_law (refine step_app_pg rfl (.tmp 35) (.tmp 40) rfl B (.slice (some ⟨g, 0, none⟩) p.length C) p (by simp [Act.eval]) hpz.drew (some ⟨g2, 0, none⟩) C2 q (by simp [Act.eval]) hlz (by omega) hBz ?_; intro v4 w4 ho4 hg4 hn4; obtain ⟨ao4, cap4, rfl, _⟩ := own_lies ho4; obtain ⟨k3, k4, hcall⟩ := hturn W w4 ao4 cap4 hz ho4 (grown_drew hg4) hn4; simp only [List.length_append])
    all_goals
      go_wp2_with (first
        | (go_at_call 55; refine hcall.mono ?_; rintro e w6 ⟨ao6, cap6, rfl, ho6, hb6⟩))
      go_ret
      exact ⟨ao6, cap6, rfl, ho6, hb6⟩
  · rw [if_neg h4] at hJ
    have f8 : (4 : Int) < (p.length : Int) + (q.length : Int) := by omega
    rw [hJ]
    have hdone : ∀ z : Low w, ∃ ao cap, Ending.returned (.slice (some ⟨gq, 0, none⟩) ps.length Cq) = .returned (.slice ao ps.length cap) ∧ OwnPs B z.wd (.slice ao ps.length cap) ps ∧ Below B w z.wd := fun z => ⟨_, _, rfl, ownPg_ps (ownPg_below hown z.low), z.low.mono hB⟩
    clear hJ hc hc2 hown hqw hpw hp hq
    go_enter Try.func56, Try.ntmps56
    go_wp2_with fail
    refine wp_region_low (by kernel_rfl) (by kernel_rfl) fun hsome => ?_
    repeat (go_big_quiet_step (fail))
    refine wpQuiet_nil ?_
    rintro _ ⟨z, rfl⟩
    have hz := hdone z
    go_wp2
    go_ret
    exact hz

set_option maxRecDepth 100000 in
set_option maxHeartbeats 4000000 in
theorem joinedL (B gq Cq m : Nat) (cs : List Value) (ps : Pages) (p q : List Pr) (hm : m + 1 + 1 = ps.length) (hp : ps[m]? = some p) (hq : ps[m + 1]? = some q) (h1 : 1 ≤ p.length ∧ p.length ≤ 100) (h2 : 1 ≤ q.length ∧ q.length ≤ 100) (hn : ps.length ≤ 1000) (w : World) (hB : B ≤ w.heap.size) (hown : OwnPg B w (.slice (some ⟨gq, 0, none⟩) ps.length Cq) cs ps) :
    Calls Try.prog 56 #[.slice (some ⟨gq, 0, none⟩) ps.length Cq, .int .i64 ((m + 1 : Nat) : Int)] w fun e w' => ∃ ao cap, e = .returned (.slice ao (joinP ps m).length cap) ∧ OwnPs B w' (.slice ao (joinP ps m).length cap) (joinP ps m) ∧ Below B w w' := by
  have hJ : joinP ps m = if p.length + q.length ≤ 4 then ps.take m ++ ((p ++ q) :: ps.drop (m + 2)) else ps := by
    unfold joinP
    rw [hp, hq]
  obtain ⟨g, C, hc, hpw, k1⟩ := ownPg_page hown hp (by omega)
  obtain ⟨g2, C2, hc2, hqw, k2⟩ := ownPg_page hown hq (by omega)
  have d1 : ∀ z : Low w, z.wd.cell? ⟨gq, m, none⟩ = some (.slice (some ⟨g, 0, none⟩) p.length C) := fun z => (z.cell (cell_lt k1)).trans k1
  have d2 : ∀ z : Low w, z.wd.cell? ⟨gq, m + 1, none⟩ = some (.slice (some ⟨g2, 0, none⟩) q.length C2) := fun z => (z.cell (cell_lt k2)).trans k2
  have f0 : decide ((m : Int) < 0) = false := by simp
  have f1 : (m : Int) < (ps.length : Int) := by omega
  have f2 : (m : Int) + 1 < (ps.length : Int) := by omega
  have f3 : ¬ ((m : Int) = (ps.length : Int) - 1) := by omega
  have f4 : IntKind.i64.wrap ((m : Int) + 1) = (m : Int) + 1 := by rw [IntKind.wrap_i64]; omega
  have f5 : (0 : Int) ≤ (m : Int) + 1 := by omega
  have f6 : ((m : Int) + 1).toNat = m + 1 := by omega
  have hlen2 : ps.length = m + 2 := by omega
  have hm1000 : m ≤ 1000 := by omega
  by_cases h4 : p.length + q.length ≤ 4
  · rw [if_pos h4] at hJ
    have f8 : ¬ (4 : Int) < (p.length : Int) + (q.length : Int) := by omega
    have hturn : ∀ (w3 w4 : World) ao4 cap4, Below w.heap.size w w3 → w4.ownsRow B 69 2 (.slice ao4 (p ++ q).length cap4) (p ++ q).length (prCells (p ++ q)) → w3.grownBy w4 (some g) → Near w3 (.slice (some ⟨g, 0, none⟩) p.length C) (.slice ao4 (p ++ q).length cap4) →
        w4.cell? ⟨gq, m, none⟩ = some (.slice (some ⟨g, 0, none⟩) p.length C) ∧ w4.frozen? ⟨gq, m, none⟩ = false ∧
        Calls Try.prog 55 #[.slice (some ⟨gq, 0, none⟩) ps.length Cq, .int .i64 ((m : Int) + 1), .int .i64 ((m : Int) + 2)] (w4.setCell ⟨gq, m, none⟩ (.slice ao4 (p.length + q.length) cap4)) fun e w' => ∃ ao cap, e = .returned (.slice ao (joinP ps m).length cap) ∧ OwnPs B w' (.slice ao (joinP ps m).length cap) (joinP ps m) ∧ Below B w w' := by
      intro w3 w4 ao4 cap4 hb3 h4w hg4 hn4
      have hown3 := ownPg_below hown hb3
      have hr4 := hown3.row.kept hg4 (ne_or (own_unlike hown3.row (own_below hpw hb3) (by decide)))
      obtain ⟨t1, t2⟩ := ownPg_turn (w1 := w4) (c' := .slice ao4 (p ++ q).length cap4) (p' := p ++ q) hown3 hc hp h4w hg4 hn4
      refine ⟨row_cell hr4 hc, hr4.frozenAt m, ?_⟩
      have hlen : (ps.set m (p ++ q)).length = ps.length := by simp
      rw [← hlen] at t1
      have hd := delPage B gq Cq (m + 1) _ (ps.set m (p ++ q)) (by omega) (by omega) _ (by have := t2.size; have := hb3.size; omega) t1
      rw [hlen, List.length_append, show (((m + 1 : Nat)) : Int) = (m : Int) + 1 by omega, show (m : Int) + 1 + 1 = (m : Int) + 2 by omega] at hd
      refine hd.mono ?_
      rintro e w' ⟨rfl, ho, hb⟩
      have e1 : (ps.set m (p ++ q)).take (m + 1) ++ (ps.set m (p ++ q)).drop (m + 1 + 1) = joinP ps m := by
        have hx : (ps.set m (p ++ q))[m]? = some (p ++ q) := List.getElem?_set_self (by omega)
        rw [take_succ_at hx, List.take_set_of_le (Nat.le_refl _), List.drop_set_of_lt (by omega), hJ]
        simp
      rw [e1] at ho
      obtain ⟨ao, cap, e, _⟩ := ownPs_lies ho
      rw [e] at ho ⊢
      rw [List.length_append] at t2
      exact ⟨ao, cap, rfl, ho, ((hb3.mono hB).trans t2).trans hb⟩
    clear hJ
    obtain ⟨bo2, c2, e2, hlq, _⟩ := own_lies hqw
    cases e2
    have hBw : B ≤ w.drew.heap.size := hB
    rw [hlen2] at hturn f1 f2 f3 ⊢
    clear hc hc2 hown hqw hp hq hlen2 hm hn f1 f2 f3
    go_enter Try.func56, Try.ntmps56
    go_wp2_with fail
    refine wp_region_low (by kernel_rfl) (by kernel_rfl) fun hsome => ?_
    repeat (go_big_quiet_step (fail))
    refine wpQuiet_nil ?_
    rintro _ ⟨z, rfl⟩
    have hz := z.low
    have hz1 := d1 z
    have hz2 := d2 z
    obtain ⟨W, hWe⟩ : ∃ W, W = z.wd := ⟨_, rfl⟩
    rw [← hWe] at hz hz1 hz2 ⊢
    have hpz := own_below hpw hz
    have hlz : LiesPr W W.heap.size (some ⟨g2, 0, none⟩) q := liesPr_next hlq hz hz.size
    have hz3 : W.drew.cell? ⟨gq, m, none⟩ = some (.slice (some ⟨g, 0, none⟩) p.length C) := hz1
    have hz4 : W.drew.cell? ⟨gq, m + 1, none⟩ = some (.slice (some ⟨g2, 0, none⟩) q.length C2) := hz2
    have hBz : B ≤ W.drew.heap.size := Nat.le_trans hB hz.size
    have f9 : (m : Int) < (m : Int) + 2 := by omega
    have f10 : (m : Int) + 1 < (m : Int) + 2 := by omega
    clear d1 d2 hWe hsome
    go_wp2_with fail
    go_region_law (refine step_app_pg rfl (.tmp 35) (.tmp 40) rfl B (.slice (some ⟨g, 0, none⟩) p.length C) p (by simp [Act.eval]) hpz.drew (some ⟨g2, 0, none⟩) C2 q (by simp [Act.eval]) hlz (by omega) hBz ?_; intro v4 w4 ho4 hg4 hn4; obtain ⟨ao4, cap4, rfl, _⟩ := own_lies ho4; obtain ⟨k3, k4, hcall⟩ := hturn W w4 ao4 cap4 hz ho4 (grown_drew hg4) hn4; simp only [List.length_append])
    all_goals
      go_wp2_with (first
        | (go_at_call 55; refine hcall.mono ?_; rintro e w6 ⟨ao6, cap6, rfl, ho6, hb6⟩))
      go_ret
      exact ⟨ao6, cap6, rfl, ho6, hb6⟩
  · rw [if_neg h4] at hJ
    have f8 : (4 : Int) < (p.length : Int) + (q.length : Int) := by omega
    rw [hJ]
    have hdone : ∀ z : Low w, ∃ ao cap, Ending.returned (.slice (some ⟨gq, 0, none⟩) ps.length Cq) = .returned (.slice ao ps.length cap) ∧ OwnPs B z.wd (.slice ao ps.length cap) ps ∧ Below B w z.wd := fun z => ⟨_, _, rfl, ownPg_ps (ownPg_below hown z.low), z.low.mono hB⟩
    rw [hlen2] at hdone f1 f2 f3 ⊢
    clear hJ hc hc2 hown hqw hpw hp hq hlen2 hm hn f1 f2 f3
    go_enter Try.func56, Try.ntmps56
    go_wp2_with fail
    refine wp_region_low (by kernel_rfl) (by kernel_rfl) fun hsome => ?_
    repeat (go_big_quiet_step (fail))
    refine wpQuiet_nil ?_
    rintro _ ⟨z, rfl⟩
    have hz := hdone z
    go_wp2
    go_ret
    exact hz
end Go.Proofs.Ytgldgedbinbigaa
