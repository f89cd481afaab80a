/-
  Contracts: pages with a pair more (7.2).
-/
import Derived.Test.YtgldgedbinbigaaPFind
import Derived.Test.YtgldgedbinbigaaPCop
import Derived.Test.YtgldgedbinbigaaPIns
import Derived.Test.YtgldgedbinbigaaPCut
import Derived.Test.YtgldgedbinbigaaPTurn
import Derived.Test.YtgldgedbinbigaaPPtM
import Derived.Deep.RegionWith
namespace Go.Proofs.Ytgldgedbinbigaa
open Go.RowKit Num
open scoped Classical
set_option linter.unusedVariables false

theorem lies_drop {w : World} {B g C : Nat} {p : List Pr} (h : w.ownsRow B 69 2 (.slice (some ⟨g, 0, none⟩) p.length C) p.length (prCells p)) (k : Nat) : LiesPr w w.heap.size (some ⟨g, k * 2, none⟩) (p.drop k) := by
  obtain ⟨ao, cap, e, hl, _⟩ := own_lies h
  cases e
  intro i x hx
  rw [List.getElem?_drop] at hx
  obtain ⟨a, e, hb, h1⟩ := hl (k + i) x hx
  cases e
  refine ⟨_, rfl, hb, ?_⟩
  rw [Addr.add_lit] at h1 ⊢
  rw [show k * 2 + i * 2 = 0 + (k + i) * 2 by omega]
  exact h1
theorem prCells_split (p : List Pr) (k : Nat) : prCells p = prCells (p.take k) ++ prCells (p.drop k) := by rw [← prCells_append, List.take_append_drop]
theorem below_grown {B : Nat} {w w1 : World} {g : Nat} (h : w.grownBy w1 (some g)) (hg : B ≤ g) (hB : B ≤ w.heap.size) : Below B w w1 := ⟨h.os, h.tape, h.output, h.size, fun k hk => h.block k (by omega) (by intro e; cases e; omega)⟩

theorem take_one {cs : List Value} {ps : Pages} (h : cs.length = ps.length) (i : Nat) : (cs.take i).length = (ps.take i).length := by
  rw [List.length_take, List.length_take, h]
theorem insPage (B gq Cq i : Nat) (cs : List Value) (ps : Pages) (c : Value) (q : List Pr) (hi : i ≤ ps.length) (hn : ps.length ≤ 1000) (w : World) (hB : B ≤ w.heap.size) (hown : OwnPg B w (.slice (some ⟨gq, 0, none⟩) ps.length Cq) cs ps) (hq : w.ownsRow B 69 2 c q.length (prCells q)) :
    Calls Try.prog 61 #[.slice (some ⟨gq, 0, none⟩) ps.length Cq, .int .i64 (i : Int), .slice (some ⟨w.heap.size, 0, none⟩) 1 1] (w.alloc (.cells #[c] 38)) fun e w' => ∃ ao cap, e = .returned (.slice ao (ps.length + 1) cap) ∧ OwnPs B w' (.slice ao (ps.length + 1) cap) (ps.take i ++ ([q] ++ ps.drop i)) ∧ Below B w w' := by
  obtain ⟨hl, hrow, hV, hap⟩ := hown
  have hone := pages_one hl hV
  have hgq := hrow.lt gq rfl
  have h := ins_pg B gq Cq ps.length i w.heap.size (cs.take i) (cs.drop i) [c] (by rw [List.length_take]; omega) (by rw [List.length_drop]; omega) rfl (fun v hv => hone v (List.mem_of_mem_take hv)) (fun v hv => hone v (List.mem_of_mem_drop hv)) (by intro u hu; rw [List.mem_singleton.1 hu]; exact own_one hq) hi (by omega) (w.alloc (.cells #[c] 38)) (by omega) (by rw [List.take_append_drop]; exact hrow.alloc _) (heap_new w _)
  refine h.mono ?_
  rintro e w' ⟨ao, cap, rfl, hrow', hgr, _⟩
  have hkeep : ∀ (d : Value) (r : List Pr), w.ownsRow B 69 2 d r.length (prCells r) → w'.ownsRow B 69 2 d r.length (prCells r) := fun d r hd => (hd.alloc _).kept hgr (ne_or (fun g hg hx => own_unlike hrow hd (by decide) g hx hg))
  refine ⟨ao, cap, rfl, ownPs_mk (cs := cs.take i ++ ([c] ++ cs.drop i)) ?_ ?_ ?_, ?_⟩
  · simp [hl]
  · have e1 : (ps.take i ++ ([q] ++ ps.drop i)).length = ps.length + 1 := by
      simp
      omega
    rw [e1, ← List.append_assoc]
    exact hrow'
  · refine pagesV_append (take_one hl i) (fun j d r hd hr => hkeep d r (pagesV_take hV i j d r hd hr)) (pagesV_append rfl (pagesV_one (hkeep c q hq)) (fun j d r hd hr => hkeep d r (pagesV_drop hV i j d r hd hr)))
  · exact ((Below.refl B w).alloc hB _).trans (below_grown hgr hgq.1 (by simp; omega))

set_option maxRecDepth 100000 in
set_option maxHeartbeats 4000000 in
theorem parted_any (B gq Cq i : Nat) (cs : List Value) (ps : Pages) (p : List Pr) (hp : ps[i]? = some p) (h5 : 5 ≤ p.length ∧ p.length ≤ 1000) (hn : ps.length ≤ 1000) (w : World) (hB : B ≤ w.heap.size) (hown : OwnPg B w (.slice (some ⟨gq, 0, none⟩) ps.length Cq) cs ps) :
    Calls Try.prog 53 #[.slice (some ⟨gq, 0, none⟩) ps.length Cq, .int .i64 (i : Int)] w fun e w' => ∃ ao cap, e = .returned (.slice ao (ps.length + 1) cap) ∧ OwnPs B w' (.slice ao (ps.length + 1) cap) (ps.take i ++ (p.take 4 :: p.drop 4 :: ps.drop (i + 1))) ∧ Below B w w' := by
  have hil := (List.getElem?_eq_some_iff.1 hp).1
  have hcl := hown.len
  have hc : cs[i]? = some (cs[i]'(by omega)) := List.getElem?_eq_getElem _
  have hpw := hown.pages i _ p hc hp
  obtain ⟨g, C, hce⟩ := own_some hpw (by omega)
  rw [hce] at hc hpw
  obtain ⟨_, _, _, _, hpC, hCm, _⟩ := row_open hpw
  have hgl := (hpw.lt g rfl).2
  have k1 : w.cell? ⟨gq, i, none⟩ = some (.slice (some ⟨g, 0, none⟩) p.length C) := row_cell hown.row hc
  have hcall := clone_any (some ⟨g, 8, none⟩) (C - 4) (p.drop 4) (by intro e; have := congrArg List.length e; simp at this; omega) (by rw [List.length_drop]; omega) w (lies_drop hpw 4)
  have hdel : ∀ w1, Below w.heap.size w w1 → Calls Try.prog 54 #[.slice (some ⟨g, 0, none⟩) p.length C, .int .i64 4, .int .i64 (p.length : Int)] w1.drew fun e w' => e = .returned (.slice (some ⟨g, 0, none⟩) 4 C) ∧ w'.ownsRow B 69 2 (.slice (some ⟨g, 0, none⟩) 4 C) 4 (prCells (p.take 4)) ∧ w1.grownBy w' (some g) := by
    intro w1 hb1
    have h1 : w1.drew.ownsRow B 69 2 (.slice (some ⟨g, 0, none⟩) p.length C) p.length (prCells (p.take 4) ++ prCells (p.drop 4) ++ []) := by
      rw [List.append_nil, ← prCells_split]
      exact (own_below hpw hb1).drew
    have h2 := cut_pr B g C p.length 4 p.length 4 (prCells (p.take 4)) (prCells (p.drop 4)) [] (by rw [prCells_len, List.length_take]; omega) (by rw [prCells_len, List.length_drop]) (by simp) (by simp) (by omega) (Nat.le_refl _) (by omega) (by omega) w1.drew h1
    rw [List.append_nil] at h2
    exact h2.mono fun e w' ⟨a, b, c⟩ => ⟨a, b, grown_drew c⟩
  have hk2 : ∀ w1 w2 : World, Below w.heap.size w w1 → w1.grownBy w2 (some g) → w2.cell? ⟨gq, i, none⟩ = some (.slice (some ⟨g, 0, none⟩) p.length C) ∧ w2.frozen? ⟨gq, i, none⟩ = false := by
    intro w1 w2 hb1 hg2
    have hr2 := (own_below hown.row hb1).kept hg2 (ne_or (own_unlike (own_below hown.row hb1) (own_below hpw hb1) (by decide)))
    exact ⟨row_cell hr2 hc, hr2.frozenAt i⟩
  have hfin : ∀ (w1 w2 : World) ao1 cap1, w1.ownsRow w.heap.size 69 2 (.slice ao1 (p.drop 4).length cap1) (p.drop 4).length (prCells (p.drop 4)) → Below w.heap.size w w1 → w2.ownsRow B 69 2 (.slice (some ⟨g, 0, none⟩) 4 C) 4 (prCells (p.take 4)) → w1.grownBy w2 (some g) →
      Calls Try.prog 61 #[.slice (some ⟨gq, 0, none⟩) ps.length Cq, .int .i64 ((i : Int) + 1), .slice (some ⟨w2.heap.size, 0, none⟩) 1 1] ((w2.setCell ⟨gq, i, none⟩ (.slice (some ⟨g, 0, none⟩) 4 C)).alloc (.cells #[.slice ao1 (p.length - 4) cap1] 38)) fun e w' => ∃ ao cap, e = .returned (.slice ao (ps.length + 1) cap) ∧ OwnPs B w' (.slice ao (ps.length + 1) cap) (ps.take i ++ (p.take 4 :: p.drop 4 :: ps.drop (i + 1))) ∧ Below B w w' := by
    intro w1 w2 ao1 cap1 h1 hb1 h2 hg2
    have hs1 := hb1.size
    have htl : (p.take 4).length = 4 := by rw [List.length_take]; omega
    obtain ⟨hturn, hbt⟩ := ownPg_turn (w1 := w2) (c' := .slice (some ⟨g, 0, none⟩) 4 C) (p' := p.take 4) (ownPg_below hown hb1) hc hp (by rw [htl]; exact h2) hg2 (.inl rfl)
    have hz : (w2.setCell ⟨gq, i, none⟩ (.slice (some ⟨g, 0, none⟩) 4 C)).heap.size = w2.heap.size := by simp
    have hr2 := (own_below hown.row hb1).kept hg2 (ne_or (own_unlike (own_below hown.row hb1) (own_below hpw hb1) (by decide)))
    have hq2 : w2.ownsRow B 69 2 (.slice ao1 (p.drop 4).length cap1) (p.drop 4).length (prCells (p.drop 4)) := own_mono (h1.kept hg2 (ne_or (fun x hx e => by cases e; have := (h1.lt g hx).1; omega))) hB
    have hq3 := hq2.kept (hr2.stored i (.slice (some ⟨g, 0, none⟩) 4 C)).2 (ne_or (fun x hx e => own_unlike hr2 hq2 (by decide) x e hx))
    have hlen : (ps.set i (p.take 4)).length = ps.length := by simp
    rw [← hlen] at hturn
    have hc3 := insPage B gq Cq (i + 1) _ (ps.set i (p.take 4)) _ _ (by rw [hlen]; omega) (by rw [hlen]; omega) _ (by rw [hz]; have := hg2.size; omega) hturn hq3
    rw [hz, hlen, List.length_drop, show (((i + 1 : Nat)) : Int) = (i : Int) + 1 by omega] at hc3
    refine hc3.mono ?_
    rintro e w' ⟨ao, cap, rfl, ho, hb⟩
    refine ⟨ao, cap, rfl, ?_, ((hb1.mono hB).trans hbt).trans hb⟩
    have e1 : (ps.set i (p.take 4)).take (i + 1) ++ ([p.drop 4] ++ (ps.set i (p.take 4)).drop (i + 1)) = ps.take i ++ (p.take 4 :: p.drop 4 :: ps.drop (i + 1)) := by
      have hx : (ps.set i (p.take 4))[i]? = some (p.take 4) := List.getElem?_set_self hil
      rw [take_succ_at hx, List.take_set_of_le (Nat.le_refl _), List.drop_set_of_lt (by omega)]
      simp
    rw [e1] at ho
    exact ho
  rw [List.length_drop] at hcall hfin
  unfold maxLen at hCm
  have f1 : (i : Int) < (ps.length : Int) := by omega
  have f2 : ¬ (C = 4) := by omega
  have f3 : (4 : Int) ≤ (p.length : Int) := by omega
  have f4 : 4 ≤ p.length := by omega
  have kk : ∀ w1 : World, Below w.heap.size w w1 → w1.cell? ⟨gq, i, none⟩ = some (.slice (some ⟨g, 0, none⟩) p.length C) := fun w1 hb1 => (hb1.cell (cell_lt k1)).trans k1
  clear hown hpw hp hc hce
  go_enter Try.func53, Try.ntmps53
  go_wp2_with (first
    | (go_at_call 38; refine hcall.mono ?_; rintro e w1 ⟨ao1, cap1, rfl, hown1, hb1⟩))
  have k2 := kk w1 hb1
  have k3 : w1.drew.cell? ⟨gq, i, none⟩ = some (.slice (some ⟨g, 0, none⟩) p.length C) := k2
  clear hcall kk
  go_region_with (go_at_call 54; refine (hdel w1 hb1).mono ?_; rintro e w2 ⟨rfl, hown2, hg2⟩; obtain ⟨k4, k5⟩ := hk2 w1 w2 hb1 hg2)
  all_goals
    go_wp2_with (first
      | (go_at_call 61; refine (hfin w1 w2 ao1 cap1 hown1 hb1 hown2 hg2).mono ?_; rintro e w3 ⟨ao3, cap3, rfl, ho3, hb3⟩))
    go_ret
    exact ⟨ao3, cap3, rfl, ho3, hb3⟩
end Go.Proofs.Ytgldgedbinbigaa
