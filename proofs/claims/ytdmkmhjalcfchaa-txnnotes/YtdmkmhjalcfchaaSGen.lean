/-
  A store in memory, step by step: a number in its box, its pages, a key's row, its map.
-/
import Derived.Test.YtdmkmhjalcfchaaSScn
namespace Go.Proofs.Ytdmkmhjalcfchaa
open Go.RowKit Go.Maps Num
open scoped Classical
set_option linter.unusedVariables false
set_option maxRecDepth 100000

theorem obj_ne {w : World} {i j : Nat} {o o' : Obj} (hi : w.heap[i]? = some o) (hj : w.heap[j]? = some o') (h : o ≠ o') : i ≠ j := by
  rintro rfl
  rw [hi] at hj
  exact h (Option.some.inj hj)
theorem grown_keep {w w' : World} {p : Option Nat} (hg : w.grownBy w' p) {i : Nat} {o : Obj} (hi : w.heap[i]? = some o) (hne : some i ≠ p) : w'.heap[i]? = some o := by
  rw [hg.block i (Array.getElem?_eq_some_iff.1 hi).1 hne]
  exact hi
/-- The box is written. -/
theorem stoG_box {B : Nat} {w : World} {w1 : World} {g : Nat} {gm : Nat} {room : Int} {size : Int} {top : Int} {K : ByteArray → List Ver} {D : DataW Value} {blk : ByteArray → Nat} {capf : ByteArray → Nat} {N : Nat} {pv : Value} {ps : Pages} (h : StoG B w g gm room size top K D blk capf N pv ps) (hg : w.grownBy w1 (some g)) {room' size' top' : Int} {pv' : Value} {ps' : Pages}
    (hb : w1.heap[g]? = some (.cells #[.int .i64 room', .int .i64 size', .int .i64 top', .map (some gm), pv'] 106 (0, 0))) (hp : OwnPs B w pv' ps') :
    StoG B w1 g gm room' size' top' K D blk capf N pv' ps' ∧ TurnP B w w1 := by
  have hlt := (Array.getElem?_eq_some_iff.1 h.box).1
  have hk : ∀ (i : Nat) (o : Obj), w.heap[i]? = some o → (∀ cs fr, o ≠ .cells cs 106 fr) → w1.heap[i]? = some o := fun i o e ho => grown_keep hg e (by
    intro e2
    cases e2
    rw [h.box] at e
    cases e
    exact ho _ _ rfl)
  refine ⟨⟨hb, h.gB, h.mB, ownM_same h.map (fun es c e => hk gm _ e (by simp)), rows_same h.rows (fun i cur _ e => hk i _ e (by simp)), ownPs_same hp (fun i cur _ e => hk i _ e (by simp)) (fun i cur _ e => hk i _ e (by simp))⟩, ?_⟩
  refine Turns.of_grown hg h.gB (Nat.le_trans h.gB (Nat.le_of_lt hlt)) (fun o e => ?_)
  rw [h.box] at e
  cases e
  exact fun h => h.1 rfl
theorem set_heap {w : World} {b i : Nat} {cs : Array Value} {t : TypeId} (h : w.heap[b]? = some (.cells cs t (0, 0))) (u : Value) : (w.setCell ⟨b, i, none⟩ u).heap[b]? = some (.cells (cs.setIfInBounds i u) t (0, 0)) := by
  show (w.heap.modify b _)[b]? = _
  rw [Array.getElem?_modify, if_pos rfl, h]
  rfl
theorem stoG_size {B : Nat} {w : World} {g : Nat} {gm : Nat} {room : Int} {size : Int} {top : Int} {K : ByteArray → List Ver} {D : DataW Value} {blk : ByteArray → Nat} {capf : ByteArray → Nat} {N : Nat} {pv : Value} {ps : Pages} (h : StoG B w g gm room size top K D blk capf N pv ps) (n : Int) : StoG B (w.setCell ⟨g, 1, none⟩ (.int .i64 n)) g gm room n top K D blk capf N pv ps ∧ TurnP B w (w.setCell ⟨g, 1, none⟩ (.int .i64 n)) :=
  stoG_box h (grown_set w g 1 _) (set_heap h.box _) h.pages
theorem stoG_top {B : Nat} {w : World} {g : Nat} {gm : Nat} {room : Int} {size : Int} {top : Int} {K : ByteArray → List Ver} {D : DataW Value} {blk : ByteArray → Nat} {capf : ByteArray → Nat} {N : Nat} {pv : Value} {ps : Pages} (h : StoG B w g gm room size top K D blk capf N pv ps) (n : Int) : StoG B (w.setCell ⟨g, 2, none⟩ (.int .i64 n)) g gm room size n K D blk capf N pv ps ∧ TurnP B w (w.setCell ⟨g, 2, none⟩ (.int .i64 n)) :=
  stoG_box h (grown_set w g 2 _) (set_heap h.box _) h.pages
theorem stoG_pages {B : Nat} {w : World} {g : Nat} {gm : Nat} {room : Int} {size : Int} {top : Int} {K : ByteArray → List Ver} {D : DataW Value} {blk : ByteArray → Nat} {capf : ByteArray → Nat} {N : Nat} {pv : Value} {ps : Pages} (h : StoG B w g gm room size top K D blk capf N pv ps) {pv' : Value} {ps' : Pages} (hp : OwnPs B w pv' ps') : StoG B (w.setCell ⟨g, 4, none⟩ pv') g gm room size top K D blk capf N pv' ps' ∧ TurnP B w (w.setCell ⟨g, 4, none⟩ pv') :=
  stoG_box h (grown_set w g 4 _) (set_heap h.box _) hp
theorem row_heap {B : Nat} {w : World} {K : ByteArray → List Ver} {D : DataW Value} {blk : ByteArray → Nat} {capf : ByteArray → Nat} (h : RowsV B w D K blk capf) {k : ByteArray} (hk : K k ≠ []) : ∃ cur, w.heap[blk k]? = some (.cells cur 112 (0, 0)) ∧ B ≤ blk k := by
  rcases (h.row k hk).2 with ⟨e, _⟩ | ⟨g', cap', cur, e, hb, hg, _⟩
  · cases e
  · cases e
    exact ⟨cur, hg, hb⟩
/-- A key's row is written in its place. -/
theorem stoG_row {B : Nat} {w : World} {w1 : World} {g : Nat} {gm : Nat} {room : Int} {size : Int} {top : Int} {K : ByteArray → List Ver} {D : DataW Value} {blk : ByteArray → Nat} {capf : ByteArray → Nat} {N : Nat} {pv : Value} {ps : Pages} (h : StoG B w g gm room size top K D blk capf N pv ps) {k : ByteArray} {q' : List Ver} (hk : K k ≠ []) (hl : q'.length = (K k).length) (hg : w.grownBy w1 (some (blk k)))
    (hown : w1.ownsRow B 112 3 (.slice (some ⟨blk k, 0, none⟩) q'.length (capf k)) q'.length (verCells q')) :
    StoG B w1 g gm room size top (fun x => if x = k then q' else K x) D blk capf N pv ps ∧ TurnP B w w1 := by
  obtain ⟨cur0, hc0, hB0⟩ := row_heap h.rows hk
  have hkp : ∀ (i : Nat) (o : Obj), w.heap[i]? = some o → (∀ cs fr, o ≠ .cells cs 112 fr) → w1.heap[i]? = some o := fun i o e ho => grown_keep hg e (by
    intro e2
    cases e2
    rw [hc0] at e
    cases e
    exact ho _ _ rfl)
  have hq : q' ≠ [] := by
    intro e
    rw [e] at hl
    exact hk (List.eq_nil_of_length_eq_zero hl.symm)
  refine ⟨⟨hkp g _ h.box (by simp), h.gB, h.mB, ownM_same h.map (fun es c e => hkp gm _ e (by simp)), ⟨?_, ?_, ?_, ?_⟩, ownPs_same h.pages (fun i cur _ e => hkp i _ e (by simp)) (fun i cur _ e => hkp i _ e (by simp))⟩, ?_⟩
  · intro x hx
    by_cases e : x = k
    · rw [if_pos e] at hx
      exact absurd hx hq
    · rw [if_neg e] at hx
      exact h.rows.no x hx
  · intro x hx z
    by_cases e : x = k
    · subst e
      rw [if_pos rfl, hl]
      exact h.rows.at_ x hk z
    · rw [if_neg e] at hx ⊢
      exact h.rows.at_ x hx z
  · intro x hx
    by_cases e : x = k
    · subst e
      rw [if_pos rfl]
      exact hown
    · rw [if_neg e] at hx ⊢
      exact (h.rows.row x hx).kept hg (.inr (by
        intro e2
        simp [Value.ownBlock] at e2
        exact h.rows.apart x k hx hk e e2))
  · intro x y hx hy hxy
    have hx' : K x ≠ [] := by
      by_cases e : x = k
      · rw [e]; exact hk
      · rw [if_neg e] at hx; exact hx
    have hy' : K y ≠ [] := by
      by_cases e : y = k
      · rw [e]; exact hk
      · rw [if_neg e] at hy; exact hy
    exact h.rows.apart x y hx' hy' hxy
  · refine Turns.of_grown hg hB0 (Nat.le_trans hB0 (Nat.le_of_lt (Array.getElem?_eq_some_iff.1 hc0).1)) (fun o e => ?_)
    rw [hc0] at e
    cases e
    exact fun h => h.2 rfl
theorem ownM_heap {w : World} {gm : Nat} {n : Nat} {D : DataW Value} (h : OwnM w gm n D) : ∃ es c, w.heap[gm]? = some (.map es c) := by
  obtain ⟨es, c, e, _⟩ := h
  exact ⟨es, c, e⟩
/-- A key has another row. -/
theorem stoG_put {B : Nat} {w : World} {w1 : World} {w2 : World} {g : Nat} {gm : Nat} {room : Int} {size : Int} {top : Int} {K : ByteArray → List Ver} {D : DataW Value} {blk : ByteArray → Nat} {capf : ByteArray → Nat} {N : Nat} {pv : Value} {ps : Pages} (h : StoG B w g gm room size top K D blk capf N pv ps) {k : ByteArray} {q' : List Ver} (hq : q' ≠ []) {g' C' : Nat} (hg : w.grownBy w1 (rowV (K k) (blk k) (capf k)).ownBlock)
    (hown : w1.ownsRow B 112 3 (.slice (some ⟨g', 0, none⟩) q'.length C') q'.length (verCells q')) (hnear : (K k ≠ [] ∧ g' = blk k) ∨ w.heap.size ≤ g')
    (hm : OwnM w2 gm (N + 1) (D.put (litK k) (.held (.slice (some ⟨g', 0, none⟩) q'.length C')))) (hg2 : w1.grownBy w2 (some gm)) :
    StoG B w2 g gm room size top (fun x => if x = k then q' else K x) (D.put (litK k) (.held (.slice (some ⟨g', 0, none⟩) q'.length C'))) (fun x => if x = k then g' else blk x) (fun x => if x = k then C' else capf x) (N + 1) pv ps ∧ TurnP B w w2 := by
  have hlt := (Array.getElem?_eq_some_iff.1 h.box).1
  have hBs : B ≤ w.heap.size := Nat.le_trans h.gB (Nat.le_of_lt hlt)
  -- from w to w1: all but rows of versions
  have hk1 : ∀ (i : Nat) (o : Obj), w.heap[i]? = some o → (∀ cs fr, o ≠ .cells cs 112 fr) → w1.heap[i]? = some o := by
    intro i o e ho
    refine grown_keep hg e ?_
    by_cases hk : K k = []
    · rw [hk, rowV_none]
      simp [Value.ownBlock]
    · rw [rowV_some hk]
      obtain ⟨cur0, hc0, _⟩ := row_heap h.rows hk
      intro e2
      simp [Value.ownBlock] at e2
      rw [e2, hc0] at e
      cases e
      exact ho _ _ rfl
  obtain ⟨es, c, hes⟩ := ownM_heap h.map
  have hes1 := hk1 gm _ hes (by simp)
  -- from w1 to w2: all but the map
  have hk2 : ∀ (i : Nat) (cs : Array Value) (t : TypeId) (fr : Nat × Nat), w1.heap[i]? = some (.cells cs t fr) → w2.heap[i]? = some (.cells cs t fr) := by
    intro i cs t fr e
    refine grown_keep hg2 e ?_
    intro e2
    cases e2
    rw [hes1] at e
    cases e
  have hother : ∀ x, x ≠ k → K x ≠ [] → w2.ownsRow B 112 3 (.slice (some ⟨blk x, 0, none⟩) (K x).length (capf x)) (K x).length (verCells (K x)) := by
    intro x hxk hx
    refine own_same ((h.rows.row x hx).kept hg ?_) (fun i cur _ e => hk2 i _ _ _ e)
    refine .inr ?_
    by_cases hk : K k = []
    · rw [hk, rowV_none]
      simp [Value.ownBlock]
    · rw [rowV_some hk]
      intro e2
      simp [Value.ownBlock] at e2
      exact h.rows.apart x k hx hk hxk e2
  have hfar : ∀ x, x ≠ k → K x ≠ [] → blk x ≠ g' := by
    intro x hxk hx
    rcases hnear with ⟨hk, e⟩ | hge
    · rw [e]
      exact h.rows.apart x k hx hk hxk
    · obtain ⟨cur0, hc0, _⟩ := row_heap h.rows hx
      have := (Array.getElem?_eq_some_iff.1 hc0).1
      omega
  refine ⟨⟨hk2 g _ _ _ (hk1 g _ h.box (by simp)), h.gB, h.mB, hm, ⟨?_, ?_, ?_, ?_⟩, ownPs_same h.pages (fun i cur _ e => hk2 i _ _ _ (hk1 i _ e (by simp))) (fun i cur _ e => hk2 i _ _ _ (hk1 i _ e (by simp)))⟩, ?_, ?_⟩
  · intro x hx
    by_cases e : x = k
    · rw [if_pos e] at hx
      exact absurd hx hq
    · rw [if_neg e] at hx
      rw [has_put_other (litK_ne e)]
      exact h.rows.no x hx
  · intro x hx z
    by_cases e : x = k
    · subst e
      rw [if_pos rfl, if_pos rfl, if_pos rfl]
      exact atKey_put_same h.map.isMap (litK_key x) _ _
    · rw [if_neg e] at hx
      rw [if_neg e, if_neg e, if_neg e, atKey_put_other (litK_ne e)]
      exact h.rows.at_ x hx z
  · intro x hx
    by_cases e : x = k
    · subst e
      rw [if_pos rfl, if_pos rfl, if_pos rfl]
      exact own_same hown (fun i cur _ e => hk2 i _ _ _ e)
    · rw [if_neg e] at hx
      rw [if_neg e, if_neg e, if_neg e]
      exact hother x e hx
  · intro x y hx hy hxy
    by_cases ex : x = k
    · by_cases ey : y = k
      · exact absurd (ex.trans ey.symm) hxy
      · rw [if_neg ey] at hy
        rw [if_pos ex, if_neg ey]
        exact fun e => hfar y ey hy e.symm
    · rw [if_neg ex] at hx
      by_cases ey : y = k
      · rw [if_neg ex, if_pos ey]
        exact hfar x ex hx
      · rw [if_neg ey] at hy
        rw [if_neg ex, if_neg ey]
        exact h.rows.apart x y hx hy hxy
  · have hb1 : Below B w w1 := by
      by_cases hk : K k = []
      · rw [hk, rowV_none] at hg
        exact ⟨hg.os, hg.tape, hg.output, hg.size, fun i hi => hg.block i (by omega) (by simp [Value.ownBlock])⟩
      · rw [rowV_some hk] at hg
        obtain ⟨_, _, hb0⟩ := row_heap h.rows hk
        exact below_grown hg hb0 hBs
    exact hb1.trans (below_grown hg2 h.mB (Nat.le_trans hBs hg.size))
  · intro i o e ho
    cases o with
    | cells cs t fr => exact hk2 i _ _ _ (hk1 i _ e (by
        intro cs' fr' e2
        cases e2
        exact ho.2 rfl))
    | map es' c' => exact grown_keep hg2 (hk1 i _ e (by simp)) (by
        intro e2
        cases e2
        exact ownM_not h.map e ho)
    | _ => exact ho.elim
/-- A key goes. -/
theorem stoG_del {B : Nat} {w : World} {w2 : World} {g : Nat} {gm : Nat} {room : Int} {size : Int} {top : Int} {K : ByteArray → List Ver} {D : DataW Value} {blk : ByteArray → Nat} {capf : ByteArray → Nat} {N : Nat} {pv : Value} {ps : Pages} (h : StoG B w g gm room size top K D blk capf N pv ps) {k : ByteArray} (hm : OwnM w2 gm N (D.del (litK k))) (hg2 : w.grownBy w2 (some gm)) :
    StoG B w2 g gm room size top (fun x => if x = k then [] else K x) (D.del (litK k)) blk capf N pv ps ∧ TurnP B w w2 := by
  have hlt := (Array.getElem?_eq_some_iff.1 h.box).1
  have hBs : B ≤ w.heap.size := Nat.le_trans h.gB (Nat.le_of_lt hlt)
  obtain ⟨es, c, hes⟩ := ownM_heap h.map
  have hk2 : ∀ (i : Nat) (cs : Array Value) (t : TypeId) (fr : Nat × Nat), w.heap[i]? = some (.cells cs t fr) → w2.heap[i]? = some (.cells cs t fr) := by
    intro i cs t fr e
    refine grown_keep hg2 e ?_
    intro e2
    cases e2
    rw [hes] at e
    cases e
  refine ⟨⟨hk2 g _ _ _ h.box, h.gB, h.mB, hm, ⟨?_, ?_, ?_, ?_⟩, ownPs_same h.pages (fun i cur _ e => hk2 i _ _ _ e) (fun i cur _ e => hk2 i _ _ _ e)⟩, below_grown hg2 h.mB hBs, ?_⟩
  · intro x hx
    by_cases e : x = k
    · rw [e]
      exact has_del_same
    · rw [if_neg e] at hx
      rw [has_del_other (litK_ne e)]
      exact h.rows.no x hx
  · intro x hx z
    by_cases e : x = k
    · rw [if_pos e] at hx
      exact absurd rfl hx
    · rw [if_neg e] at hx ⊢
      rw [atKey_del_other (litK_ne e)]
      exact h.rows.at_ x hx z
  · intro x hx
    by_cases e : x = k
    · rw [if_pos e] at hx
      exact absurd rfl hx
    · rw [if_neg e] at hx ⊢
      exact own_same (h.rows.row x hx) (fun i cur _ e => hk2 i _ _ _ e)
  · intro x y hx hy hxy
    have hx' : K x ≠ [] := by
      by_cases e : x = k
      · rw [if_pos e] at hx; exact absurd rfl hx
      · rw [if_neg e] at hx; exact hx
    have hy' : K y ≠ [] := by
      by_cases e : y = k
      · rw [if_pos e] at hy; exact absurd rfl hy
      · rw [if_neg e] at hy; exact hy
    exact h.rows.apart x y hx' hy' hxy
  · intro i o e ho
    cases o with
    | cells cs t fr => exact hk2 i _ _ _ e
    | map es' c' => exact grown_keep hg2 e (by
        intro e2
        cases e2
        exact ownM_not h.map e ho)
    | _ => exact ho.elim
end Go.Proofs.Ytdmkmhjalcfchaa
