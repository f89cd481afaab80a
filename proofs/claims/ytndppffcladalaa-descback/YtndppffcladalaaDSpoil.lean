/-
  Tables of the call's own whose names and whose columns' numbers are overwritten: what stays.
-/
import Derived.Test.YtndppffcladalaaDGetB
namespace Go.Proofs.Ytndppffcladalaa
open Go.RowKit Num
set_option linter.unusedVariables false

/-- So many columns lie in a row of their own. -/
def Num.SpK (w : World) (B : Nat) (v : Value) (n : Nat) : Prop := ∃ ao cap, v = .slice ao n cap ∧ (0 < n → ∃ g cur, ao = some ⟨g, 0, none⟩ ∧ B ≤ g ∧ w.heap[g]? = some (.cells cur 45 (0, 0)) ∧ 9 * n ≤ cur.size)
/-- Tables lie in a row of their own, and their columns too. -/
def Num.Sp (w : World) (B : Nat) (ao : Option Addr) (tabs : List Tab) : Prop := ∀ (i : Nat) t, tabs[i]? = some t → ∃ g cur, ao = some ⟨g, 0, none⟩ ∧ B ≤ g ∧ w.heap[g]? = some (.cells cur 40 (0, 0)) ∧ 5 * tabs.length ≤ cur.size ∧ ∃ vk, cur[i * 5 + 2]? = some vk ∧ SpK w B vk t.cols.length
/-- The rows keep their shapes. -/
structure Num.Shape (w w' : World) : Prop where
  tab : ∀ (g : Nat) cur, w.heap[g]? = some (.cells cur 40 (0, 0)) → ∃ cur', w'.heap[g]? = some (.cells cur' 40 (0, 0)) ∧ cur'.size = cur.size ∧ ∀ j : Nat, cur'[j * 5 + 2]? = cur[j * 5 + 2]?
  col : ∀ (g : Nat) cur, w.heap[g]? = some (.cells cur 45 (0, 0)) → ∃ cur', w'.heap[g]? = some (.cells cur' 45 (0, 0)) ∧ cur'.size = cur.size
theorem Num.SpK.shape {w w' : World} {B n : Nat} {v : Value} (h : SpK w B v n) (hs : Shape w w') : SpK w' B v n := by
  obtain ⟨ao, cap, e, h2⟩ := h
  refine ⟨ao, cap, e, fun hn => ?_⟩
  obtain ⟨g, cur, e1, hB, hg, hz⟩ := h2 hn
  obtain ⟨cur', hg', hz'⟩ := hs.col g cur hg
  exact ⟨g, cur', e1, hB, hg', by omega⟩
theorem Num.Sp.shape {w w' : World} {B : Nat} {ao : Option Addr} {tabs : List Tab} (h : Sp w B ao tabs) (hs : Shape w w') : Sp w' B ao tabs := by
  intro i t ht
  obtain ⟨g, cur, e, hB, hg, hz, vk, hk, hK⟩ := h i t ht
  obtain ⟨cur', hg', hz', hj⟩ := hs.tab g cur hg
  exact ⟨g, cur', e, hB, hg', by omega, vk, by rw [hj]; exact hk, hK.shape hs⟩
theorem shape_below {w w' : World} (h : Below w.heap.size w w') : Shape w w' :=
  ⟨fun g cur hg => ⟨cur, below_box h hg, rfl, fun _ => rfl⟩, fun g cur hg => ⟨cur, below_box h hg, rfl⟩⟩
theorem shape_tab {w : World} {g i : Nat} {cur : Array Value} (hg : w.heap[g]? = some (.cells cur 40 (0, 0))) (u : Value) : Shape w (w.setCell ⟨g, i * 5 + 1, none⟩ u) := by
  have hs := heap_setCell_same w g (i * 5 + 1) _ _ u hg
  refine ⟨fun g' cur' hg' => ?_, fun g' cur' hg' => ?_⟩
  · by_cases e : g' = g
    · subst e
      rw [hg] at hg'
      simp at hg'
      subst hg'
      refine ⟨_, hs, by simp, fun j => ?_⟩
      rw [Array.getElem?_setIfInBounds_ne (by omega)]
    · exact ⟨cur', set_far e hg' u, rfl, fun _ => rfl⟩
  · by_cases e : g' = g
    · subst e
      rw [hg] at hg'
      simp at hg'
    · exact ⟨cur', set_far e hg' u, rfl⟩
theorem shape_col {w : World} {g o : Nat} {cur : Array Value} (hg : w.heap[g]? = some (.cells cur 45 (0, 0))) (u : Value) : Shape w (w.setCell ⟨g, o, none⟩ u) := by
  have hs := heap_setCell_same w g o _ _ u hg
  refine ⟨fun g' cur' hg' => ?_, fun g' cur' hg' => ?_⟩
  · by_cases e : g' = g
    · subst e
      rw [hg] at hg'
      simp at hg'
    · exact ⟨cur', set_far e hg' u, rfl, fun _ => rfl⟩
  · by_cases e : g' = g
    · subst e
      rw [hg] at hg'
      simp at hg'
      subst hg'
      exact ⟨_, hs, by simp⟩
    · exact ⟨cur', set_far e hg' u, rfl⟩
theorem spK_of {B : Nat} {w : World} {v : Value} {l : List Colm} (h : OwnK B w v l) : SpK w B v l.length := by
  obtain ⟨css, h1, h2, h3, h4⟩ := h
  rcases h3.2 with ⟨hv, h0⟩ | ⟨g, cap, cur, hv, hB, hg, hcap, _, hcs, _⟩
  · exact ⟨none, 0, by rw [hv, h0], fun hn => by omega⟩
  · exact ⟨_, cap, hv, fun _ => ⟨g, cur, rfl, hB, hg, by rw [hcs]; omega⟩⟩
theorem sp_of {B : Nat} {w : World} {ao : Option Addr} {cap : Nat} {l : List Tab} (h : OwnT B w (.slice ao l.length cap) l) : Sp w B ao l := by
  obtain ⟨css, h1, h2, h3, h4⟩ := h
  intro i t ht
  have hi := (List.getElem?_eq_some_iff.1 ht).1
  rcases h3.2 with ⟨hv, h0⟩ | ⟨g, cap', cur, hv, hB, hg, hcap, _, hcs, htk⟩
  · omega
  · cases hv
    have hci : css[i]? = some (css[i]'(by omega)) := List.getElem?_eq_getElem (by omega)
    obtain ⟨v, u, hc, hk, _⟩ := h4 i _ t hci ht
    have hf := flat_get (fun cs hcs => (h2 cs hcs).1) i _ hci 2 (by omega)
    rw [hc] at hf
    refine ⟨g, cur, rfl, hB, hg, by rw [hcs]; omega, v, ?_, spK_of hk⟩
    rw [← htk] at hf
    rw [List.getElem?_take] at hf
    split at hf
    · simpa using hf
    · simp at hf
/-- The name's place of a table. -/
theorem cell_in {w : World} {g o : Nat} {cur : Array Value} {t : TypeId} (hg : w.heap[g]? = some (.cells cur t (0, 0))) (ho : o < cur.size) : ∃ u, w.cell? ⟨g, o, none⟩ = some u := ⟨cur[o], box_cell hg o _ (Array.getElem?_eq_getElem ho)⟩
end Go.Proofs.Ytndppffcladalaa
