/-
  Lists of the call's own whose parts are overwritten: what stays. How long what is under a sum is.
-/
import Derived.Test.YtbhaahkjglfjmaaCGetB
import Derived.Test.YtbhaahkjglfjmaaCSame
namespace Go.Proofs.Ytbhaahkjglfjmaa
open Go.RowKit Num
set_option linter.unusedVariables false

/-- So many things lie in a row of their own. -/
def Num.Sp1 (e : TypeId) (sz : Nat) (w : World) (B : Nat) (ao : Option Addr) (n : Nat) : Prop := 0 < n → ∃ (g : Nat) (cur : Array Value), ao = some ⟨g, 0, none⟩ ∧ B ≤ g ∧ w.heap[g]? = some (.cells cur e (0, 0)) ∧ sz * n ≤ cur.size
/-- Rows of values lie in a row of their own, and their values too. -/
def Num.SpR (w : World) (B : Nat) (ao : Option Addr) (l : List (List Val)) : Prop := ∀ (i : Nat) y, l[i]? = some y → ∃ (g : Nat) (cur : Array Value), ao = some ⟨g, 0, none⟩ ∧ w.heap[g]? = some (.cells cur 42 (0, 0)) ∧ ∃ a cap, cur[i]? = some (.slice a y.length cap) ∧ Sp1 45 4 w B a y.length
/-- The rows keep their shapes. -/
structure Num.Shape (w w' : World) : Prop where
  wrt : ∀ (g : Nat) cur, w.heap[g]? = some (.cells cur 41 (0, 0)) → ∃ cur', w'.heap[g]? = some (.cells cur' 41 (0, 0)) ∧ cur'.size = cur.size
  val : ∀ (g : Nat) cur, w.heap[g]? = some (.cells cur 45 (0, 0)) → ∃ cur', w'.heap[g]? = some (.cells cur' 45 (0, 0)) ∧ cur'.size = cur.size
  row : ∀ (g : Nat) cur, w.heap[g]? = some (.cells cur 42 (0, 0)) → w'.heap[g]? = some (.cells cur 42 (0, 0))
theorem spW_shape {w w' : World} {B n : Nat} {ao : Option Addr} (h : Sp1 41 3 w B ao n) (hs : Shape w w') : Sp1 41 3 w' B ao n := fun hn => by
  obtain ⟨g, cur, e, hB, hg, hz⟩ := h hn
  obtain ⟨cur', hg', hz'⟩ := hs.wrt g cur hg
  exact ⟨g, cur', e, hB, hg', by omega⟩
theorem spV_shape {w w' : World} {B n : Nat} {ao : Option Addr} (h : Sp1 45 4 w B ao n) (hs : Shape w w') : Sp1 45 4 w' B ao n := fun hn => by
  obtain ⟨g, cur, e, hB, hg, hz⟩ := h hn
  obtain ⟨cur', hg', hz'⟩ := hs.val g cur hg
  exact ⟨g, cur', e, hB, hg', by omega⟩
theorem spR_shape {w w' : World} {B : Nat} {ao : Option Addr} {l : List (List Val)} (h : SpR w B ao l) (hs : Shape w w') : SpR w' B ao l := fun i y hy => by
  obtain ⟨g, cur, e, hg, a, cap, hc, hv⟩ := h i y hy
  exact ⟨g, cur, e, hs.row g cur hg, a, cap, hc, spV_shape hv hs⟩
theorem shape_below {w w' : World} (h : Below w.heap.size w w') : Shape w w' :=
  ⟨fun g cur hg => ⟨cur, below_box h hg, rfl⟩, fun g cur hg => ⟨cur, below_box h hg, rfl⟩, fun g cur hg => below_box h hg⟩
theorem shape_wrt {w : World} {g o : Nat} {cur : Array Value} (hg : w.heap[g]? = some (.cells cur 41 (0, 0))) (u : Value) : Shape w (w.setCell ⟨g, o, none⟩ u) := by
  have hs := heap_setCell_same w g o _ _ u hg
  refine ⟨fun g' cur' hg' => ?_, fun g' cur' hg' => ?_, fun g' cur' hg' => ?_⟩
  · by_cases e : g' = g
    · subst e
      rw [hg] at hg'
      simp at hg'
      subst hg'
      exact ⟨_, hs, by simp⟩
    · exact ⟨cur', set_far e hg' u, rfl⟩
  · by_cases e : g' = g
    · subst e
      rw [hg] at hg'
      simp at hg'
    · exact ⟨cur', set_far e hg' u, rfl⟩
  · by_cases e : g' = g
    · subst e
      rw [hg] at hg'
      simp at hg'
    · exact set_far e hg' u
theorem shape_val {w : World} {g o : Nat} {cur : Array Value} (hg : w.heap[g]? = some (.cells cur 45 (0, 0))) (u : Value) : Shape w (w.setCell ⟨g, o, none⟩ u) := by
  have hs := heap_setCell_same w g o _ _ u hg
  refine ⟨fun g' cur' hg' => ?_, fun g' cur' hg' => ?_, fun g' cur' hg' => ?_⟩
  · by_cases e : g' = g
    · subst e
      rw [hg] at hg'
      simp at hg'
    · exact ⟨cur', set_far e hg' u, rfl⟩
  · by_cases e : g' = g
    · subst e
      rw [hg] at hg'
      simp at hg'
      subst hg'
      exact ⟨_, hs, by simp⟩
    · exact ⟨cur', set_far e hg' u, rfl⟩
  · by_cases e : g' = g
    · subst e
      rw [hg] at hg'
      simp at hg'
    · exact set_far e hg' u
theorem sp1_of {α : Type} {V : Nat → World → List Value → α → Prop} {e : TypeId} {sz B : Nat} {w : World} {ao : Option Addr} {cap : Nat} {l : List α} (h : OwnS V e sz B w (.slice ao l.length cap) l) : Sp1 e sz w B ao l.length := fun hn => by
  obtain ⟨css, h1, h2, h3, h4⟩ := h
  rcases h3.2 with ⟨hv, h0⟩ | ⟨g, cap, cur, hv, hB, hg, hcap, _, hcs, _⟩
  · omega
  · cases hv
    exact ⟨g, cur, rfl, hB, hg, by rw [hcs, Nat.mul_comm]; exact Nat.mul_le_mul_right _ hcap⟩
theorem spR_of {B : Nat} {w : World} {ao : Option Addr} {cap : Nat} {l : List (List Val)} (h : OwnX B w (.slice ao l.length cap) l) : SpR w B ao l := by
  obtain ⟨css, h1, h2, h3, h4⟩ := h
  intro i y hy
  have hi := (List.getElem?_eq_some_iff.1 hy).1
  rcases h3.2 with ⟨hv, h0⟩ | ⟨g, cap', cur, hv, hB, hg, hcap, _, hcs, htk⟩
  · omega
  · cases hv
    have hci : css[i]? = some (css[i]'(by omega)) := List.getElem?_eq_getElem (by omega)
    obtain ⟨v, hc, hk⟩ := h4 i _ y hci hy
    have hf := flat_get (fun cs hcs => (h2 cs hcs).1) i _ hci 0 (by omega)
    rw [hc] at hf
    obtain ⟨a, c2, rfl⟩ := OwnS.shape hk
    refine ⟨g, cur, rfl, hg, a, c2, ?_, sp1_of hk⟩
    rw [← htk] at hf
    rw [List.getElem?_take] at hf
    split at hf
    · simpa using hf
    · simp at hf
theorem cell_in {w : World} {g o : Nat} {cur : Array Value} {t : TypeId} (hg : w.heap[g]? = some (.cells cur t (0, 0))) (ho : o < cur.size) : ∃ u, w.cell? ⟨g, o, none⟩ = some u := ⟨cur[o], box_cell hg o _ (Array.getElem?_eq_getElem ho)⟩
theorem open_len4 (s : ByteArray) (plain : List UInt8) (h : openL s.data.toList = some plain) : plain.length + 4 = s.size := by
  have hd : s.data.toList.length = s.size := rfl
  unfold openL at h
  split at h
  · cases h
  · split at h
    · cases h
      rw [List.length_take]
      omega
    · cases h
theorem lenC_of {c : Cmd} (h : CmdOk c) : LenC c := by
  have h1 := h.keys.1
  have h2 := h.rngs.1
  have h3 := h.wrts.1
  have h4 := h.rows.1
  exact ⟨by omega, by omega, by omega, by omega, fun y hy => by have := (h.rows.2 y hy).1; omega⟩
theorem rdCmd_len {plain : List UInt8} {y : Cmd} {r : List UInt8} (h : rdCmd plain = some (y, r)) : (cmdB y).length + r.length = plain.length := by
  have h2 := rdCmd_ex plain (y, r) h
  exact h2
theorem rdCmd_in' {plain : List UInt8} {y : Cmd} {r : List UInt8} (h : rdCmd plain = some (y, r)) : CmdIn y := rdCmd_in plain (y, r) h
theorem lenC0 : LenC cmd0 := lenC_of cmd0_ok
theorem same0 (w : World) : Calls Try.prog 16 #[.agg #[.int .i64 0, .int .i64 0, .int .i64 0, .int .i64 0, .slice none 0 0, .slice none 0 0, .slice none 0 0, .int .i64 0, .int .i64 0, .int .i64 0, .string ⟨#[]⟩, .int .i64 0, .slice none 0 0], .agg #[.int .i64 0, .int .i64 0, .int .i64 0, .int .i64 0, .slice none 0 0, .slice none 0 0, .slice none 0 0, .int .i64 0, .int .i64 0, .int .i64 0, .string ⟨#[]⟩, .int .i64 0, .slice none 0 0]] w fun e w' => e = .returned (.bool true) ∧ Below w.heap.size w w' := cmd_same cmd0 lenC0 cs0 cs0 w (liesC0 w) (liesC0 w)
end Go.Proofs.Ytbhaahkjglfjmaa
