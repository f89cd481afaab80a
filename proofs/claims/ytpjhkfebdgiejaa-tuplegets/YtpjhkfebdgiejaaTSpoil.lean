/-
  What was told can be spoilt: a row of values of the call's own is written, cell by cell; another row stays.
-/
import Derived.Test.YtpjhkfebdgiejaaTBackM
import Derived.Test.YtpjhkfebdgiejaaTVals
namespace Go.Proofs.Ytpjhkfebdgiejaa
open Go.RowKit Num
set_option linter.unusedVariables false

theorem valsL_len {s : List UInt8} {l : List Val} (h : valsL s = some l) : l.length ≤ 16 := by
  unfold valsL at h
  split at h
  · rename_i hg
    unfold good at hg
    rw [Bool.and_eq_true] at hg
    have := of_decide_eq_true hg.2
    injection h with h
    subst h
    rw [List.length_map]
    exact this
  · cases h
theorem row_lies {w : World} {base : Nat} {v : Value} {l : List Val} (h : w.ownsRow base 38 4 v l.length (valCells l)) :
    ∃ ao cap, v = .slice ao l.length cap ∧ Lies w w.heap.size ao l ∧ ∀ a, ao = some a → base ≤ a.block := by
  obtain ⟨ao, cap, rfl, hl⟩ := lies_of_row h
  refine ⟨ao, cap, rfl, hl, fun a ha => ?_⟩
  subst ha
  rcases h.2 with ⟨hv, _⟩ | ⟨g, cap', cur, hv, hb, _⟩
  · cases hv
  · cases hv
    exact hb
theorem lies_grown {w w' : World} {B : Nat} {row : Option Nat} {ao : Option Addr} {l : List Val} (h : Lies w B ao l) (hg : w.grownBy w' row) (hB : B ≤ w.heap.size) (hne : ∀ a, ao = some a → some a.block ≠ row) : Lies w' w'.heap.size ao l := by
  intro i x hx
  obtain ⟨a, rfl, ha, h0, h1, h2, h3⟩ := h i x hx
  have hn := hne a rfl
  have hb : ∀ p : Addr, p.block = a.block → w'.cell? p = w.cell? p := fun p hp => World.cell?_of_block (by rw [hp]; exact hg.block a.block (by omega) hn)
  exact ⟨a, rfl, by have := hg.size; omega, (hb _ (Addr.block_add _ _)).trans h0, (hb ⟨_, _, none⟩ (Addr.block_add _ _)).trans h1, (hb ⟨_, _, none⟩ (Addr.block_add _ _)).trans h2, (hb ⟨_, _, none⟩ (Addr.block_add _ _)).trans h3⟩

/-- A row of which cells are written. -/
def Num.Spoilt (n : Nat) (ao : Option Addr) (w : World) : Prop := ∀ a, ao = some a → ∃ g cur, a = ⟨g, 0, none⟩ ∧ w.heap[g]? = some (.cells cur 38 (0, 0)) ∧ n * 4 ≤ cur.size
theorem spoilt_start {w : World} {base n cap : Nat} {ao : Option Addr} {xs : List Value} (h : w.ownsRow base 38 4 (.slice ao n cap) n xs) : Spoilt n ao w := by
  intro a ha
  subst ha
  rcases h.2 with ⟨hv, _⟩ | ⟨g, cap', cur, hv, _, hg, hn, _, hs, _⟩
  · cases hv
  · cases hv
    exact ⟨g, cur, rfl, hg, by omega⟩
theorem spoilt_cell {w : World} {g n k : Nat} {cur : Array Value} (hg : w.heap[g]? = some (.cells cur 38 (0, 0))) (hc : n * 4 ≤ cur.size) (hk : k < n) :
    (∃ u, w.cell? ⟨g, k * 4, none⟩ = some u) ∧ w.frozen? ⟨g, k * 4, none⟩ = false := by
  refine ⟨⟨cur[k * 4]'(by omega), ?_⟩, ?_⟩
  · simp [World.cell?, hg, show k * 4 < cur.size by omega]
  · simp [World.frozen?, hg]
theorem spoilt_next {w : World} {g n o : Nat} {u : Value} {cur : Array Value} (hg : w.heap[g]? = some (.cells cur 38 (0, 0))) (hc : n * 4 ≤ cur.size) : Spoilt n (some ⟨g, 0, none⟩) (w.setCell ⟨g, o, none⟩ u) := by
  intro a ha
  cases ha
  obtain ⟨hlt, hk⟩ := Array.getElem?_eq_some_iff.1 hg
  refine ⟨g, cur.setIfInBounds o u, rfl, ?_, by rw [Array.size_setIfInBounds]; exact hc⟩
  show (w.heap.modify g _)[g]? = _
  rw [Array.getElem?_eq_getElem (by rw [Array.size_modify]; exact hlt), Array.getElem_modify_self, hk]
  rfl
theorem grown_set {w w' : World} {g o : Nat} {u : Value} (h : w.grownBy w' (some g)) : w.grownBy (w'.setCell ⟨g, o, none⟩ u) (some g) :=
  ⟨h.os, h.tape, h.output, by show w.heap.size ≤ (w'.heap.modify g _).size; rw [Array.size_modify]; exact h.size, fun k hk hne => (Below.heap_setCell _ _ _ k (fun e => hne (by rw [e]))).trans (h.block k hk hne)⟩
theorem below_grown {w w1 w2 : World} {row : Option Nat} (h : Below w.heap.size w w1) (hg : w1.grownBy w2 row) (hr : ∀ k, row = some k → w.heap.size ≤ k) : Below w.heap.size w w2 := h.grown hg h.size hr
theorem vals_some (s : ByteArray) (hs : s.size ≤ 900000) (l : List Val) (hv : valsL s.data.toList = some l) (w : World) :
    Calls Try.prog 15 #[.string s] w fun e w' => ∃ ao cap, e = .returned (.tuple #[.slice ao l.length cap, .int .i64 0]) ∧ Lies w' w'.heap.size ao l ∧ (∀ a, ao = some a → w.heap.size ≤ a.block) ∧ Below w.heap.size w w' := by
  have h := refVals_any s hs w
  rw [hv] at h
  exact h.mono fun e w' ⟨⟨v, he, hr⟩, hb⟩ => by
    obtain ⟨ao, cap, rfl, hl, hlow⟩ := row_lies hr
    exact ⟨ao, cap, he, hl, hlow, hb⟩
theorem vals_none (s : ByteArray) (hs : s.size ≤ 900000) (hv : valsL s.data.toList = none) (w : World) :
    Calls Try.prog 15 #[.string s] w fun e w' => e = .returned (.tuple #[.slice none 0 0, .int .i64 3]) ∧ Below w.heap.size w w' := by
  have h := refVals_any s hs w
  rw [hv] at h
  exact h
/-- Get, and where its row lies. -/
theorem get_row (s : ByteArray) (hs : s.size ≤ 900000) (l : List Val) (hv : valsL s.data.toList = some l) (w : World) :
    Calls Try.prog 14 #[.string s] w fun e w' => ∃ ao cap, e = .returned (.tuple #[.slice ao l.length cap, .int .i64 0]) ∧ Lies w' w'.heap.size ao l ∧ w'.ownsRow w.heap.size 38 4 (.slice ao l.length cap) l.length (valCells l) ∧ Below w.heap.size w w' :=
  (get_some s hs l hv w).mono fun e w' ⟨v, he, hr, hb⟩ => by
    obtain ⟨ao, cap, rfl, hl⟩ := lies_of_row hr
    exact ⟨ao, cap, he, hl, hr, hb⟩
end Go.Proofs.Ytpjhkfebdgiejaa
