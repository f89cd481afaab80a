/-
  What Get tells, by the row that bytes are; a row of the call's own of which cells are written.
-/
import Derived.Test.YtgaidhalkianfaaRGet
import Derived.Test.YtgaidhalkianfaaRSame
namespace Go.Proofs.Ytgaidhalkianfaa
open Go.RowKit Num
set_option linter.unusedVariables false

theorem rowN_len : ∀ (N : Nat) (z : Int) (s : List UInt8) (l : List Cel), rowN N z s = some l → l.length ≤ N
  | 0, _, _, l, h => by
    simp [rowN] at h
    subst h
    simp
  | N + 1, _, [], l, h => by
    simp [rowN] at h
    subst h
    simp
  | N + 1, _, [_], l, h => by simp [rowN] at h
  | N + 1, z, a :: b :: r, l, h => by
    rw [rowN] at h
    split at h
    · cases e : rowN N (colN a b) (r.drop (getL r).c.toNat) with
      | none => rw [e] at h; simp at h
      | some q =>
        rw [e] at h
        simp at h
        subst h
        have := rowN_len N _ _ q e
        simp
        omega
    · simp at h
theorem rget_some (s : ByteArray) (hs : s.size ≤ 900000) (l : List Cel) (hv : rowL s.data.toList = some l) (w : World) :
    Calls Try.prog 14 #[.string s] w fun e w' => ∃ ao cap, e = .returned (.tuple #[.slice ao l.length cap, .int .i64 0]) ∧ LiesC w' w'.heap.size ao l ∧ w'.ownsRow w.heap.size 41 5 (.slice ao l.length cap) l.length (celCells l) ∧ Below w.heap.size w w' := by
  have h := rowGet_any s hs w
  rw [hv] at h
  exact h.mono fun e w' ⟨⟨v, he, hr⟩, hb⟩ => by
    obtain ⟨ao, cap, rfl, hl, _⟩ := liesC_of_row hr
    exact ⟨ao, cap, he, hl, hr, hb⟩
theorem rget_none (s : ByteArray) (hs : s.size ≤ 900000) (hv : rowL s.data.toList = none) (w : World) :
    Calls Try.prog 14 #[.string s] w fun e w' => e = .returned (.tuple #[.slice none 0 0, .int .i64 3]) ∧ Below w.heap.size w w' := by
  have h := rowGet_any s hs w
  rw [hv] at h
  exact h

/-- A row of which cells are written. -/
def Num.SpoiltC (n : Nat) (ao : Option Addr) (w : World) : Prop := ∀ a, ao = some a → ∃ g cur, a = ⟨g, 0, none⟩ ∧ w.heap[g]? = some (.cells cur 41 (0, 0)) ∧ n * 5 ≤ cur.size
theorem spoiltC_start {w : World} {base n cap : Nat} {ao : Option Addr} {xs : List Value} (h : w.ownsRow base 41 5 (.slice ao n cap) n xs) : SpoiltC n ao w := by
  intro a ha
  subst ha
  rcases h.2 with ⟨hv, _⟩ | ⟨g, cap', cur, hv, _, hg, hn, _, hs, _⟩
  · cases hv
  · cases hv
    exact ⟨g, cur, rfl, hg, by omega⟩
theorem spoiltC_cell {w : World} {g n k : Nat} {cur : Array Value} (hg : w.heap[g]? = some (.cells cur 41 (0, 0))) (hc : n * 5 ≤ cur.size) (hk : k < n) :
    (∃ u, w.cell? ⟨g, k * 5, none⟩ = some u) ∧ w.frozen? ⟨g, k * 5, none⟩ = false := by
  refine ⟨⟨cur[k * 5]'(by omega), ?_⟩, ?_⟩
  · simp [World.cell?, hg, show k * 5 < cur.size by omega]
  · simp [World.frozen?, hg]
theorem spoiltC_next {w : World} {g n o : Nat} {u : Value} {cur : Array Value} (hg : w.heap[g]? = some (.cells cur 41 (0, 0))) (hc : n * 5 ≤ cur.size) : SpoiltC n (some ⟨g, 0, none⟩) (w.setCell ⟨g, o, none⟩ u) := by
  intro a ha
  cases ha
  obtain ⟨hlt, hk⟩ := Array.getElem?_eq_some_iff.1 hg
  refine ⟨g, cur.setIfInBounds o u, rfl, ?_, by rw [Array.size_setIfInBounds]; exact hc⟩
  show (w.heap.modify g _)[g]? = _
  rw [Array.getElem?_eq_getElem (by rw [Array.size_modify]; exact hlt), Array.getElem_modify_self, hk]
  rfl
theorem grown_setR {w w' : World} {g o : Nat} {u : Value} (h : w.grownBy w' (some g)) : w.grownBy (w'.setCell ⟨g, o, none⟩ u) (some g) :=
  ⟨h.os, h.tape, h.output, by show w.heap.size ≤ (w'.heap.modify g _).size; rw [Array.size_modify]; exact h.size, fun k hk hne => (Below.heap_setCell _ _ _ k (fun e => hne (by rw [e]))).trans (h.block k hk hne)⟩
theorem liesC_grownB {w w' : World} {B : Nat} {row : Option Nat} {ao : Option Addr} {l : List Cel} (h : LiesC w B ao l) (hg : w.grownBy w' row) (hB : B ≤ w.heap.size) (hr : ∀ k, row = some k → B ≤ k) : LiesC w' w'.heap.size ao l := by
  intro i x hx
  obtain ⟨a, rfl, ha, h0⟩ := h i x hx
  exact ⟨a, rfl, by have := hg.size; omega, h0.same fun p hp => World.cell?_of_block (by rw [hp, Addr.block_add]; exact hg.block a.block (by omega) (fun e => by have := hr _ e.symm; omega))⟩
theorem below_grownR {w w1 w2 : World} {row : Option Nat} (h : Below w.heap.size w w1) (hg : w1.grownBy w2 row) (hr : ∀ k, row = some k → w.heap.size ≤ k) : Below w.heap.size w w2 := h.grown hg h.size hr
end Go.Proofs.Ytgaidhalkianfaa
