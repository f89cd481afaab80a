/-
  Cells with one more, cells without a column, values of cells over columns, as functions of lists. No program is named here.
-/
import Derived.Test.YtgaidhalkianfaaRCelM
namespace Go.Proofs.Ytgaidhalkianfaa.Num

/-- The cells without those of a column (4.3). -/
def without (l : List Cel) (col : Int) : List Cel := l.filter (fun y => !decide (y.c = col))
/-- The place of the first cell with a greater column; their number, if there is none. -/
def idxC (r : List Cel) (col : Int) : Nat := r.findIdx (fun y => decide (col < y.c))
def insC (r : List Cel) (i : Nat) (y : Cel) : List Cel := r.take i ++ y :: r.drop i
/-- The cells with one of a column (4.3). -/
def withL (l : List Cel) (col : Int) (x : Val) : List Cel := insC (without l col) (idxC (without l col) col) ⟨col, x⟩
/-- A column's value (4.3). -/
def fillV (l : List Cel) (id : Int) (d : Val) : Val := ((l.find? (fun y => decide (y.c = id))).map Cel.x).getD d

theorem without_snoc (l : List Cel) (col : Int) (k : Nat) (hk : k < l.length) : without (l.take (k + 1)) col = without (l.take k) col ++ (if (l[k]).c = col then [] else [l[k]]) := by
  rw [take_one l k hk]
  unfold without
  rw [List.filter_append]
  congr 1
  by_cases h : (l[k]).c = col
  · simp [h]
  · simp [h]
theorem without_len (l : List Cel) (col : Int) : (without l col).length ≤ l.length := List.length_filter_le _ _
theorem without_ok {l : List Cel} (h : ∀ y ∈ l, y.ok) (col : Int) : ∀ y ∈ without l col, y.ok := fun y hy => h y (List.mem_filter.1 hy).1
theorem idxC_le (r : List Cel) (col : Int) : idxC r col ≤ r.length := List.findIdx_le_length
theorem idxC_hit {r : List Cel} {col : Int} {k : Nat} (hk : k < r.length) (h : ∀ j (hj : j < r.length), j < k → ¬ col < (r[j]).c) (hh : col < (r[k]).c) : idxC r col = k := by
  unfold idxC
  rw [List.findIdx_eq hk]
  refine ⟨by simpa using hh, fun j hj => ?_⟩
  have := h j (by omega) hj
  simpa using this
theorem idxC_none {r : List Cel} {col : Int} (h : ∀ j (hj : j < r.length), ¬ col < (r[j]).c) : idxC r col = r.length := by
  unfold idxC
  rw [List.findIdx_eq_length]
  intro y hy
  obtain ⟨j, hj, rfl⟩ := List.getElem_of_mem hy
  have := h j hj
  simpa using this
theorem insC_len (r : List Cel) (i : Nat) (y : Cel) (hi : i ≤ r.length) : (insC r i y).length = r.length + 1 := by
  unfold insC
  simp
  omega
theorem withL_len (l : List Cel) (col : Int) (x : Val) : (withL l col x).length = (without l col).length + 1 := insC_len _ _ _ (idxC_le _ _)

/-! What follows (4.4). -/
theorem find_insC (p : Cel → Bool) (r : List Cel) (i : Nat) (y : Cel) (hy : p y = false) : (insC r i y).find? p = r.find? p := by
  unfold insC
  rw [List.find?_append, List.find?_cons_of_neg (by simp [hy]), ← List.find?_append, List.take_append_drop]
theorem find_without (l : List Cel) (col id : Int) (h : ¬ id = col) : (without l col).find? (fun y => decide (y.c = id)) = l.find? (fun y => decide (y.c = id)) := by
  unfold without
  induction l with
  | nil => rfl
  | cons y l ih =>
    by_cases h1 : y.c = col
    · rw [List.filter_cons_of_neg (by simp [h1]), ih, List.find?_cons_of_neg (by simp; omega)]
    · rw [List.filter_cons_of_pos (by simp [h1])]
      by_cases h2 : y.c = id
      · rw [List.find?_cons_of_pos (by simp [h2]), List.find?_cons_of_pos (by simp [h2])]
      · rw [List.find?_cons_of_neg (by simp [h2]), List.find?_cons_of_neg (by simp [h2]), ih]
theorem fill_other (l : List Cel) (col : Int) (x d : Val) (id : Int) (h : ¬ id = col) : fillV (withL l col x) id d = fillV l id d := by
  unfold fillV withL
  rw [find_insC _ _ _ _ (by simp; omega), find_without l col id h]
theorem fill_same (l : List Cel) (col : Int) (x d : Val) : fillV (withL l col x) col d = x := by
  have hn : ∀ y ∈ without l col, ¬ y.c = col := by
    intro y hy
    have := (List.mem_filter.1 hy).2
    simpa using this
  unfold fillV withL insC
  rw [List.find?_append]
  have e : ((without l col).take (idxC (without l col) col)).find? (fun y => decide (y.c = col)) = none := by
    rw [List.find?_eq_none]
    intro y hy
    have := hn y (List.mem_of_mem_take hy)
    simpa using this
  rw [e, List.find?_cons_of_pos (by simp)]
  rfl
theorem without_twice (l : List Cel) (col : Int) : without (without l col) col = without l col := by
  unfold without
  rw [List.filter_filter]
  congr 1
  funext y
  simp
theorem without_ins (r : List Cel) (i : Nat) (y : Cel) (col : Int) (h : y.c = col) : without (insC r i y) col = without r col := by
  unfold without insC
  rw [List.filter_append, List.filter_cons_of_neg (by simp [h]), ← List.filter_append, List.take_append_drop]
theorem without_with (l : List Cel) (col : Int) (x : Val) : without (withL l col x) col = without l col := by
  unfold withL
  rw [without_ins _ _ _ _ rfl, without_twice]

/-! The document's own With, cell by cell. -/
/-- What is made when k cells of the old ones are gone through. -/
def partW (r : List Cel) (i : Nat) (y : Cel) (k : Nat) : List Cel := if i < k then insC (r.take k) i y else r.take k
theorem partW_before {r : List Cel} {i k : Nat} {y : Cel} (h : ¬ i < k) : partW r i y k = r.take k := if_neg h
theorem partW_zero (r : List Cel) (i : Nat) (y : Cel) : partW r i y 0 = [] := by simp [partW]
theorem partW_snoc {r : List Cel} {i k : Nat} {y : Cel} (hk : k < r.length) (h : i < k) : partW r i y (k + 1) = partW r i y k ++ [r[k]] := by
  unfold partW
  rw [if_pos h, if_pos (by omega)]
  unfold insC
  rw [take_one r k hk, List.take_append_of_le_length (by simp; omega), List.drop_append_of_le_length (by simp; omega)]
  simp
theorem partW_hit {r : List Cel} {k : Nat} {y : Cel} (hk : k < r.length) : partW r k y (k + 1) = (r.take k ++ [y]) ++ [r[k]] := by
  unfold partW
  rw [if_pos (by omega)]
  unfold insC
  rw [take_one r k hk, List.take_append_of_le_length (by simp; omega), List.drop_append_of_le_length (by simp; omega)]
  simp [List.take_take]
theorem partW_plain {r : List Cel} {i k : Nat} {y : Cel} (hk : k < r.length) (h : k < i) : partW r i y (k + 1) = partW r i y k ++ [r[k]] := by
  unfold partW
  rw [if_neg (by omega), if_neg (by omega), take_one r k hk]
theorem partW_end {r : List Cel} {i : Nat} {y : Cel} (h : i < r.length) : partW r i y r.length = insC r i y := by
  unfold partW
  rw [if_pos h, List.take_length]
theorem insC_end (r : List Cel) (y : Cel) : insC r r.length y = r ++ [y] := by
  unfold insC
  simp
end Go.Proofs.Ytgaidhalkianfaa.Num
