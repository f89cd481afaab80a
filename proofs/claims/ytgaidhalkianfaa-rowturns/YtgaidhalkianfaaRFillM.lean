/-
  Columns; the values of cells over columns; the map from columns to places, filled from behind. No program is named here.
-/
import Derived.Test.YtgaidhalkianfaaRWithM
import Derived.Maps.Views
import Derived.Maps.Keyed
import Derived.WalkArith
namespace Go.Proofs.Ytgaidhalkianfaa.Num
open Go.Maps

/-- A column. -/
structure Colm where
  id : Int
  name : ByteArray
  kind : Int
  state : Int
  null : Int
  d : Val
def Colm.ok (c : Colm) : Prop := -9223372036854775808 ≤ c.id ∧ c.id ≤ 9223372036854775807
/-- The values of cells over columns (4.3). -/
def rowVals (l : List Cel) (cols : List Colm) : List Val := cols.map (fun c => fillV l c.id c.d)

/-- Cells with their places, from behind. -/
def revIx : Nat → List Cel → List (Int × Cel)
  | _, [] => []
  | n, y :: r => revIx (n + 1) r ++ [((n : Int), y)]
theorem revIx_len : ∀ (l : List Cel) (n : Nat), (revIx n l).length = l.length
  | [], _ => rfl
  | y :: l, n => by
    rw [revIx, List.length_append, revIx_len l (n + 1)]
    rfl
theorem revIx_drop (l : List Cel) (m : Nat) (h : m < l.length) : revIx m (l.drop m) = revIx (m + 1) (l.drop (m + 1)) ++ [((m : Int), l[m])] := by
  rw [List.drop_eq_getElem_cons h]
  rfl
/-- The map: of each column the place that was put last. -/
def mapD (q : List (Int × Cel)) : DataW Unit := q.foldl (fun D p => D.put (.int .i64 p.2.c) (.lit (.int .i64 p.1))) (.map [])
theorem mapD_snoc (q : List (Int × Cel)) (p : Int × Cel) : mapD (q ++ [p]) = (mapD q).put (.int .i64 p.2.c) (.lit (.int .i64 p.1)) := by
  unfold mapD
  rw [List.foldl_append]
  rfl
theorem isMap_fold : ∀ (q : List (Int × Cel)) (D : DataW Unit), IsMap D → IsMap (q.foldl (fun D p => D.put (.int .i64 p.2.c) (.lit (.int .i64 p.1))) D)
  | [], _, h => h
  | _ :: q, _, h => isMap_fold q _ (h.put _ _)
theorem isMap_mapD (q : List (Int × Cel)) : IsMap (mapD q) := isMap_fold q _ isMap_empty
/-- The place of a column's first cell. -/
def lookC : Nat → List Cel → Int → Option Nat
  | _, [], _ => none
  | n, y :: r, id => if y.c = id then some n else lookC (n + 1) r id
theorem lit_ne {a b : Int} (h : ¬ a = b) : (Lit.int .i64 b) ≠ Lit.int .i64 a := fun e => h (by injection e with _ e; exact e.symm)
theorem has_mapD : ∀ (l : List Cel) (n : Nat) (id : Int), Maps.has (mapD (revIx n l)) (.int .i64 id) = (lookC n l id).isSome
  | [], _, _ => rfl
  | y :: l, n, id => by
    rw [revIx, mapD_snoc, lookC]
    by_cases h : y.c = id
    · rw [if_pos h]
      subst h
      exact has_put_same (isMap_mapD _) (show WideAt.IsKeyLit (.int .i64 y.c) from trivial) _
    · rw [if_neg h, has_put_other (lit_ne h)]
      exact has_mapD l (n + 1) id
theorem at_mapD : ∀ (l : List Cel) (n : Nat) (id : Int) (i : Nat) (z : DataW Unit), lookC n l id = some i → (mapD (revIx n l)).atKey (.int .i64 id) z = .lit (.int .i64 (i : Int))
  | [], _, _, _, _, h => by simp [lookC] at h
  | y :: l, n, id, i, z, h => by
    rw [lookC] at h
    rw [revIx, mapD_snoc]
    by_cases hc : y.c = id
    · rw [if_pos hc] at h
      cases h
      subst hc
      exact atKey_put_same (isMap_mapD _) (show WideAt.IsKeyLit (.int .i64 y.c) from trivial) _ _
    · rw [if_neg hc] at h
      rw [atKey_put_other (lit_ne hc)]
      exact at_mapD l (n + 1) id i z h
theorem look_none : ∀ (l : List Cel) (n : Nat) (id : Int) (d : Val), lookC n l id = none → fillV l id d = d
  | [], _, _, _, _ => rfl
  | y :: l, n, id, d, h => by
    rw [lookC] at h
    by_cases hc : y.c = id
    · rw [if_pos hc] at h
      cases h
    · rw [if_neg hc] at h
      have ih := look_none l (n + 1) id d h
      unfold fillV at ih ⊢
      rw [List.find?_cons_of_neg (by simp [hc])]
      exact ih
theorem look_some : ∀ (l : List Cel) (n : Nat) (id : Int) (d : Val) (i : Nat), lookC n l id = some i → ∃ y, l[i - n]? = some y ∧ n ≤ i ∧ fillV l id d = y.x
  | [], _, _, _, _, h => by simp [lookC] at h
  | y :: l, n, id, d, i, h => by
    rw [lookC] at h
    by_cases hc : y.c = id
    · rw [if_pos hc] at h
      cases h
      refine ⟨y, by simp, Nat.le_refl _, ?_⟩
      unfold fillV
      rw [List.find?_cons_of_pos (by simp [hc])]
      rfl
    · rw [if_neg hc] at h
      obtain ⟨z, hz, hn, hf⟩ := look_some l (n + 1) id d i h
      refine ⟨z, ?_, by omega, ?_⟩
      · rw [show i - n = (i - (n + 1)) + 1 by omega, List.getElem?_cons_succ]
        exact hz
      · unfold fillV at hf ⊢
        rw [List.find?_cons_of_neg (by simp [hc])]
        exact hf
theorem wf_int {a : Int} (h : -9223372036854775808 ≤ a ∧ a ≤ 9223372036854775807) : (Lit.int .i64 a).wf = true := Go.WalkArith.wf_i64 h
theorem rowVals_snoc (l : List Cel) (cols : List Colm) (k : Nat) (hk : k < cols.length) : rowVals l (cols.take (k + 1)) = rowVals l (cols.take k) ++ [fillV l (cols[k]).id (cols[k]).d] := by
  rw [take_one cols k hk]
  unfold rowVals
  rw [List.map_append]
  rfl
/-- A column's value when cells from a place on are gone through, from behind (the document's own way). -/
theorem fill_step (l : List Cel) (m : Nat) (hm : m < l.length) (id : Int) (d : Val) : fillV (l.drop m) id d = if (l[m]).c = id then (l[m]).x else fillV (l.drop (m + 1)) id d := by
  rw [List.drop_eq_getElem_cons hm]
  unfold fillV
  by_cases h : (l[m]).c = id
  · rw [if_pos h, List.find?_cons_of_pos (by simp [h])]
    rfl
  · rw [if_neg h, List.find?_cons_of_neg (by simp [h])]
end Go.Proofs.Ytgaidhalkianfaa.Num
