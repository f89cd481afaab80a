/-
  A pair more, by the place of its key (7.2). No program is named here.
-/
import Derived.Test.YtgldgedbinbigaaPFdM
namespace Go.Proofs.Ytgldgedbinbigaa.Num
open Op (bytesLess)

theorem cntK_take {p : List Pr} {k : ByteArray} : ∀ x ∈ p.take (cntK p k), kl x.key k := by
  intro x hx
  obtain ⟨i, hi⟩ := List.mem_iff_getElem?.1 hx
  rw [List.getElem?_take] at hi
  split at hi
  · rename_i hlt
    exact cntK_no hlt hi
  · cases hi
theorem hasK_yes {p : List Pr} {k : ByteArray} (h : hasK p k = true) : ∃ x, p[cntK p k]? = some x ∧ x.key = k := by
  unfold hasK at h
  cases hx : p[cntK p k]? with
  | none => rw [hx] at h; cases h
  | some x =>
    rw [hx] at h
    refine ⟨x, rfl, ?_⟩
    simp only [beq_iff_eq] at h
    rw [Lib.toList_data, Lib.toList_data] at h
    exact ByteArray.ext (Array.ext' h)
theorem hasK_no {p : List Pr} (hr : Rises p) {k : ByteArray} (h : hasK p k = false) {x : Pr} (hx : p[cntK p k]? = some x) : kl k x.key := by
  have h1 := cntK_yes hr (Nat.le_refl _) hx
  unfold hasK at h
  rw [hx] at h
  rcases kl_tri x.key k with a | a | a
  · unfold kl at a
    rw [h1] at a
    cases a
  · simp only [a] at h
    simp at h
  · exact a
theorem drop_at {α : Type} {l : List α} {i : Nat} {x : α} (h : l[i]? = some x) : l.drop i = x :: l.drop (i + 1) := by
  have hi := (List.getElem?_eq_some_iff.1 h).1
  rw [← (List.getElem?_eq_some_iff.1 h).2]
  exact List.drop_eq_getElem_cons hi
theorem ins_has {p : List Pr} {k v : ByteArray} {x : Pr} (hx : p[cntK p k]? = some x) (hk : x.key = k) : insL p k v = p.set (cntK p k) ⟨x.key, v⟩ := by
  have h1 : insL p k v = p.take (cntK p k) ++ insL (p.drop (cntK p k)) k v := by
    conv => lhs; rw [← List.take_append_drop (cntK p k) p]
    exact insL_left _ _ cntK_take
  have hi := (List.getElem?_eq_some_iff.1 hx).1
  rw [h1, drop_at hx, insL, hk, if_neg (by rw [bl_irr]; simp), if_neg (by rw [bl_irr]; simp), List.set_eq_take_append_cons_drop, if_pos hi]
theorem ins_new {p : List Pr} (hr : Rises p) {k v : ByteArray} (h : hasK p k = false) : insL p k v = p.take (cntK p k) ++ [⟨k, v⟩] ++ p.drop (cntK p k) := by
  have h1 : insL p k v = p.take (cntK p k) ++ insL (p.drop (cntK p k)) k v := by
    conv => lhs; rw [← List.take_append_drop (cntK p k) p]
    exact insL_left _ _ cntK_take
  rw [h1]
  cases hx : p[cntK p k]? with
  | none =>
    rw [List.drop_eq_nil_of_le (by rw [List.getElem?_eq_none_iff] at hx; exact hx)]
    simp [insL]
  | some x =>
    have h2 : bytesLess k.toList x.key.toList = true := hasK_no hr h hx
    rw [drop_at hx, insL, if_pos h2]
    simp
theorem put_at {ps : Pages} {k v : ByteArray} {p : List Pr} (hp : ps[ofP ps k]? = some p) : putP ps k v = ps.take (ofP ps k) ++ (splitP (insL p k v) ++ ps.drop (ofP ps k + 1)) := by
  unfold putP
  rw [hp]
theorem set_at {α : Type} {l : List α} {i : Nat} {x y : α} (h : l[i]? = some x) : l.set i y = l.take i ++ (y :: l.drop (i + 1)) := by
  have hi := (List.getElem?_eq_some_iff.1 h).1
  rw [List.set_eq_take_append_cons_drop, if_pos hi]
theorem put_short {ps : Pages} {k v : ByteArray} {p : List Pr} (hp : ps[ofP ps k]? = some p) (h : (insL p k v).length ≤ 8) : putP ps k v = ps.set (ofP ps k) (insL p k v) := by
  rw [put_at hp, set_at hp, splitP, if_neg (by omega)]
  rfl
theorem put_long {ps : Pages} {k v : ByteArray} {p : List Pr} (hp : ps[ofP ps k]? = some p) (h : 8 < (insL p k v).length) : putP ps k v = ps.take (ofP ps k) ++ ((insL p k v).take 4 :: (insL p k v).drop 4 :: ps.drop (ofP ps k + 1)) := by
  rw [put_at hp, splitP, if_pos h]
  rfl
end Go.Proofs.Ytgldgedbinbigaa.Num
