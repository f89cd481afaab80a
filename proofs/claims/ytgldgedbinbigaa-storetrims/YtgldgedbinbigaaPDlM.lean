/-
  A key less, by its place (7.3). No program is named here.
-/
import Derived.Test.YtgldgedbinbigaaPPtM
namespace Go.Proofs.Ytgldgedbinbigaa.Num
open Op (bytesLess)

theorem delL_at {p : List Pr} (hr : Rises p) {k : ByteArray} {x : Pr} (hx : p[cntK p k]? = some x) (hk : x.key = k) : delL p k = p.take (cntK p k) ++ p.drop (cntK p k + 1) := by
  have e : p = p.take (cntK p k) ++ (x :: p.drop (cntK p k + 1)) := by rw [← drop_at hx, List.take_append_drop]
  have h1 : delL p k = delL (p.take (cntK p k)) k ++ delL (x :: p.drop (cntK p k + 1)) k := by
    conv => lhs; rw [e]
    exact delL_app _ _ _
  have h2 : delL (x :: p.drop (cntK p k + 1)) k = delL (p.drop (cntK p k + 1)) k := by
    unfold delL
    rw [List.filter_cons, hk, bl_irr]
    rfl
  have h3 : ∀ y ∈ p.drop (cntK p k + 1), kl k y.key := by
    intro y hy
    unfold Rises at hr
    rw [e, List.pairwise_append] at hr
    rw [← hk]
    exact (List.pairwise_cons.1 hr.2.1).1 y hy
  rw [h1, h2, delL_same (fun y hy => kl_ne (cntK_take y hy)), delL_same (fun y hy e => kl_ne (h3 y hy) e.symm)]
theorem delL_none {p : List Pr} (hr : Rises p) {k : ByteArray} (h : hasK p k = false) : delL p k = p := by
  refine delL_same fun x hx => ?_
  obtain ⟨i, hi⟩ := List.mem_iff_getElem?.1 hx
  rcases Nat.lt_trichotomy i (cntK p k) with hlt | he | hgt
  · exact kl_ne (cntK_no hlt hi)
  · subst he
    exact fun e => kl_ne (hasK_no hr h hi) e.symm
  · have hil := (List.getElem?_eq_some_iff.1 hi).1
    have hc : p[cntK p k]? = some (p[cntK p k]'(by omega)) := List.getElem?_eq_getElem _
    have h1 := hasK_no hr h hc
    have h2 : kl (p[cntK p k]'(by omega)).key x.key := by
      unfold Rises at hr
      rw [List.pairwise_iff_getElem] at hr
      have := hr (cntK p k) i (by omega) hil hgt
      rw [(List.getElem?_eq_some_iff.1 hi).2] at this
      exact this
    exact fun e => kl_ne (kl_trans h1 h2) e.symm
/-- Two neighbours become one, if they are short. -/
def joinP (ps : Pages) (i : Nat) : Pages := match ps[i]?, ps[i + 1]? with
  | some p, some q => if p.length + q.length ≤ 4 then ps.take i ++ ((p ++ q) :: ps.drop (i + 2)) else ps
  | _, _ => ps
/-- What joined does. -/
def joinedP (ps : Pages) (i : Nat) : Pages := if i + 1 = ps.length then (if i = 0 then ps else joinP ps (i - 1)) else joinP ps i
theorem del_gone {ps : Pages} {k : ByteArray} {p : List Pr} (hp : ps[ofP ps k]? = some p) (h : delL p k = []) : delP ps k = ps.take (ofP ps k) ++ ps.drop (ofP ps k + 1) := by
  unfold delP
  rw [hp]
  simp only
  rw [if_pos h]
theorem del_not {ps : Pages} (hr : RightP ps) {k : ByteArray} {p : List Pr} (hp : ps[ofP ps k]? = some p) (h : hasK p k = false) : delP ps k = ps := by
  have h1 := delL_none (right_page hr hp) h
  have h2 := (hr.1 p (List.mem_of_getElem? hp)).1
  unfold delP
  rw [hp]
  simp only
  rw [h1, if_neg (by rintro rfl; simp at h2), if_pos rfl]
theorem set_get {α : Type} {l : List α} {i j : Nat} {x : α} : (l.set i x)[j]? = if i = j then (if i < l.length then some x else none) else l[j]? := by
  by_cases h : i = j
  · subst h
    rw [if_pos rfl]
    by_cases hi : i < l.length
    · rw [if_pos hi, List.getElem?_set_self hi]
    · rw [if_neg hi, List.getElem?_eq_none (by simp; omega)]
  · rw [if_neg h, List.getElem?_set_ne h]
theorem del_less {ps : Pages} {k : ByteArray} {p : List Pr} (hp : ps[ofP ps k]? = some p) (h0 : delL p k ≠ []) (h1 : (delL p k).length ≠ p.length) : delP ps k = joinedP (ps.set (ofP ps k) (delL p k)) (ofP ps k) := by
  have hil := (List.getElem?_eq_some_iff.1 hp).1
  unfold delP
  rw [hp]
  simp only
  rw [if_neg h0, if_neg h1]
  generalize ofP ps k = i at *
  generalize delL p k = d at *
  have hset : ps.set i d = ps.take i ++ (d :: ps.drop (i + 1)) := set_at hp
  unfold joinedP joinP
  rw [List.length_set]
  by_cases hlast : i + 1 = ps.length
  · rw [if_pos hlast, List.getElem?_eq_none (by omega)]
    simp only
    have hd1 : ps.drop (i + 1) = [] := List.drop_eq_nil_of_le (by omega)
    by_cases hz : i = 0
    · subst hz
      rw [if_pos rfl, hset, hd1]
      split
      · rw [if_neg (by omega)]
      · rfl
    · rw [if_neg hz]
      have hq : ps[i - 1]? = some (ps[i - 1]'(by omega)) := List.getElem?_eq_getElem _
      rw [hq, set_get, set_get, if_neg (by omega), if_pos (by omega), if_pos hil, hq]
      simp only
      by_cases h4 : d.length + (ps[i - 1]'(by omega)).length ≤ 4
      · rw [if_pos ⟨by omega, h4⟩, if_pos (by omega), List.take_set_of_le (by omega), List.drop_eq_nil_of_le (by simp; omega)]
      · rw [if_neg (fun h => h4 h.2), if_neg (by omega), hset, hd1]
  · rw [if_neg hlast]
    have hq : ps[i + 1]? = some (ps[i + 1]'(by omega)) := List.getElem?_eq_getElem _
    rw [hq, set_get, set_get, if_pos rfl, if_pos hil, if_neg (by omega), hq]
    simp only
    by_cases h4 : d.length + (ps[i + 1]'(by omega)).length ≤ 4
    · rw [if_pos h4, if_pos h4, List.take_set_of_le (Nat.le_refl _), List.drop_set_of_lt (by omega)]
    · rw [if_neg h4, if_neg h4, hset]
end Go.Proofs.Ytgldgedbinbigaa.Num
