/-
  Which pages are right, asked pair by pair (7.1). No program is named here.
-/
import Derived.Test.YtgldgedbinbigaaPgM
namespace Go.Proofs.Ytgldgedbinbigaa.Num

/-- The last key, or an empty one. -/
def lastK (L : List Pr) : ByteArray := match L.getLast? with
  | none => ⟨#[]⟩
  | some x => x.key
theorem lastK_snoc (L : List Pr) (x : Pr) : lastK (L ++ [x]) = x.key := by simp [lastK]
theorem rises_snoc (L : List Pr) (x : Pr) : Rises (L ++ [x]) ↔ Rises L ∧ (L = [] ∨ kl (lastK L) x.key) := by
  unfold Rises
  rw [List.pairwise_append]
  constructor
  · rintro ⟨h1, _, h3⟩
    refine ⟨h1, ?_⟩
    rcases List.eq_nil_or_concat L with rfl | ⟨L', y, rfl⟩
    · exact .inl rfl
    · right
      rw [List.concat_eq_append, lastK_snoc]
      exact h3 y (by simp) x (by simp)
  · rintro ⟨h1, h2⟩
    refine ⟨h1, by simp, fun a ha b hb => ?_⟩
    rw [List.mem_singleton.1 hb]
    rcases List.eq_nil_or_concat L with rfl | ⟨L', y, rfl⟩
    · cases ha
    · rw [List.concat_eq_append] at *
      have hy : kl y.key x.key := by
        rcases h2 with h2 | h2
        · simp at h2
        · rwa [lastK_snoc] at h2
      rcases List.mem_append.1 ha with ha | ha
      · exact kl_trans ((List.pairwise_append.1 h1).2.2 a ha y (by simp)) hy
      · rw [List.mem_singleton.1 ha]
        exact hy
/-- What stands ahead of a pair. -/
def aheadP (ps : Pages) (k : Nat) (p : List Pr) (j : Nat) : List Pr := (ps.take k).flatten ++ p.take j
theorem flat_pos {ps : Pages} {k : Nat} {p : List Pr} (hp : ps[k]? = some p) {j : Nat} {x : Pr} (hx : p[j]? = some x) : ps.flatten = (aheadP ps k p j ++ [x]) ++ (p.drop (j + 1) ++ (ps.drop (k + 1)).flatten) := by
  have e : p = p.take j ++ (x :: p.drop (j + 1)) := by
    have hj := (List.getElem?_eq_some_iff.1 hx).1
    rw [← (List.getElem?_eq_some_iff.1 hx).2, ← List.drop_eq_getElem_cons hj, List.take_append_drop]
  rw [flat_at3 ps k p hp]
  unfold aheadP
  conv => lhs; rw [e]
  simp
theorem right_no_len {ps : Pages} {k : Nat} {p : List Pr} (hp : ps[k]? = some p) (h : p.length < 1 ∨ 8 < p.length) : ¬ RightP ps := fun hr => by
  have := hr.1 p (List.mem_of_getElem? hp)
  omega
theorem right_no_key {ps : Pages} {k : Nat} {p : List Pr} (hp : ps[k]? = some p) {j : Nat} {x : Pr} (hx : p[j]? = some x) (hL : aheadP ps k p j ≠ []) (h : ¬ kl (lastK (aheadP ps k p j)) x.key) : ¬ RightP ps := fun hr => by
  have h2 := hr.2
  rw [flat_pos hp hx] at h2
  unfold Rises at h2
  have h3 := (List.pairwise_append.1 h2).1
  rcases ((rises_snoc _ _).1 h3).2 with h4 | h4
  · exact hL h4
  · exact h h4
/-- So many pages are right. -/
def UpP (ps : Pages) (k : Nat) : Prop := (∀ i q, i < k → ps[i]? = some q → 1 ≤ q.length ∧ q.length ≤ 8) ∧ Rises (ps.take k).flatten
theorem up_zero (ps : Pages) : UpP ps 0 := ⟨fun i q h => absurd h (Nat.not_lt_zero _), by simp [Rises]⟩
theorem up_all {ps : Pages} (h : UpP ps ps.length) : RightP ps := by
  refine ⟨fun p hp => ?_, by simpa using h.2⟩
  obtain ⟨i, hi⟩ := List.mem_iff_getElem?.1 hp
  exact h.1 i p (List.getElem?_eq_some_iff.1 hi).1 hi
theorem ahead_nil {ps : Pages} {k : Nat} {p : List Pr} (hp : ps[k]? = some p) (h : UpP ps k) {j : Nat} (hj : j ≤ p.length) : aheadP ps k p j = [] ↔ k + j = 0 := by
  unfold aheadP
  rw [List.append_eq_nil_iff]
  constructor
  · rintro ⟨h1, h2⟩
    have hk : k = 0 := by
      rcases Nat.eq_zero_or_pos k with h0 | h0
      · exact h0
      · have hkl := (List.getElem?_eq_some_iff.1 hp).1
        have h3 : ps[0]? = some (ps[0]'(by omega)) := List.getElem?_eq_getElem _
        have h4 := (h.1 0 _ h0 h3).1
        rw [List.flatten_eq_nil_iff] at h1
        have h5 := h1 (ps[0]'(by omega)) (by
          rw [List.mem_iff_getElem?]
          exact ⟨0, by rw [List.getElem?_take, if_pos h0, h3]⟩)
        rw [h5] at h4
        simp at h4
    have : (p.take j).length = 0 := by rw [h2]; rfl
    rw [List.length_take] at this
    omega
  · intro h0
    obtain ⟨rfl, rfl⟩ : k = 0 ∧ j = 0 := by omega
    simp
theorem take_succ_at {α : Type} {l : List α} {k : Nat} {x : α} (h : l[k]? = some x) : l.take (k + 1) = l.take k ++ [x] := by
  have hk := (List.getElem?_eq_some_iff.1 h).1
  rw [← (List.getElem?_eq_some_iff.1 h).2]
  exact List.take_succ_eq_append_getElem hk
theorem ahead_succ {ps : Pages} {k : Nat} {p : List Pr} {j : Nat} {x : Pr} (hx : p[j]? = some x) : aheadP ps k p (j + 1) = aheadP ps k p j ++ [x] := by
  unfold aheadP
  rw [take_succ_at hx, List.append_assoc]
theorem ahead_end {ps : Pages} {k : Nat} {p : List Pr} (hp : ps[k]? = some p) : aheadP ps k p p.length = (ps.take (k + 1)).flatten := by
  unfold aheadP
  rw [take_succ_at hp, List.flatten_append]
  simp
theorem ahead_zero (ps : Pages) (k : Nat) (p : List Pr) : aheadP ps k p 0 = (ps.take k).flatten := by simp [aheadP]
theorem up_succ {ps : Pages} {k : Nat} {p : List Pr} (hp : ps[k]? = some p) (h : UpP ps k) (h1 : 1 ≤ p.length ∧ p.length ≤ 8) (h2 : Rises (aheadP ps k p p.length)) : UpP ps (k + 1) := by
  refine ⟨fun i q hi hq => ?_, by rw [← ahead_end hp]; exact h2⟩
  rcases Nat.lt_or_ge i k with h3 | h3
  · exact h.1 i q h3 hq
  · obtain rfl : i = k := by omega
    rw [hp] at hq
    cases hq
    exact h1
end Go.Proofs.Ytgldgedbinbigaa.Num
