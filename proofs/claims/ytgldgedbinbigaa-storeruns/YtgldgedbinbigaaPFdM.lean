/-
  The page of a key, and the place in it, as counts (7.1). No program is named here.
-/
import Derived.Test.YtgldgedbinbigaaPRgM
namespace Go.Proofs.Ytgldgedbinbigaa.Num
open Op (bytesLess)

/-- How many keys of a page, from its first on, are below k. -/
def cntK (p : List Pr) (k : ByteArray) : Nat := (p.takeWhile (fun x => bytesLess x.key.toList k.toList)).length
theorem tw_lt {α : Type} (f : α → Bool) (l : List α) : ∀ (i : Nat) x, i < (l.takeWhile f).length → l[i]? = some x → f x = true := by
  intro i x hi hx
  have h1 : (l.takeWhile f)[i]? = some x := by
    obtain ⟨r, hr⟩ := List.takeWhile_prefix (l := l) f
    rw [← hr, List.getElem?_append_left hi] at hx
    exact hx
  exact tw_all f l x (List.mem_of_getElem? h1)
theorem tw_at {α : Type} (f : α → Bool) : ∀ (l : List α) x, l[(l.takeWhile f).length]? = some x → f x = false
  | [], x, h => by simp at h
  | y :: l, x, h => by
    rw [List.takeWhile_cons] at h
    split at h
    · rename_i hy
      exact tw_at f l x (by simpa using h)
    · rename_i hy
      simp at h
      subst h
      simpa using hy
theorem tw_len {α : Type} (f : α → Bool) (l : List α) : (l.takeWhile f).length ≤ l.length := (List.takeWhile_prefix (l := l) f).length_le
theorem cnt_le (ps : Pages) (k : ByteArray) : cntP ps k ≤ ps.length := tw_len _ _
theorem cntK_le (p : List Pr) (k : ByteArray) : cntK p k ≤ p.length := tw_len _ _
/-- Two pages in their order. -/
theorem right_pages {ps : Pages} (h : RightP ps) {i j : Nat} {p q : List Pr} (hp : ps[i]? = some p) (hq : ps[j]? = some q) (hij : i < j) : ∀ x ∈ p, ∀ y ∈ q, kl x.key y.key := by
  intro x hx y hy
  have hr := h.2
  unfold Rises at hr
  rw [flat_at3 ps i p hp, List.pairwise_append] at hr
  have h2 := (List.pairwise_append.1 hr.2.1).2.2 x hx
  refine h2 y (List.mem_flatten.2 ⟨q, ?_, hy⟩)
  rw [List.mem_iff_getElem?]
  refine ⟨j - (i + 1), ?_⟩
  rw [List.getElem?_drop, show i + 1 + (j - (i + 1)) = j by omega]
  exact hq
theorem right_page {ps : Pages} (h : RightP ps) {i : Nat} {p : List Pr} (hp : ps[i]? = some p) : Rises p := by
  have hr := h.2
  unfold Rises at hr ⊢
  rw [flat_at3 ps i p hp, List.pairwise_append] at hr
  exact (List.pairwise_append.1 hr.2.1).1
/-- Ahead of the count a page's first key is not above k. -/
theorem cnt_no {ps : Pages} {k : ByteArray} {i : Nat} (hi : i < cntP ps k) {p : List Pr} {x : Pr} (hp : ps[i]? = some p) (hx : p[0]? = some x) : bytesLess k.toList x.key.toList = false := by
  have h := tw_lt _ ps i p hi hp
  cases p with
  | nil => simp at hx
  | cons y p =>
    simp at hx
    subst hx
    simpa [firstLe] using h
/-- From the count on it is. -/
theorem cnt_yes {ps : Pages} (h : RightP ps) {k : ByteArray} {i : Nat} (hi : cntP ps k ≤ i) {p : List Pr} {x : Pr} (hp : ps[i]? = some p) (hx : p[0]? = some x) : bytesLess k.toList x.key.toList = true := by
  have hil := (List.getElem?_eq_some_iff.1 hp).1
  have hq : ps[cntP ps k]? = some (ps[cntP ps k]'(by omega)) := List.getElem?_eq_getElem _
  have hqf := tw_at _ ps _ hq
  have hq1 := (h.1 _ (List.mem_of_getElem? hq)).1
  generalize (ps[cntP ps k]'(by omega)) = q at *
  cases q with
  | nil => simp at hq1
  | cons y q =>
    have hy : kl k y.key := by simpa [firstLe, kl] using hqf
    rcases Nat.lt_or_ge (cntP ps k) i with hlt | hge
    · exact kl_trans hy (right_pages h hq hp hlt y (by simp) x (List.mem_of_getElem? hx))
    · have e : cntP ps k = i := by omega
      rw [e, hp] at hq
      cases hq
      simp at hx
      subst hx
      exact hy
theorem cntK_no {p : List Pr} {k : ByteArray} {i : Nat} (hi : i < cntK p k) {x : Pr} (hx : p[i]? = some x) : bytesLess x.key.toList k.toList = true := tw_lt _ p i x hi hx
theorem cntK_yes {p : List Pr} (h : Rises p) {k : ByteArray} {i : Nat} (hi : cntK p k ≤ i) {x : Pr} (hx : p[i]? = some x) : bytesLess x.key.toList k.toList = false := by
  have hil := (List.getElem?_eq_some_iff.1 hx).1
  have hq : p[cntK p k]? = some (p[cntK p k]'(by omega)) := List.getElem?_eq_getElem _
  have hqf := tw_at _ p _ hq
  rcases Nat.lt_or_ge (cntK p k) i with hlt | hge
  · rw [Bool.eq_false_iff]
    intro hb
    have h2 : kl (p[cntK p k]'(by omega)).key x.key := by
      unfold Rises at h
      rw [List.pairwise_iff_getElem] at h
      have := h (cntK p k) i (by omega) hil hlt
      rw [(List.getElem?_eq_some_iff.1 hx).2] at this
      exact this
    rw [Bool.eq_false_iff] at hqf
    exact hqf (kl_trans h2 hb)
  · have e : cntK p k = i := by omega
    refine tw_at (fun x => bytesLess x.key.toList k.toList) p x ?_
    show p[cntK p k]? = _
    rw [e]
    exact hx
/-- What find's functions tell. -/
def headLess (ps : Pages) (k : ByteArray) (i : Nat) : Bool := match ps[i]? with
  | none => false
  | some p => match p[0]? with
    | none => false
    | some x => bytesLess k.toList x.key.toList
def notLess (p : List Pr) (k : ByteArray) (i : Nat) : Bool := match p[i]? with
  | none => false
  | some x => !bytesLess x.key.toList k.toList
/-- Is the key there? -/
def hasK (p : List Pr) (k : ByteArray) : Bool := match p[cntK p k]? with
  | none => false
  | some x => x.key.toList == k.toList
end Go.Proofs.Ytgldgedbinbigaa.Num
