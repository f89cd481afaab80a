/-
  Pages of pairs as plain lists: the order of keys, which pages are right (7.1), a pair more (7.2), a key less (7.3), and that they hold what a sorted list would (7.5). No program is named here.
-/
import Derived.Lib.Strings
namespace Go.Proofs.Ytgldgedbinbigaa.Num
open Op (bytesLess)

/-! The order of keys. -/
theorem bl_irr : ∀ x : List UInt8, bytesLess x x = false
  | [] => rfl
  | a :: x => by
    have h : ¬ a < a := by simp
    simp [bytesLess, bl_irr x]
theorem bl_trans : ∀ x y z : List UInt8, bytesLess x y = true → bytesLess y z = true → bytesLess x z = true
  | _, [], _, h, _ => by simp [bytesLess] at h
  | _, _ :: _, [], _, h => by simp [bytesLess] at h
  | [], _ :: _, _ :: _, _, _ => rfl
  | a :: x, b :: y, c :: z, h1, h2 => by
    simp only [bytesLess, Bool.or_eq_true, Bool.and_eq_true, decide_eq_true_eq, beq_iff_eq] at h1 h2 ⊢
    rcases h1 with h1 | ⟨rfl, h1⟩
    · rcases h2 with h2 | ⟨rfl, h2⟩
      · exact .inl (by simp only [UInt8.lt_iff_toNat_lt] at *; omega)
      · exact .inl h1
    · rcases h2 with h2 | ⟨rfl, h2⟩
      · exact .inl h2
      · exact .inr ⟨rfl, bl_trans x y z h1 h2⟩
theorem bl_tri : ∀ x y : List UInt8, bytesLess x y = true ∨ x = y ∨ bytesLess y x = true
  | [], [] => .inr (.inl rfl)
  | [], _ :: _ => .inl rfl
  | _ :: _, [] => .inr (.inr rfl)
  | a :: x, b :: y => by
    simp only [bytesLess, Bool.or_eq_true, Bool.and_eq_true, decide_eq_true_eq, beq_iff_eq]
    by_cases h1 : a < b
    · exact .inl (.inl h1)
    · by_cases h2 : b < a
      · exact .inr (.inr (.inl h2))
      · have e : a = b := UInt8.toNat_inj.1 (by simp only [UInt8.lt_iff_toNat_lt] at *; omega)
        subst e
        rcases bl_tri x y with h | rfl | h
        · exact .inl (.inr ⟨rfl, h⟩)
        · exact .inr (.inl rfl)
        · exact .inr (.inr (.inr ⟨rfl, h⟩))
/-- A key is below another one. -/
def kl (a b : ByteArray) : Prop := bytesLess a.toList b.toList = true
theorem kl_irr (a : ByteArray) : ¬ kl a a := by
  unfold kl
  rw [bl_irr]
  simp
theorem kl_trans {a b c : ByteArray} (h1 : kl a b) (h2 : kl b c) : kl a c := bl_trans _ _ _ h1 h2
theorem kl_asym {a b : ByteArray} (h1 : kl a b) (h2 : kl b a) : False := kl_irr a (kl_trans h1 h2)
theorem kl_ne {a b : ByteArray} (h : kl a b) : a ≠ b := fun e => kl_irr a (by rw [← e] at h; exact h)
theorem kl_tri (a b : ByteArray) : kl a b ∨ a = b ∨ kl b a := by
  rcases bl_tri a.toList b.toList with h | h | h
  · exact .inl h
  · refine .inr (.inl ?_)
    rw [Lib.toList_data, Lib.toList_data] at h
    exact ByteArray.ext (Array.ext' h)
  · exact .inr (.inr h)
/-- A pair. -/
structure Pr where
  key : ByteArray
  val : ByteArray
abbrev Pages := List (List Pr)
def Rises (l : List Pr) : Prop := l.Pairwise (fun a b => kl a.key b.key)
/-- Which pages are right (7.1). -/
def RightP (ps : Pages) : Prop := (∀ p ∈ ps, 1 ≤ p.length ∧ p.length ≤ 8) ∧ Rises ps.flatten

/-! Sorted lists. -/
/-- With a pair more. -/
def insL : List Pr → ByteArray → ByteArray → List Pr
  | [], k, v => [⟨k, v⟩]
  | x :: l, k, v => if bytesLess k.toList x.key.toList then ⟨k, v⟩ :: x :: l else if bytesLess x.key.toList k.toList then x :: insL l k v else ⟨k, v⟩ :: l
/-- Without a key. -/
def delL (l : List Pr) (k : ByteArray) : List Pr := l.filter (fun x => bytesLess x.key.toList k.toList || bytesLess k.toList x.key.toList)
theorem insL_left {k v : ByteArray} : ∀ (a l : List Pr), (∀ x ∈ a, kl x.key k) → insL (a ++ l) k v = a ++ insL l k v
  | [], l, _ => rfl
  | x :: a, l, h => by
    have hx : bytesLess x.key.toList k.toList = true := h x (by simp)
    have h1 : ¬ bytesLess k.toList x.key.toList = true := fun e => kl_asym hx e
    rw [List.cons_append, insL, if_neg h1, if_pos hx, insL_left a l (fun y hy => h y (by simp [hy]))]
    rfl
theorem insL_right {k v : ByteArray} : ∀ (a b : List Pr), (∀ x ∈ b, kl k x.key) → insL (a ++ b) k v = insL a k v ++ b
  | [], [], _ => rfl
  | [], x :: b, h => by
    have hx : bytesLess k.toList x.key.toList = true := h x (by simp)
    rw [List.nil_append]
    unfold insL
    rw [if_pos hx]
    rfl
  | x :: a, b, h => by
    have ih := insL_right (v := v) a b h
    have e1 : insL (x :: a ++ b) k v = if bytesLess k.toList x.key.toList then ⟨k, v⟩ :: x :: (a ++ b) else if bytesLess x.key.toList k.toList then x :: insL (a ++ b) k v else ⟨k, v⟩ :: (a ++ b) := rfl
    have e2 : insL (x :: a) k v = if bytesLess k.toList x.key.toList then ⟨k, v⟩ :: x :: a else if bytesLess x.key.toList k.toList then x :: insL a k v else ⟨k, v⟩ :: a := rfl
    rw [e1, e2]
    split
    · rfl
    · split
      · rw [ih]
        rfl
      · rfl
theorem insL_len (k v : ByteArray) : ∀ l : List Pr, l.length ≤ (insL l k v).length ∧ (insL l k v).length ≤ l.length + 1 ∧ 1 ≤ (insL l k v).length
  | [] => by simp [insL]
  | x :: l => by
    have ih := insL_len k v l
    rw [insL]
    split
    · simp
    · split
      · simp only [List.length_cons]
        omega
      · simp
theorem insL_mem {k v : ByteArray} : ∀ {l : List Pr} {x : Pr}, x ∈ insL l k v → x.key = k ∨ x ∈ l
  | [], x, h => by
    rw [insL, List.mem_singleton] at h
    exact .inl (by rw [h])
  | y :: l, x, h => by
    rw [insL] at h
    split at h
    · rcases List.mem_cons.1 h with h | h
      · exact .inl (by rw [h])
      · exact .inr h
    · split at h
      · rcases List.mem_cons.1 h with h | h
        · exact .inr (by rw [h]; simp)
        · rcases insL_mem h with h | h
          · exact .inl h
          · exact .inr (by simp [h])
      · rcases List.mem_cons.1 h with h | h
        · exact .inl (by rw [h])
        · exact .inr (by simp [h])
theorem insL_rises {k v : ByteArray} : ∀ {l : List Pr}, Rises l → Rises (insL l k v)
  | [], _ => by
    unfold Rises insL
    simp
  | y :: l, h => by
    have h' := h
    unfold Rises at h'
    rw [List.pairwise_cons] at h'
    rw [insL]
    split
    · rename_i hk
      unfold Rises
      rw [List.pairwise_cons]
      refine ⟨fun x hx => ?_, h⟩
      rcases List.mem_cons.1 hx with rfl | hx
      · exact hk
      · exact kl_trans hk (h'.1 x hx)
    · split
      · rename_i hk1 hk2
        unfold Rises
        rw [List.pairwise_cons]
        refine ⟨fun x hx => ?_, insL_rises h'.2⟩
        rcases insL_mem hx with e | hx
        · rw [e]
          exact hk2
        · exact h'.1 x hx
      · rename_i hk1 hk2
        have e : y.key = k := by
          rcases kl_tri y.key k with a | a | a
          · exact absurd a hk2
          · exact a
          · exact absurd a hk1
        unfold Rises
        rw [List.pairwise_cons]
        refine ⟨fun x hx => ?_, h'.2⟩
        rw [← e]
        exact h'.1 x hx
theorem delL_app (a b : List Pr) (k : ByteArray) : delL (a ++ b) k = delL a k ++ delL b k := by simp [delL]
theorem delL_mem {l : List Pr} {k : ByteArray} {x : Pr} : x ∈ delL l k ↔ x ∈ l ∧ x.key ≠ k := by
  unfold delL
  rw [List.mem_filter]
  refine and_congr_right fun _ => ?_
  rw [Bool.or_eq_true]
  constructor
  · rintro (h | h)
    · exact kl_ne h
    · exact fun e => kl_ne h e.symm
  · intro h
    rcases kl_tri x.key k with a | a | a
    · exact .inl a
    · exact absurd a h
    · exact .inr a
theorem delL_same {l : List Pr} {k : ByteArray} (h : ∀ x ∈ l, x.key ≠ k) : delL l k = l := by
  unfold delL
  rw [List.filter_eq_self]
  intro x hx
  have := (delL_mem (l := l) (k := k)).2 ⟨hx, h x hx⟩
  exact (List.mem_filter.1 this).2
theorem delL_rises {l : List Pr} (h : Rises l) (k : ByteArray) : Rises (delL l k) := List.Pairwise.filter _ h

/-! Pages. -/
/-- Is the page's first key not above k? -/
def firstLe (p : List Pr) (k : ByteArray) : Bool := match p with
  | [] => false
  | x :: _ => !bytesLess k.toList x.key.toList
/-- How many pages, from the first on, begin not above k. -/
def cntP (ps : Pages) (k : ByteArray) : Nat := (ps.takeWhile (fun p => firstLe p k)).length
/-- The page of a key. -/
def ofP (ps : Pages) (k : ByteArray) : Nat := cntP ps k - 1
/-- A page that has too many is two. -/
def splitP (p : List Pr) : Pages := if 8 < p.length then [p.take 4, p.drop 4] else [p]
/-- 7.2, of right pages. -/
def putP (ps : Pages) (k v : ByteArray) : Pages := match ps[ofP ps k]? with
  | none => [[⟨k, v⟩]]
  | some p => ps.take (ofP ps k) ++ (splitP (insL p k v) ++ ps.drop (ofP ps k + 1))
/-- 7.3, of right pages. -/
def delP (ps : Pages) (k : ByteArray) : Pages := match ps[ofP ps k]? with
  | none => ps
  | some p =>
    if delL p k = [] then ps.take (ofP ps k) ++ ps.drop (ofP ps k + 1)
    else if (delL p k).length = p.length then ps
    else match ps[ofP ps k + 1]? with
      | some q => if (delL p k).length + q.length ≤ 4 then ps.take (ofP ps k) ++ ((delL p k ++ q) :: ps.drop (ofP ps k + 2)) else ps.take (ofP ps k) ++ (delL p k :: ps.drop (ofP ps k + 1))
      | none => match ps[ofP ps k - 1]? with
        | some q => if 0 < ofP ps k ∧ (delL p k).length + q.length ≤ 4 then ps.take (ofP ps k - 1) ++ [q ++ delL p k] else ps.take (ofP ps k) ++ [delL p k]
        | none => ps.take (ofP ps k) ++ [delL p k]
theorem split_flat (p : List Pr) : (splitP p).flatten = p := by
  unfold splitP
  split
  · simp
  · simp
theorem split_len {p : List Pr} (h1 : 1 ≤ p.length) (h9 : p.length ≤ 9) : ∀ q ∈ splitP p, 1 ≤ q.length ∧ q.length ≤ 8 := by
  intro q hq
  unfold splitP at hq
  split at hq
  · rcases List.mem_cons.1 hq with rfl | hq
    · rw [List.length_take]
      omega
    · rw [List.mem_singleton.1 hq, List.length_drop]
      omega
  · rw [List.mem_singleton.1 hq]
    omega
theorem flat_at3 {α : Type} (l : List (List α)) (i : Nat) (p : List α) (h : l[i]? = some p) : l.flatten = (l.take i).flatten ++ (p ++ (l.drop (i + 1)).flatten) := by
  have hi := (List.getElem?_eq_some_iff.1 h).1
  have e := (List.getElem?_eq_some_iff.1 h).2
  have h1 : l = l.take i ++ (p :: l.drop (i + 1)) := by
    rw [← e, ← List.drop_eq_getElem_cons hi, List.take_append_drop]
  conv => lhs; rw [h1]
  rw [List.flatten_append, List.flatten_cons]
theorem tw_all {α : Type} (f : α → Bool) : ∀ (l : List α) (x : α), x ∈ l.takeWhile f → f x = true
  | [], x, h => by simp at h
  | y :: l, x, h => by
    rw [List.takeWhile_cons] at h
    split at h
    · rename_i hy
      rcases List.mem_cons.1 h with rfl | h
      · exact hy
      · exact tw_all f l x h
    · simp at h
/-- Ahead of the page of a key all keys are below it, behind it above. -/
theorem of_sides {ps : Pages} (h : RightP ps) (k : ByteArray) : (∀ x ∈ (ps.take (ofP ps k)).flatten, kl x.key k) ∧ (∀ x ∈ (ps.drop (ofP ps k + 1)).flatten, kl k x.key) := by
  obtain ⟨hl, hr⟩ := h
  have hrow : ∀ (i j : Nat) p q, ps[i]? = some p → ps[j]? = some q → i < j → ∀ x ∈ p, ∀ y ∈ q, kl x.key y.key := by
    intro i j p q hp hq hij x hx y hy
    have e := flat_at3 ps i p hp
    unfold Rises at hr
    rw [e, List.pairwise_append] at hr
    have h2 := (List.pairwise_append.1 hr.2.1).2.2 x hx
    refine h2 y (List.mem_flatten.2 ⟨q, ?_, hy⟩)
    rw [List.mem_iff_getElem?]
    refine ⟨j - (i + 1), ?_⟩
    rw [List.getElem?_drop, show i + 1 + (j - (i + 1)) = j by omega]
    exact hq
  have htw : ∀ i, i < cntP ps k → ∀ p, ps[i]? = some p → firstLe p k = true := by
    intro i hi p hp
    unfold cntP at hi
    have h1 : (ps.takeWhile (fun p => firstLe p k))[i]? = some p := by
      have := List.takeWhile_prefix (l := ps) (fun p => firstLe p k)
      obtain ⟨r, hr'⟩ := this
      rw [← hr', List.getElem?_append_left hi] at hp
      exact hp
    exact tw_all _ ps p (List.mem_of_getElem? h1)
  have hdw : ∀ p, ps[cntP ps k]? = some p → firstLe p k = false := by
    intro p hp
    unfold cntP at hp
    have e : ps = ps.takeWhile (fun p => firstLe p k) ++ ps.dropWhile (fun p => firstLe p k) := (List.takeWhile_append_dropWhile).symm
    have h2 : (ps.dropWhile (fun p => firstLe p k))[0]? = some p := by
      rw [e, List.getElem?_append_right (by rw [← e]; exact Nat.le_refl _)] at hp
      rw [← e] at hp
      simpa using hp
    have hne : ps.dropWhile (fun p => firstLe p k) ≠ [] := by
      intro e0
      rw [e0] at h2
      simp at h2
    have h3 := List.head_dropWhile_not (fun p => firstLe p k) hne
    have h4 : (ps.dropWhile (fun p => firstLe p k)).head hne = p := by
      have := List.head?_eq_some_head hne
      rw [List.head?_eq_getElem?, h2] at this
      exact (Option.some.inj this).symm
    rw [h4] at h3
    simpa using h3
  have hfl : ∀ (p : List Pr), 1 ≤ p.length → ∃ x, p.head? = some x ∧ x ∈ p ∧ (firstLe p k = true ↔ ¬ kl k x.key) := by
    intro p hp
    cases p with
    | nil => simp at hp
    | cons x p =>
      refine ⟨x, rfl, by simp, ?_⟩
      simp [firstLe, kl]
  constructor
  · intro x hx
    obtain ⟨p, hp, hxp⟩ := List.mem_flatten.1 hx
    obtain ⟨i, hi⟩ := List.mem_iff_getElem?.1 hp
    rw [List.getElem?_take] at hi
    split at hi
    · rename_i hlt
      have hc : 0 < cntP ps k := by unfold ofP at hlt; omega
      have hlen : cntP ps k ≤ ps.length := by
        unfold cntP
        exact (List.takeWhile_prefix (l := ps) (fun p => firstLe p k)).length_le
      have hq : ps[ofP ps k]? = some (ps[ofP ps k]'(by unfold ofP; omega)) := List.getElem?_eq_getElem _
      obtain ⟨y, _, hy, hyk⟩ := hfl _ (hl _ (List.mem_of_getElem? hq)).1
      have h1 := hyk.1 (htw (ofP ps k) (by unfold ofP; omega) _ hq)
      have h2 := hrow i (ofP ps k) _ _ hi hq hlt x hxp y hy
      rcases kl_tri y.key k with a | a | a
      · exact kl_trans h2 a
      · rw [← a]
        exact h2
      · exact absurd a h1
    · cases hi
  · intro x hx
    obtain ⟨p, hp, hxp⟩ := List.mem_flatten.1 hx
    obtain ⟨i, hi⟩ := List.mem_iff_getElem?.1 hp
    rw [List.getElem?_drop] at hi
    have hj : cntP ps k ≤ ofP ps k + 1 + i := by unfold ofP; omega
    have hjl := (List.getElem?_eq_some_iff.1 hi).1
    have hq : ps[cntP ps k]? = some (ps[cntP ps k]'(by omega)) := List.getElem?_eq_getElem _
    obtain ⟨y, hy0, hy, hyk⟩ := hfl _ (hl _ (List.mem_of_getElem? hq)).1
    have h1 : kl k y.key := by
      have := hdw _ hq
      by_cases hky : kl k y.key
      · exact hky
      · rw [hyk.2 hky] at this
        cases this
    by_cases e : cntP ps k = ofP ps k + 1 + i
    · have : p = ps[cntP ps k]'(by omega) := by
        rw [← e, hq] at hi
        exact (Option.some.inj hi).symm
      subst this
      -- x is y, or behind it in the page
      have hpp : Rises (ps[cntP ps k]'(by omega)) := by
        have h5 := flat_at3 ps _ _ hq
        unfold Rises at hr ⊢
        rw [h5, List.pairwise_append] at hr
        exact (List.pairwise_append.1 hr.2.1).1
      generalize (ps[cntP ps k]'(by omega)) = pg at *
      cases pg with
      | nil => simp at hy
      | cons z pg =>
        simp at hy0
        subst hy0
        rcases List.mem_cons.1 hxp with rfl | hx2
        · exact h1
        · unfold Rises at hpp
          exact kl_trans h1 ((List.pairwise_cons.1 hpp).1 x hx2)
    · exact kl_trans h1 (hrow _ _ _ _ hq hi (by omega) y hy x hxp)
theorem of_lt {ps : Pages} (k : ByteArray) (h : ps ≠ []) : ofP ps k < ps.length := by
  have h1 : cntP ps k ≤ ps.length := by
    unfold cntP
    exact (List.takeWhile_prefix (l := ps) (fun p => firstLe p k)).length_le
  have h2 : 0 < ps.length := List.length_pos_iff.2 h
  unfold ofP
  omega
theorem right_mid {ps : Pages} {i : Nat} (h : RightP ps) : (∀ p ∈ ps.take i, 1 ≤ p.length ∧ p.length ≤ 8) ∧ (∀ p ∈ ps.drop i, 1 ≤ p.length ∧ p.length ≤ 8) := ⟨fun p hp => h.1 p (List.mem_of_mem_take hp), fun p hp => h.1 p (List.mem_of_mem_drop hp)⟩
/-- With a pair more pages hold what a sorted list would, and stay right (7.5). -/
theorem put_flat {ps : Pages} (h : RightP ps) (k v : ByteArray) : (putP ps k v).flatten = insL ps.flatten k v := by
  unfold putP
  by_cases he : ps = []
  · subst he
    rfl
  · have hq : ps[ofP ps k]? = some (ps[ofP ps k]'(of_lt k he)) := List.getElem?_eq_getElem _
    obtain ⟨h1, h2⟩ := of_sides h k
    rw [hq]
    simp only
    rw [flat_at3 ps _ _ hq, insL_left _ _ h1, insL_right _ _ h2, List.flatten_append, List.flatten_append, split_flat]
theorem put_right {ps : Pages} (h : RightP ps) (k v : ByteArray) : RightP (putP ps k v) := by
  refine ⟨?_, by rw [put_flat h]; exact insL_rises h.2⟩
  unfold putP
  by_cases he : ps = []
  · subst he
    intro p hp
    have : p = [⟨k, v⟩] := by simpa using hp
    rw [this]
    simp
  · have hq : ps[ofP ps k]? = some (ps[ofP ps k]'(of_lt k he)) := List.getElem?_eq_getElem _
    have hz := h.1 _ (List.mem_of_getElem? hq)
    have hn := insL_len k v (ps[ofP ps k]'(of_lt k he))
    rw [hq]
    simp only
    intro p hp
    rcases List.mem_append.1 hp with hp | hp
    · exact (right_mid h).1 p hp
    · rcases List.mem_append.1 hp with hp | hp
      · exact split_len hn.2.2 (by omega) p hp
      · exact (right_mid h).2 p hp
theorem del_page {ps : Pages} (h : RightP ps) (k : ByteArray) (p : List Pr) (hq : ps[ofP ps k]? = some p) : delL ps.flatten k = (ps.take (ofP ps k)).flatten ++ (delL p k ++ (ps.drop (ofP ps k + 1)).flatten) := by
  obtain ⟨h1, h2⟩ := of_sides h k
  rw [flat_at3 ps _ _ hq, delL_app, delL_app, delL_same (fun x hx => kl_ne (h1 x hx)), delL_same (fun x hx e => kl_ne (h2 x hx) e.symm)]
theorem del_len (p : List Pr) (k : ByteArray) : (delL p k).length ≤ p.length := List.length_filter_le _ _
theorem del_all {p : List Pr} {k : ByteArray} (h : (delL p k).length = p.length) : delL p k = p := (List.filter_sublist).eq_of_length h
/-- Without a key pages hold what a sorted list would (7.5). -/
theorem del_flat {ps : Pages} (h : RightP ps) (k : ByteArray) : (delP ps k).flatten = delL ps.flatten k := by
  by_cases he : ps = []
  · subst he
    rfl
  · have hq : ps[ofP ps k]? = some (ps[ofP ps k]'(of_lt k he)) := List.getElem?_eq_getElem _
    have hd := del_page h k _ hq
    unfold delP
    rw [hq]
    simp only
    generalize (ps[ofP ps k]'(of_lt k he)) = p at *
    split
    · rename_i h0
      rw [hd, h0, List.flatten_append, List.nil_append]
    · split
      · rename_i _ h1
        rw [hd, del_all h1, ← flat_at3 ps _ _ hq]
      · split
        · rename_i _ _ q hq2
          have e2 : (ps.drop (ofP ps k + 1)).flatten = q ++ (ps.drop (ofP ps k + 2)).flatten := by
            rw [List.drop_eq_getElem_cons (List.getElem?_eq_some_iff.1 hq2).1, List.flatten_cons, (List.getElem?_eq_some_iff.1 hq2).2]
          split
          · rw [hd, e2, List.flatten_append, List.flatten_cons, List.append_assoc]
          · rw [hd, List.flatten_append, List.flatten_cons]
        · rename_i _ _ hn2
          have e3 : ps.drop (ofP ps k + 1) = [] := List.drop_eq_nil_of_le (by rw [List.getElem?_eq_none_iff] at hn2; exact hn2)
          split
          · rename_i q hq3
            split
            · rename_i h4
              have e4 : (ps.take (ofP ps k)).flatten = (ps.take (ofP ps k - 1)).flatten ++ q := by
                have e5 : ps.take (ofP ps k) = ps.take (ofP ps k - 1) ++ [q] := by
                  have hlt := (List.getElem?_eq_some_iff.1 hq3).1
                  have := List.take_succ_eq_append_getElem hlt
                  rw [(List.getElem?_eq_some_iff.1 hq3).2] at this
                  rw [show ofP ps k = ofP ps k - 1 + 1 by omega]
                  exact this
                rw [e5, List.flatten_append]
                simp
              rw [hd, e3, e4, List.flatten_append]
              simp
            · rw [hd, e3, List.flatten_append]
              simp
          · rw [hd, e3, List.flatten_append]
            simp
theorem del_right {ps : Pages} (h : RightP ps) (k : ByteArray) : RightP (delP ps k) := by
  refine ⟨?_, by rw [del_flat h]; exact delL_rises h.2 k⟩
  by_cases he : ps = []
  · subst he
    intro p hp
    have : delP [] k = [] := rfl
    rw [this] at hp
    cases hp
  · have hq : ps[ofP ps k]? = some (ps[ofP ps k]'(of_lt k he)) := List.getElem?_eq_getElem _
    have hz := h.1 _ (List.mem_of_getElem? hq)
    unfold delP
    rw [hq]
    simp only
    generalize (ps[ofP ps k]'(of_lt k he)) = p at *
    have hdl := del_len p k
    have a1 := fun i => (right_mid (i := i) h).1
    have a2 := fun i => (right_mid (i := i) h).2
    split
    · intro x hx
      rcases List.mem_append.1 hx with hx | hx
      · exact a1 _ x hx
      · exact a2 _ x hx
    · rename_i h0
      have h01 : 1 ≤ (delL p k).length := List.length_pos_iff.2 h0
      split
      · exact h.1
      · split
        · rename_i _ q hq2
          split
          · rename_i h4
            intro x hx
            rcases List.mem_append.1 hx with hx | hx
            · exact a1 _ x hx
            · rcases List.mem_cons.1 hx with rfl | hx
              · rw [List.length_append]
                omega
              · exact a2 _ x hx
          · intro x hx
            rcases List.mem_append.1 hx with hx | hx
            · exact a1 _ x hx
            · rcases List.mem_cons.1 hx with rfl | hx
              · omega
              · exact a2 _ x hx
        · split
          · rename_i q hq3
            split
            · rename_i h4
              intro x hx
              rcases List.mem_append.1 hx with hx | hx
              · exact a1 _ x hx
              · rw [List.mem_singleton.1 hx, List.length_append]
                omega
            · intro x hx
              rcases List.mem_append.1 hx with hx | hx
              · exact a1 _ x hx
              · rw [List.mem_singleton.1 hx]
                omega
          · intro x hx
            rcases List.mem_append.1 hx with hx | hx
            · exact a1 _ x hx
            · rw [List.mem_singleton.1 hx]
              omega

/-! What stands at a key, and between two keys (7.4). -/
def withinB (k lo hi : ByteArray) : Bool := !bytesLess k.toList lo.toList && (hi.toList.isEmpty || bytesLess k.toList hi.toList)
def scanL (l : List Pr) (lo hi : ByteArray) (n : Int) : List Pr := (l.filter (fun x => withinB x.key lo hi)).take n.toNat
def lookP (l : List Pr) (k : ByteArray) : Option ByteArray := (l.find? (fun x => x.key.toList == k.toList)).map Pr.val
theorem bl_nil : ∀ x : List UInt8, bytesLess x [] = false
  | [] => rfl
  | _ :: _ => rfl
/-- All of it. -/
theorem scan_all (l : List Pr) (n : Int) (hn : (l.length : Int) ≤ n) : scanL l ⟨#[]⟩ ⟨#[]⟩ n = l := by
  have h0 : (⟨#[]⟩ : ByteArray).toList = [] := by
    rw [Lib.toList_data]
  unfold scanL
  rw [List.filter_eq_self.2 (fun x _ => by unfold withinB; rw [h0, bl_nil]; rfl), List.take_of_length_le (by omega)]
end Go.Proofs.Ytgldgedbinbigaa.Num
