/-
  What stands at a key, and between two keys (7.4), by places. No program is named here.
-/
import Derived.Test.YtgldgedbinbigaaPDlM
namespace Go.Proofs.Ytgldgedbinbigaa.Num
open Op (bytesLess)
set_option linter.unusedVariables false

theorem key_eq {a b : ByteArray} (h : (a.toList == b.toList) = true) : a = b := by
  simp only [beq_iff_eq] at h
  rw [Lib.toList_data, Lib.toList_data] at h
  exact ByteArray.ext (Array.ext' h)
theorem key_ne {a b : ByteArray} (h : a ≠ b) : (a.toList == b.toList) = false := by
  rw [Bool.eq_false_iff]
  exact fun e => h (key_eq e)
theorem find_skip {k : ByteArray} : ∀ (a l : List Pr), (∀ x ∈ a, x.key ≠ k) → (a ++ l).find? (fun x => x.key.toList == k.toList) = l.find? (fun x => x.key.toList == k.toList)
  | [], l, _ => rfl
  | y :: a, l, h => by
    rw [List.cons_append, List.find?_cons, key_ne (h y (by simp))]
    exact find_skip a l fun x hx => h x (by simp [hx])
theorem ahead_keys {ps : Pages} (h : RightP ps) {k : ByteArray} {p : List Pr} (hp : ps[ofP ps k]? = some p) : ∀ x ∈ aheadP ps (ofP ps k) p (cntK p k), kl x.key k := by
  intro x hx
  rcases List.mem_append.1 hx with hx | hx
  · exact (of_sides h k).1 x hx
  · exact cntK_take x hx
theorem look_yes {ps : Pages} (h : RightP ps) {k : ByteArray} {p : List Pr} (hp : ps[ofP ps k]? = some p) {x : Pr} (hx : p[cntK p k]? = some x) (hk : x.key = k) : lookP ps.flatten k = some x.val := by
  unfold lookP
  rw [flat_pos hp hx, List.append_assoc, find_skip _ _ (fun y hy => kl_ne (ahead_keys h hp y hy)), List.singleton_append, List.find?_cons, hk]
  simp
theorem behind_keys {ps : Pages} (h : RightP ps) {k : ByteArray} {p : List Pr} (hp : ps[ofP ps k]? = some p) : ∀ x ∈ p.drop (cntK p k) ++ (ps.drop (ofP ps k + 1)).flatten, ¬ kl x.key k := by
  intro x hx hlt
  rcases List.mem_append.1 hx with hx | hx
  · obtain ⟨i, hi⟩ := List.mem_iff_getElem?.1 hx
    rw [List.getElem?_drop] at hi
    have := cntK_yes (right_page h hp) (Nat.le_add_right _ i) hi
    unfold kl at hlt
    rw [this] at hlt
    cases hlt
  · exact kl_asym hlt ((of_sides h k).2 x hx)
theorem flat_two {ps : Pages} {k : ByteArray} {p : List Pr} (hp : ps[ofP ps k]? = some p) : ps.flatten = aheadP ps (ofP ps k) p (cntK p k) ++ (p.drop (cntK p k) ++ (ps.drop (ofP ps k + 1)).flatten) := by
  rw [flat_at3 ps _ p hp]
  unfold aheadP
  rw [List.append_assoc, ← List.append_assoc (p.take (cntK p k)), List.take_append_drop]
theorem look_no {ps : Pages} (h : RightP ps) {k : ByteArray} {p : List Pr} (hp : ps[ofP ps k]? = some p) (hh : hasK p k = false) : lookP ps.flatten k = none := by
  unfold lookP
  rw [flat_two hp, find_skip _ _ (fun y hy => kl_ne (ahead_keys h hp y hy))]
  have hall : ∀ y ∈ p.drop (cntK p k) ++ (ps.drop (ofP ps k + 1)).flatten, y.key ≠ k := by
    intro y hy
    rcases List.mem_append.1 hy with hy | hy
    · have hyp := List.mem_of_mem_drop hy
      have h1 := delL_none (right_page h hp) hh
      rw [← h1] at hyp
      exact (delL_mem.1 hyp).2
    · exact fun e => kl_ne ((of_sides h k).2 y hy) e.symm
  have := find_skip (k := k) _ [] hall
  rw [List.append_nil] at this
  rw [this]
  rfl
/-- Is a key below the end? -/
def hiOk (hi : ByteArray) (x : Pr) : Bool := hi.toList.isEmpty || bytesLess x.key.toList hi.toList
theorem within_lo {x : Pr} {lo hi : ByteArray} (h : kl x.key lo) : withinB x.key lo hi = false := by
  unfold withinB
  have : bytesLess x.key.toList lo.toList = true := h
  rw [this]
  rfl
theorem within_hi {x : Pr} {lo hi : ByteArray} (h : ¬ kl x.key lo) : withinB x.key lo hi = hiOk hi x := by
  unfold withinB hiOk
  have : bytesLess x.key.toList lo.toList = false := Bool.eq_false_iff.2 h
  rw [this]
  simp
theorem scan_of {A acc rem : List Pr} {lo hi : ByteArray} {n : Int} (hA : ∀ x ∈ A, kl x.key lo) (hR : ∀ x ∈ acc ++ rem, ¬ kl x.key lo) (hacc : ∀ x ∈ acc, hiOk hi x = true) (hlen : acc = [] ∨ (acc.length : Int) ≤ n) (hend : n ≤ (acc.length : Int) ∨ ∀ x ∈ rem, hiOk hi x = false) : scanL (A ++ (acc ++ rem)) lo hi n = acc := by
  unfold scanL
  rw [List.filter_append, List.filter_append]
  have e1 : A.filter (fun x => withinB x.key lo hi) = [] := by
    rw [List.filter_eq_nil_iff]
    intro x hx
    rw [within_lo (hA x hx)]
    simp
  have e2 : acc.filter (fun x => withinB x.key lo hi) = acc := by
    rw [List.filter_eq_self]
    intro x hx
    rw [within_hi (hR x (by simp [hx]))]
    exact hacc x hx
  rw [e1, e2, List.nil_append]
  rcases hend with h | h
  · rcases hlen with rfl | h2
    · have : n.toNat = 0 := by simp at h; omega
      rw [this]
      rfl
    · have : n.toNat = acc.length := by omega
      rw [this, List.take_left]
  · have e3 : rem.filter (fun x => withinB x.key lo hi) = [] := by
      rw [List.filter_eq_nil_iff]
      intro x hx
      rw [within_hi (hR x (by simp [hx])), h x hx]
      simp
    rw [e3, List.append_nil]
    rcases hlen with rfl | h2
    · simp
    · exact List.take_of_length_le (by omega)
/-- Behind one that is not below the end none is. -/
theorem hi_rest {l : List Pr} {x : Pr} {hi : ByteArray} (hr : Rises (x :: l)) (h : hiOk hi x = false) : ∀ y ∈ x :: l, hiOk hi y = false := by
  intro y hy
  rcases List.mem_cons.1 hy with rfl | hy
  · exact h
  · unfold hiOk at h ⊢
    rw [Bool.or_eq_false_iff] at h ⊢
    refine ⟨h.1, ?_⟩
    rw [Bool.eq_false_iff]
    intro hb
    unfold Rises at hr
    have := kl_trans ((List.pairwise_cons.1 hr).1 y hy) hb
    unfold kl at this
    rw [h.2] at this
    cases this
/-- What is left from a place on. -/
def remP (ps : Pages) (i j : Nat) : List Pr := match ps[i]? with
  | none => []
  | some p => p.drop j ++ (ps.drop (i + 1)).flatten
theorem rem_next {ps : Pages} {i : Nat} {p : List Pr} (hp : ps[i]? = some p) : remP ps i p.length = remP ps (i + 1) 0 := by
  unfold remP
  rw [hp]
  simp only
  rw [List.drop_length, List.nil_append]
  cases h : ps[i + 1]? with
  | none =>
    rw [List.drop_eq_nil_of_le (by rw [List.getElem?_eq_none_iff] at h; exact h)]
    rfl
  | some q =>
    simp only
    rw [drop_at h]
    simp
theorem rem_step {ps : Pages} {i j : Nat} {p : List Pr} {x : Pr} (hp : ps[i]? = some p) (hx : p[j]? = some x) : remP ps i j = x :: remP ps i (j + 1) := by
  unfold remP
  rw [hp]
  simp only
  rw [drop_at hx]
  rfl
theorem rem_end {ps : Pages} {i j : Nat} (h : ps.length ≤ i) : remP ps i j = [] := by
  unfold remP
  rw [List.getElem?_eq_none h]
/-- Where a scan stands. -/
structure ScanS (ps : Pages) (lo hi : ByteArray) (n : Int) (i j : Nat) (acc : List Pr) : Prop where
  split : ∃ A, ps.flatten = A ++ (acc ++ remP ps i j) ∧ (∀ x ∈ A, kl x.key lo) ∧ ∀ x ∈ acc ++ remP ps i j, ¬ kl x.key lo
  ok : ∀ x ∈ acc, hiOk hi x = true
  len : acc = [] ∨ (acc.length : Int) ≤ n
theorem scan_start {ps : Pages} (h : RightP ps) {lo : ByteArray} {p : List Pr} (hp : ps[ofP ps lo]? = some p) (hi : ByteArray) (n : Int) : ScanS ps lo hi n (ofP ps lo) (cntK p lo) [] := by
  have e : remP ps (ofP ps lo) (cntK p lo) = p.drop (cntK p lo) ++ (ps.drop (ofP ps lo + 1)).flatten := by
    unfold remP
    rw [hp]
  refine ⟨⟨_, by rw [List.nil_append, e]; exact flat_two hp, ahead_keys h hp, by rw [List.nil_append, e]; exact behind_keys h hp⟩, by simp, .inl rfl⟩
theorem scan_more {ps : Pages} {lo hi : ByteArray} {n : Int} {i j : Nat} {acc p : List Pr} {x : Pr} (h : ScanS ps lo hi n i j acc) (hp : ps[i]? = some p) (hx : p[j]? = some x) (hn : (acc.length : Int) < n) (hok : hiOk hi x = true) : ScanS ps lo hi n i (j + 1) (acc ++ [x]) := by
  obtain ⟨⟨A, h1, h2, h3⟩, h4, h5⟩ := h
  rw [rem_step hp hx] at h1 h3
  refine ⟨⟨A, by rw [h1]; simp, h2, by simpa using h3⟩, ?_, ?_⟩
  · intro y hy
    rcases List.mem_append.1 hy with hy | hy
    · exact h4 y hy
    · rw [List.mem_singleton.1 hy]
      exact hok
  · right
    rw [List.length_append]
    simp
    omega
theorem scan_page {ps : Pages} {lo hi : ByteArray} {n : Int} {i : Nat} {acc p : List Pr} (h : ScanS ps lo hi n i p.length acc) (hp : ps[i]? = some p) : ScanS ps lo hi n (i + 1) 0 acc := by
  obtain ⟨h1, h4, h5⟩ := h
  rw [rem_next hp] at h1
  exact ⟨h1, h4, h5⟩
theorem scan_full {ps : Pages} {lo hi : ByteArray} {n : Int} {i j : Nat} {acc : List Pr} (h : ScanS ps lo hi n i j acc) (hn : n ≤ (acc.length : Int)) : scanL ps.flatten lo hi n = acc := by
  obtain ⟨⟨A, h1, h2, h3⟩, h4, h5⟩ := h
  rw [h1]
  exact scan_of h2 h3 h4 h5 (.inl hn)
theorem scan_over {ps : Pages} (hr : RightP ps) {lo hi : ByteArray} {n : Int} {i j : Nat} {acc p : List Pr} {x : Pr} (h : ScanS ps lo hi n i j acc) (hp : ps[i]? = some p) (hx : p[j]? = some x) (hok : hiOk hi x = false) : scanL ps.flatten lo hi n = acc := by
  obtain ⟨⟨A, h1, h2, h3⟩, h4, h5⟩ := h
  have hrr := hr.2
  rw [h1] at hrr ⊢
  rw [rem_step hp hx] at hrr
  unfold Rises at hrr
  have h6 := (List.pairwise_append.1 (List.pairwise_append.1 hrr).2.1).2.1
  refine scan_of h2 h3 h4 h5 (.inr ?_)
  rw [rem_step hp hx]
  exact hi_rest h6 hok
theorem scan_end {ps : Pages} {lo hi : ByteArray} {n : Int} {i j : Nat} {acc : List Pr} (h : ScanS ps lo hi n i j acc) (hi' : ps.length ≤ i) : scanL ps.flatten lo hi n = acc := by
  obtain ⟨⟨A, h1, h2, h3⟩, h4, h5⟩ := h
  rw [h1]
  refine scan_of h2 h3 h4 h5 (.inr ?_)
  rw [rem_end hi']
  simp
end Go.Proofs.Ytgldgedbinbigaa.Num
