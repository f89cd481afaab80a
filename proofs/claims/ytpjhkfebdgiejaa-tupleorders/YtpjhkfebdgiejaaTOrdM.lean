/-
  The bytes of tuples are in the order of the first values that are unlike. No program is named here.
-/
import Derived.Test.YtpjhkfebdgiejaaVCmp
import Derived.Test.YtpjhkfebdgiejaaTValM
namespace Go.Proofs.Ytpjhkfebdgiejaa
open Num

theorem put_prefix {x y : Val} (hx : x.ok) (hy : y.ok) (mx : x.may = true) (my : y.may = true) {r r' : List UInt8} (h : x.put ++ r = y.put ++ r') : x.put = y.put := by
  have h1 := getL_put x.k x.n hx.1 x.f hx.2 x.s mx r
  have h2 := getL_put y.k y.n hy.1 y.f hy.2 y.s my r'
  have h' : putL x.k x.n x.f x.s ++ r = putL y.k y.n y.f y.s ++ r' := h
  rw [h', h2] at h1
  have hl : (putL y.k y.n y.f y.s).length = (putL x.k x.n x.f x.s).length := by
    have h3 : ((putL y.k y.n y.f y.s).length : Int) = ((putL x.k x.n x.f x.s).length : Int) := congrArg Res.c h1
    omega
  exact (List.append_inj h' hl.symm).1
theorem cb_self_append : ∀ (p r r' : List UInt8), cb (p ++ r) (p ++ r') = cb r r'
  | [], _, _ => rfl
  | c :: p, r, r' => by
    have : ¬ c < c := by simp
    have ih := cb_self_append p r r'
    simp only [cb, List.cons_append, Go.Lib.compareBytes] at ih ⊢
    rw [if_neg this, if_neg this]
    exact ih
theorem cb_unlike : ∀ (p q r r' : List UInt8), (∀ z, ¬ p ++ z = q) → (∀ z, ¬ q ++ z = p) → cb (p ++ r) (q ++ r') = cb p q
  | [], q, _, _, h, _ => absurd rfl (h q)
  | _ :: _, [], _, _, _, h => absurd rfl (h _)
  | a :: p, b :: q, r, r', h, h' => by
    simp only [cb, List.cons_append, Go.Lib.compareBytes]
    by_cases h1 : a < b
    · rw [if_pos h1, if_pos h1]
    · rw [if_neg h1, if_neg h1]
      by_cases h2 : b < a
      · rw [if_pos h2, if_pos h2]
      · rw [if_neg h2, if_neg h2]
        have h3 : a = b := by
          simp only [UInt8.lt_iff_toNat_lt] at h1 h2
          exact UInt8.toNat_inj.1 (by omega)
        subst h3
        exact cb_unlike p q r r' (fun z hz => h z (by rw [List.cons_append, hz])) (fun z hz => h' z (by rw [List.cons_append, hz]))

/-- Which of two tuples is below, value by value. -/
def Num.cmpT : List Val → List Val → Int
  | [], [] => 0
  | [], _ :: _ => -1
  | _ :: _, [] => 1
  | x :: a, y :: b => if cb x.put y.put = 0 then cmpT a b else cb x.put y.put

theorem put_ne (x : Val) : ∃ c r, x.put = c :: r := by
  unfold Val.put putL
  split
  · exact ⟨_, _, rfl⟩
  · split
    · exact ⟨_, _, rfl⟩
    · split
      · exact ⟨_, _, rfl⟩
      · split
        · exact ⟨_, _, rfl⟩
        · split
          · exact ⟨_, _, rfl⟩
          · exact ⟨_, _, rfl⟩
theorem putAll_cons (x : Val) (a : List Val) : putAll (x :: a) = x.put ++ putAll a := rfl
theorem cb_zero {x y : List UInt8} (h : cb x y = 0) : x = y := by
  rcases cb_cases x y with h1 | h1 | h1
  · omega
  · exact h1.2.2.2
  · omega
theorem cb_tuples : ∀ (a b : List Val), (∀ x ∈ a, x.ok) → (∀ x ∈ b, x.ok) → mayAll a = true → mayAll b = true → cb (putAll a) (putAll b) = cmpT a b
  | [], [], _, _, _, _ => rfl
  | [], y :: b, _, _, _, _ => by
    obtain ⟨c, r, h⟩ := put_ne y
    rw [putAll_cons, h]
    rfl
  | x :: a, [], _, _, _, _ => by
    obtain ⟨c, r, h⟩ := put_ne x
    rw [putAll_cons, h]
    rfl
  | x :: a, y :: b, ha, hb, ma, mb => by
    have hx := ha x (by simp)
    have hy := hb y (by simp)
    have ma' : x.may = true ∧ mayAll a = true := by simpa [mayAll] using ma
    have mb' : y.may = true ∧ mayAll b = true := by simpa [mayAll] using mb
    have ih := cb_tuples a b (fun z hz => ha z (by simp [hz])) (fun z hz => hb z (by simp [hz])) ma'.2 mb'.2
    rw [putAll_cons, putAll_cons, cmpT]
    by_cases h0 : cb x.put y.put = 0
    · rw [if_pos h0, cb_zero h0, cb_self_append]
      exact ih
    · rw [if_neg h0]
      have hne : ¬ x.put = y.put := by
        intro h
        rw [h] at h0
        rcases cb_cases y.put y.put with h1 | h1 | h1
        · exact h1.2.2.2 rfl
        · exact h0 h1.1
        · exact h1.2.2.2 rfl
      refine cb_unlike _ _ _ _ ?_ ?_
      · intro z hz
        exact hne (put_prefix hx hy ma'.1 mb'.1 (r := z) (r' := []) (by rw [List.append_nil]; exact hz))
      · intro z hz
        exact hne (put_prefix hy hx mb'.1 ma'.1 (r := z) (r' := []) (by rw [List.append_nil]; exact hz)).symm
/-- The order of what is left, when the first k are alike. -/
theorem cmpT_next {a b : List Val} {k : Nat} (ha : k < a.length) (hb : k < b.length) (h0 : cb (a[k]).put (b[k]).put = 0) : cmpT (a.drop k) (b.drop k) = cmpT (a.drop (k + 1)) (b.drop (k + 1)) := by
  rw [List.drop_eq_getElem_cons ha, List.drop_eq_getElem_cons hb, cmpT, if_pos h0]
theorem cmpT_here {a b : List Val} {k : Nat} (ha : k < a.length) (hb : k < b.length) (h0 : ¬ cb (a[k]).put (b[k]).put = 0) : cmpT (a.drop k) (b.drop k) = cb (a[k]).put (b[k]).put := by
  rw [List.drop_eq_getElem_cons ha, List.drop_eq_getElem_cons hb, cmpT, if_neg h0]
theorem cmpT_end {a b : List Val} {k : Nat} (ha : k ≤ a.length) (hb : k ≤ b.length) (h : k = a.length ∨ k = b.length) :
    cmpT (a.drop k) (b.drop k) = if a.length < b.length then -1 else if b.length < a.length then 1 else 0 := by
  rcases h with rfl | rfl
  · rw [List.drop_length]
    by_cases hlt : a.length < b.length
    · rw [if_pos hlt, List.drop_eq_getElem_cons hlt]
      rfl
    · have he : b.length = a.length := by omega
      rw [if_neg hlt, if_neg (by omega), ← he, List.drop_length]
      rfl
  · rw [List.drop_length]
    by_cases hlt : b.length < a.length
    · rw [if_neg (by omega), if_pos hlt, List.drop_eq_getElem_cons hlt]
      rfl
    · have he : a.length = b.length := by omega
      rw [if_neg (by omega), if_neg hlt, ← he, List.drop_length]
      rfl
/-- What the two texts' comparisons tell. -/
theorem cb_less {x y : List UInt8} {c : Int} (h : cb x y = c) : Op.bytesLess (str x).toList (str y).toList = decide (c < 0) ∧ ((str x).toList == (str y).toList) = decide (c = 0) := by
  rw [toList_str, toList_str]
  subst h
  rcases cb_cases x y with ⟨h1, _, h3, h4⟩ | ⟨h1, _, h3, h4⟩ | ⟨h1, _, h3, h4⟩
  · rw [h1, h3, beq_eq_false_iff_ne.2 h4]
    exact ⟨rfl, rfl⟩
  · rw [h1, h3, h4]
    exact ⟨rfl, by simp⟩
  · rw [h1, h3, beq_eq_false_iff_ne.2 h4]
    exact ⟨rfl, rfl⟩
theorem mayAll_at {l : List Val} (h : mayAll l = true) (k : Nat) (hk : k < l.length) : (l[k]).may = true := by
  rw [mayAll, List.all_eq_true] at h
  exact h _ (List.getElem_mem hk)
end Go.Proofs.Ytpjhkfebdgiejaa
