/-
  Within a kind the bytes of values are in the order of numbers, of floats, of texts.
-/
import Derived.Test.YtpgpmnecggllcaaVCmp
import Derived.Test.YtpgpmnecggllcaaVBackM
namespace Go.Proofs.Ytpgpmnecggllcaa
open Go.RowKit Num

theorem numOf_cons (b : UInt8) (l : List UInt8) : numOf (b :: l) = b.toNat * 256 ^ l.length + numOf l := by
  have key : ∀ (l : List UInt8) (a : Nat), l.foldl (fun a b => a * 256 + b.toNat) a = a * 256 ^ l.length + numOf l := by
    intro l
    induction l with
    | nil => intro a; simp [numOf]
    | cons c r ih =>
      intro a
      simp only [numOf, List.foldl_cons, List.length_cons] at ih ⊢
      rw [ih, ih (0 * 256 + c.toNat), Nat.pow_succ, Nat.add_mul, Nat.zero_mul, Nat.zero_add, Nat.mul_assoc, Nat.mul_comm (256 ^ r.length) 256, Nat.add_assoc]
  have h := key l b.toNat
  simp only [numOf, List.foldl_cons, Nat.zero_mul, Nat.zero_add] at h ⊢
  exact h
/-- Bytes of one length are in the order of their numbers. -/
theorem cb_num : ∀ x y : List UInt8, x.length = y.length → cb x y = if numOf x < numOf y then -1 else if numOf y < numOf x then 1 else 0
  | [], [], _ => rfl
  | a :: x, b :: y, h => by
    have hl : x.length = y.length := by simpa using h
    have ih := cb_num x y hl
    have hx := numOf_lt x
    have hy := numOf_lt y
    rw [hl] at hx
    rw [numOf_cons, numOf_cons, hl]
    simp only [cb, Go.Lib.compareBytes] at ih ⊢
    generalize 256 ^ y.length = M at hx hy
    by_cases h1 : a < b
    · rw [if_pos h1]
      have h1' : a.toNat + 1 ≤ b.toNat := UInt8.lt_iff_toNat_lt.1 h1
      have := Nat.mul_le_mul_right M h1'
      rw [Nat.add_mul, Nat.one_mul] at this
      rw [if_pos (by omega)]
    · rw [if_neg h1]
      by_cases h2 : b < a
      · rw [if_pos h2]
        have h2' : b.toNat + 1 ≤ a.toNat := UInt8.lt_iff_toNat_lt.1 h2
        have := Nat.mul_le_mul_right M h2'
        rw [Nat.add_mul, Nat.one_mul] at this
        rw [if_neg (by omega), if_pos (by omega)]
      · rw [if_neg h2]
        have h3 : a = b := by
          simp only [UInt8.lt_iff_toNat_lt] at h1 h2
          exact UInt8.toNat_inj.1 (by omega)
        subst h3
        rw [ih]
        simp only [Nat.add_lt_add_iff_left]
theorem cb_cons (c : UInt8) (x y : List UInt8) : cb (c :: x) (c :: y) = cb x y := by
  have : ¬ c < c := by simp
  simp [cb, Go.Lib.compareBytes, this]
theorem cb_be8 (p q : Nat) (hp : p < 18446744073709551616) (hq : q < 18446744073709551616) : cb (be8 p) (be8 q) = if p < q then -1 else if q < p then 1 else 0 := by
  rw [cb_num (be8 p) (be8 q) rfl, numOf_be8 p hp, numOf_be8 q hq]
theorem cb_lt (c d : UInt8) (x y : List UInt8) (h : c < d) : cb (c :: x) (d :: y) = -1 := by
  simp [cb, Go.Lib.compareBytes, h]
theorem cb_gt (c d : UInt8) (x y : List UInt8) (h : d < c) : cb (c :: x) (d :: y) = 1 := by
  have : ¬ c < d := by
    simp only [UInt8.lt_iff_toNat_lt] at h ⊢
    omega
  simp [cb, Go.Lib.compareBytes, h, this]
theorem pos_of_ne (c : UInt8) (h : ¬ c = 0) : (0 : UInt8) < c := by
  rw [UInt8.lt_iff_toNat_lt]
  have : ¬ c.toNat = 0 := fun g => h (UInt8.toNat_inj.1 (by simpa using g))
  have e : (0 : UInt8).toNat = 0 := rfl
  omega
/-- Texts as they are written are in the order of the texts. -/
theorem cb_esc : ∀ s t : List UInt8, cb (esc s ++ [0, 1]) (esc t ++ [0, 1]) = cb s t
  | [], [] => rfl
  | [], c :: t => by
    by_cases hc : c = 0
    · subst hc
      rw [esc, esc, if_pos rfl, List.nil_append, List.cons_append, cb_cons, List.cons_append, cb_lt _ _ _ _ (by decide)]
      rfl
    · rw [esc, esc, if_neg hc, List.nil_append, List.cons_append, cb_lt _ _ _ _ (pos_of_ne c hc)]
      rfl
  | c :: s, [] => by
    by_cases hc : c = 0
    · subst hc
      rw [esc, esc, if_pos rfl, List.nil_append, List.cons_append, cb_cons, List.cons_append, cb_gt _ _ _ _ (by decide)]
      rfl
    · rw [esc, esc, if_neg hc, List.nil_append, List.cons_append, cb_gt _ _ _ _ (pos_of_ne c hc)]
      rfl
  | b :: s, c :: t => by
    have ih := cb_esc s t
    by_cases hb : b = 0
    · subst hb
      by_cases hc : c = 0
      · subst hc
        rw [esc, esc, if_pos rfl, if_pos rfl, List.cons_append, List.cons_append, List.cons_append, List.cons_append, cb_cons, cb_cons, cb_cons, ih]
      · rw [esc, esc, if_pos rfl, if_neg hc]
        simp only [List.cons_append]
        rw [cb_lt _ _ _ _ (pos_of_ne c hc), cb_lt _ _ _ _ (pos_of_ne c hc)]
    · by_cases hc : c = 0
      · subst hc
        rw [esc, esc, if_neg hb, if_pos rfl]
        simp only [List.cons_append]
        rw [cb_gt _ _ _ _ (pos_of_ne b hb), cb_gt _ _ _ _ (pos_of_ne b hb)]
      · rw [esc, esc, if_neg hb, if_neg hc, List.cons_append, List.cons_append]
        by_cases h1 : b < c
        · rw [cb_lt _ _ _ _ h1, cb_lt _ _ _ _ h1]
        · by_cases h2 : c < b
          · rw [cb_gt _ _ _ _ h2, cb_gt _ _ _ _ h2]
          · have h3 : b = c := by
              simp only [UInt8.lt_iff_toNat_lt] at h1 h2
              exact UInt8.toNat_inj.1 (by omega)
            subst h3
            rw [cb_cons, cb_cons, ih]

/-! What Cmp tells of values of one kind. -/
theorem em0 : (⟨#[]⟩ : ByteArray).toList.isEmpty = true := by
  rw [ByteArray.toList_eq]
  rfl
theorem kind_int (a b : Int) (ha : -9223372036854775808 ≤ a ∧ a ≤ 9223372036854775807) (hb : -9223372036854775808 ≤ b ∧ b ≤ 9223372036854775807) :
    cmpV 2 a 0 ⟨#[]⟩ 2 b 0 ⟨#[]⟩ = if a < b then -1 else if b < a then 1 else 0 := by
  have m : ∀ n, may 2 n 0 ⟨#[]⟩ = true := fun n => by simp [may]
  unfold cmpV
  rw [if_pos ⟨m a, m b⟩]
  have e : ∀ n, putL 2 n 0 ⟨#[]⟩ = 4 :: be8 (n + 9223372036854775808).toNat := fun n => rfl
  rw [e, e, cb_cons, cb_be8 _ _ (by omega) (by omega)]
  by_cases h1 : a < b
  · rw [if_pos h1, if_pos (by omega)]
  · rw [if_neg h1, if_neg (by omega)]
    by_cases h2 : b < a
    · rw [if_pos h2, if_pos (by omega)]
    · rw [if_neg h2, if_neg (by omega)]
theorem place_canon (f : Nat) : place (canon f) = place f := by unfold place; rw [canon_canon]
theorem kind_float (f g : Nat) (hf : f < 18446744073709551616) (hg : g < 18446744073709551616) : cmpV 3 0 (canon f) ⟨#[]⟩ 3 0 (canon g) ⟨#[]⟩ = cmp f g := by
  have m : ∀ n, may 3 0 (canon n) ⟨#[]⟩ = true := by
    intro n
    simp [may, canon_canon]
  unfold cmpV
  rw [if_pos ⟨m f, m g⟩]
  have e : ∀ n, putL 3 0 n ⟨#[]⟩ = 5 :: be8 (place n) := fun n => rfl
  rw [e, e, cb_cons, place_canon, place_canon, cb_be8 _ _ (place_lt f hf) (place_lt g hg)]
  rfl
theorem kind_text (s t : ByteArray) (hs : ¬ 40 < (s.size : Int)) (ht : ¬ 40 < (t.size : Int)) : cmpV 5 0 0 s 5 0 0 t = cb s.data.toList t.data.toList := by
  have m : ∀ x : ByteArray, ¬ 40 < (x.size : Int) → may 5 0 0 x = true := by
    intro x hx
    simp [may]
    omega
  unfold cmpV
  rw [if_pos ⟨m s hs, m t ht⟩]
  have e : ∀ x : ByteArray, putL 5 0 0 x = 7 :: (esc x.data.toList ++ [0, 1]) := fun _ => rfl
  rw [e, e, cb_cons, cb_esc]
theorem kind_bytes (s t : ByteArray) (hs : ¬ 40 < (s.size : Int)) (ht : ¬ 40 < (t.size : Int)) : cmpV 4 0 0 s 4 0 0 t = cb s.data.toList t.data.toList := by
  have m : ∀ x : ByteArray, ¬ 40 < (x.size : Int) → may 4 0 0 x = true := by
    intro x hx
    simp [may]
    omega
  unfold cmpV
  rw [if_pos ⟨m s hs, m t ht⟩]
  have e : ∀ x : ByteArray, putL 4 0 0 x = 6 :: (esc x.data.toList ++ [0, 1]) := fun _ => rfl
  rw [e, e, cb_cons, cb_esc]
theorem kind_null (a : Int) : cmpV 0 0 0 ⟨#[]⟩ 2 a 0 ⟨#[]⟩ = -1 := by
  unfold cmpV
  rw [if_pos ⟨by simp [may], by simp [may]⟩]
  have e : putL 2 a 0 ⟨#[]⟩ = 4 :: be8 (a + 9223372036854775808).toNat := rfl
  rw [e, show putL 0 0 0 ⟨#[]⟩ = [1] from rfl, cb_lt _ _ _ _ (by decide)]
theorem kind_bool : cmpV 1 0 0 ⟨#[]⟩ 1 1 0 ⟨#[]⟩ = -1 := by decide +kernel

theorem valueCmp_i (k0 n0 : Int) (hn0 : -9223372036854775808 ≤ n0 ∧ n0 ≤ 9223372036854775807) (x0 : Int) (hx0 : 0 ≤ x0 ∧ x0 ≤ 18446744073709551615) (s0 : ByteArray) (k1 n1 : Int) (hn1 : -9223372036854775808 ≤ n1 ∧ n1 ≤ 9223372036854775807) (x1 : Int) (hx1 : 0 ≤ x1 ∧ x1 ≤ 18446744073709551615) (s1 : ByteArray) (w : World) :
    Calls Try.prog 18 #[.agg #[.int .i64 k0, .int .i64 n0, .int .u64 x0, .string s0], .agg #[.int .i64 k1, .int .i64 n1, .int .u64 x1, .string s1]] w fun e w' =>
      e = .returned (.int .i64 (cmpV k0 n0 x0.toNat s0 k1 n1 x1.toNat s1)) ∧ Below w.heap.size w w' := by
  obtain ⟨f0, rfl⟩ := Int.eq_ofNat_of_zero_le hx0.1
  obtain ⟨f1, rfl⟩ := Int.eq_ofNat_of_zero_le hx1.1
  exact valueCmp_any k0 n0 hn0 f0 (by omega) s0 k1 n1 hn1 f1 (by omega) s1 w
end Go.Proofs.Ytpgpmnecggllcaa
