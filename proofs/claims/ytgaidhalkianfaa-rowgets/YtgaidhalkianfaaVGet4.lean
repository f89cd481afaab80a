/-
  Contracts: the value at the beginning of bytes, or that they are refused.
-/
import Derived.Test.YtgaidhalkianfaaVGet3
namespace Go.Proofs.Ytgaidhalkianfaa
open Go.RowKit Num
set_option linter.unusedVariables false

theorem empty_true {s : ByteArray} (h : s.size = 0) : s.toList.isEmpty = true := by
  rw [ByteArray.toList_eq]
  have : s.data.toList.length = 0 := h
  cases hl : s.data.toList with
  | nil => rfl
  | cons a r => rw [hl] at this; simp at this
theorem empty_false {s : ByteArray} (h : ¬ s.size = 0) : s.toList.isEmpty = false := by
  rw [ByteArray.toList_eq]
  have : ¬ s.data.toList.length = 0 := h
  cases hl : s.data.toList with
  | nil => rw [hl] at this; simp at this
  | cons a r => rfl
theorem getL_empty {s : ByteArray} (h : s.size = 0) : getL s.data.toList = bad := by
  have : s.data.toList = [] := List.eq_nil_of_length_eq_zero h
  rw [this]
  rfl
theorem getL_head {s : ByteArray} (h : 0 < s.size) : getL s.data.toList = getL (s[0] :: tailL s) := by
  have e : s.data.toList = s[0] :: tailL s := by
    have := List.drop_eq_getElem_cons (l := s.data.toList) (i := 0) h
    rw [List.drop_zero] at this
    exact this
  rw [e]
theorem len_tail8 (s : ByteArray) : (tailL s).length = s.size - 1 := len_tail s

theorem get_empty (s : ByteArray) (h0 : s.size = 0) (w : World) :
    Calls Try.prog 27 #[.string s] w fun e w' => e = .returned (.tuple #[.agg #[.int .i64 0, .int .i64 0, .int .u64 0, .string ⟨#[]⟩], .int .i64 0, .int .i64 3]) ∧ Below w.heap.size w w' := by
  have hem := empty_true h0
  go_enter Try.func27, Try.ntmps27
  go_wp2
  refine bodyPost_ret (v := .tuple #[.agg #[.int .i64 0, .int .i64 0, .int .u64 0, .string ⟨#[]⟩], .int .i64 0, .int .i64 3]) (by simp [results, Try.results27, go_sem]) rfl ⟨rfl, ?_⟩
  exact (Below.refl _ _).alloc (Nat.le_refl _) _
theorem get_1 (s : ByteArray) (h0 : 0 < s.size) (hh : s[0] = 1) (w : World) :
    Calls Try.prog 27 #[.string s] w fun e w' => e = .returned (.tuple #[.agg #[.int .i64 0, .int .i64 0, .int .u64 0, .string ⟨#[]⟩], .int .i64 1, .int .i64 0]) ∧ Below w.heap.size w w' := by
  have hem := empty_false (s := s) (by omega)
  go_enter Try.func27, Try.ntmps27
  go_wp2_with (first
    | fail)
  refine bodyPost_ret (v := .tuple #[.agg #[.int .i64 0, .int .i64 0, .int .u64 0, .string ⟨#[]⟩], .int .i64 1, .int .i64 0]) (by simp [results, Try.results27, go_sem]) rfl ⟨rfl, ?_⟩
  exact (Below.refl _ _).alloc (Nat.le_refl _) _
theorem get_2 (s : ByteArray) (h0 : 0 < s.size) (hh : s[0] = 2) (w : World) :
    Calls Try.prog 27 #[.string s] w fun e w' => e = .returned (.tuple #[.agg #[.int .i64 1, .int .i64 0, .int .u64 0, .string ⟨#[]⟩], .int .i64 1, .int .i64 0]) ∧ Below w.heap.size w w' := by
  have hem := empty_false (s := s) (by omega)
  go_enter Try.func27, Try.ntmps27
  go_wp2_with (first
    | fail)
  refine bodyPost_ret (v := .tuple #[.agg #[.int .i64 1, .int .i64 0, .int .u64 0, .string ⟨#[]⟩], .int .i64 1, .int .i64 0]) (by simp [results, Try.results27, go_sem]) rfl ⟨rfl, ?_⟩
  exact (Below.refl _ _).alloc (Nat.le_refl _) _
theorem get_3 (s : ByteArray) (h0 : 0 < s.size) (hh : s[0] = 3) (w : World) :
    Calls Try.prog 27 #[.string s] w fun e w' => e = .returned (.tuple #[.agg #[.int .i64 1, .int .i64 1, .int .u64 0, .string ⟨#[]⟩], .int .i64 1, .int .i64 0]) ∧ Below w.heap.size w w' := by
  have hem := empty_false (s := s) (by omega)
  go_enter Try.func27, Try.ntmps27
  go_wp2_with (first
    | fail)
  refine bodyPost_ret (v := .tuple #[.agg #[.int .i64 1, .int .i64 1, .int .u64 0, .string ⟨#[]⟩], .int .i64 1, .int .i64 0]) (by simp [results, Try.results27, go_sem]) rfl ⟨rfl, ?_⟩
  exact (Below.refl _ _).alloc (Nat.le_refl _) _
theorem get_bad (s : ByteArray) (h0 : 0 < s.size) (h1 : ¬ s[0] = 1) (h2 : ¬ s[0] = 2) (h3 : ¬ s[0] = 3) (h4 : ¬ s[0] = 4) (h5 : ¬ s[0] = 5) (h6 : ¬ s[0] = 6) (h7 : ¬ s[0] = 7) (w : World) :
    Calls Try.prog 27 #[.string s] w fun e w' => e = .returned (.tuple #[.agg #[.int .i64 0, .int .i64 0, .int .u64 0, .string ⟨#[]⟩], .int .i64 0, .int .i64 3]) ∧ Below w.heap.size w w' := by
  have hem := empty_false (s := s) (by omega)
  have g1 := byte_ne s[0] 1 1 rfl h1
  have g2 := byte_ne s[0] 2 2 rfl h2
  have g3 := byte_ne s[0] 3 3 rfl h3
  have g4 := byte_ne s[0] 4 4 rfl h4
  have g5 := byte_ne s[0] 5 5 rfl h5
  have g6 := byte_ne s[0] 6 6 rfl h6
  have g7 := byte_ne s[0] 7 7 rfl h7
  clear h1 h2 h3 h4 h5 h6 h7
  go_enter Try.func27, Try.ntmps27
  go_wp2_with (first
    | fail)
  refine bodyPost_ret (v := .tuple #[.agg #[.int .i64 0, .int .i64 0, .int .u64 0, .string ⟨#[]⟩], .int .i64 0, .int .i64 3]) (by simp [results, Try.results27, go_sem]) rfl ⟨rfl, ?_⟩
  exact (Below.refl _ _).alloc (Nat.le_refl _) _
theorem get_4 (s : ByteArray) (h0 : 0 < s.size) (hh : s[0] = 4) (X : Res) (hX : ∀ w, Calls Try.prog 41 #[.string s] w fun e w' => e = .returned (.tuple #[.agg #[.int .i64 X.k, .int .i64 X.n, .int .u64 (X.f : Int), .string (str X.s)], .int .i64 X.c, .int .i64 X.e]) ∧ Below w.heap.size w w') (w : World) :
    Calls Try.prog 27 #[.string s] w fun e w' => e = .returned (.tuple #[.agg #[.int .i64 X.k, .int .i64 X.n, .int .u64 (X.f : Int), .string (str X.s)], .int .i64 X.c, .int .i64 X.e]) ∧ Below w.heap.size w w' := by
  have hem := empty_false (s := s) (by omega)
  go_enter Try.func27, Try.ntmps27
  go_wp2_with (first
    | fail
    | (go_at_call 41; refine (hX _).mono ?_; rintro e w1 ⟨rfl, hb1⟩; obtain ⟨q0, q1, q2, q3⟩ := box_cells hb1; obtain ⟨z0, z1, z2, z3⟩ := box_free hb1))
  refine bodyPost_ret (v := .tuple #[.agg #[.int .i64 X.k, .int .i64 X.n, .int .u64 (X.f : Int), .string (str X.s)], .int .i64 X.c, .int .i64 X.e]) (by simp [results, Try.results27, go_sem, q0, q1, q2, q3]) rfl ⟨rfl, ?_⟩
  exact below_set4 (below_box0 hb1) _ _ _ _
theorem get_5 (s : ByteArray) (h0 : 0 < s.size) (hh : s[0] = 5) (X : Res) (hX : ∀ w, Calls Try.prog 42 #[.string s] w fun e w' => e = .returned (.tuple #[.agg #[.int .i64 X.k, .int .i64 X.n, .int .u64 (X.f : Int), .string (str X.s)], .int .i64 X.c, .int .i64 X.e]) ∧ Below w.heap.size w w') (w : World) :
    Calls Try.prog 27 #[.string s] w fun e w' => e = .returned (.tuple #[.agg #[.int .i64 X.k, .int .i64 X.n, .int .u64 (X.f : Int), .string (str X.s)], .int .i64 X.c, .int .i64 X.e]) ∧ Below w.heap.size w w' := by
  have hem := empty_false (s := s) (by omega)
  go_enter Try.func27, Try.ntmps27
  go_wp2_with (first
    | fail
    | (go_at_call 42; refine (hX _).mono ?_; rintro e w1 ⟨rfl, hb1⟩; obtain ⟨q0, q1, q2, q3⟩ := box_cells hb1; obtain ⟨z0, z1, z2, z3⟩ := box_free hb1))
  refine bodyPost_ret (v := .tuple #[.agg #[.int .i64 X.k, .int .i64 X.n, .int .u64 (X.f : Int), .string (str X.s)], .int .i64 X.c, .int .i64 X.e]) (by simp [results, Try.results27, go_sem, q0, q1, q2, q3]) rfl ⟨rfl, ?_⟩
  exact below_set4 (below_box0 hb1) _ _ _ _
theorem get_6 (s : ByteArray) (h0 : 0 < s.size) (hh : s[0] = 6) (X : Res) (hX : ∀ w, Calls Try.prog 43 #[.int .i64 4, .string s] w fun e w' => e = .returned (.tuple #[.agg #[.int .i64 X.k, .int .i64 X.n, .int .u64 (X.f : Int), .string (str X.s)], .int .i64 X.c, .int .i64 X.e]) ∧ Below w.heap.size w w') (w : World) :
    Calls Try.prog 27 #[.string s] w fun e w' => e = .returned (.tuple #[.agg #[.int .i64 X.k, .int .i64 X.n, .int .u64 (X.f : Int), .string (str X.s)], .int .i64 X.c, .int .i64 X.e]) ∧ Below w.heap.size w w' := by
  have hem := empty_false (s := s) (by omega)
  go_enter Try.func27, Try.ntmps27
  go_wp2_with (first
    | fail
    | (go_at_call 43; refine (hX _).mono ?_; rintro e w1 ⟨rfl, hb1⟩; obtain ⟨q0, q1, q2, q3⟩ := box_cells hb1; obtain ⟨z0, z1, z2, z3⟩ := box_free hb1))
  refine bodyPost_ret (v := .tuple #[.agg #[.int .i64 X.k, .int .i64 X.n, .int .u64 (X.f : Int), .string (str X.s)], .int .i64 X.c, .int .i64 X.e]) (by simp [results, Try.results27, go_sem, q0, q1, q2, q3]) rfl ⟨rfl, ?_⟩
  exact below_set4 (below_box0 hb1) _ _ _ _
theorem get_7 (s : ByteArray) (h0 : 0 < s.size) (hh : s[0] = 7) (X : Res) (hX : ∀ w, Calls Try.prog 43 #[.int .i64 5, .string s] w fun e w' => e = .returned (.tuple #[.agg #[.int .i64 X.k, .int .i64 X.n, .int .u64 (X.f : Int), .string (str X.s)], .int .i64 X.c, .int .i64 X.e]) ∧ Below w.heap.size w w') (w : World) :
    Calls Try.prog 27 #[.string s] w fun e w' => e = .returned (.tuple #[.agg #[.int .i64 X.k, .int .i64 X.n, .int .u64 (X.f : Int), .string (str X.s)], .int .i64 X.c, .int .i64 X.e]) ∧ Below w.heap.size w w' := by
  have hem := empty_false (s := s) (by omega)
  go_enter Try.func27, Try.ntmps27
  go_wp2_with (first
    | fail
    | (go_at_call 43; refine (hX _).mono ?_; rintro e w1 ⟨rfl, hb1⟩; obtain ⟨q0, q1, q2, q3⟩ := box_cells hb1; obtain ⟨z0, z1, z2, z3⟩ := box_free hb1))
  refine bodyPost_ret (v := .tuple #[.agg #[.int .i64 X.k, .int .i64 X.n, .int .u64 (X.f : Int), .string (str X.s)], .int .i64 X.c, .int .i64 X.e]) (by simp [results, Try.results27, go_sem, q0, q1, q2, q3]) rfl ⟨rfl, ?_⟩
  exact below_set4 (below_box0 hb1) _ _ _ _
theorem refGet_empty (s : ByteArray) (h0 : s.size = 0) (w : World) :
    Calls Try.prog 28 #[.string s] w fun e w' => e = .returned (.tuple #[.agg #[.int .i64 0, .int .i64 0, .int .u64 0, .string ⟨#[]⟩], .int .i64 0, .int .i64 3]) ∧ Below w.heap.size w w' := by
  have hem := empty_true h0
  go_enter Try.func28, Try.ntmps28
  go_wp2
  refine bodyPost_ret (v := .tuple #[.agg #[.int .i64 0, .int .i64 0, .int .u64 0, .string ⟨#[]⟩], .int .i64 0, .int .i64 3]) (by simp [results, Try.results28, go_sem]) rfl ⟨rfl, ?_⟩
  exact (Below.refl _ _).alloc (Nat.le_refl _) _
theorem refGet_1 (s : ByteArray) (h0 : 0 < s.size) (hh : s[0] = 1) (w : World) :
    Calls Try.prog 28 #[.string s] w fun e w' => e = .returned (.tuple #[.agg #[.int .i64 0, .int .i64 0, .int .u64 0, .string ⟨#[]⟩], .int .i64 1, .int .i64 0]) ∧ Below w.heap.size w w' := by
  have hem := empty_false (s := s) (by omega)
  go_enter Try.func28, Try.ntmps28
  go_wp2_with (first
    | fail)
  refine bodyPost_ret (v := .tuple #[.agg #[.int .i64 0, .int .i64 0, .int .u64 0, .string ⟨#[]⟩], .int .i64 1, .int .i64 0]) (by simp [results, Try.results28, go_sem]) rfl ⟨rfl, ?_⟩
  exact (Below.refl _ _).alloc (Nat.le_refl _) _
theorem refGet_2 (s : ByteArray) (h0 : 0 < s.size) (hh : s[0] = 2) (w : World) :
    Calls Try.prog 28 #[.string s] w fun e w' => e = .returned (.tuple #[.agg #[.int .i64 1, .int .i64 0, .int .u64 0, .string ⟨#[]⟩], .int .i64 1, .int .i64 0]) ∧ Below w.heap.size w w' := by
  have hem := empty_false (s := s) (by omega)
  go_enter Try.func28, Try.ntmps28
  go_wp2_with (first
    | fail)
  refine bodyPost_ret (v := .tuple #[.agg #[.int .i64 1, .int .i64 0, .int .u64 0, .string ⟨#[]⟩], .int .i64 1, .int .i64 0]) (by simp [results, Try.results28, go_sem]) rfl ⟨rfl, ?_⟩
  exact (Below.refl _ _).alloc (Nat.le_refl _) _
theorem refGet_3 (s : ByteArray) (h0 : 0 < s.size) (hh : s[0] = 3) (w : World) :
    Calls Try.prog 28 #[.string s] w fun e w' => e = .returned (.tuple #[.agg #[.int .i64 1, .int .i64 1, .int .u64 0, .string ⟨#[]⟩], .int .i64 1, .int .i64 0]) ∧ Below w.heap.size w w' := by
  have hem := empty_false (s := s) (by omega)
  go_enter Try.func28, Try.ntmps28
  go_wp2_with (first
    | fail)
  refine bodyPost_ret (v := .tuple #[.agg #[.int .i64 1, .int .i64 1, .int .u64 0, .string ⟨#[]⟩], .int .i64 1, .int .i64 0]) (by simp [results, Try.results28, go_sem]) rfl ⟨rfl, ?_⟩
  exact (Below.refl _ _).alloc (Nat.le_refl _) _
theorem refGet_bad (s : ByteArray) (h0 : 0 < s.size) (h1 : ¬ s[0] = 1) (h2 : ¬ s[0] = 2) (h3 : ¬ s[0] = 3) (h4 : ¬ s[0] = 4) (h5 : ¬ s[0] = 5) (h6 : ¬ s[0] = 6) (h7 : ¬ s[0] = 7) (w : World) :
    Calls Try.prog 28 #[.string s] w fun e w' => e = .returned (.tuple #[.agg #[.int .i64 0, .int .i64 0, .int .u64 0, .string ⟨#[]⟩], .int .i64 0, .int .i64 3]) ∧ Below w.heap.size w w' := by
  have hem := empty_false (s := s) (by omega)
  have g1 := byte_ne s[0] 1 1 rfl h1
  have g2 := byte_ne s[0] 2 2 rfl h2
  have g3 := byte_ne s[0] 3 3 rfl h3
  have g4 := byte_ne s[0] 4 4 rfl h4
  have g5 := byte_ne s[0] 5 5 rfl h5
  have g6 := byte_ne s[0] 6 6 rfl h6
  have g7 := byte_ne s[0] 7 7 rfl h7
  clear h1 h2 h3 h4 h5 h6 h7
  go_enter Try.func28, Try.ntmps28
  go_wp2_with (first
    | fail)
  refine bodyPost_ret (v := .tuple #[.agg #[.int .i64 0, .int .i64 0, .int .u64 0, .string ⟨#[]⟩], .int .i64 0, .int .i64 3]) (by simp [results, Try.results28, go_sem]) rfl ⟨rfl, ?_⟩
  exact (Below.refl _ _).alloc (Nat.le_refl _) _
theorem refGet_4bad (s : ByteArray) (h0 : 0 < s.size) (hh : s[0] = 4) (h9 : s.size < 9) (w : World) :
    Calls Try.prog 28 #[.string s] w fun e w' => e = .returned (.tuple #[.agg #[.int .i64 0, .int .i64 0, .int .u64 0, .string ⟨#[]⟩], .int .i64 0, .int .i64 3]) ∧ Below w.heap.size w w' := by
  have hem := empty_false (s := s) (by omega)
  go_enter Try.func28, Try.ntmps28
  go_wp2_with (first
    | fail)
  refine bodyPost_ret (v := .tuple #[.agg #[.int .i64 0, .int .i64 0, .int .u64 0, .string ⟨#[]⟩], .int .i64 0, .int .i64 3]) (by simp [results, Try.results28, go_sem]) rfl ⟨rfl, ?_⟩
  exact (Below.refl _ _).alloc (Nat.le_refl _) _
theorem refGet_5bad (s : ByteArray) (h0 : 0 < s.size) (hh : s[0] = 5) (h9 : s.size < 9) (w : World) :
    Calls Try.prog 28 #[.string s] w fun e w' => e = .returned (.tuple #[.agg #[.int .i64 0, .int .i64 0, .int .u64 0, .string ⟨#[]⟩], .int .i64 0, .int .i64 3]) ∧ Below w.heap.size w w' := by
  have hem := empty_false (s := s) (by omega)
  go_enter Try.func28, Try.ntmps28
  go_wp2_with (first
    | fail)
  refine bodyPost_ret (v := .tuple #[.agg #[.int .i64 0, .int .i64 0, .int .u64 0, .string ⟨#[]⟩], .int .i64 0, .int .i64 3]) (by simp [results, Try.results28, go_sem]) rfl ⟨rfl, ?_⟩
  exact (Below.refl _ _).alloc (Nat.le_refl _) _
theorem refGet_4ok (s : ByteArray) (h0 : 0 < s.size) (hh : s[0] = 4) (h9 : ¬ s.size < 9) (u : Nat) (hu : numOf ((tailL s).take 8) = u) (v : Nat) (hv : bits .xor .u64 (u : Int) 9223372036854775808 = (v : Int)) (x : Int) (hx : IntKind.i64.wrap (v : Int) = x) (w : World) :
    Calls Try.prog 28 #[.string s] w fun e w' => e = .returned (.tuple #[.agg #[.int .i64 2, .int .i64 x, .int .u64 0, .string ⟨#[]⟩], .int .i64 9, .int .i64 0]) ∧ Below w.heap.size w w' := by
  have hem := empty_false (s := s) (by omega)
  have hw := number_ok (s.extract 1 s.size) (by rw [size_tail]; omega)
  rw [data_tail, show s.data.toList.drop 1 = tailL s from rfl] at hw
  rw [hu] at hw
  clear hu
  go_enter Try.func28, Try.ntmps28
  go_wp2_with (first
    | fail
    | (go_at_call 44; refine (hw _).mono ?_; rintro e w1 ⟨rfl, rfl⟩))
  refine bodyPost_ret (v := .tuple #[.agg #[.int .i64 2, .int .i64 x, .int .u64 0, .string ⟨#[]⟩], .int .i64 9, .int .i64 0]) (by simp [results, Try.results28, go_sem]) rfl ⟨rfl, ?_⟩
  exact (Below.refl _ _).alloc (Nat.le_refl _) _
theorem refGet_5no (s : ByteArray) (h0 : 0 < s.size) (hh : s[0] = 5) (h9 : ¬ s.size < 9) (hx : backOk (numOf ((tailL s).take 8)) = false) (w : World) :
    Calls Try.prog 28 #[.string s] w fun e w' => e = .returned (.tuple #[.agg #[.int .i64 0, .int .i64 0, .int .u64 0, .string ⟨#[]⟩], .int .i64 0, .int .i64 3]) ∧ Below w.heap.size w w' := by
  have hem := empty_false (s := s) (by omega)
  have hw := number_ok (s.extract 1 s.size) (by rw [size_tail]; omega)
  rw [data_tail, show s.data.toList.drop 1 = tailL s from rfl] at hw
  have hlt := numOf_take_lt (tailL s) 8 (by omega)
  generalize numOf ((tailL s).take 8) = u at hw hx hlt
  have hbk := refBack_any u hlt
  rw [hx] at hbk
  generalize backV u = v at hbk
  clear hx hlt
  go_enter Try.func28, Try.ntmps28
  go_wp2_with (first
    | fail
    | (go_at_call 44; refine (hw _).mono ?_; rintro e w1 ⟨rfl, rfl⟩)
    | (go_at_call 45; refine (hbk _).mono ?_; rintro e w1 ⟨rfl, rfl⟩))
  refine bodyPost_ret (v := .tuple #[.agg #[.int .i64 0, .int .i64 0, .int .u64 0, .string ⟨#[]⟩], .int .i64 0, .int .i64 3]) (by simp [results, Try.results28, go_sem]) rfl ⟨rfl, ?_⟩
  exact (Below.refl _ _).alloc (Nat.le_refl _) _
theorem refGet_5ok (s : ByteArray) (h0 : 0 < s.size) (hh : s[0] = 5) (h9 : ¬ s.size < 9) (hx : backOk (numOf ((tailL s).take 8)) = true) (v : Nat) (hv : backV (numOf ((tailL s).take 8)) = v) (w : World) :
    Calls Try.prog 28 #[.string s] w fun e w' => e = .returned (.tuple #[.agg #[.int .i64 3, .int .i64 0, .int .u64 (v : Int), .string ⟨#[]⟩], .int .i64 9, .int .i64 0]) ∧ Below w.heap.size w w' := by
  have hem := empty_false (s := s) (by omega)
  have hw := number_ok (s.extract 1 s.size) (by rw [size_tail]; omega)
  rw [data_tail, show s.data.toList.drop 1 = tailL s from rfl] at hw
  have hlt := numOf_take_lt (tailL s) 8 (by omega)
  generalize numOf ((tailL s).take 8) = u at hw hx hlt hv
  have hbk := refBack_any u hlt
  rw [hx, hv] at hbk
  clear hx hlt hv
  go_enter Try.func28, Try.ntmps28
  go_wp2_with (first
    | fail
    | (go_at_call 44; refine (hw _).mono ?_; rintro e w1 ⟨rfl, rfl⟩)
    | (go_at_call 45; refine (hbk _).mono ?_; rintro e w1 ⟨rfl, rfl⟩))
  refine bodyPost_ret (v := .tuple #[.agg #[.int .i64 3, .int .i64 0, .int .u64 (v : Int), .string ⟨#[]⟩], .int .i64 9, .int .i64 0]) (by simp [results, Try.results28, go_sem]) rfl ⟨rfl, ?_⟩
  exact (Below.refl _ _).alloc (Nat.le_refl _) _
theorem refGet_6none (s : ByteArray) (h0 : 0 < s.size) (hs : s.size ≤ 900000) (hh : s[0] = 6) (ht : textL (tailL s) = none) (w : World) :
    Calls Try.prog 28 #[.string s] w fun e w' => e = .returned (.tuple #[.agg #[.int .i64 0, .int .i64 0, .int .u64 0, .string ⟨#[]⟩], .int .i64 0, .int .i64 3]) ∧ Below w.heap.size w w' := by
  have hem := empty_false (s := s) (by omega)
  have hw := refText_any (s.extract 1 s.size) (by rw [size_tail]; omega)
  rw [show allL (s.extract 1 s.size) = tailL s from data_tail s] at hw
  rw [textR_none ht] at hw
  clear ht
  go_enter Try.func28, Try.ntmps28
  go_wp2_with (first
    | fail
    | (go_at_call 46; refine (hw _).mono ?_; rintro e w1 ⟨rfl, hb1⟩; obtain ⟨q0, q1, q2, q3⟩ := box_cells hb1; obtain ⟨z0, z1, z2, z3⟩ := box_free hb1))
  refine bodyPost_ret (v := .tuple #[.agg #[.int .i64 0, .int .i64 0, .int .u64 0, .string ⟨#[]⟩], .int .i64 0, .int .i64 3]) (by simp [results, Try.results28, go_sem, q0, q1, q2, q3]) rfl ⟨rfl, ?_⟩
  exact below_set4 (below_box0 hb1) _ _ _ _
theorem refGet_6much (s : ByteArray) (h0 : 0 < s.size) (hs : s.size ≤ 900000) (hh : s[0] = 6) (B : List UInt8) (n : Nat) (ht : textL (tailL s) = some (B, n)) (hB : 40 < B.length) (w : World) :
    Calls Try.prog 28 #[.string s] w fun e w' => e = .returned (.tuple #[.agg #[.int .i64 0, .int .i64 0, .int .u64 0, .string ⟨#[]⟩], .int .i64 0, .int .i64 3]) ∧ Below w.heap.size w w' := by
  have hem := empty_false (s := s) (by omega)
  have hw := refText_any (s.extract 1 s.size) (by rw [size_tail]; omega)
  rw [show allL (s.extract 1 s.size) = tailL s from data_tail s] at hw
  rw [textR_some ht] at hw
  clear ht
  have hsB : (str B).size = B.length := rfl
  have hLB : 40 < (str B).size := by omega
  clear hsB hB
  go_enter Try.func28, Try.ntmps28
  go_wp2_with (first
    | fail
    | (go_at_call 46; refine (hw _).mono ?_; rintro e w1 ⟨rfl, hb1⟩; obtain ⟨q0, q1, q2, q3⟩ := box_cells hb1; obtain ⟨z0, z1, z2, z3⟩ := box_free hb1))
  refine bodyPost_ret (v := .tuple #[.agg #[.int .i64 0, .int .i64 0, .int .u64 0, .string ⟨#[]⟩], .int .i64 0, .int .i64 3]) (by simp [results, Try.results28, go_sem, q0, q1, q2, q3]) rfl ⟨rfl, ?_⟩
  exact below_set4 (below_box0 hb1) _ _ _ _
theorem refGet_6ok (s : ByteArray) (h0 : 0 < s.size) (hs : s.size ≤ 900000) (hh : s[0] = 6) (B : List UInt8) (n : Nat) (hn : n ≤ 900000) (ht : textL (tailL s) = some (B, n)) (hB : B.length ≤ 40) (w : World) :
    Calls Try.prog 28 #[.string s] w fun e w' => e = .returned (.tuple #[.agg #[.int .i64 4, .int .i64 0, .int .u64 0, .string (str B)], .int .i64 ((n : Int) + 1), .int .i64 0]) ∧ Below w.heap.size w w' := by
  have hem := empty_false (s := s) (by omega)
  have hw := refText_any (s.extract 1 s.size) (by rw [size_tail]; omega)
  rw [show allL (s.extract 1 s.size) = tailL s from data_tail s] at hw
  rw [textR_some ht] at hw
  clear ht
  have hsB : (str B).size = B.length := rfl
  have hLB : (str B).size ≤ 40 := by omega
  clear hsB hB
  go_enter Try.func28, Try.ntmps28
  go_wp2_with (first
    | fail
    | (go_at_call 46; refine (hw _).mono ?_; rintro e w1 ⟨rfl, hb1⟩; obtain ⟨q0, q1, q2, q3⟩ := box_cells hb1; obtain ⟨z0, z1, z2, z3⟩ := box_free hb1))
  refine bodyPost_ret (v := .tuple #[.agg #[.int .i64 4, .int .i64 0, .int .u64 0, .string (str B)], .int .i64 ((n : Int) + 1), .int .i64 0]) (by simp [results, Try.results28, go_sem, q0, q1, q2, q3]) rfl ⟨rfl, ?_⟩
  exact below_set4 (below_box0 hb1) _ _ _ _
theorem refGet_7none (s : ByteArray) (h0 : 0 < s.size) (hs : s.size ≤ 900000) (hh : s[0] = 7) (ht : textL (tailL s) = none) (w : World) :
    Calls Try.prog 28 #[.string s] w fun e w' => e = .returned (.tuple #[.agg #[.int .i64 0, .int .i64 0, .int .u64 0, .string ⟨#[]⟩], .int .i64 0, .int .i64 3]) ∧ Below w.heap.size w w' := by
  have hem := empty_false (s := s) (by omega)
  have hw := refText_any (s.extract 1 s.size) (by rw [size_tail]; omega)
  rw [show allL (s.extract 1 s.size) = tailL s from data_tail s] at hw
  rw [textR_none ht] at hw
  clear ht
  go_enter Try.func28, Try.ntmps28
  go_wp2_with (first
    | fail
    | (go_at_call 46; refine (hw _).mono ?_; rintro e w1 ⟨rfl, hb1⟩; obtain ⟨q0, q1, q2, q3⟩ := box_cells hb1; obtain ⟨z0, z1, z2, z3⟩ := box_free hb1))
  refine bodyPost_ret (v := .tuple #[.agg #[.int .i64 0, .int .i64 0, .int .u64 0, .string ⟨#[]⟩], .int .i64 0, .int .i64 3]) (by simp [results, Try.results28, go_sem, q0, q1, q2, q3]) rfl ⟨rfl, ?_⟩
  exact below_set4 (below_box0 hb1) _ _ _ _
theorem refGet_7much (s : ByteArray) (h0 : 0 < s.size) (hs : s.size ≤ 900000) (hh : s[0] = 7) (B : List UInt8) (n : Nat) (ht : textL (tailL s) = some (B, n)) (hB : 40 < B.length) (w : World) :
    Calls Try.prog 28 #[.string s] w fun e w' => e = .returned (.tuple #[.agg #[.int .i64 0, .int .i64 0, .int .u64 0, .string ⟨#[]⟩], .int .i64 0, .int .i64 3]) ∧ Below w.heap.size w w' := by
  have hem := empty_false (s := s) (by omega)
  have hw := refText_any (s.extract 1 s.size) (by rw [size_tail]; omega)
  rw [show allL (s.extract 1 s.size) = tailL s from data_tail s] at hw
  rw [textR_some ht] at hw
  clear ht
  have hsB : (str B).size = B.length := rfl
  have hLB : 40 < (str B).size := by omega
  clear hsB hB
  go_enter Try.func28, Try.ntmps28
  go_wp2_with (first
    | fail
    | (go_at_call 46; refine (hw _).mono ?_; rintro e w1 ⟨rfl, hb1⟩; obtain ⟨q0, q1, q2, q3⟩ := box_cells hb1; obtain ⟨z0, z1, z2, z3⟩ := box_free hb1))
  refine bodyPost_ret (v := .tuple #[.agg #[.int .i64 0, .int .i64 0, .int .u64 0, .string ⟨#[]⟩], .int .i64 0, .int .i64 3]) (by simp [results, Try.results28, go_sem, q0, q1, q2, q3]) rfl ⟨rfl, ?_⟩
  exact below_set4 (below_box0 hb1) _ _ _ _
theorem refGet_7ok (s : ByteArray) (h0 : 0 < s.size) (hs : s.size ≤ 900000) (hh : s[0] = 7) (B : List UInt8) (n : Nat) (hn : n ≤ 900000) (ht : textL (tailL s) = some (B, n)) (hB : B.length ≤ 40) (w : World) :
    Calls Try.prog 28 #[.string s] w fun e w' => e = .returned (.tuple #[.agg #[.int .i64 5, .int .i64 0, .int .u64 0, .string (str B)], .int .i64 ((n : Int) + 1), .int .i64 0]) ∧ Below w.heap.size w w' := by
  have hem := empty_false (s := s) (by omega)
  have hw := refText_any (s.extract 1 s.size) (by rw [size_tail]; omega)
  rw [show allL (s.extract 1 s.size) = tailL s from data_tail s] at hw
  rw [textR_some ht] at hw
  clear ht
  have hsB : (str B).size = B.length := rfl
  have hLB : (str B).size ≤ 40 := by omega
  clear hsB hB
  go_enter Try.func28, Try.ntmps28
  go_wp2_with (first
    | fail
    | (go_at_call 46; refine (hw _).mono ?_; rintro e w1 ⟨rfl, hb1⟩; obtain ⟨q0, q1, q2, q3⟩ := box_cells hb1; obtain ⟨z0, z1, z2, z3⟩ := box_free hb1))
  refine bodyPost_ret (v := .tuple #[.agg #[.int .i64 5, .int .i64 0, .int .u64 0, .string (str B)], .int .i64 ((n : Int) + 1), .int .i64 0]) (by simp [results, Try.results28, go_sem, q0, q1, q2, q3]) rfl ⟨rfl, ?_⟩
  exact below_set4 (below_box0 hb1) _ _ _ _
end Go.Proofs.Ytgaidhalkianfaa
