/-
  Contracts: the bytes of a value, or that it is refused.
-/
import Derived.Test.YtgaidhalkianfaaVText
namespace Go.Proofs.Ytgaidhalkianfaa
open Go.RowKit Num

/-- What Put tells. -/
def Num.putT (k n : Int) (f : Nat) (s : ByteArray) : List UInt8 := if may k n f s then putL k n f s else []
def Num.putE (k n : Int) (f : Nat) (s : ByteArray) : Int := if may k n f s then 0 else 1
def Num.shiftN (u : Nat) : Nat := (u + 9223372036854775808) % 18446744073709551616

theorem shift_any (u : Nat) (w : World) :
    Calls Try.prog 35 #[.int .u64 (u : Int)] w fun e w' => e = .returned (.int .u64 (shiftN u : Nat)) ∧ w' = w := by
  go_enter Try.func35, Try.ntmps35
  go_wp2
  go_ret
  refine ⟨?_, rfl⟩
  have e : IntKind.u64.wrap ((u : Int) + 9223372036854775808) = ((shiftN u : Nat) : Int) := by
    rw [IntKind.wrap_u64]
    unfold shiftN
    omega
  rw [← e]
  rfl

/-- 'string(b)' of one new byte. -/
theorem conv_one (b : UInt8) (x : Int) (hx : x = (b.toNat : Int)) (w : World) :
    (convert 53 9 (.slice (some ⟨w.heap.size, 0, none⟩) 1 1)).run Try.prog (w.alloc (.cells #[.int .u8 x] 5)) = .ok (.string (str [b])) (w.alloc (.cells #[.int .u8 x] 5)) := by
  refine run_convert_bytes_back _ 53 9 5 ⟨w.heap.size, 0, none⟩ 1 [b] Try.underlying53 Try.underlying5 Try.underlying9 ?_
  intro j hj
  subst hx
  have : j = 0 := by simp at hj; omega
  subst this
  simp [Addr.add]
theorem putWord_i (c : UInt8) (x : Int) (hx : x = (c.toNat : Int)) (n : Nat) (w : World) :
    Calls Try.prog 34 #[.int .u8 x, .int .u64 (n : Int)] w fun e w' => e = .returned (.string (str (c :: be8 n))) ∧ Below w.heap.size w w' := by
  subst hx
  exact putWord_any c n w
theorem putText_i (c : UInt8) (x : Int) (hx : x = (c.toNat : Int)) (s : ByteArray) (hs : s.size ≤ 40) (w : World) :
    Calls Try.prog 37 #[.int .u8 x, .string s] w fun e w' => e = .returned (.string (str (c :: (esc s.data.toList ++ [0, 1])))) ∧ Below w.heap.size w w' := by
  subst hx
  exact putText_any c s hs w
theorem below_box0 {w w' : World} {o : Obj} (h : Below (w.alloc o).heap.size (w.alloc o) w') : Below w.heap.size w w' :=
  ((Below.refl _ _).alloc (Nat.le_refl _) o).trans (h.mono (by simp))
theorem below_two {w w1 w2 : World} {o : Obj} (h : Below (w.alloc o).heap.size (w.alloc o) w1) (h2 : Below w1.heap.size w1 w2) : Below w.heap.size w w2 :=
  (below_box0 h).trans (h2.mono (Nat.le_trans (by simp) h.size))

/-- The cells of a value in memory. -/
theorem box_cells {w w' : World} {c0 c1 c2 c3 : Value} {t : TypeId} (h : Below (w.alloc (.cells #[c0, c1, c2, c3] t)).heap.size (w.alloc (.cells #[c0, c1, c2, c3] t)) w') :
    w'.cell? ⟨w.heap.size, 0, none⟩ = some c0 ∧ w'.cell? ⟨w.heap.size, 1, none⟩ = some c1 ∧ w'.cell? ⟨w.heap.size, 2, none⟩ = some c2 ∧ w'.cell? ⟨w.heap.size, 3, none⟩ = some c3 := by
  refine ⟨?_, ?_, ?_, ?_⟩ <;> (rw [h.cell (by simp)]; simp)

theorem put_bad (k n : Int) (f : Nat) (s : ByteArray) (hm : may k n f s = false) (w : World) :
    Calls Try.prog 24 #[.agg #[.int .i64 k, .int .i64 n, .int .u64 (f : Int), .string s]] w fun e w' => e = .returned (.tuple #[.string (str []), .int .i64 1]) ∧ Below w.heap.size w w' := by
  have hc := may_any k n f s
  rw [hm] at hc
  clear hm
  go_enter Try.func24, Try.ntmps24
  go_wp2_with (go_at_call 33; refine (hc _).mono ?_; rintro e w' ⟨rfl, hb⟩)
  go_ret2
  exact ⟨rfl, below_box0 hb⟩

theorem put_null (n : Int) (f : Nat) (s : ByteArray) (hm : may 0 n f s = true) (w : World) :
    Calls Try.prog 24 #[.agg #[.int .i64 0, .int .i64 n, .int .u64 (f : Int), .string s]] w fun e w' => e = .returned (.tuple #[.string (str [1]), .int .i64 0]) ∧ Below w.heap.size w w' := by
  have hc := may_any 0 n f s
  rw [hm] at hc
  clear hm
  have hv := conv_one 1 1 rfl
  go_enter Try.func24, Try.ntmps24
  go_wp2_with (first
    | (go_at_call 33; refine (hc _).mono ?_; rintro e w' ⟨rfl, hb⟩; obtain ⟨b0, b1, b2, b3⟩ := box_cells hb))
  go_ret2
  exact ⟨rfl, (below_box0 hb).alloc (below_box0 hb).size _⟩
theorem put_false (f : Nat) (s : ByteArray) (hm : may 1 0 f s = true) (w : World) :
    Calls Try.prog 24 #[.agg #[.int .i64 1, .int .i64 0, .int .u64 (f : Int), .string s]] w fun e w' => e = .returned (.tuple #[.string (str [2]), .int .i64 0]) ∧ Below w.heap.size w w' := by
  have hc := may_any 1 0 f s
  rw [hm] at hc
  clear hm
  have hv := conv_one 2 2 rfl
  go_enter Try.func24, Try.ntmps24
  go_wp2_with (first
    | (go_at_call 33; refine (hc _).mono ?_; rintro e w' ⟨rfl, hb⟩; obtain ⟨b0, b1, b2, b3⟩ := box_cells hb))
  go_ret2
  exact ⟨rfl, (below_box0 hb).alloc (below_box0 hb).size _⟩
theorem put_true (f : Nat) (s : ByteArray) (hm : may 1 1 f s = true) (w : World) :
    Calls Try.prog 24 #[.agg #[.int .i64 1, .int .i64 1, .int .u64 (f : Int), .string s]] w fun e w' => e = .returned (.tuple #[.string (str [3]), .int .i64 0]) ∧ Below w.heap.size w w' := by
  have hc := may_any 1 1 f s
  rw [hm] at hc
  clear hm
  have hv := conv_one 3 3 rfl
  go_enter Try.func24, Try.ntmps24
  go_wp2_with (first
    | (go_at_call 33; refine (hc _).mono ?_; rintro e w' ⟨rfl, hb⟩; obtain ⟨b0, b1, b2, b3⟩ := box_cells hb))
  go_ret2
  exact ⟨rfl, (below_box0 hb).alloc (below_box0 hb).size _⟩
theorem put_int (n : Int) (f : Nat) (s : ByteArray) (hm : may 2 n f s = true) (u : Nat) (hu : IntKind.u64.wrap n = (u : Int)) (w : World) :
    Calls Try.prog 24 #[.agg #[.int .i64 2, .int .i64 n, .int .u64 (f : Int), .string s]] w fun e w' => e = .returned (.tuple #[.string (str (4 :: be8 (shiftN u))), .int .i64 0]) ∧ Below w.heap.size w w' := by
  have hc := may_any 2 n f s
  rw [hm] at hc
  clear hm
  go_enter Try.func24, Try.ntmps24
  go_wp2_with (first
    | (go_at_call 33; refine (hc _).mono ?_; rintro e w' ⟨rfl, hb⟩; obtain ⟨b0, b1, b2, b3⟩ := box_cells hb)
    | (go_at_call 35; refine (shift_any u _).mono ?_; rintro e w1 ⟨rfl, rfl⟩)
    | (go_at_call 34; refine (putWord_i 4 4 rfl (shiftN u) _).mono ?_; rintro e w2 ⟨rfl, hb2⟩))
  go_ret2
  exact ⟨rfl, below_two hb hb2⟩
theorem put_float (n : Int) (f : Nat) (hf : f < 18446744073709551616) (s : ByteArray) (hm : may 3 n f s = true) (w : World) :
    Calls Try.prog 24 #[.agg #[.int .i64 3, .int .i64 n, .int .u64 (f : Int), .string s]] w fun e w' => e = .returned (.tuple #[.string (str (5 :: be8 (place f))), .int .i64 0]) ∧ Below w.heap.size w w' := by
  have hc := may_any 3 n f s
  rw [hm] at hc
  clear hm
  go_enter Try.func24, Try.ntmps24
  go_wp2_with (first
    | (go_at_call 33; refine (hc _).mono ?_; rintro e w' ⟨rfl, hb⟩; obtain ⟨b0, b1, b2, b3⟩ := box_cells hb)
    | (go_at_call 36; refine (order_any f hf _).mono ?_; rintro e w1 ⟨rfl, rfl⟩)
    | (go_at_call 34; refine (putWord_i 5 5 rfl (place f) _).mono ?_; rintro e w2 ⟨rfl, hb2⟩))
  go_ret2
  exact ⟨rfl, below_two hb hb2⟩
theorem put_bytes (n : Int) (f : Nat) (s : ByteArray) (hs : s.size ≤ 40) (hm : may 4 n f s = true) (w : World) :
    Calls Try.prog 24 #[.agg #[.int .i64 4, .int .i64 n, .int .u64 (f : Int), .string s]] w fun e w' => e = .returned (.tuple #[.string (str (6 :: (esc s.data.toList ++ [0, 1]))), .int .i64 0]) ∧ Below w.heap.size w w' := by
  have hc := may_any 4 n f s
  rw [hm] at hc
  clear hm
  go_enter Try.func24, Try.ntmps24
  go_wp2_with (first
    | (go_at_call 33; refine (hc _).mono ?_; rintro e w' ⟨rfl, hb⟩; obtain ⟨b0, b1, b2, b3⟩ := box_cells hb)
    | (go_at_call 37; refine (putText_i 6 6 rfl s hs _).mono ?_; rintro e w2 ⟨rfl, hb2⟩))
  go_ret2
  exact ⟨rfl, below_two hb hb2⟩
theorem put_text (n : Int) (f : Nat) (s : ByteArray) (hs : s.size ≤ 40) (hm : may 5 n f s = true) (w : World) :
    Calls Try.prog 24 #[.agg #[.int .i64 5, .int .i64 n, .int .u64 (f : Int), .string s]] w fun e w' => e = .returned (.tuple #[.string (str (7 :: (esc s.data.toList ++ [0, 1]))), .int .i64 0]) ∧ Below w.heap.size w w' := by
  have hc := may_any 5 n f s
  rw [hm] at hc
  clear hm
  go_enter Try.func24, Try.ntmps24
  go_wp2_with (first
    | (go_at_call 33; refine (hc _).mono ?_; rintro e w' ⟨rfl, hb⟩; obtain ⟨b0, b1, b2, b3⟩ := box_cells hb)
    | (go_at_call 37; refine (putText_i 7 7 rfl s hs _).mono ?_; rintro e w2 ⟨rfl, hb2⟩))
  go_ret2
  exact ⟨rfl, below_two hb hb2⟩

theorem may_text {k n : Int} {f : Nat} {s : ByteArray} (hk : k = 4 ∨ k = 5) (hm : may k n f s = true) : s.size ≤ 40 := by
  rcases hk with rfl | rfl
  · simp [may] at hm
    omega
  · simp [may] at hm
    omega
theorem may_kind {k n : Int} {f : Nat} {s : ByteArray} (hm : may k n f s = true) : k = 0 ∨ (k = 1 ∧ n = 0) ∨ (k = 1 ∧ n = 1) ∨ k = 2 ∨ k = 3 ∨ k = 4 ∨ k = 5 := by
  unfold may at hm
  split at hm
  · simp_all
  · split at hm
    · simp_all
    · split at hm
      · simp_all
      · split at hm
        · simp_all
        · split at hm
          · omega
          · simp at hm
theorem shiftN_wrap (n : Int) (hn : -9223372036854775808 ≤ n ∧ n ≤ 9223372036854775807) (u : Nat) (hu : IntKind.u64.wrap n = (u : Int)) : shiftN u = (n + 9223372036854775808).toNat := by
  rw [IntKind.wrap_u64] at hu
  unfold shiftN
  omega

/-- The bytes of a value, or that it is refused (2.2). -/
theorem put_any (k n : Int) (hn : -9223372036854775808 ≤ n ∧ n ≤ 9223372036854775807) (f : Nat) (hf : f < 18446744073709551616) (s : ByteArray) (w : World) :
    Calls Try.prog 24 #[.agg #[.int .i64 k, .int .i64 n, .int .u64 (f : Int), .string s]] w fun e w' =>
      e = .returned (.tuple #[.string (str (putT k n f s)), .int .i64 (putE k n f s)]) ∧ Below w.heap.size w w' := by
  cases hm : may k n f s with
  | false =>
    rw [show putT k n f s = [] by simp [putT, hm], show putE k n f s = 1 by simp [putE, hm]]
    exact put_bad k n f s hm w
  | true =>
    rw [show putT k n f s = putL k n f s by simp [putT, hm], show putE k n f s = 0 by simp [putE, hm]]
    rcases may_kind hm with rfl | ⟨rfl, rfl⟩ | ⟨rfl, rfl⟩ | rfl | rfl | rfl | rfl
    · exact put_null n f s hm w
    · exact put_false f s hm w
    · exact put_true f s hm w
    · have hnn : 0 ≤ IntKind.u64.wrap n := by rw [IntKind.wrap_u64]; omega
      obtain ⟨u, hu⟩ := Int.eq_ofNat_of_zero_le hnn
      have := put_int n f s hm u hu w
      rw [shiftN_wrap n hn u hu] at this
      exact this
    · exact put_float n f hf s hm w
    · exact put_bytes n f s (may_text (.inl rfl) hm) hm w
    · exact put_text n f s (may_text (.inr rfl) hm) hm w
theorem put_i (k n : Int) (hn : -9223372036854775808 ≤ n ∧ n ≤ 9223372036854775807) (x : Int) (hx : 0 ≤ x ∧ x ≤ 18446744073709551615) (s : ByteArray) (w : World) :
    Calls Try.prog 24 #[.agg #[.int .i64 k, .int .i64 n, .int .u64 x, .string s]] w fun e w' =>
      e = .returned (.tuple #[.string (str (putT k n x.toNat s)), .int .i64 (putE k n x.toNat s)]) ∧ Below w.heap.size w w' := by
  obtain ⟨f, rfl⟩ := Int.eq_ofNat_of_zero_le hx.1
  exact put_any k n hn f (by omega) s w
theorem below_next {B : Nat} {a w w' : World} (h : Below B a w) (hB : B ≤ a.heap.size) (h2 : Below w.heap.size w w') : Below B a w' := h.trans (h2.mono (Nat.le_trans hB h.size))
end Go.Proofs.Ytgaidhalkianfaa
