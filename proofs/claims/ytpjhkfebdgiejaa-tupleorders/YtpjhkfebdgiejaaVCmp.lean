/-
  Contracts: which of two values is below, by their bytes.
-/
import Derived.Test.YtpjhkfebdgiejaaVRef
import Derived.Lib.Bytealg
namespace Go.Proofs.Ytpjhkfebdgiejaa
open Go.RowKit Num

/-- Byte by byte: -1, 0, 1. -/
def Num.cb (x y : List UInt8) : Int := Go.Lib.compareBytes x y
theorem cb_cases : ∀ x y : List UInt8, (cb x y = -1 ∧ cb y x = 1 ∧ Op.bytesLess x y = true ∧ ¬ x = y) ∨ (cb x y = 0 ∧ cb y x = 0 ∧ Op.bytesLess x y = false ∧ x = y) ∨ (cb x y = 1 ∧ cb y x = -1 ∧ Op.bytesLess x y = false ∧ ¬ x = y)
  | [], [] => .inr (.inl ⟨rfl, rfl, rfl, rfl⟩)
  | [], _ :: _ => .inl ⟨rfl, rfl, rfl, by simp⟩
  | _ :: _, [] => .inr (.inr ⟨rfl, rfl, rfl, by simp⟩)
  | a :: x, b :: y => by
    have ih := cb_cases x y
    simp only [cb, Go.Lib.compareBytes, Op.bytesLess] at ih ⊢
    by_cases h1 : a < b
    · have h2 : ¬ b < a := by
        simp only [UInt8.lt_iff_toNat_lt] at h1 ⊢
        omega
      have h3 : ¬ a = b := by
        intro h
        subst h
        exact h2 h1
      refine .inl ⟨by simp [h1], by simp [h1, h2], by simp [h1], by simp [h3]⟩
    · by_cases h2 : b < a
      · have h3 : ¬ a = b := by
          intro h
          subst h
          exact h1 h2
        refine .inr (.inr ⟨by simp [h1, h2], by simp [h2], by simp [h1, h3], by simp [h3]⟩)
      · have h3 : a = b := by
          simp only [UInt8.lt_iff_toNat_lt] at h1 h2
          exact UInt8.toNat_inj.1 (by omega)
        subst h3
        simpa [h1] using ih

theorem toList_str (l : List UInt8) : (str l).toList = l := by
  simp [str]

/-- Which of two values is below (2.4). -/
def Num.cmpV (k0 n0 : Int) (f0 : Nat) (s0 : ByteArray) (k1 n1 : Int) (f1 : Nat) (s1 : ByteArray) : Int :=
  if may k0 n0 f0 s0 = true ∧ may k1 n1 f1 s1 = true then cb (putL k0 n0 f0 s0) (putL k1 n1 f1 s1) else 0

theorem box_cells2 {w w' : World} {o : Obj} {c0 c1 c2 c3 : Value} {t : TypeId} (h : Below ((w.alloc o).alloc (.cells #[c0, c1, c2, c3] t)).heap.size ((w.alloc o).alloc (.cells #[c0, c1, c2, c3] t)) w') :
    w'.cell? ⟨w.heap.size + 1, 0, none⟩ = some c0 ∧ w'.cell? ⟨w.heap.size + 1, 1, none⟩ = some c1 ∧ w'.cell? ⟨w.heap.size + 1, 2, none⟩ = some c2 ∧ w'.cell? ⟨w.heap.size + 1, 3, none⟩ = some c3 := by
  have := box_cells h
  simpa using this
theorem below_box2 {w w' : World} {o o2 : Obj} (h : Below ((w.alloc o).alloc o2).heap.size ((w.alloc o).alloc o2) w') : Below w.heap.size w w' :=
  below_box0 (o := o) (below_box0 h)

theorem refCmpV_any (k0 n0 : Int) (hn0 : -9223372036854775808 ≤ n0 ∧ n0 ≤ 9223372036854775807) (f0 : Nat) (hf0 : f0 < 18446744073709551616) (s0 : ByteArray) (k1 n1 : Int) (hn1 : -9223372036854775808 ≤ n1 ∧ n1 ≤ 9223372036854775807) (f1 : Nat) (hf1 : f1 < 18446744073709551616) (s1 : ByteArray) (w : World) :
    Calls Try.prog 19 #[.agg #[.int .i64 k0, .int .i64 n0, .int .u64 (f0 : Int), .string s0], .agg #[.int .i64 k1, .int .i64 n1, .int .u64 (f1 : Int), .string s1]] w fun e w' =>
      e = .returned (.int .i64 (cmpV k0 n0 f0 s0 k1 n1 f1 s1)) ∧ Below w.heap.size w w' := by
  have hp0 := refPut_any k0 n0 hn0 f0 hf0 s0
  have hp1 := refPut_any k1 n1 hn1 f1 hf1 s1
  have e0 : putT k0 n0 f0 s0 = if may k0 n0 f0 s0 then putL k0 n0 f0 s0 else [] := rfl
  have e1 : putT k1 n1 f1 s1 = if may k1 n1 f1 s1 then putL k1 n1 f1 s1 else [] := rfl
  have g0 : putE k0 n0 f0 s0 = if may k0 n0 f0 s0 then 0 else 1 := rfl
  have g1 : putE k1 n1 f1 s1 = if may k1 n1 f1 s1 then 0 else 1 := rfl
  rw [e0, g0] at hp0
  rw [e1, g1] at hp1
  unfold cmpV
  generalize putL k0 n0 f0 s0 = T0 at hp0 ⊢
  generalize putL k1 n1 f1 s1 = T1 at hp1 ⊢
  clear e0 e1 g0 g1
  have hx := toList_str T0
  have hy := toList_str T1
  obtain ⟨x, hxx⟩ : ∃ x, str T0 = x := ⟨_, rfl⟩
  obtain ⟨y, hyy⟩ : ∃ y, str T1 = y := ⟨_, rfl⟩
  rw [hxx] at hx
  rw [hyy] at hy
  cases hm0 : may k0 n0 f0 s0 <;> cases hm1 : may k1 n1 f1 s1
  all_goals
    rw [hm0] at hp0
    rw [hm1] at hp1
    simp only [if_true, if_false, Bool.false_eq_true, and_self, and_false, false_and] at hp0 hp1 ⊢
    clear hm0 hm1
    try rw [hxx] at hp0
    try rw [hyy] at hp1
    rcases cb_cases T0 T1 with ⟨c1, _, c3, c4⟩ | ⟨c1, _, c3, c4⟩ | ⟨c1, _, c3, c4⟩
    all_goals
      first | (have hE : (x.toList == y.toList) = true := by rw [hx, hy, c4]; exact beq_self_eq_true _) | (have hE : (x.toList == y.toList) = false := by rw [hx, hy]; exact beq_eq_false_iff_ne.2 c4)
      rw [← hx, ← hy] at c3
      rw [← hx, ← hy] at c1
      try rw [← hx, ← hy, c1]
      clear c4 hx hy hxx hyy c1
      go_enter Try.func19, Try.ntmps19
      go_wp2_with (first
        | (go_at_call 21; refine (hp0 _).mono ?_; rintro e w1 ⟨rfl, hb1⟩; obtain ⟨b0, b1, b2, b3⟩ := box_cells2 hb1; clear hp0)
        | (go_at_call 21; refine (hp1 _).mono ?_; rintro e w2 ⟨rfl, hb2⟩))
      go_ret
      exact ⟨rfl, below_next (below_box2 hb1) (Nat.le_refl _) hb2⟩
end Go.Proofs.Ytpjhkfebdgiejaa
