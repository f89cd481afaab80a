/-
  Contracts: the document's example; an error's number; what is too long.
-/
import Derived.Test.YtgaidhalkianfaaRPut
namespace Go.Proofs.Ytgaidhalkianfaa
open Go.RowKit Num
set_option linter.unusedVariables false

theorem num_any (x : Int) (w : World) :
    Calls Try.prog 13 #[.int .i64 x] w fun e w' => e = .returned (.int .i64 x) ∧ w' = w := by
  go_enter Try.func13, Try.ntmps13
  go_wp2
  go_ret
  exact ⟨rfl, rfl⟩

/-- Is a list too long to be gone through? -/
def Num.longC (l : List Cel) : Bool := (l.take 500).any (fun y => decide (1000 < (y.x.s.size : Int))) || decide (500 < (l.length : Int))
theorem longC_hit {l : List Cel} {k : Nat} (hk : k < l.length) (h20 : k < 500) (h : 1000 < (l[k].x.s.size : Int)) : longC l = true := by
  unfold longC
  rw [Bool.or_eq_true]
  left
  rw [List.any_eq_true]
  exact ⟨l[k], List.mem_take_iff_getElem.2 ⟨k, by omega, rfl⟩, by simpa using h⟩
theorem longC_end {l : List Cel} {k : Nat} (h : ∀ i (hi : i < l.length), i < k → ¬ 1000 < (l[i].x.s.size : Int)) (hk : ¬ (k < l.length ∧ k < 500)) : longC l = decide (500 < (l.length : Int)) := by
  have e : (l.take 500).any (fun y => decide (1000 < (y.x.s.size : Int))) = false := by
    rw [List.any_eq_false]
    intro x hx
    obtain ⟨i, hi, rfl⟩ := List.mem_take_iff_getElem.1 hx
    have := h i (by omega) (by omega)
    simpa using this
  unfold longC
  rw [e, Bool.false_or]
theorem longC_len {l : List Cel} (h : longC l = false) : l.length ≤ 500 := by
  unfold longC at h
  rw [Bool.or_eq_false_iff] at h
  have := of_decide_eq_false h.2
  omega

set_option maxRecDepth 100000 in
theorem long_any (ao : Option Addr) (cap : Nat) (l : List Cel) (hlen : l.length ≤ maxLen) (w : World) (hl : LiesC w w.heap.size ao l) :
    Calls Try.prog 9 #[.slice ao l.length cap] w fun e w' => e = .returned (.bool (longC l)) ∧ w' = w := by
  have hmx : l.length ≤ 9223372036854775807 := by simp only [maxLen] at hlen; omega
  go_enter Try.func9, Try.ntmps9
  go_wp2
  go_loopw [3] (fun i wr => ∃ k : Nat, k ≤ 500 ∧ k ≤ l.length ∧ i = .int .i64 (k : Int) ∧ Hid (∀ i (hi : i < l.length), i < k → ¬ 1000 < (l[i].x.s.size : Int)) ∧ wr = w) (fun i _ => 500 - (intOf i).toNat)
  case atStart => exact ⟨0, by omega, by omega, rfl, fun _ _ h => absurd h (Nat.not_lt_zero _), rfl⟩
  case round =>
    obtain ⟨k, hk20, hkl, rfl, HK, rfl⟩ := hrel
    by_cases hkl2 : k < l.length
    · obtain ⟨a, rfl, hblk, c0, c1, c2, c3, c4⟩ := hl k l[k] (List.getElem?_eq_getElem hkl2)
      by_cases h20 : k < 500
      · by_cases hbig : 1000 < (l[k].x.s.size : Int)
        · have hv := longC_hit hkl2 h20 hbig
          clear HK
          go_wp2
          go_ret
          rw [hv]
          exact ⟨rfl, rfl⟩
        · have HK2 : Hid (∀ i (hi : i < l.length), i < k + 1 → ¬ 1000 < (l[i].x.s.size : Int)) := by
            intro i hi hik
            by_cases h : i = k
            · subst h
              exact hbig
            · exact HK.out i hi (by omega)
          clear HK
          go_wp2
          go_roundw
          case rel => exact ⟨k + 1, by omega, by omega, by go_num, HK2, trivial⟩
          case measure => simp [intOf]; omega
      · have hv := longC_end HK.out (by omega)
        clear HK
        go_wp2
        go_ret
        rw [hv]
        exact ⟨rfl, rfl⟩
    · have hv := longC_end HK.out (by omega)
      clear HK
      go_wp2
      go_ret
      rw [hv]
      exact ⟨rfl, rfl⟩

/-- The cell of the example. -/
def Num.exC : List Cel := [⟨1, ⟨2, 1, 0, ⟨#[]⟩⟩⟩]
theorem ex_lies (w : World) (t : TypeId) : LiesC (w.alloc (.cells #[.int .i64 1, .int .i64 2, .int .i64 1, .int .u64 0, .string ⟨#[]⟩] t)) (w.alloc (.cells #[.int .i64 1, .int .i64 2, .int .i64 1, .int .u64 0, .string ⟨#[]⟩] t)).heap.size (some ⟨w.heap.size, 0, none⟩) exC := by
  intro i x hx
  refine ⟨_, rfl, by simp, ?_⟩
  match i, hx with
  | 0, hx => cases hx; simp [CelAt, Addr.add_lit]
theorem ex_ok : RowOk 0 exC := ⟨⟨by decide, by decide, by decide +kernel⟩, trivial⟩
theorem ex_put (w : World) (t : TypeId) :
    Calls Try.prog 11 #[.slice (some ⟨w.heap.size, 0, none⟩) 1 1] (w.alloc (.cells #[.int .i64 1, .int .i64 2, .int .i64 1, .int .u64 0, .string ⟨#[]⟩] t)) fun e w' => e = .returned (.tuple #[.string ⟨#[0, 1, 4, 128, 0, 0, 0, 0, 0, 0, 1]⟩, .int .i64 0]) ∧ Below w.heap.size w w' := by
  have h := rowPut_any (some ⟨w.heap.size, 0, none⟩) 1 exC (by decide) (by intro x hx; simp [exC] at hx; subst hx; exact ⟨by decide, by decide, by decide⟩) _ (ex_lies w t)
  refine h.mono ?_
  rintro e w' ⟨T, E, hs, rfl, hb⟩
  obtain ⟨rfl, rfl⟩ := putSays_one hs (.inl ⟨ex_ok, rfl, rfl⟩)
  exact ⟨by rw [show str (rowB exC) = ⟨#[0, 1, 4, 128, 0, 0, 0, 0, 0, 0, 1]⟩ by decide +kernel], below_box0 hb⟩

/-- The document's example. -/
theorem awake_any (w : World) :
    Calls Try.prog 10 #[] w fun e w' => e = .returned (.bool true) ∧ Below w.heap.size w w' := by
  go_enter Try.func10, Try.ntmps10
  go_wp2_with (first
    | (go_at_call 11; refine (ex_put _ _).mono ?_; rintro e w3 ⟨rfl, hb3⟩)
    | (go_at_call 13; refine (num_any _ _).mono ?_; rintro e w4 ⟨rfl, rfl⟩))
  go_ret
  exact ⟨rfl, hb3⟩
end Go.Proofs.Ytgaidhalkianfaa
