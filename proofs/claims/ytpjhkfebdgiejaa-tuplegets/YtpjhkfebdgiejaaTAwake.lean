/-
  Contracts: the document's examples; an error's number; what is too long.
-/
import Derived.Test.YtpjhkfebdgiejaaTPut
import Derived.Test.YtpjhkfebdgiejaaTAfter
namespace Go.Proofs.Ytpjhkfebdgiejaa
open Go.RowKit Num
set_option linter.unusedVariables false

theorem num_any (x : Int) (w : World) :
    Calls Try.prog 13 #[.int .i64 x] w fun e w' => e = .returned (.int .i64 x) ∧ w' = w := by
  go_enter Try.func13, Try.ntmps13
  go_wp2
  go_ret
  exact ⟨rfl, rfl⟩

/-- Is a list too long to be gone through? -/
def Num.longB (l : List Val) : Bool := (l.take 20).any (fun x => decide (5000 < (x.s.size : Int))) || decide (1000 < (l.length : Int))
theorem longB_hit {l : List Val} {k : Nat} (hk : k < l.length) (h20 : k < 20) (h : 5000 < (l[k].s.size : Int)) : longB l = true := by
  unfold longB
  rw [Bool.or_eq_true]
  left
  rw [List.any_eq_true]
  exact ⟨l[k], List.mem_take_iff_getElem.2 ⟨k, by omega, rfl⟩, by simpa using h⟩
theorem longB_end {l : List Val} {k : Nat} (h : ∀ i (hi : i < l.length), i < k → ¬ 5000 < (l[i].s.size : Int)) (hk : ¬ (k < l.length ∧ k < 20)) : longB l = decide (1000 < (l.length : Int)) := by
  have e : (l.take 20).any (fun x => decide (5000 < (x.s.size : Int))) = false := by
    rw [List.any_eq_false]
    intro x hx
    obtain ⟨i, hi, rfl⟩ := List.mem_take_iff_getElem.1 hx
    have := h i (by omega) (by omega)
    simpa using this
  unfold longB
  rw [e, Bool.false_or]

theorem long_any (ao : Option Addr) (cap : Nat) (l : List Val) (hlen : l.length ≤ maxLen) (w : World) (hl : Lies w w.heap.size ao l) :
    Calls Try.prog 9 #[.slice ao l.length cap] w fun e w' => e = .returned (.bool (longB l)) ∧ w' = w := by
  have hmx : l.length ≤ 9223372036854775807 := by simp only [maxLen] at hlen; omega
  go_enter Try.func9, Try.ntmps9
  go_wp2
  go_loopw [3] (fun i wr => ∃ k : Nat, k ≤ 20 ∧ k ≤ l.length ∧ i = .int .i64 (k : Int) ∧ Hid (∀ i (hi : i < l.length), i < k → ¬ 5000 < (l[i].s.size : Int)) ∧ wr = w) (fun i _ => 20 - (intOf i).toNat)
  case atStart => exact ⟨0, by omega, by omega, rfl, fun _ _ h => absurd h (Nat.not_lt_zero _), rfl⟩
  case round =>
    obtain ⟨k, hk20, hkl, rfl, HK, rfl⟩ := hrel
    by_cases hkl2 : k < l.length
    · obtain ⟨a, rfl, hblk, c0, c1, c2, c3⟩ := hl k l[k] (List.getElem?_eq_getElem hkl2)
      by_cases h20 : k < 20
      · by_cases hbig : 5000 < (l[k].s.size : Int)
        · have hv := longB_hit hkl2 h20 hbig
          clear HK
          go_wp2
          go_ret
          rw [hv]
          exact ⟨rfl, rfl⟩
        · have HK2 : Hid (∀ i (hi : i < l.length), i < k + 1 → ¬ 5000 < (l[i].s.size : Int)) := by
            intro i hi hik
            by_cases h : i = k
            · subst h
              exact hbig
            · exact HK.out i hi (by omega)
          clear HK
          go_wp2
          go_roundw
          case rel => exact ⟨k + 1, by omega, by omega, by go_num, HK2, trivial⟩
          case measure => simp [intOf]; omega
      · have hv := longB_end HK.out (by omega)
        clear HK
        go_wp2
        go_ret
        rw [hv]
        exact ⟨rfl, rfl⟩
    · have hv := longB_end HK.out (by omega)
      clear HK
      go_wp2
      go_ret
      rw [hv]
      exact ⟨rfl, rfl⟩

/-- The two values of the examples. -/
def Num.two : List Val := [⟨0, 0, 0, ⟨#[]⟩⟩, ⟨1, 1, 0, ⟨#[]⟩⟩]
theorem two_lies (w : World) (t : TypeId) : Lies (w.alloc (.cells #[.int .i64 0, .int .i64 0, .int .u64 0, .string ⟨#[]⟩, .int .i64 1, .int .i64 1, .int .u64 0, .string ⟨#[]⟩] t)) (w.alloc (.cells #[.int .i64 0, .int .i64 0, .int .u64 0, .string ⟨#[]⟩, .int .i64 1, .int .i64 1, .int .u64 0, .string ⟨#[]⟩] t)).heap.size (some ⟨w.heap.size, 0, none⟩) two := by
  intro i x hx
  refine ⟨_, rfl, by simp, ?_⟩
  match i, hx with
  | 0, hx => cases hx; simp [Addr.add_lit]
  | 1, hx => cases hx; simp [Addr.add_lit]
theorem two_put (w : World) (t : TypeId) :
    Calls Try.prog 11 #[.slice (some ⟨w.heap.size, 0, none⟩) 2 2] (w.alloc (.cells #[.int .i64 0, .int .i64 0, .int .u64 0, .string ⟨#[]⟩, .int .i64 1, .int .i64 1, .int .u64 0, .string ⟨#[]⟩] t)) fun e w' => e = .returned (.tuple #[.string ⟨#[1, 3]⟩, .int .i64 0]) ∧ Below w.heap.size w w' := by
  have h := tupPut_any (some ⟨w.heap.size, 0, none⟩) 2 two (by intro x hx; simp [two] at hx; rcases hx with rfl | rfl <;> exact ⟨by decide, by decide⟩) _ (two_lies w t)
  rw [show str (tupT two) = ⟨#[1, 3]⟩ by decide +kernel, show tupE two = 0 by decide +kernel] at h
  exact h.mono fun e w' ⟨he, hb⟩ => ⟨he, below_box0 hb⟩

/-- The document's examples. -/
theorem awake_any (w : World) :
    Calls Try.prog 10 #[] w fun e w' => e = .returned (.bool true) ∧ Below w.heap.size w w' := by
  have h1 := after_any ⟨#[97, 255]⟩ (by decide)
  have h2 := after_any ⟨#[255]⟩ (by decide)
  rw [show aftV (aft (⟨#[97, 255]⟩ : ByteArray).data.toList) = .tuple #[.string ⟨#[98]⟩, .bool true] from rfl] at h1
  rw [show aftV (aft (⟨#[255]⟩ : ByteArray).data.toList) = .tuple #[.string ⟨#[]⟩, .bool false] from rfl] at h2
  go_enter Try.func10, Try.ntmps10
  go_wp2_with (first
    | (go_at_call 17; refine (h1 _).mono ?_; rintro e w1 ⟨rfl, hb1⟩; clear h1)
    | (go_at_call 17; refine (h2 _).mono ?_; rintro e w2 ⟨rfl, hb2⟩; clear h2)
    | (go_at_call 11; refine (two_put _ _).mono ?_; rintro e w3 ⟨rfl, hb3⟩)
    | (go_at_call 13; refine (num_any _ _).mono ?_; rintro e w4 ⟨rfl, rfl⟩))
  go_ret
  exact ⟨rfl, below_next (below_next hb1 (Nat.le_refl _) hb2) (Nat.le_refl _) hb3⟩
end Go.Proofs.Ytpjhkfebdgiejaa
