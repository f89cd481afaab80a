/-
  Contracts: pages with a pair more (7.2), of whatever pages.
-/
import Derived.Test.YtgldgedbinbigaaPPutB
namespace Go.Proofs.Ytgldgedbinbigaa
open Go.RowKit Num
open scoped Classical
set_option linter.unusedVariables false

theorem right_nil : RightP [] := ⟨by simp, by simp [Rises]⟩
/-- One page of one pair, just laid. -/
theorem lies_one (w : World) (b : Nat) (hb : w.heap.size = b) (k v : ByteArray) : LiesPg ((w.alloc (.cells #[.string k, .string v] 69)).alloc (.cells #[.slice (some ⟨b, 0, none⟩) 1 1] 38)) ((w.alloc (.cells #[.string k, .string v] 69)).alloc (.cells #[.slice (some ⟨b, 0, none⟩) 1 1] 38)).heap.size (some ⟨b + 1, 0, none⟩) [[⟨k, v⟩]] := by
  subst hb
  have h1 := alloc_box (.cells #[.slice (some ⟨w.heap.size, 0, none⟩) 1 1] 38) (heap_new w (.cells #[.string k, .string v] 69))
  have h2 := heap_newB (w.alloc (.cells #[.string k, .string v] 69)) (.cells #[.slice (some ⟨w.heap.size, 0, none⟩) 1 1] 38) (w.heap.size + 1) (by simp)
  intro i p hp
  cases i with
  | succ i => simp at hp
  | zero =>
    simp at hp
    subst hp
    refine ⟨_, rfl, by simp, _, 1, box_cell h2 0 _ rfl, ?_, Nat.le_refl _⟩
    intro j x hx
    cases j with
    | succ j => simp at hx
    | zero =>
      simp at hx
      subst hx
      exact ⟨_, rfl, by simp; omega, box_cell h1 0 _ rfl, box_cell h1 1 _ rfl⟩
set_option maxRecDepth 100000 in
set_option maxHeartbeats 1000000 in
theorem put_any (ps : Pages) (ao : Option Addr) (cap : Nat) (k v : ByteArray) (h900 : ps.length ≤ 900) (hp4 : ∀ p ∈ ps, p.length ≤ 1000) (w : World) (hl : LiesPg w w.heap.size ao ps) :
    Calls Try.prog 43 #[.slice ao ps.length cap, .string k, .string v] w fun e w' => ∃ ao' cap', e = .returned (.slice ao' (putA ps k v).length cap') ∧ LiesPg w' w'.heap.size ao' (putA ps k v) ∧ Below w.heap.size w w' := by
  by_cases hr : RightP ps
  · rw [putA_yes hr]
    by_cases hne : ps = []
    · subst hne
      have hright := right_any [] ao cap (by simp) (by simp) w hl
      rw [tru_yes hr] at hright
      rw [show putP [] k v = [[⟨k, v⟩]] from rfl]
      clear hr
      go_enter Try.func43, Try.ntmps43
      go_wp2_with (first
        | (go_at_call 49; refine hright.mono ?_; rintro e w1 ⟨rfl, hb1⟩))
      go_ret
      exact ⟨_, 1, rfl, lies_one w1 _ rfl k v, (hb1.alloc hb1.size _).alloc (by have := hb1.size; simp; omega) _⟩
    · have hof := of_lt k hne
      have hp : ps[ofP ps k]? = some (ps[ofP ps k]'hof) := List.getElem?_eq_getElem hof
      cases hh : hasK (ps[ofP ps k]'hof) k with
      | true => exact put_old ps hr hne ao cap k v h900 _ hp hh w hl
      | false => exact put_more ps hr hne ao cap k v h900 _ hp hh w hl
  · have hright := right_any ps ao cap (by omega) hp4 w hl
    rw [tru_no hr] at hright
    rw [putA_no hr]
    clear hr
    go_enter Try.func43, Try.ntmps43
    go_wp2_with (first
      | (go_at_call 49; refine hright.mono ?_; rintro e w1 ⟨rfl, hb1⟩))
    go_ret
    exact ⟨none, 0, rfl, lies_nil _ _ _, hb1⟩
end Go.Proofs.Ytgldgedbinbigaa
