/-
  Contracts: the bytes of a schema, or that it is refused (6.3): of the program; the document's example; an error's number.
-/
import Derived.Test.YtndppffcladalaaDMayF
import Derived.Test.YtndppffcladalaaSPut
namespace Go.Proofs.Ytndppffcladalaa
open Go.RowKit Num
open scoped Classical
set_option linter.unusedVariables false

theorem dput_yes (x : Sch) (hx : SchOk x) (ao : Option Addr) (cap : Nat) (w : World) (hl : LiesT w w.heap.size ao x.tabs) :
    Calls Try.prog 15 #[.agg #[.int .i64 x.ver, .slice ao x.tabs.length cap, .int .i64 x.next]] w fun e w' => e = .returned (.tuple #[.string (str (sealL (schB x))), .int .i64 0]) ∧ Below w.heap.size w w' := by
  have hbx := heap_new w (.cells #[.int .i64 x.ver, .slice ao x.tabs.length cap, .int .i64 x.next] 26)
  have hla := liesT_next hl ((Below.refl _ w).alloc (Nat.le_refl _) (.cells #[.int .i64 x.ver, .slice ao x.tabs.length cap, .int .i64 x.next] 26))
  have hm := may_sch x ao cap _ hla
  rw [tru_yes hx] at hm
  have hlen := sch_len hx
  have hp : ∀ w5, Below (w.alloc (.cells #[.int .i64 x.ver, .slice ao x.tabs.length cap, .int .i64 x.next] 26)).heap.size (w.alloc (.cells #[.int .i64 x.ver, .slice ao x.tabs.length cap, .int .i64 x.next] 26)) w5 → Calls Try.prog 30 #[.slice none 0 0, .agg #[.int .i64 x.ver, .slice ao x.tabs.length cap, .int .i64 x.next]] w5 fun e w' => ∃ v', e = .returned v' ∧ Cur w5.heap.size w5 w' v' (schB x) := fun w5 hb5 => by
    have hc : Cur w5.heap.size w5 w5 (.slice none 0 0) [] := ⟨World.ownsRow_nil _ _ _ _, Below.refl _ _, Stay.refl _ _ _, Nat.le_refl _⟩
    exact dsch_any x ao cap hc (liesT_next hla hb5) (by simp; omega)
  have hz : (str (schB x)).size ≤ 900000 := by rw [str_size]; omega
  have hs := put_any (str (schB x)) hz
  rw [str_data] at hs
  clear hx hlen hl hla hz
  generalize sealL (schB x) = S at *
  go_enter Try.func15, Try.ntmps15
  go_wp2_with (first
    | (go_at_call 13; refine hm.mono ?_; rintro e w5 ⟨rfl, hb5⟩; have b5 := below_box hb5 hbx; have c0 := box_cell b5 0 _ rfl; have c1 := box_cell b5 1 _ rfl; have c2 := box_cell b5 2 _ rfl)
    | (go_at_call 30; refine (hp _ hb5).mono ?_; rintro e w6 ⟨v6, rfl, h6⟩; have hconv := conv_own w6 _ _ _ _ h6.own)
    | (go_at_call 29; refine (hs _).mono ?_; rintro e w7 ⟨rfl, hb7⟩))
  go_ret2
  exact ⟨rfl, below_next (below_next (below_box0 hb5) (Nat.le_refl _) h6.low) (Nat.le_refl _) hb7⟩
theorem dput_no (x : Sch) (hx : ¬ SchOk x) (ao : Option Addr) (cap : Nat) (w : World) (hl : LiesT w w.heap.size ao x.tabs) :
    Calls Try.prog 15 #[.agg #[.int .i64 x.ver, .slice ao x.tabs.length cap, .int .i64 x.next]] w fun e w' => e = .returned (.tuple #[.string ⟨#[]⟩, .int .i64 3]) ∧ Below w.heap.size w w' := by
  have hla := liesT_next hl ((Below.refl _ w).alloc (Nat.le_refl _) (.cells #[.int .i64 x.ver, .slice ao x.tabs.length cap, .int .i64 x.next] 26))
  have hm := may_sch x ao cap _ hla
  rw [tru_no hx] at hm
  clear hx hl hla
  go_enter Try.func15, Try.ntmps15
  go_wp2_with (first
    | (go_at_call 13; refine hm.mono ?_; rintro e w5 ⟨rfl, hb5⟩))
  go_ret2
  exact ⟨rfl, below_box0 hb5⟩

/-- The schema without anything. -/
def Num.sch0 : Sch := ⟨0, [], 0⟩
theorem sch0_ok : SchOk sch0 :=
  ⟨by show (0 : Int) ≤ 0 ∧ (0 : Int) < 1099511627776; omega, by show (0 : Int) ≤ 0 ∧ (0 : Int) < 1099511627776; omega, by show 0 ≤ 4; omega, fun i h => absurd h (Nat.not_lt_zero _), fun t h => (by cases h), fun t h => (by cases h), fun i k hi => absurd hi (Nat.not_lt_zero _)⟩
theorem lies0 (w : World) : LiesT w w.heap.size none sch0.tabs := fun i x hx => by
  have : sch0.tabs = [] := rfl
  rw [this] at hx
  simp at hx
theorem num_any (x : Int) (w : World) :
    Calls Try.prog 17 #[.int .i64 x] w fun e w' => e = .returned (.int .i64 x) ∧ w' = w := by
  go_enter Try.func17, Try.ntmps17
  go_wp2
  go_ret
  exact ⟨rfl, rfl⟩
theorem name_a (w : World) : Calls Try.prog 9 #[.string ⟨#[97]⟩] w fun e w' => e = .returned (.bool true) ∧ w' = w := by
  have h := name_any ⟨#[97]⟩ w
  rw [show nameOk ⟨#[97]⟩ = true by decide] at h
  exact h
theorem name_table (w : World) : Calls Try.prog 9 #[.string ⟨#[116, 97, 98, 108, 101]⟩] w fun e w' => e = .returned (.bool false) ∧ w' = w := by
  have h := name_any ⟨#[116, 97, 98, 108, 101]⟩ w
  rw [show nameOk ⟨#[116, 97, 98, 108, 101]⟩ = false by decide] at h
  exact h
theorem awake_any (w : World) : Calls Try.prog 11 #[] w fun e w' => e = .returned (.bool true) ∧ Below w.heap.size w w' := by
  have hp : ∀ w, Calls Try.prog 15 #[.agg #[.int .i64 0, .slice none 0 0, .int .i64 0]] w fun e w' => e = .returned (.tuple #[.string (str (sealL (schB sch0))), .int .i64 0]) ∧ Below w.heap.size w w' := fun w => dput_yes sch0 sch0_ok none 0 w (lies0 w)
  have hz : (str (sealL (schB sch0))).size = 28 := by
    rw [str_size, sealL_len]
    rfl
  have hp0 := name_a
  generalize str (sealL (schB sch0)) = S at *
  go_enter Try.func11, Try.ntmps11
  go_wp2_with (first
    | (go_at_call 15; refine (hp _).mono ?_; rintro e w1 ⟨rfl, hb1⟩)
    | (go_at_call 17; refine (num_any _ _).mono ?_; rintro e w2 ⟨rfl, rfl⟩)
    | (go_at_call 9; refine (hp0 _).mono ?_; rintro e w3 ⟨rfl, rfl⟩; clear hp0)
    | (go_at_call 9; refine (name_table _).mono ?_; rintro e w4 ⟨rfl, rfl⟩))
  go_ret
  exact ⟨rfl, hb1⟩
end Go.Proofs.Ytndppffcladalaa
