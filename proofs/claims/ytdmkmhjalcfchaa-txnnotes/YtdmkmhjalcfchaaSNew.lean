/-
  Contracts: New of a store (8.1); an error's number; a store of the document's example.
-/
import Derived.Test.YtdmkmhjalcfchaaSAdd
namespace Go.Proofs.Ytdmkmhjalcfchaa
open Go.RowKit Go.Maps Num
open scoped Classical
set_option linter.unusedVariables false
set_option maxRecDepth 100000

theorem new_no (room : Int) (h : room < 1 ∨ 4096 < room) (w : World) : Calls Try.prog 31 #[.int .i64 room] w fun e w' => e = .returned (.tuple #[.pointer none, .int .i64 1]) ∧ w' = w := by
  by_cases h1 : room < 1
  · go_enter Try.func31, Try.ntmps31
    go_wp2
    go_ret2
    exact ⟨rfl, rfl⟩
  · have h2 : 4096 < room := by omega
    have h3 : decide (room < 1) = false := decide_eq_false h1
    clear h
    go_enter Try.func31, Try.ntmps31
    go_wp2
    go_ret2
    exact ⟨rfl, rfl⟩
theorem hold_new (room : Int) (h1 : 1 ≤ room) (w : World) (b : Nat) (hb : w.heap.size = b) : HoldP b ((w.alloc (.map #[] 0)).alloc (.cells #[.int .i64 room, .int .i64 0, .int .i64 0, .map (some b), .slice none 0 0] 106)) (b + 1) ⟨room, 0, []⟩ := by
  subst hb
  have hm := World.ownsMap_made (H := Value) w Try.prog 9 selfR
  refine ⟨w.heap.size, .map [], fun _ => 0, fun _ => 0, none, 0, [], ⟨⟨?_, by omega, Nat.le_refl _, hm.alloc _, ⟨fun k _ => rfl, fun k hk => absurd rfl hk, fun k hk => absurd rfl hk, fun k k' hk => absurd rfl hk⟩, OwnS.nil _ _ _ _ _⟩, ⟨right_nil, fun x => ?_⟩, rfl, inv_new room (by omega), fun v hv => by cases hv⟩⟩
  · exact heap_newB _ _ _ (by simp)
  · constructor
    · intro hx
      cases hx
    · rintro ⟨_, hx⟩
      exact absurd rfl hx
theorem new_yes (room : Int) (h1 : 1 ≤ room) (h2 : room ≤ 4096) (w : World) : Calls Try.prog 31 #[.int .i64 room] w fun e w' => ∃ g, e = .returned (.tuple #[.pointer (some ⟨g, 0, none⟩), .int .i64 0]) ∧ HoldP w.heap.size w' g ⟨room, 0, []⟩ ∧ Below w.heap.size w w' := by
  have hmm := @run_makeMap Try.prog
  have hh := hold_new room h1 w w.heap.size rfl
  have hb : Below w.heap.size w ((w.alloc (.map #[] 0)).alloc (.cells #[.int .i64 room, .int .i64 0, .int .i64 0, .map (some w.heap.size), .slice none 0 0] 106)) := boxes_below w _ _
  have h3 : decide (room < 1) = false := decide_eq_false (by omega)
  have h4 : decide (4096 < room) = false := decide_eq_false (by omega)
  go_enter Try.func31, Try.ntmps31
  go_wp2
  go_ret2
  exact ⟨w.heap.size + 1, rfl, hh, hb⟩
end Go.Proofs.Ytdmkmhjalcfchaa
