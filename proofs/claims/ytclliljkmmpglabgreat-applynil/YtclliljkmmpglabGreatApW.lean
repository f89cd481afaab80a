/-
  Contracts: methods of a machine that there is not (14.3).
-/
import Derived.Test.YtclliljkmmpglabGreatApT
namespace Go.Proofs.YtclliljkmmpglabGreat
open Go.RowKit Go.Maps Num
open scoped Classical
set_option linter.unusedVariables false
set_option maxRecDepth 100000
set_option maxRecDepth 100000 in
theorem nil_do (t : Int) (x : ByteArray) (w : World) : Calls Tryz.prog 4 #[.pointer none, .agg #[.int .i64 t, .string x]] w fun e w' => e = .returned (.agg #[.int .i64 0, .int .i64 0, .int .i64 0, .int .i64 20]) ∧ Below w.heap.size w w' := by
  have hb : Below w.heap.size w ((w.alloc (enBox t x)).alloc (dnBox ⟨0, 0, 0, 20⟩)) := ((Below.refl _ w).alloc (Nat.le_refl _) _).alloc (by simp) _
  have q : ((w.alloc (enBox t x)).alloc (dnBox ⟨0, 0, 0, 20⟩)).heap[w.heap.size + 1]? = some (dnBox ⟨0, 0, 0, 20⟩) := heap_newB _ _ _ (by simp)
  have q0 := box_cell q 0 _ rfl
  have q1 := box_cell q 1 _ rfl
  have q2 := box_cell q 2 _ rfl
  have q3 := box_cell q 3 _ rfl
  go_enter Tryz.func4, Tryz.ntmps4
  go_wp2
  exact bodyPost_ret (v := dnV ⟨0, 0, 0, 20⟩) (by simp [results, Tryz.results4, go_sem, q0, q1, q2, q3]) rfl ⟨rfl, hb⟩
set_option maxRecDepth 100000 in
theorem nil_dones (w : World) : Calls Tryz.prog 6 #[.pointer none] w fun e w' => e = .returned (.slice none 0 0) ∧ w' = w := by
  go_enter Tryz.func6, Tryz.ntmps6
  go_wp2
  go_ret
  exact ⟨rfl, rfl⟩
set_option maxRecDepth 100000 in
theorem nil_time (w : World) : Calls Tryz.prog 7 #[.pointer none] w fun e w' => e = .returned (.int .i64 0) ∧ w' = w := by
  go_enter Tryz.func7, Tryz.ntmps7
  go_wp2
  go_ret
  exact ⟨rfl, rfl⟩
set_option maxRecDepth 100000 in
theorem nil_store (w : World) : Calls Tryz.prog 8 #[.pointer none] w fun e w' => e = .returned (.pointer none) ∧ w' = w := by
  go_enter Tryz.func8, Tryz.ntmps8
  go_wp2
  go_ret
  exact ⟨rfl, rfl⟩
set_option maxRecDepth 100000 in
theorem nil_copy (w : World) : Calls Tryz.prog 9 #[.pointer none] w fun e w' => e = .returned (.pointer none) ∧ w' = w := by
  go_enter Tryz.func9, Tryz.ntmps9
  go_wp2
  go_ret
  exact ⟨rfl, rfl⟩
set_option maxRecDepth 100000 in
theorem nil_answer (a b : Int) (w : World) : Calls Tryz.prog 5 #[.pointer none, .int .i64 a, .int .i64 b] w fun e w' => e = .returned (.tuple #[.agg #[.int .i64 0, .int .i64 0, .int .i64 0, .int .i64 0], .bool false]) ∧ Below w.heap.size w w' := by
  have hb : Below w.heap.size w (w.alloc (dnBox ⟨0, 0, 0, 0⟩)) := (Below.refl _ w).alloc (Nat.le_refl _) _
  have q : (w.alloc (dnBox ⟨0, 0, 0, 0⟩)).heap[w.heap.size]? = some (dnBox ⟨0, 0, 0, 0⟩) := heap_new _ _
  have q0 := box_cell q 0 _ rfl
  have q1 := box_cell q 1 _ rfl
  have q2 := box_cell q 2 _ rfl
  have q3 := box_cell q 3 _ rfl
  go_enter Tryz.func5, Tryz.ntmps5
  go_wp2
  exact bodyPost_ret (v := .tuple #[dnV ⟨0, 0, 0, 0⟩, .bool false]) (by simp [results, Tryz.results5, go_sem, q0, q1, q2, q3]) rfl ⟨rfl, hb⟩
end Go.Proofs.YtclliljkmmpglabGreat
