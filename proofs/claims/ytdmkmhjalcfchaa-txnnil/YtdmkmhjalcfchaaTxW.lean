/-
  Contracts: methods of a transaction that there is not (15.2).
-/
import Derived.Test.YtdmkmhjalcfchaaTxN
import Derived.Test.YtdmkmhjalcfchaaCSame
namespace Go.Proofs.Ytdmkmhjalcfchaa
open Go.RowKit Go.Maps Num
open scoped Classical
set_option linter.unusedVariables false
set_option maxRecDepth 100000
set_option maxRecDepth 100000 in
theorem nilT_get (k : ByteArray) (w : World) : Calls Try.prog 13 #[.pointer none, .string k] w fun e w' => e = .returned (.tuple #[.string ⟨#[]⟩, .bool false]) ∧ w' = w := by
  go_enter Try.func13, Try.ntmps13
  go_wp2
  go_ret2
  exact ⟨rfl, rfl⟩
set_option maxRecDepth 100000 in
theorem nilT_write (x : Wrt) (w : World) : Calls Try.prog 43 #[.pointer none, .agg #[.string x.key, .string x.val, .bool x.del]] w fun e w' => e = .returned (.tuple #[]) ∧ Below w.heap.size w w' := by
  have hb : Below w.heap.size w (w.alloc (wrtBox x)) := (Below.refl _ w).alloc (Nat.le_refl _) _
  go_enter Try.func43, Try.ntmps43
  go_wp2
  exact bodyPost_ret (results_none rfl _ _ _) rfl ⟨rfl, hb⟩
set_option maxRecDepth 100000 in
theorem nilT_put (k v : ByteArray) (w : World) : Calls Try.prog 18 #[.pointer none, .string k, .string v] w fun e w' => e = .returned (.tuple #[]) ∧ Below w.heap.size w w' := by
  have hc := nilT_write ⟨k, v, false⟩ w
  go_enter Try.func18, Try.ntmps18
  go_wp2_with (first
    | (go_at_call 43; refine hc.mono ?_; rintro e w1 ⟨rfl, h1⟩))
  go_end0
  exact ⟨rfl, h1⟩
set_option maxRecDepth 100000 in
theorem nilT_del (k : ByteArray) (w : World) : Calls Try.prog 20 #[.pointer none, .string k] w fun e w' => e = .returned (.tuple #[]) ∧ Below w.heap.size w w' := by
  have hc := nilT_write ⟨k, ⟨#[]⟩, true⟩ w
  go_enter Try.func20, Try.ntmps20
  go_wp2_with (first
    | (go_at_call 43; refine hc.mono ?_; rintro e w1 ⟨rfl, h1⟩))
  go_end0
  exact ⟨rfl, h1⟩
set_option maxRecDepth 100000 in
theorem nilT_scan (lo hi : ByteArray) (n : Int) (w : World) : Calls Try.prog 16 #[.pointer none, .string lo, .string hi, .int .i64 n] w fun e w' => e = .returned (.slice none 0 0) ∧ w' = w := by
  go_enter Try.func16, Try.ntmps16
  go_wp2
  go_ret
  exact ⟨rfl, rfl⟩
set_option maxRecDepth 100000 in
theorem nilT_cmd (w : World) : Calls Try.prog 23 #[.pointer none] w fun e w' => e = .returned (cmdV 0 (.slice none 0 0) (.slice none 0 0) (.slice none 0 0)) ∧ Below w.heap.size w w' := by
  have hb : Below w.heap.size w (w.alloc (cmdBox 0 (.slice none 0 0) (.slice none 0 0) (.slice none 0 0))) := (Below.refl _ w).alloc (Nat.le_refl _) _
  have q : (w.alloc (cmdBox 0 (.slice none 0 0) (.slice none 0 0) (.slice none 0 0))).heap[w.heap.size]? = some (cmdBox 0 (.slice none 0 0) (.slice none 0 0) (.slice none 0 0)) := heap_new w _
  have q0 := box_cell q 0 _ rfl
  have q1 := box_cell q 1 _ rfl
  have q2 := box_cell q 2 _ rfl
  have q3 := box_cell q 3 _ rfl
  have q4 := box_cell q 4 _ rfl
  have q5 := box_cell q 5 _ rfl
  have q6 := box_cell q 6 _ rfl
  have q7 := box_cell q 7 _ rfl
  have q8 := box_cell q 8 _ rfl
  have q9 := box_cell q 9 _ rfl
  have q10 := box_cell q 10 _ rfl
  have q11 := box_cell q 11 _ rfl
  have q12 := box_cell q 12 _ rfl
  go_enter Try.func23, Try.ntmps23
  go_wp2
  exact bodyPost_ret (v := cmdV 0 (.slice none 0 0) (.slice none 0 0) (.slice none 0 0)) (by simp [results, Try.results23, go_sem, q0, q1, q2, q3, q4, q5, q6, q7, q8, q9, q10, q11, q12]) rfl ⟨rfl, hb⟩
/-- Two empty commands are one. -/
theorem same_none (w : World) : Calls Try.prog 22 #[cmdV 0 (.slice none 0 0) (.slice none 0 0) (.slice none 0 0), cmdV 0 (.slice none 0 0) (.slice none 0 0) (.slice none 0 0)] w fun e w' => e = .returned (.bool true) ∧ Below w.heap.size w w' :=
  cmd_same ⟨0, 0, 0, 0, [], [], [], 0, 0, 0, ⟨#[]⟩, 0, []⟩ ⟨by decide, by decide, by decide, by decide, fun y hy => by cases hy⟩ ⟨none, 0, none, 0, none, 0, none, 0⟩ ⟨none, 0, none, 0, none, 0, none, 0⟩ w ⟨lies_no, lies_no, lies_no, lies_no⟩ ⟨lies_no, lies_no, lies_no, lies_no⟩
end Go.Proofs.Ytdmkmhjalcfchaa
