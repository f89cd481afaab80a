/-
  The document's Parse, where Lex tells a fault (17.1).
-/
import Derived.Test.YtiajlhjjmlakmaaGreatDoorSqYl
import Derived.Test.YtiajlhjjmlakmaaGreatDoorSqYd
import Derived.Test.YtiajlhjjmlakmaaGreatDoorSqVe
import Derived.Test.YtiajlhjjmlakmaaGreatDoorSqJ
namespace Go.Proofs.YtiajlhjjmlakmaaGreatDoor
open Go.RowKit Num
set_option linter.unusedSimpArgs false
set_option linter.unusedVariables false
set_option linter.unusedVariables false
set_option maxRecDepth 100000
theorem dparse_fault (s : ByteArray) (q : Nat) (k : Int) (hk : ¬ k = 0) (hL : ∀ W, Calls Tryz.prog 15 #[.string s] W fun e w' => e = .returned (.tuple #[.slice none 0 0, .int .i64 (q : Int), .int .i64 k]) ∧ Below W.heap.size W w') (w : World) :
    Calls Tryz.prog 5 #[.string s] w fun e w' => ParseEnd w.heap.size (none, q, k) e w' ∧ Below w.heap.size w w' := by
  have hkb : (k != 0) = true := by simpa using hk
  go_enter Tryz.func5, Tryz.ntmps5
  go_wp2_with (first
    | (go_at_call 15; refine (hL _).mono ?_; rintro e w1 ⟨rfl, hb1⟩; have br1 : Bx w1 w.heap.size 28 #[.int .i64 0, .string ⟨#[]⟩, .string ⟨#[]⟩, .slice none 0 0, .slice none 0 0, .slice none 0 0, .slice none 0 0, .bool false, .int .i64 0, .slice none 0 0] := (hb1.block _ (by simp)).trans (Bx.newB (by simp) : Bx _ (w.heap.size) 28 #[.int .i64 0, .string ⟨#[]⟩, .string ⟨#[]⟩, .slice none 0 0, .slice none 0 0, .slice none 0 0, .slice none 0 0, .bool false, .int .i64 0, .slice none 0 0]); have lr1 := br1.lt; have cr1_0 : w1.cell? ⟨w.heap.size, 0, none⟩ = some (.int .i64 0) := br1.cell 0 _ rfl; have fr1_0 := br1.open 0; have cr1_1 : w1.cell? ⟨w.heap.size, 1, none⟩ = some (.string ⟨#[]⟩) := br1.cell 1 _ rfl; have fr1_1 := br1.open 1; have cr1_2 : w1.cell? ⟨w.heap.size, 2, none⟩ = some (.string ⟨#[]⟩) := br1.cell 2 _ rfl; have fr1_2 := br1.open 2; have cr1_3 : w1.cell? ⟨w.heap.size, 3, none⟩ = some (.slice none 0 0) := br1.cell 3 _ rfl; have fr1_3 := br1.open 3; have cr1_4 : w1.cell? ⟨w.heap.size, 4, none⟩ = some (.slice none 0 0) := br1.cell 4 _ rfl; have fr1_4 := br1.open 4; have cr1_5 : w1.cell? ⟨w.heap.size, 5, none⟩ = some (.slice none 0 0) := br1.cell 5 _ rfl; have fr1_5 := br1.open 5; have cr1_6 : w1.cell? ⟨w.heap.size, 6, none⟩ = some (.slice none 0 0) := br1.cell 6 _ rfl; have fr1_6 := br1.open 6; have cr1_7 : w1.cell? ⟨w.heap.size, 7, none⟩ = some (.bool false) := br1.cell 7 _ rfl; have fr1_7 := br1.open 7; have cr1_8 : w1.cell? ⟨w.heap.size, 8, none⟩ = some (.int .i64 0) := br1.cell 8 _ rfl; have fr1_8 := br1.open 8; have cr1_9 : w1.cell? ⟨w.heap.size, 9, none⟩ = some (.slice none 0 0) := br1.cell 9 _ rfl; have fr1_9 := br1.open 9))
  refine bodyPost_ret (v := .tuple #[.agg #[.int .i64 0, .string ⟨#[]⟩, .string ⟨#[]⟩, .slice none 0 0, .slice none 0 0, .slice none 0 0, .slice none 0 0, .bool false, .int .i64 0, .slice none 0 0], .int .i64 (q : Int), .int .i64 k]) (by simp [results, Tryz.results5, go_sem, cr1_0, cr1_1, cr1_2, cr1_3, cr1_4, cr1_5, cr1_6, cr1_7, cr1_8, cr1_9, lr1]) rfl ?_
  exact ⟨rfl, bel_sets (Nat.le_refl w.heap.size) (below_next ((Below.refl _ w).alloc (Nat.le_refl _) _) (Nat.le_refl _) hb1) 0 [.int .i64 0, .string ⟨#[]⟩, .string ⟨#[]⟩, .slice none 0 0, .slice none 0 0, .slice none 0 0, .slice none 0 0, .bool false, .int .i64 0, .slice none 0 0]⟩
theorem dparse_long (s : ByteArray) (hs : ¬ s.size ≤ 400) (w : World) :
    Calls Tryz.prog 5 #[.string s] w fun e w' => ParseEnd w.heap.size (parseG s) e w' ∧ Below w.heap.size w w' := by
  have e : parseG s = (none, 0, 2) := by
    unfold parseG
    rw [if_pos (by omega)]
  rw [e]
  exact dparse_fault s 0 2 (by decide) (fun W => (refLex_long s hs W).mono fun e w' h => ⟨h.1, h.2 ▸ Below.refl _ _⟩) w
theorem dparse_bad (s : ByteArray) (hs : s.size ≤ 400) (q : Nat) (hl : lexAt s 0 = (none, q)) (w : World) :
    Calls Tryz.prog 5 #[.string s] w fun e w' => ParseEnd w.heap.size (parseG s) e w' ∧ Below w.heap.size w w' := by
  have e : parseG s = (none, q, 3) := by
    unfold parseG
    rw [if_neg (by omega), hl]
  rw [e]
  exact dparse_fault s q 3 (by decide) (fun W => (refLex_any s hs W).mono fun e w' h => ⟨by have := h.1; rw [hl] at this; exact this, h.2⟩) w
end Go.Proofs.YtiajlhjjmlakmaaGreatDoor
