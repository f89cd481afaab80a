import Derived.Test.YtiajlhjjmlakmaaGreatDoorSqYg
import Derived.Test.YtiajlhjjmlakmaaGreatDoorSqYh
import Derived.Test.YtiajlhjjmlakmaaGreatDoorSqYi
import Derived.Test.YtiajlhjjmlakmaaGreatDoorSqYj
import Derived.Test.YtiajlhjjmlakmaaGreatDoorSqYe
import Derived.Test.YtiajlhjjmlakmaaGreatDoorSqYd
import Derived.Test.YtiajlhjjmlakmaaGreatDoorSqVe
import Derived.Test.YtiajlhjjmlakmaaGreatDoorSqK
namespace Go.Proofs.YtiajlhjjmlakmaaGreatDoor
open Go.RowKit Num
set_option linter.unusedSimpArgs false
set_option linter.unusedVariables false
theorem pr1 (x : Unit × DS) : x = ((), x.2) := rfl
theorem pr2 {α : Type} (x : α × DS) : x = (x.1, x.2) := rfl
theorem pr4 (x : Val × DS) : x = (⟨x.1.1, x.1.2, x.1.3, x.1.4⟩, x.2) := rfl
theorem drows_any {g : Nat} {v : Value} {l : List Tok} (hE : EndK l) {S : DS} (w : World) (hP : DAt g v l S w) :
  Calls Tryz.prog 21 #[.pointer (some ⟨g, 0, none⟩)] w (DTells g v l S w VX (rowsD l S)) := by
 rcases Bool.eq_false_or_eq_true (isD l ⟨#[105, 110, 115, 101, 114, 116]⟩ S) with h1 | h1
 ·exact dinsert_w0 hE h1 (pr1 _) (pr1 _) (pr2 _) (pr2 _) (pr1 _) (pr1 _) (pr4 _) (pr2 _) (pr1 _) (pr1 _) w hP
 ·rcases Bool.eq_false_or_eq_true (isD l ⟨#[117, 112, 100, 97, 116, 101]⟩ S) with h2 | h2
  ·exact drows_w0 hE h1 h2 (pr1 _) (pr2 _) (pr1 _) (pr2 _) (pr2 _) w hP
  ·rcases Bool.eq_false_or_eq_true (isD l ⟨#[100, 101, 108, 101, 116, 101]⟩ S) with h3 | h3
   ·exact drows_w1 hE h1 h2 h3 (pr1 _) (pr1 _) (pr2 _) (pr2 _) w hP
   ·rcases Bool.eq_false_or_eq_true (isD l ⟨#[42]⟩ (eatD l ⟨#[115, 101, 108, 101, 99, 116]⟩ S).2) with h4 | h4
    ·exact drows_w2 hE h1 h2 h3 (pr1 _) h4 (pr1 _) (pr1 _) (pr2 _) (pr2 _) w hP
    ·exact dselect_w0 hE h1 h2 h3 (pr1 _) h4 (pr2 _) (pr2 _) (pr1 _) (pr1 _) (pr2 _) (pr2 _) w hP
theorem dcreate_any {g : Nat} {v : Value} {l : List Tok} (hE : EndK l) {S : DS} (w : World) (hP : DAt g v l S w) :
  Calls Tryz.prog 17 #[.pointer (some ⟨g, 0, none⟩)] w (DTells g v l S w VX (createD l S)) := by
 rcases Bool.eq_false_or_eq_true (isD l ⟨#[116, 97, 98, 108, 101]⟩ (eatD l ⟨#[99, 114, 101, 97, 116, 101]⟩ S).2) with h1 | h1
 ·exact dtable_w0 hE (pr1 _) h1 (pr1 _) (pr2 _) (pr1 _) (pr2 _) (pr1 _) w hP
 ·rcases Bool.eq_false_or_eq_true (isD l ⟨#[117, 110, 105, 113, 117, 101]⟩ (eatD l ⟨#[99, 114, 101, 97, 116, 101]⟩ S).2) with h2 | h2
  ·exact dindex_w0 hE (pr1 _) h1 h2 (pr1 _) (pr1 _) (pr2 _) (pr1 _) (pr2 _) (pr2 _) w hP
  ·exact dindex_w1 hE (pr1 _) h1 h2 (pr1 _) (pr2 _) (pr1 _) (pr2 _) (pr2 _) w hP
set_option maxRecDepth 100000
theorem dparse_fault (s : ByteArray) (q : Nat) (k : Int) (hk : ¬ k = 0) (hL : ∀ W, Calls Tryz.prog 15 #[.string s] W fun e w' => e = .returned (.tuple #[.slice none 0 0, .int .i64 (q : Int), .int .i64 k]) ∧ Below W.heap.size W w') (w : World) :
  Calls Tryz.prog 5 #[.string s] w fun e w' => ParseEnd w.heap.size (none, q, k) e w' ∧ Below w.heap.size w w' := by
 have hkb : (k != 0) = true := by simpa using hk
 go_enter Tryz.func5, Tryz.ntmps5
 go_wp2_with (first
  | (go_at_call 15; refine (hL _).mono ?_; rintro e w1 ⟨rfl, hb1⟩; have br1 : Bx w1 w.heap.size 28 z10 := (hb1.block _ (by simp)).trans (Bx.newB (by simp) : Bx _ (w.heap.size) 28 z10); have lr1 := br1.lt; obtain ⟨cr1_0, cr1_1, cr1_2, cr1_3, cr1_4, cr1_5, cr1_6, cr1_7, cr1_8, cr1_9⟩ := br1.ten; obtain ⟨fr1_0, fr1_1, fr1_2, fr1_3, fr1_4, fr1_5, fr1_6, fr1_7, fr1_8, fr1_9⟩ := br1.tenO))
 refine bodyPost_ret (v := .tuple #[.agg #[.int .i64 0, .string ⟨#[]⟩, .string ⟨#[]⟩, .slice none 0 0, .slice none 0 0, .slice none 0 0, .slice none 0 0, .bool false, .int .i64 0, .slice none 0 0], .int .i64 (q : Int), .int .i64 k]) (by simp [results, Tryz.results5, go_sem, cr1_0, cr1_1, cr1_2, cr1_3, cr1_4, cr1_5, cr1_6, cr1_7, cr1_8, cr1_9, lr1]) rfl ?_
 exact ⟨rfl, bel_sets (Nat.le_refl w.heap.size) (below_next ((Below.refl _ w).alloc (Nat.le_refl _) _) (Nat.le_refl _) hb1) 0 [.int .i64 0, .string ⟨#[]⟩, .string ⟨#[]⟩, .slice none 0 0, .slice none 0 0, .slice none 0 0, .slice none 0 0, .bool false, .int .i64 0, .slice none 0 0]⟩
theorem dparse_long (s : ByteArray) (hs : ¬ s.size ≤ 400) (w : World) :
  Calls Tryz.prog 5 #[.string s] w fun e w' => ParseEnd w.heap.size (parseG s) e w' ∧ Below w.heap.size w w' := by
 have e : parseG s = (none, 0, 2) := by
  unfold parseG
  rw [if_pos (by omega)]
 rw [e]
 exact dparse_fault s 0 2 (by decide) (fun W => (refLex_long s hs W).mono fun e w' h => ⟨h.1, h.2 ▸ Below.refl _ _⟩) w
theorem dparse_bad (s : ByteArray) (hs : s.size ≤ 400) (q : Nat) (hl : lexAt s 0 = (none, q)) (w : World) :
  Calls Tryz.prog 5 #[.string s] w fun e w' => ParseEnd w.heap.size (parseG s) e w' ∧ Below w.heap.size w w' := by
 have e : parseG s = (none, q, 3) := by
  unfold parseG
  rw [if_neg (by omega), hl]
 rw [e]
 exact dparse_fault s q 3 (by decide) (fun W => (refLex_any s hs W).mono fun e w' h => ⟨by have := h.1; rw [hl] at this; exact this, h.2⟩) w
end Go.Proofs.YtiajlhjjmlakmaaGreatDoor
