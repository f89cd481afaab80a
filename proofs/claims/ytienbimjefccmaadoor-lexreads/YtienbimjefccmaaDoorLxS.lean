/-
  Contracts: what the laws of layer 16 share: an error's number, the document's examples.
-/
import Derived.Test.YtienbimjefccmaaDoorLxL
namespace Go.Proofs.YtienbimjefccmaaDoor
open Go.RowKit Num
set_option linter.unusedVariables false
set_option maxRecDepth 100000

theorem num_any (e : Int) (w : World) : Calls Tryd.prog 7 #[.int .i64 e] w fun r w' => r = .returned (.int .i64 e) ∧ w' = w := by
  go_enter Tryd.func7, Tryd.ntmps7
  go_wp2
  go_ret
  exact ⟨rfl, rfl⟩
/-- A row of the call's own that is not empty lies somewhere. -/
theorem own_some {w : World} {B E sz n : Nat} {v : Value} {xs : List Value} (h : w.ownsRow B E sz v n xs) (hn : 0 < n) : ∃ g cap, v = .slice (some ⟨g, 0, none⟩) n cap ∧ B ≤ g ∧ g < w.heap.size := by
  rcases h.2 with ⟨_, h0⟩ | ⟨g, cap, cur, hv, hB, hg, _⟩
  · omega
  · exact ⟨g, cap, hv, hB, (Array.getElem?_eq_some_iff.1 hg).1⟩
theorem lex_ex1 : lexAt ⟨#[97, 45, 53]⟩ 0 = (some [⟨2, str [97], noV, 0⟩, ⟨3, str [45, 53], ⟨2, -5, 0, ⟨#[]⟩⟩, 1⟩, ⟨0, ⟨#[]⟩, noV, 3⟩], 0) := by
  have h1 : tokL [97, 45, 53] = some (2, 1, noV) := by rfl
  have h2 : tokL [45, 53] = some (3, 2, ⟨2, -5, 0, ⟨#[]⟩⟩) := intT_minus [53] ⟨by decide, by decide, .inl (by decide)⟩ (by decide) (by decide)
  show lexG 3 0 [97, 45, 53] = _
  rw [lexG, if_neg (by decide), h1]
  show pre _ (lexG 2 1 [45, 53]) = _
  rw [lexG, if_neg (by decide), h2]
  rfl
theorem lex_ex2 : lexAt ⟨#[65]⟩ 0 = (none, 0) := by rfl
theorem awake_any (w : World) (hG : Glob w) :
    Calls Tryd.prog 8 #[] w fun e w' => e = .returned (.bool true) ∧ Below w.heap.size w w' := by
  have h1 := lex_any ⟨#[97, 45, 53]⟩ (by decide)
  have h2 := lex_any ⟨#[65]⟩ (by decide)
  rw [lex_ex1] at h1
  rw [lex_ex2] at h2
  go_enter Tryd.func8, Tryd.ntmps8
  go_wp2_with (first
    | (go_at_call 7; refine (num_any _ _).mono ?_; rintro e w5 ⟨rfl, rfl⟩)
    | (go_at_call 4; refine (h2 _ (hG.below hb1)).mono ?_; rintro e w2 ⟨hE2, hb2⟩; obtain rfl : e = .returned (.tuple #[.slice none 0 0, .int .i64 0, .int .i64 3]) := hE2; have c2 : w2.cell? ⟨g, 9, none⟩ = some (.int .i64 2) := (hb2.cell hg2).trans c0; have d2 : w2.cell? ⟨g, 10, none⟩ = some (.int .i64 (-5)) := (hb2.cell hg2).trans d0; have e2 : w2.cell? ⟨g, 11, none⟩ = some (.int .u64 0) := (hb2.cell hg2).trans e0; have f2 : w2.cell? ⟨g, 12, none⟩ = some (.string ⟨#[]⟩) := (hb2.cell hg2).trans f0; clear c0 d0 e0 f0)
    | (go_at_call 4; refine (h1 _ hG).mono ?_; rintro e w1 ⟨hE1, hb1⟩; obtain ⟨v, rfl, hown⟩ := hE1; obtain ⟨g, cap, rfl, hg1, hg2⟩ := own_some hown (by simp); have c0 : w1.cell? ⟨g, 9, none⟩ = some (.int .i64 2) := hown.cells (g := g) rfl 9 _ rfl; have d0 : w1.cell? ⟨g, 10, none⟩ = some (.int .i64 (-5)) := hown.cells (g := g) rfl 10 _ rfl; have e0 : w1.cell? ⟨g, 11, none⟩ = some (.int .u64 0) := hown.cells (g := g) rfl 11 _ rfl; have f0 : w1.cell? ⟨g, 12, none⟩ = some (.string ⟨#[]⟩) := hown.cells (g := g) rfl 12 _ rfl))
  go_ret
  exact ⟨rfl, hb1.trans (hb2.mono hb1.size)⟩
end Go.Proofs.YtienbimjefccmaaDoor
