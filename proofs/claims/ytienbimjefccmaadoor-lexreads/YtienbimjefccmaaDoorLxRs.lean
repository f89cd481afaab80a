/-
  The walk of the law on what any text's tokens are: the program's and the document's.
-/
import Derived.Test.YtienbimjefccmaaDoorLxRl
import Derived.Test.YtienbimjefccmaaDoorLxS
namespace Go.Proofs.YtienbimjefccmaaDoor
open Go.RowKit Num
set_option linter.unusedVariables false
set_option maxRecDepth 100000
set_option linter.unusedSimpArgs false

theorem tcell_at : ∀ (l : List Tok) (j : Nat) (x : Tok), l[j]? = some x → ∀ c (u : Value), (tokCells1 x)[c]? = some u → (tokCells l)[j * 7 + c]? = some u
  | [], _, _, h, _, _, _ => by simp at h
  | y :: l, 0, x, h, c, u, hu => by
    have h : some y = some x := h
    obtain rfl := Option.some.inj h
    have hc : c < 7 := (List.getElem?_eq_some_iff.1 hu).1
    show (tokCells1 y ++ tokCells l)[0 * 7 + c]? = some u
    rw [Nat.zero_mul, Nat.zero_add, List.getElem?_append_left hc]
    exact hu
  | y :: l, j + 1, x, h, c, u, hu => by
    have ih := tcell_at l j x (by simpa using h) c u hu
    show (tokCells1 y ++ tokCells l)[(j + 1) * 7 + c]? = some u
    have e : (j + 1) * 7 + c = (tokCells1 y).length + (j * 7 + c) := by
      show (j + 1) * 7 + c = 7 + (j * 7 + c)
      omega
    rw [e, List.getElem?_append_right (by omega), Nat.add_sub_cancel_left]
    exact ih
/-- Where a token of a row lies. -/
theorem town_at {w W : World} {B E cap : Nat} {ao : Option Addr} {l : List Tok} (h : w.ownsRow B E 7 (.slice ao l.length cap) l.length (tokCells l)) (hb : Below w.heap.size w W) {j : Nat} {x : Tok} (hx : l[j]? = some x) :
    ∃ g, ao = some ⟨g, 0, none⟩ ∧ g < w.heap.size ∧ ∀ c u, (tokCells1 x)[c]? = some u → W.cell? ⟨g, j * 7 + c, none⟩ = some u := by
  rcases h.2 with ⟨_, h0⟩ | ⟨g, cap', cur, hv, _, hgg, _⟩
  · have := (List.getElem?_eq_some_iff.1 hx).1
    omega
  · obtain ⟨ha, _, _⟩ := Value.slice.inj hv
    subst ha
    have hg : g < w.heap.size := (Array.getElem?_eq_some_iff.1 hgg).1
    refine ⟨g, rfl, hg, fun c u hu => ?_⟩
    have := h.cells (g := g) rfl _ _ (tcell_at l j x hx c u hu)
    rw [Addr.add_lit, Nat.zero_add] at this
    exact (hb.cell (p := ⟨g, j * 7 + c, none⟩) hg).trans this
theorem town_len {w : World} {B E sz n : Nat} {v : Value} {xs : List Value} (h : w.ownsRow B E sz v n xs) : n ≤ maxLen := by
  rcases h.2 with ⟨_, h0⟩ | ⟨g, cap, cur, _, _, _, h1, h2, _⟩
  · omega
  · exact Nat.le_trans h1 h2
set_option maxHeartbeats 2000000 in
theorem same16L_any {B0 B1 : Nat} (ao0 ao1 : Option Addr) (cap0 cap1 : Nat) (L : List Tok) (w : World) (h0 : w.ownsRow B0 38 7 (.slice ao0 L.length cap0) L.length (tokCells L)) (h1 : w.ownsRow B1 41 7 (.slice ao1 L.length cap1) L.length (tokCells L)) :
    Calls Tryd.prog 6 #[.slice ao0 L.length cap0, .slice ao1 L.length cap1] w fun e w' => e = .returned (.bool true) ∧ Below w.heap.size w w' := by
  have hlen : L.length ≤ maxLen := town_len h0
  have hml : maxLen ≤ 9223372036854775807 := by decide
  go_enter Tryd.func6, Tryd.ntmps6
  go_wp2
  go_loopw [5] (fun i wr => ∃ k : Nat, k ≤ L.length ∧ i = .int .i64 (k : Int) ∧ Below w.heap.size w wr) (fun i _ => L.length - (intOf i).toNat)
  case atStart => exact ⟨0, by omega, rfl, Below.refl _ _⟩
  case round =>
    obtain ⟨k, hk, rfl, hbel⟩ := hrel
    by_cases hkl : k < L.length
    · obtain ⟨g0, rfl, hg0, hc0⟩ := town_at h0 hbel (List.getElem?_eq_getElem hkl)
      obtain ⟨g1, rfl, hg1, hc1⟩ := town_at h1 hbel (List.getElem?_eq_getElem hkl)
      have hz := hbel.size
      have hki : (k : Int) < (L.length : Int) := by omega
      have hli : (L.length : Int) ≤ 9223372036854775807 := by omega
      have a0 := hc0 0 _ rfl
      have a1 := hc0 1 _ rfl
      have a2 := hc0 2 _ rfl
      have a3 := hc0 3 _ rfl
      have a4 := hc0 4 _ rfl
      have a5 := hc0 5 _ rfl
      have a6 := hc0 6 _ rfl
      have b0 := hc1 0 _ rfl
      have b1 := hc1 1 _ rfl
      have b2 := hc1 2 _ rfl
      have b3 := hc1 3 _ rfl
      have b4 := hc1 4 _ rfl
      have b5 := hc1 5 _ rfl
      have b6 := hc1 6 _ rfl
      simp only [Nat.add_zero] at a0 b0
      clear hc0 hc1 h0 h1 hml hlen
      generalize L[k] = x at *
      obtain ⟨q, t, v, P⟩ := x
      simp only at a0 a1 a2 a3 a4 a5 a6 b0 b1 b2 b3 b4 b5 b6
      go_wp2_with fail
      go_quiet (fail)
      go_wp2
      go_roundw
      case rel => exact ⟨k + 1, by omega, by go_num, below_drewN hbel _⟩
      case measure => simp [intOf]; omega
    · have hke : k = L.length := by omega
      clear h0 h1
      subst hke
      go_wp2
      go_ret
      exact ⟨rfl, hbel⟩
theorem lexReads_any (s : ByteArray) (ws : s.size ≤ maxLen) (w : World) (hG : Glob w) :
    Calls Tryd.prog 3 #[.string s] w fun e w' => e = .returned (.bool true) ∧ Below w.heap.size w w' := by
  by_cases hs : s.size ≤ 400
  · have h1 := lex_any s hs
    have h2 := refLex_any s hs
    rcases hx : lexAt s 0 with ⟨o, q⟩
    rw [hx] at h1 h2
    clear hx
    cases o with
    | none =>
      go_enter Tryd.func3, Tryd.ntmps3
      go_wp2_with (first
        | (go_at_call 7; refine (num_any _ _).mono ?_; rintro e w5 ⟨rfl, rfl⟩)
        | (go_at_call 6; refine (same16L_any (B0 := 0) (B1 := 0) none none 0 0 [] _ (World.ownsRow_nil _ _ _ _) (World.ownsRow_nil _ _ _ _)).mono ?_; rintro e w4 ⟨rfl, hb4⟩)
        | (go_at_call 8; refine (awake_any _ (((hG.below hb1).below hb2).below hb4)).mono ?_; rintro e w3 ⟨rfl, hb3⟩)
        | (go_at_call 5; refine (h2 _).mono ?_; rintro e w2 ⟨hE2, hb2⟩; obtain rfl : e = .returned (.tuple #[.slice none 0 0, .int .i64 (q : Int), .int .i64 3]) := hE2)
        | (go_at_call 4; refine (h1 _ hG).mono ?_; rintro e w1 ⟨hE1, hb1⟩; obtain rfl : e = .returned (.tuple #[.slice none 0 0, .int .i64 (q : Int), .int .i64 3]) := hE1))
      go_ret
      exact ⟨rfl, below_next (below_next (below_next hb1 (Nat.le_refl _) hb2) (Nat.le_refl _) hb4) (Nat.le_refl _) hb3⟩
    | some L =>
      go_enter Tryd.func3, Tryd.ntmps3
      go_wp2_with (first
        | (go_at_call 7; refine (num_any _ _).mono ?_; rintro e w5 ⟨rfl, rfl⟩)
        | (go_at_call 6; refine (same16L_any _ _ _ _ L _ (own_mem hown1 hb2) hown2).mono ?_; rintro e w4 ⟨rfl, hb4⟩)
        | (go_at_call 8; refine (awake_any _ (((hG.below hb1).below hb2).below hb4)).mono ?_; rintro e w3 ⟨rfl, hb3⟩)
        | (go_at_call 5; refine (h2 _).mono ?_; rintro e w2 ⟨hE2, hb2⟩; obtain ⟨v2, rfl, hown2⟩ := hE2; obtain ⟨ao2, cap2, rfl⟩ := own_form hown2)
        | (go_at_call 4; refine (h1 _ hG).mono ?_; rintro e w1 ⟨hE1, hb1⟩; obtain ⟨v1, rfl, hown1⟩ := hE1; obtain ⟨ao1, cap1, rfl⟩ := own_form hown1))
      go_ret
      exact ⟨rfl, below_next (below_next (below_next hb1 (Nat.le_refl _) hb2) (Nat.le_refl _) hb4) (Nat.le_refl _) hb3⟩
  · have h1 := lex_long s hs
    have h2 := refLex_long s hs
    go_enter Tryd.func3, Tryd.ntmps3
    go_wp2_with (first
      | (go_at_call 7; refine (num_any _ _).mono ?_; rintro e w5 ⟨rfl, rfl⟩)
      | (go_at_call 6; refine (same16L_any (B0 := 0) (B1 := 0) none none 0 0 [] _ (World.ownsRow_nil _ _ _ _) (World.ownsRow_nil _ _ _ _)).mono ?_; rintro e w4 ⟨rfl, hb4⟩)
      | (go_at_call 8; refine (awake_any _ (hG.below hb4)).mono ?_; rintro e w3 ⟨rfl, hb3⟩)
      | (go_at_call 5; refine (h2 _).mono ?_; rintro e w2 ⟨rfl, rfl⟩)
      | (go_at_call 4; refine (h1 _).mono ?_; rintro e w1 ⟨rfl, rfl⟩))
    go_ret
    exact ⟨rfl, below_next hb4 (Nat.le_refl _) hb3⟩
end Go.Proofs.YtienbimjefccmaaDoor
