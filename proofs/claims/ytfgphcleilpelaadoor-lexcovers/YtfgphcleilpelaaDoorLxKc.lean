/-
  The walk of the law on where tokens stand.
-/
import Derived.Test.YtfgphcleilpelaaDoorLxS
import Derived.Test.YtfgphcleilpelaaDoorLxC
namespace Go.Proofs.YtfgphcleilpelaaDoor
open Go.RowKit Num
set_option linter.unusedVariables false
set_option maxRecDepth 100000

theorem tokCells_at : ∀ (l : List Tok) (j : Nat) (x : Tok), l[j]? = some x → ∀ c (u : Value), (tokCells1 x)[c]? = some u → (tokCells l)[j * 7 + c]? = some u
  | [], _, _, h, _, _, _ => by simp at h
  | y :: l, 0, x, h, c, u, hu => by
    have h : some y = some x := h
    obtain rfl := Option.some.inj h
    have hc : c < 7 := (List.getElem?_eq_some_iff.1 hu).1
    show (tokCells1 y ++ tokCells l)[0 * 7 + c]? = some u
    rw [Nat.zero_mul, Nat.zero_add, List.getElem?_append_left hc]
    exact hu
  | y :: l, j + 1, x, h, c, u, hu => by
    have ih := tokCells_at l j x (by simpa using h) c u hu
    show (tokCells1 y ++ tokCells l)[(j + 1) * 7 + c]? = some u
    have e : (j + 1) * 7 + c = (tokCells1 y).length + (j * 7 + c) := by
      show (j + 1) * 7 + c = 7 + (j * 7 + c)
      omega
    rw [e, List.getElem?_append_right (by omega), Nat.add_sub_cancel_left]
    exact ih
theorem tok_at {w : World} {B T n g cap : Nat} {l : List Tok} (h : w.ownsRow B T 7 (.slice (some ⟨g, 0, none⟩) n cap) n (tokCells l)) {j : Nat} {x : Tok} (hx : l[j]? = some x) :
    w.cell? ⟨g, j * 7, none⟩ = some (.int .i64 x.k) ∧ w.cell? ⟨g, j * 7 + 1, none⟩ = some (.string x.t) ∧ w.cell? ⟨g, j * 7 + 2, none⟩ = some (.int .i64 x.v.k) ∧ w.cell? ⟨g, j * 7 + 3, none⟩ = some (.int .i64 x.v.n) ∧ w.cell? ⟨g, j * 7 + 4, none⟩ = some (.int .u64 (x.v.f : Int)) ∧ w.cell? ⟨g, j * 7 + 5, none⟩ = some (.string x.v.s) ∧ w.cell? ⟨g, j * 7 + 6, none⟩ = some (.int .i64 (x.p : Int)) := by
  have key : ∀ c u, (tokCells1 x)[c]? = some u → w.cell? ⟨g, j * 7 + c, none⟩ = some u := by
    intro c u hu
    have := h.cells (g := g) rfl _ _ (tokCells_at l j x hx c u hu)
    rw [Addr.add_lit, Nat.zero_add] at this
    exact this
  exact ⟨key 0 _ rfl, key 1 _ rfl, key 2 _ rfl, key 3 _ rfl, key 4 _ rfl, key 5 _ rfl, key 6 _ rfl⟩
theorem own_max {w : World} {B E sz n : Nat} {v : Value} {xs : List Value} (h : w.ownsRow B E sz v n xs) : n ≤ maxLen := by
  rcases h.2 with ⟨_, h0⟩ | ⟨g, cap, cur, _, _, _, h1, h2, _⟩
  · omega
  · exact Nat.le_trans h1 h2
theorem cov_at {s : ByteArray} {E : Nat} {L : List Tok} {j : Nat} {x : Tok} (hx : L[j]? = some x) (h : Cov s E (L.drop j)) :
    E ≤ x.p ∧ x.p + x.t.size ≤ s.size ∧ s.extract x.p (x.p + x.t.size) = x.t ∧ (∀ k (h : k < s.size), E ≤ k → k < x.p → blankB s[k] = true) ∧ (x.k = 0 ↔ j + 1 = L.length) ∧ Cov s (x.p + x.t.size) (L.drop (j + 1)) := by
  obtain ⟨hj, hx2⟩ := List.getElem?_eq_some_iff.1 hx
  rw [List.drop_eq_getElem_cons hj, hx2] at h
  obtain ⟨h1, h2, h3, h4, h5, h6⟩ := h
  refine ⟨h1, h2, h3, h4, ?_, h6⟩
  rw [h5]
  constructor
  · intro e
    have := congrArg List.length e
    rw [List.length_drop] at this
    simp only [List.length_nil] at this
    omega
  · intro e
    exact List.drop_of_length_le (by omega)
theorem lexCovers_long (s : ByteArray) (hs : ¬ s.size ≤ 400) (hmx : s.size ≤ maxLen) (w : World) (hG : Glob w) :
    Calls Tryd.prog 8 #[.string s] w fun e w' => e = .returned (.bool true) ∧ Below w.heap.size w w' := by
  have h1 := lex_long s hs
  have hs0 : (0 : Int) ≤ (s.size : Int) := by omega
  go_enter Tryd.func8, Tryd.ntmps8
  go_wp2_with (first
    | (go_at_call 12; refine (num_any _ _).mono ?_; rintro e w5 ⟨rfl, rfl⟩)
    | (go_at_call 13; refine (awake_any _ hG).mono ?_; rintro e w3 ⟨rfl, hb3⟩)
    | (go_at_call 9; refine (h1 _).mono ?_; rintro e w1 ⟨rfl, rfl⟩))
  go_ret
  exact ⟨rfl, hb3⟩
theorem lexCovers_none (s : ByteArray) (hs : s.size ≤ 400) (q : Nat) (hq : q ≤ s.size) (hx : lexAt s 0 = (none, q)) (w : World) (hG : Glob w) :
    Calls Tryd.prog 8 #[.string s] w fun e w' => e = .returned (.bool true) ∧ Below w.heap.size w w' := by
  have h1 := lex_any s hs
  rw [hx] at h1
  have hq1 : (q : Int) ≤ (s.size : Int) := by omega
  have hq0 : (0 : Int) ≤ (q : Int) := by omega
  clear hx hq
  go_enter Tryd.func8, Tryd.ntmps8
  go_wp2_with (first
    | (go_at_call 12; refine (num_any _ _).mono ?_; rintro e w5 ⟨rfl, rfl⟩)
    | (go_at_call 13; refine (awake_any _ (hG.below hb1)).mono ?_; rintro e w3 ⟨rfl, hb3⟩)
    | (go_at_call 9; refine (h1 _ hG).mono ?_; rintro e w1 ⟨hE1, hb1⟩; obtain rfl : e = .returned (.tuple #[.slice none 0 0, .int .i64 (q : Int), .int .i64 3]) := hE1))
  go_ret
  exact ⟨rfl, below_next hb1 (Nat.le_refl _) hb3⟩
set_option maxHeartbeats 2000000 in
theorem lexCovers_some (s : ByteArray) (hs : s.size ≤ 400) (L : List Tok) (hL : L ≠ []) (hc : Cov s 0 L) (q : Nat) (hx : lexAt s 0 = (some L, q)) (w : World) (hG : Glob w) :
    Calls Tryd.prog 8 #[.string s] w fun e w' => e = .returned (.bool true) ∧ Below w.heap.size w w' := by
  have h1 := lex_any s hs
  rw [hx] at h1
  have hpos : 0 < L.length := List.length_pos_iff.2 hL
  have hc : Hid (Cov s 0 L) := hc
  rename_i hc0
  clear hc0
  have hsm : (s.size : Int) ≤ 400 := by omega
  clear hx hL
  go_enter Tryd.func8, Tryd.ntmps8
  go_wp2_with (first
    | (go_at_call 12; refine (num_any _ _).mono ?_; rintro e w2 ⟨rfl, rfl⟩)
    | (go_at_call 9; refine (h1 _ hG).mono ?_; rintro e w1 ⟨hE1, hb1⟩; obtain ⟨v, rfl, hown⟩ := hE1; obtain ⟨g, cap, rfl, hg1, hg2⟩ := own_some hown hpos))
  have hLm : (L.length : Int) ≤ 9223372036854775807 := by
    have := own_max hown
    unfold maxLen at this
    omega
  clear h1
  go_loopw [6, 7, 8, 9] (fun e i _ _ wr => ∃ (j E : Nat), j ≤ L.length ∧ E ≤ s.size ∧ i = .int .i64 (j : Int) ∧ e = .int .i64 (E : Int) ∧ Hid (Cov s E (L.drop j)) ∧ Below w2.heap.size w2 wr) (fun _ i _ _ _ => L.length - (intOf i).toNat)
  case atStart => exact ⟨0, 0, by omega, by omega, rfl, rfl, hc, Below.refl _ _⟩
  case round =>
    obtain ⟨j, E, hj, hE, rfl, rfl, HC, hbel⟩ := hrel
    by_cases hjl : j < L.length
    · have hx := List.getElem?_eq_getElem hjl
      obtain ⟨c1, c2, c3, c4, c5, c6⟩ := cov_at hx HC.out
      obtain ⟨d0, d1, d2, d3, d4, d5, d6⟩ := tok_at hown hx
      replace d0 := (hbel.cell hg2).trans d0
      replace d1 := (hbel.cell hg2).trans d1
      replace d2 := (hbel.cell hg2).trans d2
      replace d3 := (hbel.cell hg2).trans d3
      replace d4 := (hbel.cell hg2).trans d4
      replace d5 := (hbel.cell hg2).trans d5
      replace d6 := (hbel.cell hg2).trans d6
      generalize L[j] = x at *
      obtain ⟨k, t, v, P⟩ := x
      simp only at c1 c2 c3 c4 c5 c6 d0 d1 d2 d3 d4 d5 d6
      have i1 : ¬ (P : Int) < (E : Int) := by omega
      have i2 : ¬ (s.size : Int) < (P : Int) := by omega
      have i3 : ¬ (s.size : Int) - (P : Int) < (t.size : Int) := by omega
      have i4 : (P : Int) + (t.size : Int) ≤ (s.size : Int) := by omega
      have n1 : ¬ P < E := by omega
      have n2 : ¬ s.size < P := by omega
      have n3 : decide ((P : Int) < (E : Int)) = false := decide_eq_false i1
      have n4 : decide ((s.size : Int) < (P : Int)) = false := decide_eq_false i2
      have n5 : decide ((s.size : Int) - (P : Int) < (t.size : Int)) = false := decide_eq_false i3
      have HC2 : Hid (Cov s (P + t.size) (L.drop (j + 1))) := c6
      have hbk : Hid (∀ k (h : k < s.size), E ≤ k → k < P → blankB s[k] = true) := c4
      obtain ⟨bb, hbb⟩ : ∃ bb, decide (k = 0) = bb := ⟨_, rfl⟩
      have i5 : (k == 0) = bb := by rw [← hbb]; rfl
      have i6 : ((j : Int) == (L.length : Int) - 1) = bb := by
        rw [← hbb, Bool.eq_iff_iff, beq_iff_eq, decide_eq_true_iff, c5]
        omega
      have i7 : (!bb == bb) = false := by cases bb <;> rfl
      clear hx HC c4 c5 c6 hbb hown
      go_wp2_with fail
      go_quiet (fail)
      go_wp2
      go_loop [9] (fun q => ∃ K : Nat, E ≤ K ∧ K ≤ P ∧ q = .int .i64 (K : Int)) (fun q => s.size - (intOf q).toNat)
      case atStart => exact ⟨E, by omega, by omega, rfl⟩
      case round =>
        obtain ⟨K, hK1, hK2, rfl⟩ := hrel
        by_cases hKP : K < P
        · have hKs : K < s.size := by omega
          have hKi : (K : Int) < (P : Int) := by omega
          have hb := hbk.out K hKs hK1 hKP
          have hor : s[K].toNat = 32 ∨ (¬ s[K].toNat = 32 ∧ s[K].toNat = 9) ∨ (¬ s[K].toNat = 32 ∧ ¬ s[K].toNat = 9 ∧ s[K].toNat = 10) := by
            simp [blankB] at hb
            omega
          have e1 := int_eq s[K] 32
          have e2 := int_eq s[K] 9
          have e3 := int_eq s[K] 10
          replace e1 : (((s[K].toNat : Nat) : Int) != 32) = !decide (s[K].toNat = 32) := congrArg not e1
          replace e2 : (((s[K].toNat : Nat) : Int) != 9) = !decide (s[K].toNat = 9) := congrArg not e2
          replace e3 : (((s[K].toNat : Nat) : Int) != 10) = !decide (s[K].toNat = 10) := congrArg not e3
          clear hb
          rcases hor with h | ⟨h, h2⟩ | ⟨h, h2, h3⟩
          · rw [decide_eq_true h, Bool.not_true] at e1
            clear h e2 e3
            go_wp2
            go_round
            case rel => exact ⟨K + 1, by omega, by omega, by go_num⟩
            case measure => simp [intOf]; omega
          · rw [decide_eq_false h, Bool.not_false] at e1
            rw [decide_eq_true h2, Bool.not_true] at e2
            clear h h2 e3
            go_wp2
            go_round
            case rel => exact ⟨K + 1, by omega, by omega, by go_num⟩
            case measure => simp [intOf]; omega
          · rw [decide_eq_false h, Bool.not_false] at e1
            rw [decide_eq_false h2, Bool.not_false] at e2
            rw [decide_eq_true h3, Bool.not_true] at e3
            clear h h2 h3
            go_wp2
            go_round
            case rel => exact ⟨K + 1, by omega, by omega, by go_num⟩
            case measure => simp [intOf]; omega
        · obtain rfl : K = P := by omega
          go_wp2
          go_roundw
          case rel => exact ⟨j + 1, K + t.size, by omega, by omega, by go_num, by go_num, HC2, below_drewN (hbel.alloc hbel.size _) _⟩
          case measure => simp [intOf]; omega
    · obtain rfl : j = L.length := by omega
      have hE2 : E = s.size := by
        have h := HC.out
        rw [List.drop_length] at h
        exact h
      subst hE2
      clear HC
      go_wp2_with (first
        | (go_at_call 13; refine (awake_any _ ((hG.below hb1).below hbel)).mono ?_; rintro e w3 ⟨rfl, hb3⟩))
      go_ret
      exact ⟨rfl, below_next (below_next hb1 (Nat.le_refl _) hbel) (Nat.le_refl _) hb3⟩
theorem lexCovers_any (s : ByteArray) (hmx : s.size ≤ maxLen) (w : World) (hG : Glob w) :
    Calls Tryd.prog 8 #[.string s] w fun e w' => e = .returned (.bool true) ∧ Below w.heap.size w w' := by
  by_cases hs : s.size ≤ 400
  · obtain ⟨h1, h2⟩ := lexAt_cov s _ 0 rfl (by omega)
    rcases hx : lexAt s 0 with ⟨o, q⟩
    rw [hx] at h1 h2
    cases o with
    | none => exact lexCovers_none s hs q (h1 rfl).2 hx w hG
    | some L =>
      obtain ⟨hne, hc⟩ := h2 L rfl
      exact lexCovers_some s hs L hne hc q hx w hG
  · exact lexCovers_long s hs hmx w hG
end Go.Proofs.YtfgphcleilpelaaDoor
