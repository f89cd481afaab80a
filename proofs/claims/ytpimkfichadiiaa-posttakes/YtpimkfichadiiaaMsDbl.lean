/-
  Contracts: the document's own Take, at any place; Double, both; the document's example.
-/
import Derived.Test.YtpimkfichadiiaaMsRf2
import Derived.Test.YtpimkfichadiiaaMsHev
namespace Go.Proofs.Ytpimkfichadiiaa
open Go.RowKit Num
set_option linter.unusedVariables false

theorem refTake_yes (l : Msgs) (a : Addr) (cap i : Nat) (m : Msg) (hi : l[i]? = some m) (hlen : l.length ≤ 3000) (hcap : l.length ≤ cap) (w : World) (hl : LiesM w w.heap.size (some a) l) :
    Calls Try.prog 13 #[.slice (some a) l.length cap, .int .i64 (i : Int)] w fun e w' => ∃ bo c ao2 cap2, e = .returned (.tuple #[.agg #[.int .i64 m.a0, .int .i64 m.a1, .int .i64 m.a2, .int .i64 m.a3, .int .i64 m.a4, .int .i64 m.a5, .int .i64 m.a6, .slice bo m.log.length c], .slice ao2 (l.length - 1) cap2, .int .i64 0]) ∧ LiesM w' w'.heap.size ao2 (l.eraseIdx i) ∧ LiesE w' w'.heap.size bo m.log ∧ Below w.heap.size w w' := by
  by_cases h : cap = i + 1
  · exact refTake_last l a cap i m hi hlen hcap h w hl
  · exact refTake_mid l a cap i m hi hlen hcap h w hl
theorem refTake_no (n : Nat) (ao : Option Addr) (cap : Nat) (i : Int) (hi : i < 0 ∨ (n : Int) ≤ i) (w : World) : Calls Try.prog 13 #[.slice ao n cap, .int .i64 i] w fun e w' => e = .returned (.tuple #[.agg #[.int .i64 0, .int .i64 0, .int .i64 0, .int .i64 0, .int .i64 0, .int .i64 0, .int .i64 0, .slice none 0 0], .slice none 0 0, .int .i64 20]) ∧ Below w.heap.size w w' := by
  by_cases h0 : i < 0
  · go_enter Try.func13, Try.ntmps13
    go_wp2
    refine bodyPost_ret (v := .tuple #[.agg #[.int .i64 0, .int .i64 0, .int .i64 0, .int .i64 0, .int .i64 0, .int .i64 0, .int .i64 0, .slice none 0 0], .slice none 0 0, .int .i64 20]) (by simp [results, Try.results13, go_sem]) rfl ⟨rfl, (Below.refl _ w).alloc (Nat.le_refl _) _⟩
  · have h2 : (n : Int) ≤ i := by omega
    have h3 : decide (i < 0) = false := decide_eq_false h0
    clear hi
    go_enter Try.func13, Try.ntmps13
    go_wp2
    refine bodyPost_ret (v := .tuple #[.agg #[.int .i64 0, .int .i64 0, .int .i64 0, .int .i64 0, .int .i64 0, .int .i64 0, .int .i64 0, .slice none 0 0], .slice none 0 0, .int .i64 20]) (by simp [results, Try.results13, go_sem]) rfl ⟨rfl, (Below.refl _ w).alloc (Nat.le_refl _) _⟩
theorem double_no (n : Nat) (ao : Option Addr) (cap : Nat) (i : Int) (hi : i < 0 ∨ (n : Int) ≤ i) (w : World) : Calls Try.prog 15 #[.slice ao n cap, .int .i64 i] w fun e w' => e = .returned (.tuple #[.slice none 0 0, .int .i64 20]) ∧ Below w.heap.size w w' := by
  have hp := place_no n ao cap i hi w
  go_enter Try.func15, Try.ntmps15
  go_wp2_with (first
    | (go_at_call 21; refine hp.mono ?_; rintro e w1 ⟨rfl, hq⟩; have hq' := hq.symm; clear hq; subst hq'))
  go_ret2
  exact ⟨rfl, Below.refl _ _⟩
theorem refDouble_no (n : Nat) (ao : Option Addr) (cap : Nat) (i : Int) (hi : i < 0 ∨ (n : Int) ≤ i) (w : World) : Calls Try.prog 16 #[.slice ao n cap, .int .i64 i] w fun e w' => e = .returned (.tuple #[.slice none 0 0, .int .i64 20]) ∧ Below w.heap.size w w' := by
  by_cases h0 : i < 0
  · go_enter Try.func16, Try.ntmps16
    go_wp2
    go_ret2
    exact ⟨rfl, Below.refl _ _⟩
  · have h2 : (n : Int) ≤ i := by omega
    have h3 : decide (i < 0) = false := decide_eq_false h0
    clear hi
    go_enter Try.func16, Try.ntmps16
    go_wp2
    go_ret2
    exact ⟨rfl, Below.refl _ _⟩
set_option maxRecDepth 100000 in
set_option maxHeartbeats 1000000 in
theorem double_yes (l : Msgs) (a : Addr) (cap i : Nat) (m : Msg) (hi : l[i]? = some m) (hlen : l.length ≤ 1000) (hlog : ∀ m ∈ l, m.log.length ≤ 3000) (hcap : l.length ≤ cap) (w : World) (hl : LiesM w w.heap.size (some a) l) :
    Calls Try.prog 15 #[.slice (some a) l.length cap, .int .i64 (i : Int)] w fun e w' => ∃ v, e = .returned (.tuple #[v, .int .i64 0]) ∧ OwnO w.heap.size w' v (addM l [m]) ∧ Below w.heap.size w w' := by
  have hil := (List.getElem?_eq_some_iff.1 hi).1
  have hadd := add_any l [m] (some a) (some (a.add (i * 8))) cap (cap - i) hlen (by simp) (fun x hx => by
    rcases List.mem_append.1 hx with h | h
    · exact hlog x h
    · rw [List.mem_singleton.1 h]
      exact hlog m (List.mem_of_getElem? hi)) w hl (lies_one hl hi)
  clear hi
  have f1 : (i : Int) ≤ (cap : Int) := by omega
  have f2 : (i : Int) + 1 ≤ (l.length : Int) := by omega
  have f3 : (l.length : Int) ≤ (cap : Int) := by omega
  have hp := place_yes l (some a) cap i hil w
  rw [List.length_singleton] at hadd
  go_enter Try.func15, Try.ntmps15
  go_wp2_with (first
    | (go_at_call 21; refine hp.mono ?_; rintro e w1 ⟨rfl, hq⟩; have hq' := hq.symm; clear hq; subst hq')
    | (go_at_call 9; refine hadd.mono ?_; rintro e w2 ⟨v, rfl, hown, hb⟩))
  go_ret2
  exact ⟨v, rfl, hown, hb⟩
set_option maxRecDepth 100000 in
set_option maxHeartbeats 1000000 in
theorem refDouble_yes (l : Msgs) (a : Addr) (cap i : Nat) (m : Msg) (hi : l[i]? = some m) (hlen : l.length ≤ 1000) (hcap : l.length ≤ cap) (w : World) (hl : LiesM w w.heap.size (some a) l) :
    Calls Try.prog 16 #[.slice (some a) l.length cap, .int .i64 (i : Int)] w fun e w' => ∃ v, e = .returned (.tuple #[v, .int .i64 0]) ∧ OwnV w.heap.size w' v (addM l [m]) ∧ Below w.heap.size w w' := by
  have hil := (List.getElem?_eq_some_iff.1 hi).1
  have hadd := refAdd_any l [m] (some a) (some (a.add (i * 8))) cap (cap - i) hlen (by simp) w hl (lies_one hl hi)
  clear hi
  have f1 : (i : Int) ≤ (cap : Int) := by omega
  have f2 : (i : Int) + 1 ≤ (l.length : Int) := by omega
  have f3 : (l.length : Int) ≤ (cap : Int) := by omega
  have hz : decide ((i : Int) < 0) = false := decide_eq_false (by omega)
  have hz2 : decide (l.length ≤ i) = false := decide_eq_false (by omega)
  have hz3 : ¬ l.length ≤ i := by omega
  rw [List.length_singleton] at hadd
  go_enter Try.func16, Try.ntmps16
  go_wp2_with (first
    | (go_at_call 11; refine hadd.mono ?_; rintro e w2 ⟨v, rfl, hown, hb⟩))
  go_ret2
  exact ⟨v, rfl, hown, hb⟩
/-! The document's example. -/
def Num.exM (k t : Int) : Msg := ⟨k, 0, t, 0, 0, 0, 0, []⟩
theorem ex_lies (w : World) (k t : Int) (b : Nat) (hb : w.heap.size = b) : LiesM (w.alloc (.cells #[.int .i64 k, .int .i64 0, .int .i64 t, .int .i64 0, .int .i64 0, .int .i64 0, .int .i64 0, .slice none 0 0] 29)) (b + 1) (some ⟨b, 0, none⟩) [exM k t] := by
  have h := heap_newB w (.cells #[.int .i64 k, .int .i64 0, .int .i64 t, .int .i64 0, .int .i64 0, .int .i64 0, .int .i64 0, .slice none 0 0] 29) b hb
  intro i x hx
  cases i with
  | succ i => simp at hx
  | zero =>
    cases hx
    refine ⟨_, rfl, Nat.lt_succ_self _, ?_⟩
    rw [Nat.zero_mul, addr_zero]
    exact ⟨box_cell h 0 _ rfl, box_cell h 1 _ rfl, box_cell h 2 _ rfl, box_cell h 3 _ rfl, box_cell h 4 _ rfl, box_cell h 5 _ rfl, box_cell h 6 _ rfl, none, 0, box_cell h 7 _ rfl, fun i x hx => by simp [exM] at hx⟩
set_option maxRecDepth 100000 in
set_option maxHeartbeats 1000000 in
theorem awake_any (w : World) :
    Calls Try.prog 8 #[] w fun e w' => e = .returned (.bool true) ∧ Below w.heap.size w w' := by
  have htake : Calls Try.prog 12 #[.slice (some ⟨w.heap.size, 0, none⟩) 1 1, .int .i64 0] (w.alloc (.cells #[.int .i64 3, .int .i64 0, .int .i64 1, .int .i64 0, .int .i64 0, .int .i64 0, .int .i64 0, .slice none 0 0] 29)) fun e w' => ∃ bo c ao2 cap2, e = .returned (.tuple #[.agg #[.int .i64 3, .int .i64 0, .int .i64 1, .int .i64 0, .int .i64 0, .int .i64 0, .int .i64 0, .slice bo 0 c], .slice ao2 0 cap2, .int .i64 0]) ∧ Below w.heap.size w w' := by
    refine (take_yes [exM 3 1] (some ⟨w.heap.size, 0, none⟩) 1 0 (exM 3 1) rfl (by simp) (by simp [exM]) _ (by rw [World.size_alloc]; exact ex_lies w 3 1 _ rfl)).mono ?_
    rintro e w' ⟨bo, c, ao2, cap2, he, _, _, hb, _⟩
    exact ⟨bo, c, ao2, cap2, he, below_box0 hb⟩
  have hadd : ∀ (W : World) (b : Nat), W.heap.size = b → Calls Try.prog 9 #[.slice none 0 0, .slice (some ⟨b, 0, none⟩) 1 1] (W.alloc (.cells #[.int .i64 0, .int .i64 0, .int .i64 0, .int .i64 0, .int .i64 0, .int .i64 0, .int .i64 0, .slice none 0 0] 29)) fun e w' => ∃ ao2 cap2, e = .returned (.slice ao2 1 cap2) ∧ Below W.heap.size W w' := fun W b hb => by
    subst hb
    refine (add_any [] [exM 0 0] none (some ⟨W.heap.size, 0, none⟩) 0 1 (by simp) (by simp) (by simp [exM]) _ (fun i x hx => by simp at hx) (by rw [World.size_alloc]; exact ex_lies W 0 0 _ rfl)).mono ?_
    rintro e w' ⟨v, he, hown, hb⟩
    obtain ⟨ao2, cap2, hv⟩ := hown.shape
    exact ⟨ao2, cap2, by rw [he, hv]; rfl, below_box0 hb⟩
  go_enter Try.func8, Try.ntmps8
  go_wp2_with (first
    | (go_at_call 12; refine htake.mono ?_; rintro e w1 ⟨bo, c, ao2, cap2, rfl, hb1⟩)
    | (go_at_call 14; refine (num_any _ _).mono ?_; rintro e w2 ⟨rfl, hq⟩; have hq' := hq.symm; clear hq; subst hq')
    | (go_at_call 9; refine (hadd _ _ (by simp)).mono ?_; rintro e w3 ⟨ao3, cap3, rfl, hb3⟩))
  go_ret
  exact ⟨rfl, below_next hb1 (Nat.le_refl _) (below_box0 hb3)⟩
end Go.Proofs.Ytpimkfichadiiaa
