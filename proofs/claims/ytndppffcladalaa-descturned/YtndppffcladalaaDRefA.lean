/-
  Contracts: what the document's own answer asks of columns (6.2).
-/
import Derived.Test.YtndppffcladalaaDMayF
namespace Go.Proofs.Ytndppffcladalaa
open Go.RowKit Num
open scoped Classical
set_option linter.unusedVariables false

theorem refColumn_any (c : Colm) (hok : c.d.ok) (w : World) :
    Calls Try.prog 45 #[.agg #[.int .i64 c.id, .string c.name, .int .i64 c.kind, .int .i64 c.state, .int .i64 c.null, .int .i64 c.d.k, .int .i64 c.d.n, .int .u64 (c.d.f : Int), .string c.d.s]] w fun e w' => e = .returned (.bool (tru (ColOk c))) ∧ Below w.heap.size w w' := by
  have hbx := heap_new w (.cells #[.int .i64 c.id, .string c.name, .int .i64 c.kind, .int .i64 c.state, .int .i64 c.null, .int .i64 c.d.k, .int .i64 c.d.n, .int .u64 (c.d.f : Int), .string c.d.s] 45)
  have h1 := refName_any c.name
  have h4 : ∀ w, Calls Try.prog 67 #[.agg #[.int .i64 c.d.k, .int .i64 c.d.n, .int .u64 (c.d.f : Int), .string c.d.s]] w fun e w' => e = .returned (.bool c.d.may) ∧ Below w.heap.size w w' := refMay_any c.d.k c.d.n c.d.f hok.2 c.d.s
  rcases Bool.eq_false_or_eq_true (nameOk c.name) with q0 | q0
  · rw [q0] at h1
    by_cases q1 : 1 ≤ c.kind
    · have _ := q1
      by_cases q2 : c.kind ≤ 5
      · have _ := q2
        by_cases q3 : 0 ≤ c.state
        · have _ := q3
          by_cases q4 : c.state ≤ 4
          · have _ := q4
            by_cases q5 : 0 ≤ c.null
            · have _ := q5
              by_cases q6 : c.null ≤ 4
              · have _ := q6
                rcases Bool.eq_false_or_eq_true c.d.may with hm | hm
                · rw [hm] at h4
                  by_cases h0 : c.d.k = 0
                  · rw [tru_yes (show ColOk c from ⟨q0, ⟨q1, q2⟩, ⟨q3, q4⟩, ⟨q5, q6⟩, hm, .inl h0⟩)]
                    clear hm q0
                    have hz : (c.d.k == 0) = true := beq_iff_eq.2 h0
                    clear h0
                    go_enter Try.func45, Try.ntmps45
                    go_wp2_with (first
                      | (go_at_call 10; refine (h1 _).mono ?_; rintro e w1 ⟨rfl, rfl⟩)
                      | (go_at_call 67; refine (h4 _).mono ?_; rintro e w5 ⟨rfl, hb5⟩; have b5 := below_box hb5 hbx; have c2 := box_cell b5 2 _ rfl; have c5 := box_cell b5 5 _ rfl))
                    go_ret
                    exact ⟨rfl, below_box0 hb5⟩
                  · by_cases h5 : c.d.k = c.kind
                    · rw [tru_yes (show ColOk c from ⟨q0, ⟨q1, q2⟩, ⟨q3, q4⟩, ⟨q5, q6⟩, hm, .inr h5⟩)]
                      clear hm q0
                      have hz : (c.d.k == 0) = false := beq_eq_false_iff_ne.2 h0
                      have hz2 : (c.d.k == c.kind) = true := beq_iff_eq.2 h5
                      clear h0 h5
                      go_enter Try.func45, Try.ntmps45
                      go_wp2_with (first
                        | (go_at_call 10; refine (h1 _).mono ?_; rintro e w1 ⟨rfl, rfl⟩)
                        | (go_at_call 67; refine (h4 _).mono ?_; rintro e w5 ⟨rfl, hb5⟩; have b5 := below_box hb5 hbx; have c2 := box_cell b5 2 _ rfl; have c5 := box_cell b5 5 _ rfl))
                      go_ret
                      exact ⟨rfl, below_box0 hb5⟩
                    · rw [tru_no (show ¬ ColOk c from fun h => by rcases h.2.2.2.2.2 with h | h; exact h0 h; exact h5 h)]
                      clear hm q0
                      have hz : (c.d.k == 0) = false := beq_eq_false_iff_ne.2 h0
                      have hz2 : (c.d.k == c.kind) = false := beq_eq_false_iff_ne.2 h5
                      clear h0 h5
                      go_enter Try.func45, Try.ntmps45
                      go_wp2_with (first
                        | (go_at_call 10; refine (h1 _).mono ?_; rintro e w1 ⟨rfl, rfl⟩)
                        | (go_at_call 67; refine (h4 _).mono ?_; rintro e w5 ⟨rfl, hb5⟩; have b5 := below_box hb5 hbx; have c2 := box_cell b5 2 _ rfl; have c5 := box_cell b5 5 _ rfl))
                      go_ret
                      exact ⟨rfl, below_box0 hb5⟩
                · rw [hm] at h4
                  rw [tru_no (show ¬ ColOk c from fun h => by have := h.2.2.2.2.1; rw [hm] at this; cases this)]
                  clear hm q0
                  go_enter Try.func45, Try.ntmps45
                  go_wp2_with (first
                    | (go_at_call 10; refine (h1 _).mono ?_; rintro e w1 ⟨rfl, rfl⟩)
                    | (go_at_call 67; refine (h4 _).mono ?_; rintro e w5 ⟨rfl, hb5⟩; have b5 := below_box hb5 hbx; have c2 := box_cell b5 2 _ rfl; have c5 := box_cell b5 5 _ rfl))
                  go_ret
                  exact ⟨rfl, below_box0 hb5⟩
              · rw [tru_no (show ¬ ColOk c from fun h => q6 h.2.2.2.1.2)]
                clear q0
                go_enter Try.func45, Try.ntmps45
                go_wp2_with (first
                  | (go_at_call 10; refine (h1 _).mono ?_; rintro e w1 ⟨rfl, rfl⟩)
                  | (go_at_call 67; refine (h4 _).mono ?_; rintro e w5 ⟨rfl, hb5⟩; have b5 := below_box hb5 hbx; have c2 := box_cell b5 2 _ rfl; have c5 := box_cell b5 5 _ rfl))
                go_ret
                exact ⟨rfl, (Below.refl _ _).alloc (Nat.le_refl _) _⟩
            · rw [tru_no (show ¬ ColOk c from fun h => q5 h.2.2.2.1.1)]
              clear q0
              go_enter Try.func45, Try.ntmps45
              go_wp2_with (first
                | (go_at_call 10; refine (h1 _).mono ?_; rintro e w1 ⟨rfl, rfl⟩)
                | (go_at_call 67; refine (h4 _).mono ?_; rintro e w5 ⟨rfl, hb5⟩; have b5 := below_box hb5 hbx; have c2 := box_cell b5 2 _ rfl; have c5 := box_cell b5 5 _ rfl))
              go_ret
              exact ⟨rfl, (Below.refl _ _).alloc (Nat.le_refl _) _⟩
          · rw [tru_no (show ¬ ColOk c from fun h => q4 h.2.2.1.2)]
            clear q0
            go_enter Try.func45, Try.ntmps45
            go_wp2_with (first
              | (go_at_call 10; refine (h1 _).mono ?_; rintro e w1 ⟨rfl, rfl⟩)
              | (go_at_call 67; refine (h4 _).mono ?_; rintro e w5 ⟨rfl, hb5⟩; have b5 := below_box hb5 hbx; have c2 := box_cell b5 2 _ rfl; have c5 := box_cell b5 5 _ rfl))
            go_ret
            exact ⟨rfl, (Below.refl _ _).alloc (Nat.le_refl _) _⟩
        · rw [tru_no (show ¬ ColOk c from fun h => q3 h.2.2.1.1)]
          clear q0
          go_enter Try.func45, Try.ntmps45
          go_wp2_with (first
            | (go_at_call 10; refine (h1 _).mono ?_; rintro e w1 ⟨rfl, rfl⟩)
            | (go_at_call 67; refine (h4 _).mono ?_; rintro e w5 ⟨rfl, hb5⟩; have b5 := below_box hb5 hbx; have c2 := box_cell b5 2 _ rfl; have c5 := box_cell b5 5 _ rfl))
          go_ret
          exact ⟨rfl, (Below.refl _ _).alloc (Nat.le_refl _) _⟩
      · rw [tru_no (show ¬ ColOk c from fun h => q2 h.2.1.2)]
        clear q0
        go_enter Try.func45, Try.ntmps45
        go_wp2_with (first
          | (go_at_call 10; refine (h1 _).mono ?_; rintro e w1 ⟨rfl, rfl⟩)
          | (go_at_call 67; refine (h4 _).mono ?_; rintro e w5 ⟨rfl, hb5⟩; have b5 := below_box hb5 hbx; have c2 := box_cell b5 2 _ rfl; have c5 := box_cell b5 5 _ rfl))
        go_ret
        exact ⟨rfl, (Below.refl _ _).alloc (Nat.le_refl _) _⟩
    · rw [tru_no (show ¬ ColOk c from fun h => q1 h.2.1.1)]
      clear q0
      go_enter Try.func45, Try.ntmps45
      go_wp2_with (first
        | (go_at_call 10; refine (h1 _).mono ?_; rintro e w1 ⟨rfl, rfl⟩)
        | (go_at_call 67; refine (h4 _).mono ?_; rintro e w5 ⟨rfl, hb5⟩; have b5 := below_box hb5 hbx; have c2 := box_cell b5 2 _ rfl; have c5 := box_cell b5 5 _ rfl))
      go_ret
      exact ⟨rfl, (Below.refl _ _).alloc (Nat.le_refl _) _⟩
  · rw [q0] at h1
    rw [tru_no (show ¬ ColOk c from fun h => by have := h.1; rw [q0] at this; cases this)]
    clear q0
    go_enter Try.func45, Try.ntmps45
    go_wp2_with (first
      | (go_at_call 10; refine (h1 _).mono ?_; rintro e w1 ⟨rfl, rfl⟩)
      | (go_at_call 67; refine (h4 _).mono ?_; rintro e w5 ⟨rfl, hb5⟩; have b5 := below_box hb5 hbx; have c2 := box_cell b5 2 _ rfl; have c5 := box_cell b5 5 _ rfl))
    go_ret
    exact ⟨rfl, (Below.refl _ _).alloc (Nat.le_refl _) _⟩
end Go.Proofs.Ytndppffcladalaa
