/-
  Contracts: what the document's own answer asks of indexes (6.2).
-/
import Derived.Test.YtndppffcladalaaDRefA
import Derived.Deep.QuietTactic
namespace Go.Proofs.Ytndppffcladalaa
open Go.RowKit Num
open scoped Classical
set_option linter.unusedVariables false

/-- Is a column's number there, and none of the numbers ahead of it the same? -/
def Num.AtM (cols : List Colm) (l : List Int) (m : Nat) : Prop := ∀ d, l[m]? = some d → (∃ c ∈ cols, c.id = d) ∧ ∀ j e, j < m → l[j]? = some e → e ≠ d
theorem atM_all (cols : List Colm) (l : List Int) : (∀ m, m < l.length → AtM cols l m) ↔ (Apart l ∧ ∀ d ∈ l, ∃ c ∈ cols, c.id = d) := by
  constructor
  · intro h
    refine ⟨fun i k hi hk e => ?_, fun d hd => ?_⟩
    · exact (h i hi _ (List.getElem?_eq_getElem hi)).2 k _ hk (List.getElem?_eq_getElem (by omega)) e
    · obtain ⟨j, hj, rfl⟩ := List.getElem_of_mem hd
      exact (h j hj _ (List.getElem?_eq_getElem hj)).1
  · rintro ⟨h1, h2⟩ m hm d hd
    rw [List.getElem?_eq_getElem hm] at hd
    cases hd
    refine ⟨h2 _ (List.getElem_mem hm), fun j e hj he => ?_⟩
    rw [List.getElem?_eq_getElem (by omega)] at he
    cases he
    exact h1 m j hm hj
def Num.ThereM (cols : List Colm) (d : Int) (k : Nat) : Prop := ∃ j c, j < k ∧ cols[j]? = some c ∧ c.id = d
theorem there_all (cols : List Colm) (d : Int) : ThereM cols d cols.length ↔ ∃ c ∈ cols, c.id = d := by
  constructor
  · rintro ⟨j, c, _, hc, e⟩
    exact ⟨c, List.mem_of_getElem? hc, e⟩
  · rintro ⟨c, hc, e⟩
    obtain ⟨j, hj, rfl⟩ := List.getElem_of_mem hc
    exact ⟨j, _, hj, List.getElem?_eq_getElem hj, e⟩
theorem there_snoc {cols : List Colm} {d : Int} {k : Nat} (hk : k < cols.length) : ThereM cols d (k + 1) ↔ (ThereM cols d k ∨ (cols[k]).id = d) := by
  constructor
  · rintro ⟨j, c, hj, hc, e⟩
    by_cases h : j = k
    · subst h
      rw [List.getElem?_eq_getElem hk] at hc
      cases hc
      exact .inr e
    · exact .inl ⟨j, c, by omega, hc, e⟩
  · rintro (⟨j, c, hj, hc, e⟩ | e)
    · exact ⟨j, c, by omega, hc, e⟩
    · exact ⟨k, _, by omega, List.getElem?_eq_getElem hk, e⟩
def Num.NewM (P : Prop) (l : List Int) (d : Int) (k : Nat) : Prop := P ∧ ∀ j e, j < k → l[j]? = some e → e ≠ d
theorem new_snoc {P : Prop} {l : List Int} {d : Int} {k : Nat} (hk : k < l.length) : NewM P l d (k + 1) ↔ (NewM P l d k ∧ l[k] ≠ d) := by
  constructor
  · rintro ⟨hP, h⟩
    exact ⟨⟨hP, fun j e hj => h j e (by omega)⟩, h k _ (by omega) (List.getElem?_eq_getElem hk)⟩
  · rintro ⟨⟨hP, h⟩, h2⟩
    refine ⟨hP, fun j e hj he => ?_⟩
    by_cases hjk : j = k
    · subst hjk
      rw [List.getElem?_eq_getElem hk] at he
      cases he
      exact h2
    · exact h j e (by omega) he
set_option maxHeartbeats 2000000 in
theorem refIndex_any (t : Tab) (ao2 : Option Addr) (cap2 : Nat) (ao3 : Option Addr) (cap3 : Nat) (x : Idx) (ao4 : Option Addr) (cap4 : Nat) (h8 : t.cols.length ≤ 8) (w : World) (hl2 : LiesK w w.heap.size ao2 t.cols) (hl4 : LiesN w w.heap.size ao4 x.cols) :
    Calls Try.prog 46 #[.agg #[.int .i64 t.id, .string t.name, .slice ao2 t.cols.length cap2, .slice ao3 t.idxs.length cap3, .int .i64 t.next], .agg #[.int .i64 x.id, .string x.name, .slice ao4 x.cols.length cap4, .bool x.uniq, .int .i64 x.state]] w fun e w' => e = .returned (.bool (tru (IdxOk t.cols x))) ∧ Below w.heap.size w w' := by
  have h1 := refName_any x.name
  have hbW : Below w.heap.size w ((w.alloc (.cells #[.int .i64 t.id, .string t.name, .slice ao2 t.cols.length cap2, .slice ao3 t.idxs.length cap3, .int .i64 t.next] 40)).alloc (.cells #[.int .i64 x.id, .string x.name, .slice ao4 x.cols.length cap4, .bool x.uniq, .int .i64 x.state] 52)) := ((Below.refl _ _).alloc (Nat.le_refl _) _).alloc (by simp) _
  have hbt : ((w.alloc (.cells #[.int .i64 t.id, .string t.name, .slice ao2 t.cols.length cap2, .slice ao3 t.idxs.length cap3, .int .i64 t.next] 40)).alloc (.cells #[.int .i64 x.id, .string x.name, .slice ao4 x.cols.length cap4, .bool x.uniq, .int .i64 x.state] 52)).heap[w.heap.size]? = some (.cells #[.int .i64 t.id, .string t.name, .slice ao2 t.cols.length cap2, .slice ao3 t.idxs.length cap3, .int .i64 t.next] 40 (0, 0)) := alloc_box _ (heap_new w _)
  have hbi : ((w.alloc (.cells #[.int .i64 t.id, .string t.name, .slice ao2 t.cols.length cap2, .slice ao3 t.idxs.length cap3, .int .i64 t.next] 40)).alloc (.cells #[.int .i64 x.id, .string x.name, .slice ao4 x.cols.length cap4, .bool x.uniq, .int .i64 x.state] 52)).heap[w.heap.size + 1]? = some (.cells #[.int .i64 x.id, .string x.name, .slice ao4 x.cols.length cap4, .bool x.uniq, .int .i64 x.state] 52 (0, 0)) := heap_newB _ _ _ (by simp)
  rcases Bool.eq_false_or_eq_true (nameOk x.name) with q0 | q0
  · rw [q0] at h1
    by_cases q1 : x.state < 0
    · rw [tru_no (show ¬ IdxOk t.cols x from fun h => by have := h.2.1; omega)]
      clear q0
      go_enter Try.func46, Try.ntmps46
      go_wp2_with (first
        | (go_at_call 10; refine (h1 _).mono ?_; rintro e w1 ⟨rfl, hw1⟩; subst hw1))
      go_ret
      exact ⟨rfl, hbW⟩
    · by_cases q2 : 4 < x.state
      · rw [tru_no (show ¬ IdxOk t.cols x from fun h => by have := h.2.1; omega)]
        clear q0
        go_enter Try.func46, Try.ntmps46
        go_wp2_with (first
          | (go_at_call 10; refine (h1 _).mono ?_; rintro e w1 ⟨rfl, hw1⟩; subst hw1))
        go_ret
        exact ⟨rfl, hbW⟩
      · by_cases q3 : (x.cols.length : Int) < 1
        · rw [tru_no (show ¬ IdxOk t.cols x from fun h => by have := h.2.2.1; omega)]
          clear q0
          go_enter Try.func46, Try.ntmps46
          go_wp2_with (first
            | (go_at_call 10; refine (h1 _).mono ?_; rintro e w1 ⟨rfl, hw1⟩; subst hw1))
          go_ret
          exact ⟨rfl, hbW⟩
        · by_cases q4 : 8 < (x.cols.length : Int)
          · rw [tru_no (show ¬ IdxOk t.cols x from fun h => by have := h.2.2.1; omega)]
            clear q0
            go_enter Try.func46, Try.ntmps46
            go_wp2_with (first
              | (go_at_call 10; refine (h1 _).mono ?_; rintro e w1 ⟨rfl, hw1⟩; subst hw1))
            go_ret
            exact ⟨rfl, hbW⟩
          · have he : tru (IdxOk t.cols x) = tru (∀ m, m < x.cols.length → AtM t.cols x.cols m) := tru_iff ⟨fun h => (atM_all _ _).2 ⟨h.2.2.2.1, h.2.2.2.2⟩, fun h => ⟨q0, by omega, by omega, ((atM_all _ _).1 h).1, ((atM_all _ _).1 h).2⟩⟩
            rw [he]
            have hx8 : x.cols.length ≤ 8 := by omega
            clear he q0
            go_enter Try.func46, Try.ntmps46
            go_wp2_with (first
              | (go_at_call 10; refine (h1 _).mono ?_; rintro e w1 ⟨rfl, hw1⟩; subst hw1))
            clear h1
            go_loopw [5] (fun i wr => ∃ m : Nat, m ≤ x.cols.length ∧ i = .int .i64 (m : Int) ∧ Below ((w.alloc (.cells #[.int .i64 t.id, .string t.name, .slice ao2 t.cols.length cap2, .slice ao3 t.idxs.length cap3, .int .i64 t.next] 40)).alloc (.cells #[.int .i64 x.id, .string x.name, .slice ao4 x.cols.length cap4, .bool x.uniq, .int .i64 x.state] 52)).heap.size ((w.alloc (.cells #[.int .i64 t.id, .string t.name, .slice ao2 t.cols.length cap2, .slice ao3 t.idxs.length cap3, .int .i64 t.next] 40)).alloc (.cells #[.int .i64 x.id, .string x.name, .slice ao4 x.cols.length cap4, .bool x.uniq, .int .i64 x.state] 52)) wr ∧ Hid (∀ j, j < m → AtM t.cols x.cols j)) (fun i _ => x.cols.length - (intOf i).toNat)
            case atStart => exact ⟨0, by omega, rfl, Below.refl _ _, fun _ h => absurd h (Nat.not_lt_zero _)⟩
            case round =>
              obtain ⟨m, hm, rfl, hbr, HM⟩ := hrel
              have d2 := box_cell (below_box hbr hbi) 2 _ rfl
              have g2 := box_cell (below_box hbr hbt) 2 _ rfl
              have hbel := hbW.trans (hbr.mono hbW.size)
              by_cases hml : m < x.cols.length
              · obtain ⟨D, hD⟩ : ∃ D, x.cols[m]? = some D := ⟨x.cols[m], List.getElem?_eq_getElem hml⟩
                have HMs : NewM (ThereM t.cols D t.cols.length) x.cols D m → Hid (∀ j, j < m + 1 → AtM t.cols x.cols j) := by
                  intro hx j hj
                  by_cases h : j = m
                  · subst h
                    intro d hd
                    rw [hD] at hd
                    cases hd
                    exact ⟨(there_all _ _).1 hx.1, hx.2⟩
                  · exact HM.out j (by omega)
                have HMn : ¬ NewM (ThereM t.cols D t.cols.length) x.cols D m → Hid (¬ ∀ m, m < x.cols.length → AtM t.cols x.cols m) := fun hx h => by
                  have := h m hml D hD
                  exact hx ⟨(there_all _ _).2 this.1, this.2⟩
                clear HM
                rename World => W0
                go_wp2
                go_loopw [6, 7] (fun b i wr => ∃ k : Nat, k ≤ t.cols.length ∧ i = .int .i64 (k : Int) ∧ b = .bool (tru (ThereM t.cols D k)) ∧ Below W0.heap.size W0 wr) (fun _ i _ => t.cols.length - (intOf i).toNat)
                case atStart => exact ⟨0, by omega, rfl, by rw [tru_no (fun h => by obtain ⟨j, _, hj, _⟩ := h; omega)], Below.refl _ _⟩
                case round =>
                  obtain ⟨k, hk, rfl, rfl, hbk⟩ := hrel
                  have hbk2 := hbr.trans (hbk.mono hbr.size)
                  have hbel2 := hbel.trans (hbk.mono hbel.size)
                  have d2' := box_cell (below_box hbk2 hbi) 2 _ rfl
                  have g2' := box_cell (below_box hbk2 hbt) 2 _ rfl
                  by_cases hkl : k < t.cols.length
                  · have hs := there_snoc (d := D) hkl
                    clear HMs HMn
                    by_cases p1 : ThereM t.cols D k
                    · have HT : Hid (tru (ThereM t.cols D (k + 1)) = true) := tru_yes (hs.2 (.inl p1))
                      rw [tru_yes p1]
                      clear p1 hs
                      go_wp2
                      go_quiet (fail)
                      go_wp2
                      go_roundw
                      case rel => exact ⟨k + 1, by omega, by go_num, by rw [HT.out], below_drewN hbk _⟩
                      case measure => simp [intOf]; omega
                    · have HT : Hid (tru (ThereM t.cols D (k + 1)) = tru ((t.cols[k]).id = D)) := tru_iff ⟨fun h => (hs.1 h).resolve_left p1, fun h => hs.2 (.inr h)⟩
                      rw [tru_no p1]
                      clear p1 hs
                      obtain ⟨a2, rfl, hb2, e0, _⟩ := (hl2.below ColAt.fast hbel2) k t.cols[k] (List.getElem?_eq_getElem hkl)
                      obtain ⟨a4, rfl, hb4, f0⟩ := (hl4.below NumAt.fast hbel2) m D hD
                      rw [Nat.mul_one] at f0
                      unfold NumAt at f0
                      have HB2 : Hid (tru ((t.cols[k]).id = D) = ((t.cols[k]).id == D)) := by
                        by_cases h : (t.cols[k]).id = D
                        · rw [tru_yes h]; exact (beq_iff_eq.2 h).symm
                        · rw [tru_no h]; exact (beq_eq_false_iff_ne.2 h).symm
                      generalize t.cols[k] = y at *
                      have i1 : (m : Int) < (x.cols.length : Int) := by omega
                      have i2 : (k : Int) < (t.cols.length : Int) := by omega
                      go_wp2
                      go_quiet (fail)
                      go_wp2
                      go_roundw
                      case rel => exact ⟨k + 1, by omega, by go_num, by rw [HT.out, HB2.out], below_drewN hbk _⟩
                      case measure => simp [intOf]; omega
                  · have hke : k = t.cols.length := by omega
                    subst hke
                    rename World => W1
                    go_wp2
                    go_loopw [6, 8] (fun b i wr => ∃ k : Nat, k ≤ m ∧ i = .int .i64 (k : Int) ∧ b = .bool (tru (NewM (ThereM t.cols D t.cols.length) x.cols D k)) ∧ Below W1.heap.size W1 wr) (fun _ i _ => m - (intOf i).toNat)
                    case atStart => exact ⟨0, by omega, rfl, by rw [tru_iff (Q := NewM (ThereM t.cols D t.cols.length) x.cols D 0) ⟨fun h => ⟨h, fun j e hj => absurd hj (Nat.not_lt_zero _)⟩, fun h => h.1⟩], Below.refl _ _⟩
                    case round =>
                      obtain ⟨k, hk, rfl, rfl, hbk4⟩ := hrel
                      have hbk5 := hbk2.trans (hbk4.mono hbk2.size)
                      have hbel3 := hbel2.trans (hbk4.mono hbel2.size)
                      have d2'' := box_cell (below_box hbk5 hbi) 2 _ rfl
                      by_cases hkl : k < m
                      · have hs := new_snoc (P := ThereM t.cols D t.cols.length) (d := D) (show k < x.cols.length by omega)
                        clear HMs HMn
                        by_cases p1 : NewM (ThereM t.cols D t.cols.length) x.cols D k
                        · have HT : Hid (tru (NewM (ThereM t.cols D t.cols.length) x.cols D (k + 1)) = tru ((x.cols[k]'(by omega)) ≠ D)) := tru_iff ⟨fun h => (hs.1 h).2, fun h => hs.2 ⟨p1, h⟩⟩
                          rw [tru_yes p1]
                          clear p1 hs
                          obtain ⟨a4, hao4, hb4, f0⟩ := (hl4.below NumAt.fast hbel3) k (x.cols[k]'(by omega)) (List.getElem?_eq_getElem (by omega))
                          obtain ⟨a5, hao5, _, f1⟩ := (hl4.below NumAt.fast hbel3) m D hD
                          subst hao4
                          cases hao5
                          rw [Nat.mul_one] at f0 f1
                          unfold NumAt at f0 f1
                          have HB2 : Hid (tru ((x.cols[k]'(by omega)) ≠ D) = ((x.cols[k]'(by omega)) != D)) := by
                            by_cases h : (x.cols[k]'(by omega)) ≠ D
                            · rw [tru_yes h]; exact (bne_iff_ne.2 h).symm
                            · rw [tru_no h]
                              have := Classical.not_not.1 h
                              rw [this]
                              exact (bne_self_eq_false D).symm
                          have i1 : (m : Int) < (x.cols.length : Int) := by omega
                          have i2 : (k : Int) < (x.cols.length : Int) := by omega
                          generalize (x.cols[k]'(by omega)) = y at *
                          go_wp2
                          go_quiet (fail)
                          go_wp2
                          go_roundw
                          case rel => exact ⟨k + 1, by omega, by go_num, by rw [HT.out, HB2.out], below_drewN hbk4 _⟩
                          case measure => simp [intOf]; omega
                        · have HT : Hid (tru (NewM (ThereM t.cols D t.cols.length) x.cols D (k + 1)) = false) := tru_no (fun h => p1 (hs.1 h).1)
                          rw [tru_no p1]
                          clear p1 hs
                          go_wp2
                          go_quiet (fail)
                          go_wp2
                          go_roundw
                          case rel => exact ⟨k + 1, by omega, by go_num, by rw [HT.out], below_drewN hbk4 _⟩
                          case measure => simp [intOf]; omega
                      · have hke : k = m := by omega
                        subst hke
                        by_cases p1 : NewM (ThereM t.cols D t.cols.length) x.cols D k
                        · rw [tru_yes p1]
                          have HM2 := HMs p1
                          clear HMs HMn p1
                          go_wp2
                          go_roundw
                          case rel => exact ⟨k + 1, by omega, by go_num, hbk5, HM2⟩
                          case measure => simp [intOf]; omega
                        · rw [tru_no p1]
                          have hno := HMn p1
                          clear HMs HMn p1
                          go_wp2
                          go_ret
                          rw [tru_no hno.out]
                          exact ⟨rfl, hbel3⟩
              · have hyes : Hid (∀ m, m < x.cols.length → AtM t.cols x.cols m) := fun j hj => HM.out j (by omega)
                clear HM
                go_wp2
                go_ret
                rw [tru_yes hyes.out]
                exact ⟨rfl, hbel⟩
  · rw [q0] at h1
    rw [tru_no (show ¬ IdxOk t.cols x from fun h => by have := h.1; rw [q0] at this; cases this)]
    clear q0
    go_enter Try.func46, Try.ntmps46
    go_wp2_with (first
      | (go_at_call 10; refine (h1 _).mono ?_; rintro e w1 ⟨rfl, hw1⟩; subst hw1))
    go_ret
    exact ⟨rfl, hbW⟩
end Go.Proofs.Ytndppffcladalaa
