/-
  Contracts: what the document's own answer asks of tables (6.2).
-/
import Derived.Test.YtndppffcladalaaDRefB
namespace Go.Proofs.Ytndppffcladalaa
open Go.RowKit Num
open scoped Classical
set_option linter.unusedVariables false

theorem alloc_cell {w : World} {p : Addr} {v : Value} (o : Obj) (h : w.cell? p = some v) : (w.alloc o).cell? p = some v := by
  exact (((Below.refl _ w).alloc (Nat.le_refl _) o).cell (cell_lt h)).trans h
/-- The column at a place is right, and its name is new. -/
def Num.CAt (t : Tab) (m : Nat) : Prop := ∀ c, t.cols[m]? = some c → ColOk c ∧ ∀ j e, j < m → t.cols[j]? = some e → e.name ≠ c.name
def Num.IAt (t : Tab) (m : Nat) : Prop := ∀ c, t.idxs[m]? = some c → IdxOk t.cols c ∧ ∀ j e, j < m → t.idxs[j]? = some e → e.name ≠ c.name
def Num.DAt (t : Tab) (m : Nat) : Prop := ∀ d, t.ids[m]? = some d → (1 ≤ d ∧ d < t.next) ∧ ∀ j e, j < m → t.ids[j]? = some e → e ≠ d
structure Num.TabR (t : Tab) : Prop where
  name : nameOk t.name = true
  next : 1 ≤ t.next ∧ t.next ≤ 60000
  ncols : 1 ≤ (t.cols.length : Int) ∧ (t.cols.length : Int) ≤ 8
  nidxs : (t.idxs.length : Int) ≤ 4
  key : ∀ f, t.cols[0]? = some f → KeyM f
  cols : ∀ m, m < t.cols.length → CAt t m
  idxs : ∀ m, m < t.idxs.length → IAt t m
  ids : ∀ m, m < t.ids.length → DAt t m
theorem apart_of {α β : Type} {f : α → β} {l : List α} : Apart (l.map f) ↔ ∀ (m : Nat) c, l[m]? = some c → ∀ (j : Nat) e, j < m → l[j]? = some e → f e ≠ f c := by
  constructor
  · intro h m c hc j e hj he
    have hm := (List.getElem?_eq_some_iff.1 hc).1
    have h2 := h m j (by rw [List.length_map]; exact hm) hj
    simp only [List.getElem_map] at h2
    have e1 := (List.getElem?_eq_some_iff.1 hc).2
    have e2 := (List.getElem?_eq_some_iff.1 he).2
    rw [e1, e2] at h2
    exact h2
  · intro h i k hi hk
    rw [List.length_map] at hi
    simp only [List.getElem_map]
    exact h i _ (List.getElem?_eq_getElem hi) k _ hk (List.getElem?_eq_getElem (by omega))
theorem apart_id {l : List Int} : Apart l ↔ ∀ (m : Nat) c, l[m]? = some c → ∀ (j : Nat) e, j < m → l[j]? = some e → e ≠ c := by
  have h := apart_of (f := fun x : Int => x) (l := l)
  rw [List.map_id'] at h
  exact h
theorem tabR_iff (t : Tab) : TabOk t ↔ TabR t := by
  constructor
  · intro h
    refine ⟨h.name, h.next, by have := h.ncols; omega, by have := h.nidxs; omega, h.first, fun m hm c hc => ⟨h.cols c (List.mem_of_getElem? hc), fun j e hj he => apart_of.1 h.cnames m c hc j e hj he⟩, fun m hm c hc => ⟨h.idxs c (List.mem_of_getElem? hc), fun j e hj he => apart_of.1 h.inames m c hc j e hj he⟩, fun m hm d hd => ⟨h.ids d (List.mem_of_getElem? hd), fun j e hj he => apart_id.1 h.apart m d hd j e hj he⟩⟩
  · intro h
    refine ⟨h.name, h.next, by have := h.ncols; omega, by have := h.nidxs; omega, h.key, apart_of.2 fun m c hc j e hj he => (h.cols m (List.getElem?_eq_some_iff.1 hc).1 c hc).2 j e hj he, fun c hc => ?_, apart_of.2 fun m c hc j e hj he => (h.idxs m (List.getElem?_eq_some_iff.1 hc).1 c hc).2 j e hj he, fun c hc => ?_, fun d hd => ?_, apart_id.2 fun m c hc j e hj he => (h.ids m (List.getElem?_eq_some_iff.1 hc).1 c hc).2 j e hj he⟩
    · obtain ⟨j, hj, rfl⟩ := List.getElem_of_mem hc
      exact (h.cols j hj _ (List.getElem?_eq_getElem hj)).1
    · obtain ⟨j, hj, rfl⟩ := List.getElem_of_mem hc
      exact (h.idxs j hj _ (List.getElem?_eq_getElem hj)).1
    · obtain ⟨j, hj, rfl⟩ := List.getElem_of_mem hd
      exact (h.ids j hj _ (List.getElem?_eq_getElem hj)).1
set_option maxRecDepth 100000 in
set_option maxHeartbeats 8000000 in
theorem refTable_any (t : Tab) (hin : TabIn t) (ao2 : Option Addr) (cap2 : Nat) (ao3 : Option Addr) (cap3 : Nat) (w : World) (hl2 : LiesK w w.heap.size ao2 t.cols) (hl3 : LiesI w w.heap.size ao3 t.idxs) :
    Calls Try.prog 28 #[.agg #[.int .i64 t.id, .string t.name, .slice ao2 t.cols.length cap2, .slice ao3 t.idxs.length cap3, .int .i64 t.next]] w fun e w' => e = .returned (.bool (tru (TabOk t))) ∧ Below w.heap.size w w' := by
  rw [tru_iff (tabR_iff t)]
  have h1 := refName_any t.name
  rcases Bool.eq_false_or_eq_true (nameOk t.name) with q0 | q0
  · rw [q0] at h1
    by_cases q1 : t.next < 1
    · rw [tru_no (show ¬ TabR t from fun h => by have := h.next; omega)]
      clear q0
      go_enter Try.func28, Try.ntmps28
      go_wp2_with (first
        | (go_at_call 10; refine (h1 _).mono ?_; rintro e w1 ⟨rfl, hw1⟩; subst hw1))
      go_ret
      exact ⟨rfl, (Below.refl _ _).alloc (Nat.le_refl _) _⟩
    · by_cases q2 : 60000 < t.next
      · rw [tru_no (show ¬ TabR t from fun h => by have := h.next; omega)]
        clear q0
        go_enter Try.func28, Try.ntmps28
        go_wp2_with (first
          | (go_at_call 10; refine (h1 _).mono ?_; rintro e w1 ⟨rfl, hw1⟩; subst hw1))
        go_ret
        exact ⟨rfl, (Below.refl _ _).alloc (Nat.le_refl _) _⟩
      · by_cases q3 : (t.cols.length : Int) < 1
        · rw [tru_no (show ¬ TabR t from fun h => by have := h.ncols; omega)]
          clear q0
          go_enter Try.func28, Try.ntmps28
          go_wp2_with (first
            | (go_at_call 10; refine (h1 _).mono ?_; rintro e w1 ⟨rfl, hw1⟩; subst hw1))
          go_ret
          exact ⟨rfl, (Below.refl _ _).alloc (Nat.le_refl _) _⟩
        · by_cases q4 : 8 < (t.cols.length : Int)
          · rw [tru_no (show ¬ TabR t from fun h => by have := h.ncols; omega)]
            clear q0
            go_enter Try.func28, Try.ntmps28
            go_wp2_with (first
              | (go_at_call 10; refine (h1 _).mono ?_; rintro e w1 ⟨rfl, hw1⟩; subst hw1))
            go_ret
            exact ⟨rfl, (Below.refl _ _).alloc (Nat.le_refl _) _⟩
          · by_cases q5 : 4 < (t.idxs.length : Int)
            · rw [tru_no (show ¬ TabR t from fun h => by have := h.nidxs; omega)]
              clear q0
              go_enter Try.func28, Try.ntmps28
              go_wp2_with (first
                | (go_at_call 10; refine (h1 _).mono ?_; rintro e w1 ⟨rfl, hw1⟩; subst hw1))
              go_ret
              exact ⟨rfl, (Below.refl _ _).alloc (Nat.le_refl _) _⟩
            · obtain ⟨f, hf⟩ : ∃ f, t.cols[0]? = some f := ⟨t.cols[0], List.getElem?_eq_getElem (by omega)⟩
              have hq : KeyM f → (∀ m, m < t.cols.length → CAt t m) → (∀ m, m < t.idxs.length → IAt t m) → (∀ m, m < t.ids.length → DAt t m) → Hid (TabR t) := fun a1 a2 a3 a4 => ⟨q0, by omega, by omega, by omega, fun g hg => by rw [hf] at hg; cases hg; exact a1, a2, a3, a4⟩
              have hqk : ¬ KeyM f → Hid (¬ TabR t) := fun h h' => h (h'.key f hf)
              obtain ⟨af, haf, hbf, c0, c1, c2, c3, c4, c5, c6, c7, c8⟩ := hl2 0 f hf
              rw [Nat.zero_mul, addr_zero] at c0 c1 c2 c3 c4 c5 c6 c7 c8
              have c0 := alloc_cell (.cells #[.int .i64 t.id, .string t.name, .slice ao2 t.cols.length cap2, .slice ao3 t.idxs.length cap3, .int .i64 t.next] 40) c0
              have c1 := alloc_cell (.cells #[.int .i64 t.id, .string t.name, .slice ao2 t.cols.length cap2, .slice ao3 t.idxs.length cap3, .int .i64 t.next] 40) c1
              have c2 := alloc_cell (.cells #[.int .i64 t.id, .string t.name, .slice ao2 t.cols.length cap2, .slice ao3 t.idxs.length cap3, .int .i64 t.next] 40) c2
              have c3 := alloc_cell (.cells #[.int .i64 t.id, .string t.name, .slice ao2 t.cols.length cap2, .slice ao3 t.idxs.length cap3, .int .i64 t.next] 40) c3
              have c4 := alloc_cell (.cells #[.int .i64 t.id, .string t.name, .slice ao2 t.cols.length cap2, .slice ao3 t.idxs.length cap3, .int .i64 t.next] 40) c4
              have c5 := alloc_cell (.cells #[.int .i64 t.id, .string t.name, .slice ao2 t.cols.length cap2, .slice ao3 t.idxs.length cap3, .int .i64 t.next] 40) c5
              have c6 := alloc_cell (.cells #[.int .i64 t.id, .string t.name, .slice ao2 t.cols.length cap2, .slice ao3 t.idxs.length cap3, .int .i64 t.next] 40) c6
              have c7 := alloc_cell (.cells #[.int .i64 t.id, .string t.name, .slice ao2 t.cols.length cap2, .slice ao3 t.idxs.length cap3, .int .i64 t.next] 40) c7
              have c8 := alloc_cell (.cells #[.int .i64 t.id, .string t.name, .slice ao2 t.cols.length cap2, .slice ao3 t.idxs.length cap3, .int .i64 t.next] 40) c8
              subst haf
              have h8 : t.cols.length ≤ 8 := by omega
              have h81 : 1 ≤ t.cols.length := by omega
              have h44 : t.idxs.length ≤ 4 := by omega
              have hz0 : (0 : Int) < (t.cols.length : Int) := by omega
              have hbe2 : Below w.heap.size w ((w.alloc (.cells #[.int .i64 t.id, .string t.name, .slice (some af) t.cols.length cap2, .slice ao3 t.idxs.length cap3, .int .i64 t.next] 40)).alloc (.cells #[.int .i64 f.id, .string f.name, .int .i64 f.kind, .int .i64 f.state, .int .i64 f.null, .int .i64 f.d.k, .int .i64 f.d.n, .int .u64 (f.d.f : Int), .string f.d.s] 45)) := ((Below.refl _ _).alloc (Nat.le_refl _) _).alloc (by simp) _
              clear q0
              by_cases r1 : f.state = 4
              · by_cases r2 : f.null = 4
                · by_cases r3 : f.d.k = 0
                  · have hq2 := hq ⟨r1, r2, r3⟩
                    have r1' : (f.state != 4) = false := by rw [r1]; rfl
                    have r2' : (f.null != 4) = false := by rw [r2]; rfl
                    have r3' : (f.d.k != 0) = false := by rw [r3]; rfl
                    clear hq hqk r1 r2 r3
                    have hbx2 : ((w.alloc (.cells #[.int .i64 t.id, .string t.name, .slice (some af) t.cols.length cap2, .slice ao3 t.idxs.length cap3, .int .i64 t.next] 40)).alloc (.cells #[.int .i64 f.id, .string f.name, .int .i64 f.kind, .int .i64 f.state, .int .i64 f.null, .int .i64 f.d.k, .int .i64 f.d.n, .int .u64 (f.d.f : Int), .string f.d.s] 45)).heap[w.heap.size]? = some (.cells #[.int .i64 t.id, .string t.name, .slice (some af) t.cols.length cap2, .slice ao3 t.idxs.length cap3, .int .i64 t.next] 40 (0, 0)) := alloc_box _ (heap_new w _)
                    go_enter Try.func28, Try.ntmps28
                    go_wp2_with (first
                      | (go_at_call 10; refine (h1 _).mono ?_; rintro e w1 ⟨rfl, hw1⟩; subst hw1))
                    clear h1 c0 c1 c2 c3 c4 c5 c6 c7 c8
                    go_loopw [4, 5] (fun v i wr => ∃ m : Nat, m ≤ t.cols.length ∧ i = .int .i64 (m : Int) ∧ RowN w.heap.size wr v ((t.cols.take m).map Colm.id) ∧ Below w.heap.size w wr ∧ Hid (wr.heap[w.heap.size]? = some (.cells #[.int .i64 t.id, .string t.name, .slice (some af) t.cols.length cap2, .slice ao3 t.idxs.length cap3, .int .i64 t.next] 40 (0, 0))) ∧ Hid (∀ j, j < m → CAt t j)) (fun _ i _ => t.cols.length - (intOf i).toNat)
                    case atStart => exact ⟨0, by omega, rfl, ((RowN.nil _ _).alloc _).alloc _, hbe2, hbx2, fun _ h => absurd h (Nat.not_lt_zero _)⟩
                    case round =>
                      clear hbx2 hbe2
                      obtain ⟨m, hm, rfl, hrow, hbel, HB, HM⟩ := hrel
                      have hsz := hbel.size
                      have d2 := box_cell HB.out 2 _ rfl
                      by_cases hml : m < t.cols.length
                      · have hlt := len_take Colm.id t.cols m
                        have HMs : ColOk t.cols[m] → (∀ j e, j < m → t.cols[j]? = some e → e.name ≠ (t.cols[m]).name) → Hid (∀ j, j < m + 1 → CAt t j) := by
                          intro a1 a2 j hj
                          by_cases h : j = m
                          · subst h
                            intro c hc
                            rw [List.getElem?_eq_getElem hml] at hc
                            cases hc
                            exact ⟨a1, a2⟩
                          · exact HM.out j (by omega)
                        have HMn1 : ∀ j e, j < m → t.cols[j]? = some e → e.name = (t.cols[m]).name → Hid (¬ TabR t) := fun j e hj he hx h => (h.cols m hml _ (List.getElem?_eq_getElem hml)).2 j e hj he hx
                        have HMn2 : ¬ ColOk t.cols[m] → Hid (¬ TabR t) := fun hx h => hx (h.cols m hml _ (List.getElem?_eq_getElem hml)).1
                        have hcat := map_snoc Colm.id t.cols m hml
                        have hend : ∀ (w7 : World) (v7 : Value), RowN w.heap.size w7 v7 ((t.cols.take m).map Colm.id ++ [(t.cols[m]).id]) → RowN w.heap.size w7 v7 ((t.cols.take (m + 1)).map Colm.id) := by
                          intro w7 v7 r1
                          rw [← hcat] at r1
                          exact r1
                        have hym : t.cols[m]? = some t.cols[m] := List.getElem?_eq_getElem hml
                        have hokm : (t.cols[m]).d.ok := hin _ (List.getElem_mem hml)
                        clear hcat HM hq2
                        generalize (t.cols.take m).map Colm.id = L at *
                        generalize t.cols[m] = y at *
                        have i1 : (m : Int) < (t.cols.length : Int) := by omega
                        rename World => W0
                        go_wp2
                        go_loopw [6] (fun i wr => ∃ k : Nat, k ≤ m ∧ i = .int .i64 (k : Int) ∧ Below W0.heap.size W0 wr ∧ Hid (∀ j e, j < k → t.cols[j]? = some e → e.name ≠ y.name)) (fun i _ => m - (intOf i).toNat)
                        case atStart => exact ⟨0, by omega, rfl, Below.refl _ _, fun _ _ h => absurd h (Nat.not_lt_zero _)⟩
                        case round =>
                          obtain ⟨k, hk, rfl, hbk, HK⟩ := hrel
                          have hb2 := hbel.trans (hbk.mono hsz)
                          have hsz2 := hb2.size
                          have bxk := below_box hbk HB.out
                          have g2 := box_cell bxk 2 _ rfl
                          obtain ⟨a, ha, _, e0, e1, e2, e3, e4, e5, e6, e7, e8⟩ := (hl2.below ColAt.fast hb2) m y hym
                          cases ha
                          by_cases hkl : k < m
                          · have i2 : (k : Int) < (t.cols.length : Int) := by omega
                            have hyk : t.cols[k]? = some (t.cols[k]'(by omega)) := List.getElem?_eq_getElem (by omega)
                            obtain ⟨a, ha, _, _, f1, _⟩ := (hl2.below ColAt.fast hb2) k _ hyk
                            cases ha
                            generalize (t.cols[k]'(by omega)) = z at *
                            by_cases hx : z.name = y.name
                            · have hno := HMn1 k z hkl hyk hx
                              rw [hx] at f1
                              clear HMs HMn1 HMn2 HK hx
                              go_wp2
                              go_quiet (fail)
                              go_wp2
                              go_ret
                              rw [tru_no hno.out]
                              exact ⟨rfl, below_drewN hb2 _⟩
                            · have HK2 : Hid (∀ j e, j < k + 1 → t.cols[j]? = some e → e.name ≠ y.name) := by
                                intro j e hj he
                                by_cases h : j = k
                                · subst h
                                  rw [hyk] at he
                                  cases he
                                  exact hx
                                · exact HK.out j e (by omega) he
                              have hx2 := list_ne' hx
                              clear HMs HMn1 HMn2 HK hx
                              go_wp2
                              go_quiet (fail)
                              go_wp2
                              go_roundw
                              case rel => exact ⟨k + 1, by omega, by go_num, below_drewN hbk _, HK2⟩
                              case measure => simp [intOf]; omega
                          · have hke : k = m := by omega
                            subst hke
                            have hc := refColumn_any y hokm
                            by_cases hx : ColOk y
                            · have HM2 := HMs hx HK.out
                              rw [tru_yes hx] at hc
                              clear HMs HMn1 HMn2 HK hx
                              go_wp2_with (first
                                | (go_at_call 45; refine (hc _).mono ?_; rintro e w5 ⟨rfl, hb5⟩; have r5 := (hrow.below hbk).below hb5; have bx5 := below_box hb5 bxk; have hbel5 := below_next hb2 (Nat.le_refl _) hb5; have hsz5 := hbel5.size; have s2 := box_cell bx5 2 _ rfl; have s0 := (hb5.cell (cell_lt e0)).trans e0)
                                | (at_builtin; refine wpList_appRowN _ rfl _ _ rfl w.heap.size _ L rfl (r5.alloc _) _ _ _ rfl (one_cellB _ _ _ _ (by simp)) (by omega) (by simp; omega) ?_; intro v6 w6 r6 hb6 st6))
                              have r7 := hend _ _ r6
                              have bx6 := stay_box st6 (alloc_box _ bx5) (by decide) id
                              have hbel6 : Below w.heap.size w w6 := (hbel5.alloc hsz5 _).trans hb6
                              go_roundw
                              case rel => exact ⟨k + 1, by omega, by go_num, r7, hbel6, bx6, HM2⟩
                              case measure => simp [intOf]; omega
                            · have hno := HMn2 hx
                              rw [tru_no hx] at hc
                              clear HMs HMn1 HMn2 HK hx
                              go_wp2_with (first
                                | (go_at_call 45; refine (hc _).mono ?_; rintro e w5 ⟨rfl, hb5⟩))
                              go_ret
                              rw [tru_no hno.out]
                              exact ⟨rfl, below_next hb2 (Nat.le_refl _) hb5⟩
                      · have hke : m = t.cols.length := by omega
                        subst hke
                        rw [List.take_length] at hrow
                        have hq3 := hq2 (fun j hj => HM.out j hj)
                        clear HM hq2 hm hml
                        rename World => W0
                        go_wp2
                        go_loopw [4, 7] (fun v i wr => ∃ m : Nat, m ≤ t.idxs.length ∧ i = .int .i64 (m : Int) ∧ RowN w.heap.size wr v (t.cols.map Colm.id ++ (t.idxs.take m).map Idx.id) ∧ Below w.heap.size w wr ∧ Hid (wr.heap[w.heap.size]? = some (.cells #[.int .i64 t.id, .string t.name, .slice (some af) t.cols.length cap2, .slice ao3 t.idxs.length cap3, .int .i64 t.next] 40 (0, 0))) ∧ Hid (∀ j, j < m → IAt t j)) (fun _ i _ => t.idxs.length - (intOf i).toNat)
                        case atStart => exact ⟨0, by omega, rfl, by simpa using hrow, hbel, HB, fun _ h => absurd h (Nat.not_lt_zero _)⟩
                        case round =>
                          clear hrow HB hbel hsz d2
                          obtain ⟨m, hm, rfl, hrow, hbel, HB, HM⟩ := hrel
                          have hsz := hbel.size
                          have d3 := box_cell HB.out 3 _ rfl
                          have hlt : (t.cols.map Colm.id ++ (t.idxs.take m).map Idx.id).length ≤ 12 := by
                            have := len_take Idx.id t.idxs m
                            rw [List.length_append, List.length_map]
                            omega
                          by_cases hml : m < t.idxs.length
                          · have HMs : IdxOk t.cols t.idxs[m] → (∀ j e, j < m → t.idxs[j]? = some e → e.name ≠ (t.idxs[m]).name) → Hid (∀ j, j < m + 1 → IAt t j) := by
                              intro a1 a2 j hj
                              by_cases h : j = m
                              · subst h
                                intro c hc
                                rw [List.getElem?_eq_getElem hml] at hc
                                cases hc
                                exact ⟨a1, a2⟩
                              · exact HM.out j (by omega)
                            have HMn1 : ∀ j e, j < m → t.idxs[j]? = some e → e.name = (t.idxs[m]).name → Hid (¬ TabR t) := fun j e hj he hx h => (h.idxs m hml _ (List.getElem?_eq_getElem hml)).2 j e hj he hx
                            have HMn2 : ¬ IdxOk t.cols t.idxs[m] → Hid (¬ TabR t) := fun hx h => hx (h.idxs m hml _ (List.getElem?_eq_getElem hml)).1
                            have hcat := map_snoc Idx.id t.idxs m hml
                            have hend : ∀ (w7 : World) (v7 : Value), RowN w.heap.size w7 v7 (t.cols.map Colm.id ++ (t.idxs.take m).map Idx.id ++ [(t.idxs[m]).id]) → RowN w.heap.size w7 v7 (t.cols.map Colm.id ++ (t.idxs.take (m + 1)).map Idx.id) := by
                              intro w7 v7 r1
                              rw [List.append_assoc, ← hcat] at r1
                              exact r1
                            have hym : t.idxs[m]? = some t.idxs[m] := List.getElem?_eq_getElem hml
                            clear hcat HM hq3
                            generalize t.cols.map Colm.id ++ (t.idxs.take m).map Idx.id = L at *
                            generalize t.idxs[m] = y at *
                            have i1 : (m : Int) < (t.idxs.length : Int) := by omega
                            rename World => W1
                            go_wp2
                            go_loopw [8] (fun i wr => ∃ k : Nat, k ≤ m ∧ i = .int .i64 (k : Int) ∧ Below W1.heap.size W1 wr ∧ Hid (∀ j e, j < k → t.idxs[j]? = some e → e.name ≠ y.name)) (fun i _ => m - (intOf i).toNat)
                            case atStart => exact ⟨0, by omega, rfl, Below.refl _ _, fun _ _ h => absurd h (Nat.not_lt_zero _)⟩
                            case round =>
                              obtain ⟨k, hk, rfl, hbk, HK⟩ := hrel
                              have hb2 := hbel.trans (hbk.mono hsz)
                              have hsz2 := hb2.size
                              have bxk := below_box hbk HB.out
                              have g3 := box_cell bxk 3 _ rfl
                              obtain ⟨a3, ha3, hbl3, e0, e1, ⟨ao4, cap4, e2, hl4, _⟩, e3, e4⟩ := (hl3.below IdxAt.fast hb2) m y hym
                              by_cases hkl : k < m
                              · have i2 : (k : Int) < (t.idxs.length : Int) := by omega
                                have hyk : t.idxs[k]? = some (t.idxs[k]'(by omega)) := List.getElem?_eq_getElem (by omega)
                                obtain ⟨a, ha, _, _, f1, _⟩ := (hl3.below IdxAt.fast hb2) k _ hyk
                                subst ha3
                                cases ha
                                generalize (t.idxs[k]'(by omega)) = z at *
                                by_cases hx : z.name = y.name
                                · have hno := HMn1 k z hkl hyk hx
                                  rw [hx] at f1
                                  clear HMs HMn1 HMn2 HK hx
                                  go_wp2
                                  go_quiet (fail)
                                  go_wp2
                                  go_ret
                                  rw [tru_no hno.out]
                                  exact ⟨rfl, below_drewN hb2 _⟩
                                · have HK2 : Hid (∀ j e, j < k + 1 → t.idxs[j]? = some e → e.name ≠ y.name) := by
                                    intro j e hj he
                                    by_cases h : j = k
                                    · subst h
                                      rw [hyk] at he
                                      cases he
                                      exact hx
                                    · exact HK.out j e (by omega) he
                                  have hx2 := list_ne' hx
                                  clear HMs HMn1 HMn2 HK hx
                                  go_wp2
                                  go_quiet (fail)
                                  go_wp2
                                  go_roundw
                                  case rel => exact ⟨k + 1, by omega, by go_num, below_drewN hbk _, HK2⟩
                                  case measure => simp [intOf]; omega
                              · have hke : k = m := by omega
                                subst hke
                                subst ha3
                                rename World => W2
                                have hl2' := (hl2.below ColAt.fast hb2).mono hsz2 (fun _ _ h => h)
                                have hl4' := hl4.mono hsz2 (fun _ _ h => h)
                                have hc : ∀ y' : Low W2, _ := fun y' => refIndex_any t (some af) cap2 (some a3) cap3 y ao4 cap4 h8 y'.wd (liesK_next hl2' y'.low) (liesN_next hl4' y'.low)
                                have u0 : ∀ y' : Low W2, y'.wd.cell? ⟨w.heap.size, 0, none⟩ = some (.int .i64 t.id) := fun y' => box_cell (below_box y'.low bxk) 0 _ rfl
                                have u1 : ∀ y' : Low W2, y'.wd.cell? ⟨w.heap.size, 1, none⟩ = some (.string t.name) := fun y' => box_cell (below_box y'.low bxk) 1 _ rfl
                                have u2 : ∀ y' : Low W2, y'.wd.cell? ⟨w.heap.size, 2, none⟩ = some (.slice (some af) t.cols.length cap2) := fun y' => box_cell (below_box y'.low bxk) 2 _ rfl
                                have u3 : ∀ y' : Low W2, y'.wd.cell? ⟨w.heap.size, 3, none⟩ = some (.slice (some a3) t.idxs.length cap3) := fun y' => box_cell (below_box y'.low bxk) 3 _ rfl
                                have u4 : ∀ y' : Low W2, y'.wd.cell? ⟨w.heap.size, 4, none⟩ = some (.int .i64 t.next) := fun y' => box_cell (below_box y'.low bxk) 4 _ rfl
                                have v0 := fun y' : Low W2 => (y'.cell (cell_lt e0)).trans e0
                                have v1 := fun y' : Low W2 => (y'.cell (cell_lt e1)).trans e1
                                have v2 := fun y' : Low W2 => (y'.cell (cell_lt e2)).trans e2
                                have v3 := fun y' : Low W2 => (y'.cell (cell_lt e3)).trans e3
                                have v4 := fun y' : Low W2 => (y'.cell (cell_lt e4)).trans e4
                                by_cases hx : IdxOk t.cols y
                                · have HM2 := HMs hx HK.out
                                  rw [tru_yes hx] at hc
                                  clear HMs HMn1 HMn2 HK hx
                                  go_wp2_with fail
                                  refine wp_region_low (by kernel_rfl) (by kernel_rfl) fun hsome => ?_
                                  repeat (go_big_quiet_step (first
                                    | (go_at_call 46; refine Calls.low_of (hc _))))
                                  refine wpQuiet_nil ?_
                                  rintro _ ⟨x5, rfl⟩
                                  have r5 := (hrow.below hbk).below x5.low
                                  have bx5 := below_box x5.low bxk
                                  have hbel5 := below_next hb2 (Nat.le_refl _) x5.low
                                  have hsz5 := hbel5.size
                                  have s3 := u3 x5
                                  have s0 := v0 x5
                                  clear u0 u1 u2 u3 u4 v0 v1 v2 v3 v4 hc
                                  go_wp2_with (first
                                    | (at_builtin; refine wpList_appRowN _ rfl _ _ rfl w.heap.size _ L rfl (r5.alloc _) _ _ _ rfl (one_cellB _ _ _ _ (by simp)) (by omega) (by simp; omega) ?_; intro v6 w6 r6 hb6 st6))
                                  have r7 := hend _ _ r6
                                  have bx6 := stay_box st6 (alloc_box _ bx5) (by decide) id
                                  have hbel6 : Below w.heap.size w w6 := (hbel5.alloc hsz5 _).trans hb6
                                  go_roundw
                                  case rel => exact ⟨k + 1, by omega, by go_num, r7, hbel6, bx6, HM2⟩
                                  case measure => simp [intOf]; omega
                                · have hno := HMn2 hx
                                  rw [tru_no hx] at hc
                                  clear HMs HMn1 HMn2 HK hx
                                  go_wp2_with fail
                                  refine wp_region_low (by kernel_rfl) (by kernel_rfl) fun hsome => ?_
                                  repeat (go_big_quiet_step (first
                                    | (go_at_call 46; refine Calls.low_of (hc _))))
                                  refine wpQuiet_nil ?_
                                  rintro _ ⟨x5, rfl⟩
                                  clear u0 u1 u2 u3 u4 v0 v1 v2 v3 v4 hc
                                  go_wp2
                                  go_ret
                                  rw [tru_no hno.out]
                                  exact ⟨rfl, below_next hb2 (Nat.le_refl _) x5.low⟩
                          · have hke : m = t.idxs.length := by omega
                            subst hke
                            rw [List.take_length] at hrow hlt
                            have hq4 := hq3 (fun j hj => HM.out j hj)
                            have hids : t.cols.map Colm.id ++ t.idxs.map Idx.id = t.ids := rfl
                            rw [hids] at hlt hrow
                            clear HM hq3 hm hml hids
                            obtain ⟨ao, cap, rfl, hcap, hlN⟩ := hrow.lies
                            have hdn : ∀ j, j < t.ids.length → ¬ DAt t j → Hid (¬ TabR t) := fun j hj h h' => h (h'.ids j hj)
                            rename World => W1
                            go_wp2
                            go_loopw [9] (fun i wr => ∃ m : Nat, m ≤ t.ids.length ∧ i = .int .i64 (m : Int) ∧ Below W1.heap.size W1 wr ∧ Hid (∀ j, j < m → DAt t j)) (fun i _ => t.ids.length - (intOf i).toNat)
                            case atStart => exact ⟨0, by omega, rfl, Below.refl _ _, fun _ h => absurd h (Nat.not_lt_zero _)⟩
                            case round =>
                              obtain ⟨m, hm, rfl, hbr, HM⟩ := hrel
                              have hb2 := hbel.trans (hbr.mono hsz)
                              have bxk := below_box hbr HB.out
                              have g4 := box_cell bxk 4 _ rfl
                              by_cases hml : m < t.ids.length
                              · have i1 : (m : Int) < (t.ids.length : Int) := by omega
                                have hym : t.ids[m]? = some t.ids[m] := List.getElem?_eq_getElem hml
                                obtain ⟨a, ha, _, e0⟩ := (hlN.below NumAt.fast hbr) m _ hym
                                rw [Nat.mul_one] at e0
                                unfold NumAt at e0
                                have hD1 : DAt t m → (1 ≤ t.ids[m] ∧ t.ids[m] < t.next) ∧ ∀ j e, j < m → t.ids[j]? = some e → e ≠ t.ids[m] := fun h => h _ hym
                                have hD2 : (1 ≤ t.ids[m] ∧ t.ids[m] < t.next) → (∀ j e, j < m → t.ids[j]? = some e → e ≠ t.ids[m]) → Hid (∀ j, j < m + 1 → DAt t j) := by
                                  intro a1 a2 j hj
                                  by_cases h : j = m
                                  · subst h
                                    intro c hc
                                    rw [hym] at hc
                                    cases hc
                                    exact ⟨a1, a2⟩
                                  · exact HM.out j (by omega)
                                have hDn := hdn m hml
                                clear HM hdn hq4
                                generalize t.ids[m] = y at *
                                subst ha
                                by_cases p1 : y < 1
                                · have hno := hDn (fun h => by have := (hD1 h).1; omega)
                                  have p1' : decide (y < 1) = true := decide_eq_true p1
                                  clear hD1 hD2 hDn
                                  go_wp2
                                  go_quiet (fail)
                                  go_wp2
                                  go_ret
                                  rw [tru_no hno.out]
                                  exact ⟨rfl, below_drewN hb2 _⟩
                                · have p1' : decide (y < 1) = false := decide_eq_false p1
                                  by_cases p2 : t.next ≤ y
                                  · have hno := hDn (fun h => by have := (hD1 h).1; omega)
                                    have p2' : decide (t.next ≤ y) = true := decide_eq_true p2
                                    clear hD1 hD2 hDn
                                    go_wp2
                                    go_quiet (fail)
                                    go_wp2
                                    go_ret
                                    rw [tru_no hno.out]
                                    exact ⟨rfl, below_drewN hb2 _⟩
                                  · have p2' : decide (t.next ≤ y) = false := decide_eq_false p2
                                    have hD3 := hD2 ⟨by omega, by omega⟩
                                    clear hD2
                                    go_wp2
                                    go_quiet (fail)
                                    go_wp2
                                    rename World => W3
                                    go_loopw [10] (fun i wr => ∃ k : Nat, k ≤ m ∧ i = .int .i64 (k : Int) ∧ Below W3.heap.size W3 wr ∧ Hid (∀ j e, j < k → t.ids[j]? = some e → e ≠ y)) (fun i _ => m - (intOf i).toNat)
                                    case atStart => exact ⟨0, by omega, rfl, below_drewN (Below.refl _ _) _, fun _ _ h => absurd h (Nat.not_lt_zero _)⟩
                                    case round =>
                                      obtain ⟨k, hk, rfl, hbk, HK⟩ := hrel
                                      have hbr2 := hbr.trans (hbk.mono hbr.size)
                                      have hb3 := hb2.trans (hbk.mono hb2.size)
                                      have e0' := (hbk.cell (cell_lt e0)).trans e0
                                      by_cases hkl : k < m
                                      · have i2 : (k : Int) < (t.ids.length : Int) := by omega
                                        have hyk : t.ids[k]? = some (t.ids[k]'(by omega)) := List.getElem?_eq_getElem (by omega)
                                        obtain ⟨a', ha, _, f0⟩ := (hlN.below NumAt.fast hbr2) k _ hyk
                                        cases ha
                                        rw [Nat.mul_one] at f0
                                        unfold NumAt at f0
                                        generalize (t.ids[k]'(by omega)) = z at *
                                        by_cases hx : z = y
                                        · have hno := hDn (fun h => (hD1 h).2 k z hkl hyk hx)
                                          rw [hx] at f0
                                          clear hD1 hD3 hDn HK hx
                                          go_wp2
                                          go_quiet (fail)
                                          go_wp2
                                          go_ret
                                          rw [tru_no hno.out]
                                          exact ⟨rfl, below_drewN hb3 _⟩
                                        · have HK2 : Hid (∀ j e, j < k + 1 → t.ids[j]? = some e → e ≠ y) := by
                                            intro j e hj he
                                            by_cases h : j = k
                                            · subst h
                                              rw [hyk] at he
                                              cases he
                                              exact hx
                                            · exact HK.out j e (by omega) he
                                          have hx2 : (z == y) = false := beq_eq_false_iff_ne.2 hx
                                          clear hD1 hD3 hDn HK hx
                                          go_wp2
                                          go_quiet (fail)
                                          go_wp2
                                          go_roundw
                                          case rel => exact ⟨k + 1, by omega, by go_num, below_drewN hbk _, HK2⟩
                                          case measure => simp [intOf]; omega
                                      · have hke : k = m := by omega
                                        subst hke
                                        have HM2 := hD3 HK.out
                                        clear hD1 hD3 hDn HK
                                        go_wp2
                                        go_roundw
                                        case rel => exact ⟨k + 1, by omega, by go_num, hbr2, HM2⟩
                                        case measure => simp [intOf]; omega
                              · have hyes := hq4 (fun j hj => HM.out j (by omega))
                                clear HM hq4 hdn
                                go_wp2
                                go_ret
                                rw [tru_yes hyes.out]
                                exact ⟨rfl, hb2⟩
                  · have r1' : (f.state != 4) = false := by rw [r1]; rfl
                    have r2' : (f.null != 4) = false := by rw [r2]; rfl
                    have r3' : (f.d.k != 0) = true := bne_iff_ne.2 r3
                    rw [tru_no (hqk (fun h => r3 h.2.2)).out]
                    clear hq hqk r1 r2 r3
                    go_enter Try.func28, Try.ntmps28
                    go_wp2_with (first
                      | (go_at_call 10; refine (h1 _).mono ?_; rintro e w1 ⟨rfl, hw1⟩; subst hw1))
                    go_ret
                    exact ⟨rfl, hbe2⟩
                · have r1' : (f.state != 4) = false := by rw [r1]; rfl
                  have r2' : (f.null != 4) = true := bne_iff_ne.2 r2
                  rw [tru_no (hqk (fun h => r2 h.2.1)).out]
                  clear hq hqk r1 r2
                  go_enter Try.func28, Try.ntmps28
                  go_wp2_with (first
                    | (go_at_call 10; refine (h1 _).mono ?_; rintro e w1 ⟨rfl, hw1⟩; subst hw1))
                  go_ret
                  exact ⟨rfl, hbe2⟩
              · have r1' : (f.state != 4) = true := bne_iff_ne.2 r1
                rw [tru_no (hqk (fun h => r1 h.1)).out]
                clear hq hqk r1
                go_enter Try.func28, Try.ntmps28
                go_wp2_with (first
                  | (go_at_call 10; refine (h1 _).mono ?_; rintro e w1 ⟨rfl, hw1⟩; subst hw1))
                go_ret
                exact ⟨rfl, hbe2⟩
  · rw [q0] at h1
    rw [tru_no (show ¬ TabR t from fun h => by have := h.name; rw [q0] at this; cases this)]
    clear q0
    go_enter Try.func28, Try.ntmps28
    go_wp2_with (first
      | (go_at_call 10; refine (h1 _).mono ?_; rintro e w1 ⟨rfl, hw1⟩; subst hw1))
    go_ret
    exact ⟨rfl, (Below.refl _ _).alloc (Nat.le_refl _) _⟩
end Go.Proofs.Ytndppffcladalaa
