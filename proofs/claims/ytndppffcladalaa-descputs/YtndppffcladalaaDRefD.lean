/-
  Contracts: which schemas may be (6.2): of the document's own answer.
-/
import Derived.Test.YtndppffcladalaaDRefC
namespace Go.Proofs.Ytndppffcladalaa
open Go.RowKit Num
open scoped Classical
set_option linter.unusedVariables false

def Num.TAt (x : Sch) (m : Nat) : Prop := ∀ t, x.tabs[m]? = some t → (lastId (x.tabs.take m) < t.id ∧ t.id < x.next) ∧ TabOk t ∧ ∀ (j : Nat) e, j < m → x.tabs[j]? = some e → e.name ≠ t.name
structure Num.SchR (x : Sch) : Prop where
  ver : 0 ≤ x.ver ∧ x.ver < 1099511627776
  next : 0 ≤ x.next ∧ x.next < 1099511627776
  ntabs : (x.tabs.length : Int) ≤ 4
  tabs : ∀ m, m < x.tabs.length → TAt x m
theorem schR_iff (x : Sch) : SchOk x ↔ SchR x := by
  constructor
  · intro h
    have h2 := (schOk_iff x).1 h
    refine ⟨h.ver, h.next, by have := h.ntabs; omega, fun m hm t ht => ⟨?_, h.tabs t (List.mem_of_getElem? ht), fun j e hj he => apart_of.1 h.names m t ht j e hj he⟩⟩
    have := h2.rise m hm t ht
    omega
  · intro h
    refine (schOk_iff x).2 ⟨by have := h.ver; omega, by have := h.next; omega, by have := h.ntabs; omega, fun m hm t ht => by have := (h.tabs m hm t ht).1; omega, fun t ht => ?_, ⟨fun s hs => ?_, apart_of.2 fun m c hc j e hj he => (h.tabs m (List.getElem?_eq_some_iff.1 hc).1 c hc).2.2 j e hj he⟩⟩
    · obtain ⟨j, hj, rfl⟩ := List.getElem_of_mem ht
      exact ((tabOk_iff _).1 (h.tabs j hj _ (List.getElem?_eq_getElem hj)).2.1).2
    · obtain ⟨t, ht, rfl⟩ := List.mem_map.1 hs
      obtain ⟨j, hj, rfl⟩ := List.getElem_of_mem ht
      exact (h.tabs j hj _ (List.getElem?_eq_getElem hj)).2.1.name
set_option maxRecDepth 100000 in
set_option maxHeartbeats 4000000 in
theorem refMay_sch (x : Sch) (hin : ∀ t ∈ x.tabs, TabIn t) (ao : Option Addr) (cap : Nat) (w : World) (hl : LiesT w w.heap.size ao x.tabs) :
    Calls Try.prog 14 #[.agg #[.int .i64 x.ver, .slice ao x.tabs.length cap, .int .i64 x.next]] w fun e w' => e = .returned (.bool (tru (SchOk x))) ∧ Below w.heap.size w w' := by
  rw [tru_iff (schR_iff x)]
  have hbx := heap_new w (.cells #[.int .i64 x.ver, .slice ao x.tabs.length cap, .int .i64 x.next] 26)
  by_cases q1 : x.ver < 0
  · rw [tru_no (show ¬ SchR x from fun h => by have := h.ver; omega)]
    go_enter Try.func14, Try.ntmps14
    go_wp2
    go_ret
    exact ⟨rfl, (Below.refl _ _).alloc (Nat.le_refl _) _⟩
  · by_cases q2 : 1099511627776 ≤ x.ver
    · rw [tru_no (show ¬ SchR x from fun h => by have := h.ver; omega)]
      go_enter Try.func14, Try.ntmps14
      go_wp2
      go_ret
      exact ⟨rfl, (Below.refl _ _).alloc (Nat.le_refl _) _⟩
    · by_cases q3 : x.next < 0
      · rw [tru_no (show ¬ SchR x from fun h => by have := h.next; omega)]
        go_enter Try.func14, Try.ntmps14
        go_wp2
        go_ret
        exact ⟨rfl, (Below.refl _ _).alloc (Nat.le_refl _) _⟩
      · by_cases q4 : 1099511627776 ≤ x.next
        · rw [tru_no (show ¬ SchR x from fun h => by have := h.next; omega)]
          go_enter Try.func14, Try.ntmps14
          go_wp2
          go_ret
          exact ⟨rfl, (Below.refl _ _).alloc (Nat.le_refl _) _⟩
        · by_cases q5 : 4 < (x.tabs.length : Int)
          · rw [tru_no (show ¬ SchR x from fun h => by have := h.ntabs; omega)]
            go_enter Try.func14, Try.ntmps14
            go_wp2
            go_ret
            exact ⟨rfl, (Below.refl _ _).alloc (Nat.le_refl _) _⟩
          · have hq : (∀ m, m < x.tabs.length → TAt x m) → Hid (SchR x) := fun h => ⟨by omega, by omega, by omega, h⟩
            have h4 : x.tabs.length ≤ 4 := by omega
            go_enter Try.func14, Try.ntmps14
            go_wp2
            go_loopw [3, 4] (fun z i wr => ∃ (m : Nat) (la : Int), m ≤ x.tabs.length ∧ z = .int .i64 la ∧ i = .int .i64 (m : Int) ∧ Below w.heap.size w wr ∧ Hid (wr.heap[w.heap.size]? = some (.cells #[.int .i64 x.ver, .slice ao x.tabs.length cap, .int .i64 x.next] 26 (0, 0))) ∧ Hid (la = lastId (x.tabs.take m) ∧ ∀ j, j < m → TAt x j)) (fun _ i _ => x.tabs.length - (intOf i).toNat)
            case atStart => exact ⟨0, 0, by omega, rfl, rfl, (Below.refl _ _).alloc (Nat.le_refl _) _, hbx, rfl, fun _ h => absurd h (Nat.not_lt_zero _)⟩
            case round =>
              clear hbx
              obtain ⟨m, la, hm, rfl, rfl, hbel, HB, HM⟩ := hrel
              have hsz := hbel.size
              have d1 := box_cell HB.out 1 _ rfl
              by_cases hml : m < x.tabs.length
              · have hym : x.tabs[m]? = some x.tabs[m] := List.getElem?_eq_getElem hml
                have hT1 : TAt x m → (la < (x.tabs[m]).id ∧ (x.tabs[m]).id < x.next) ∧ TabOk x.tabs[m] ∧ ∀ (j : Nat) e, j < m → x.tabs[j]? = some e → e.name ≠ (x.tabs[m]).name := fun h => by
                  have h0 := HM.out.1
                  rw [h0]
                  exact h _ hym
                have hT2 : (la < (x.tabs[m]).id ∧ (x.tabs[m]).id < x.next) → TabOk x.tabs[m] → (∀ (j : Nat) e, j < m → x.tabs[j]? = some e → e.name ≠ (x.tabs[m]).name) → Hid ((x.tabs[m]).id = lastId (x.tabs.take (m + 1)) ∧ ∀ j, j < m + 1 → TAt x j) := by
                  intro a1 a2 a3
                  refine ⟨(lastId_snoc x.tabs m hml).symm, fun j hj => ?_⟩
                  by_cases h : j = m
                  · subst h
                    intro c hc
                    rw [hym] at hc
                    cases hc
                    have h0 := HM.out.1
                    rw [← h0]
                    exact ⟨a1, a2, a3⟩
                  · exact HM.out.2 j (by omega)
                have hTn : ¬ TAt x m → Hid (¬ SchR x) := fun h h' => h (h'.tabs m hml)
                have hty : TabIn x.tabs[m] := hin _ (List.getElem_mem hml)
                clear HM hq
                obtain ⟨a, rfl, hblk, c0, c1, ⟨ao2, cap2, c2, hl2⟩, ⟨ao3, cap3, c3, hl3⟩, c4⟩ := (hl.below TabAt.fast hbel) m x.tabs[m] hym
                generalize x.tabs[m] = y at *
                have hl2' : LiesK (wr.alloc (.cells #[.int .i64 y.id, .string y.name, .slice ao2 y.cols.length cap2, .slice ao3 y.idxs.length cap3, .int .i64 y.next] 40)) (wr.alloc (.cells #[.int .i64 y.id, .string y.name, .slice ao2 y.cols.length cap2, .slice ao3 y.idxs.length cap3, .int .i64 y.next] 40)).heap.size ao2 y.cols := (hl2.below ColAt.fast ((Below.refl _ wr).alloc hsz _)).mono (by simp; omega) (fun _ _ h => h)
                have hl3' : LiesI (wr.alloc (.cells #[.int .i64 y.id, .string y.name, .slice ao2 y.cols.length cap2, .slice ao3 y.idxs.length cap3, .int .i64 y.next] 40)) (wr.alloc (.cells #[.int .i64 y.id, .string y.name, .slice ao2 y.cols.length cap2, .slice ao3 y.idxs.length cap3, .int .i64 y.next] 40)).heap.size ao3 y.idxs := (hl3.below IdxAt.fast ((Below.refl _ wr).alloc hsz _)).mono (by simp; omega) (fun _ _ h => idxAt_mono (by simp; omega) h)
                have ht := refTable_any y hty ao2 cap2 ao3 cap3 _ hl2' hl3'
                have d2 := box_cell (alloc_box (.cells #[.int .i64 y.id, .string y.name, .slice ao2 y.cols.length cap2, .slice ao3 y.idxs.length cap3, .int .i64 y.next] 40) HB.out) 2 _ rfl
                clear hl2 hl3 hl2' hl3'
                by_cases p1 : y.id ≤ la
                · have hno := hTn (fun h => by have := (hT1 h).1; omega)
                  clear hT1 hT2 hTn ht
                  go_wp2
                  go_ret
                  rw [tru_no hno.out]
                  exact ⟨rfl, hbel.alloc hsz _⟩
                · by_cases p2 : x.next ≤ y.id
                  · have hno := hTn (fun h => by have := (hT1 h).1; omega)
                    clear hT1 hT2 hTn ht
                    go_wp2
                    go_ret
                    rw [tru_no hno.out]
                    exact ⟨rfl, hbel.alloc hsz _⟩
                  · by_cases p3 : TabOk y
                    · have hT3 := hT2 ⟨by omega, by omega⟩ p3
                      rw [tru_yes p3] at ht
                      clear hT2 p3
                      go_wp2_with (first
                        | (go_at_call 28; refine ht.mono ?_; rintro e w5 ⟨rfl, hb5⟩; have by5 := below_box hb5 (heap_new wr (.cells #[.int .i64 y.id, .string y.name, .slice ao2 y.cols.length cap2, .slice ao3 y.idxs.length cap3, .int .i64 y.next] 40)); have bx5 := below_box hb5 (alloc_box _ HB.out); have f0 := box_cell by5 0 _ rfl; have hbel5 : Below w.heap.size w w5 := hbel.trans (below_box0 hb5 |>.mono hsz)))
                      clear ht d1 d2 c0 c1 c2 c3 c4
                      go_loopw [6] (fun i wr2 => ∃ k : Nat, k ≤ m ∧ i = .int .i64 (k : Int) ∧ Below w5.heap.size w5 wr2 ∧ Hid (∀ (j : Nat) e, j < k → x.tabs[j]? = some e → e.name ≠ y.name)) (fun i _ => m - (intOf i).toNat)
                      case atStart => exact ⟨0, by omega, rfl, Below.refl _ _, fun _ _ h => absurd h (Nat.not_lt_zero _)⟩
                      case round =>
                        obtain ⟨k, hk, rfl, hbk, HK⟩ := hrel
                        have hb2 := below_next hbel5 (Nat.le_refl _) hbk
                        have g1 := box_cell (below_box hbk bx5) 1 _ rfl
                        have g2 := box_cell (below_box hbk by5) 1 _ rfl
                        by_cases hkl : k < m
                        · have i2 : (k : Int) < (x.tabs.length : Int) := by omega
                          have hyk : x.tabs[k]? = some (x.tabs[k]'(by omega)) := List.getElem?_eq_getElem (by omega)
                          obtain ⟨a', ha, _, _, f1, _⟩ := (hl.below TabAt.fast hb2) k _ hyk
                          cases ha
                          generalize (x.tabs[k]'(by omega)) = z at *
                          by_cases hx : z.name = y.name
                          · have hno := hTn (fun h => (hT1 h).2.2 k z hkl hyk hx)
                            rw [hx] at f1
                            clear hT1 hT3 hTn HK hx
                            go_wp2
                            go_quiet (fail)
                            go_wp2
                            go_ret
                            rw [tru_no hno.out]
                            exact ⟨rfl, below_drewN hb2 _⟩
                          · have HK2 : Hid (∀ (j : Nat) e, j < k + 1 → x.tabs[j]? = some e → e.name ≠ y.name) := by
                              intro j e hj he
                              by_cases h : j = k
                              · subst h
                                rw [hyk] at he
                                cases he
                                exact hx
                              · exact HK.out j e (by omega) he
                            have hx2 := list_ne' hx
                            clear hT1 hT3 hTn HK hx
                            go_wp2
                            go_quiet (fail)
                            go_wp2
                            go_roundw
                            case rel => exact ⟨k + 1, by omega, by go_num, below_drewN hbk _, HK2⟩
                            case measure => simp [intOf]; omega
                        · have hke : k = m := by omega
                          subst hke
                          have HM2 := hT3 HK.out
                          have bx6 := below_box hbk bx5
                          clear hT1 hT3 hTn HK
                          go_wp2
                          go_roundw
                          case rel => exact ⟨k + 1, y.id, by omega, rfl, by go_num, hb2, bx6, HM2⟩
                          case measure => simp [intOf]; omega
                    · have hno := hTn (fun h => p3 (hT1 h).2.1)
                      rw [tru_no p3] at ht
                      clear hT1 hT2 hTn p3
                      go_wp2_with (first
                        | (go_at_call 28; refine ht.mono ?_; rintro e w5 ⟨rfl, hb5⟩))
                      go_ret
                      rw [tru_no hno.out]
                      exact ⟨rfl, hbel.trans (below_box0 hb5 |>.mono hsz)⟩
              · have hyes := hq (fun j hj => HM.out.2 j (by omega))
                clear HM hq
                go_wp2
                go_ret
                rw [tru_yes hyes.out]
                exact ⟨rfl, hbel⟩
end Go.Proofs.Ytndppffcladalaa
