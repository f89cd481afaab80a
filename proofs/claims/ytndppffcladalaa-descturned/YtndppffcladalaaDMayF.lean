/-
  Contracts: which schemas may be (6.2): of the program.
-/
import Derived.Test.YtndppffcladalaaDMayE
import Derived.Test.YtndppffcladalaaDOkM
namespace Go.Proofs.Ytndppffcladalaa
open Go.RowKit Num
open scoped Classical
set_option linter.unusedVariables false

set_option maxHeartbeats 2000000 in
theorem may_sch (x : Sch) (ao : Option Addr) (cap : Nat) (w : World) (hl : LiesT w w.heap.size ao x.tabs) :
    Calls Try.prog 13 #[.agg #[.int .i64 x.ver, .slice ao x.tabs.length cap, .int .i64 x.next]] w fun e w' => e = .returned (.bool (tru (SchOk x))) ∧ Below w.heap.size w w' := by
  rw [tru_iff (schOk_iff x)]
  have hbx := heap_new w (.cells #[.int .i64 x.ver, .slice ao x.tabs.length cap, .int .i64 x.next] 26)
  have hv := within_any x.ver 0 1099511627775
  have hn := within_any x.next 0 1099511627775
  by_cases q1 : 0 ≤ x.ver ∧ x.ver ≤ 1099511627775
  · rw [tru_yes q1] at hv
    by_cases q2 : 0 ≤ x.next ∧ x.next ≤ 1099511627775
    · rw [tru_yes q2] at hn
      by_cases q3 : 4 < (x.tabs.length : Int)
      · rw [tru_no (show ¬ SchM x from fun h => h.ntabs q3)]
        clear q1 q2
        go_enter Try.func13, Try.ntmps13
        go_wp2_with (first
          | (go_at_call 25; refine (hv _).mono ?_; rintro e w1 ⟨rfl, rfl⟩; clear hv)
          | (go_at_call 25; refine (hn _).mono ?_; rintro e w1 ⟨rfl, rfl⟩))
        go_ret
        exact ⟨rfl, (Below.refl _ _).alloc (Nat.le_refl _) _⟩
      · have hq : (∀ j (hj : j < x.tabs.length), RiseM x j) → (∀ t ∈ x.tabs, TabM t) → NamesOk (x.tabs.map Tab.name) → SchM x := fun h1 h2 h3 => ⟨q1, q2, q3, h1, h2, h3⟩
        have h4 : x.tabs.length ≤ 4 := by omega
        clear q1
        go_enter Try.func13, Try.ntmps13
        go_wp2_with (first
          | (go_at_call 25; refine (hv _).mono ?_; rintro e w1 ⟨rfl, rfl⟩; clear hv)
          | (go_at_call 25; refine (hn _).mono ?_; rintro e w1 ⟨rfl, rfl⟩))
        clear hn
        rename World => w
        go_loopw [3, 4, 26] (fun v z i wr => ∃ (k : Nat) (la : Int), k ≤ x.tabs.length ∧ i = .int .i64 (k : Int) ∧ z = .int .i64 la ∧ (0 ≤ la ∧ la ≤ 1099511627775) ∧ RowS w.heap.size wr v ((x.tabs.take k).map Tab.name) ∧ Below w.heap.size w wr ∧ Hid (wr.heap[w.heap.size]? = some (.cells #[.int .i64 x.ver, .slice ao x.tabs.length cap, .int .i64 x.next] 26 (0, 0))) ∧ Hid (la = lastId (x.tabs.take k) ∧ ∀ j (hj : j < x.tabs.length), j < k → RiseM x j ∧ TabM x.tabs[j])) (fun _ _ i _ => x.tabs.length - (intOf i).toNat)
        case atStart => exact ⟨0, 0, by omega, rfl, rfl, by omega, (RowS.nil _ _).alloc _, (Below.refl _ _).alloc (Nat.le_refl _) _, hbx, rfl, fun _ _ h => absurd h (Nat.not_lt_zero _)⟩
        case round =>
          clear hbx
          obtain ⟨k, la, hk, rfl, rfl, hla, hrow, hbel, HB, HK⟩ := hrel
          have hsz := hbel.size
          by_cases hkl : k < x.tabs.length
          · have hlt := len_take Tab.name x.tabs k
            have hrise : RiseM x k ↔ (la + 1 ≤ (x.tabs[k]).id ∧ (x.tabs[k]).id ≤ x.next - 1) := by
              have h0 := HK.out.1
              unfold RiseM
              rw [List.getElem?_eq_getElem hkl, h0]
              exact ⟨fun h => h _ rfl, fun h t ht => by cases ht; exact h⟩
            have HKs : (la + 1 ≤ (x.tabs[k]).id ∧ (x.tabs[k]).id ≤ x.next - 1) → TabM x.tabs[k] → Hid ((x.tabs[k]).id = lastId (x.tabs.take (k + 1)) ∧ ∀ j (hj : j < x.tabs.length), j < k + 1 → RiseM x j ∧ TabM x.tabs[j]) := by
              intro hx1 hx2
              refine ⟨(lastId_snoc x.tabs k hkl).symm, fun j hj hjk => ?_⟩
              by_cases h : j = k
              · subst h
                exact ⟨hrise.2 hx1, hx2⟩
              · exact HK.out.2 j hj (by omega)
            have HKn1 : ¬ (la + 1 ≤ (x.tabs[k]).id ∧ (x.tabs[k]).id ≤ x.next - 1) → Hid (¬ SchM x) := fun hx h => hx (hrise.1 (h.rise k hkl))
            have HKn2 : ¬ TabM x.tabs[k] → Hid (¬ SchM x) := fun hx h => hx (h.tabs _ (List.getElem_mem hkl))
            have hcat := map_snoc Tab.name x.tabs k hkl
            have hend : ∀ (w7 : World) (v7 : Value), RowS w.heap.size w7 v7 ((x.tabs.take k).map Tab.name ++ [(x.tabs[k]).name]) → RowS w.heap.size w7 v7 ((x.tabs.take (k + 1)).map Tab.name) := by
              intro w7 v7 r1
              rw [← hcat] at r1
              exact r1
            have HBk : ∀ (o : Obj) (w5 : World), Below (wr.alloc o).heap.size (wr.alloc o) w5 → w5.heap[w.heap.size]? = some (.cells #[.int .i64 x.ver, .slice ao x.tabs.length cap, .int .i64 x.next] 26 (0, 0)) := fun o w5 h => below_box h (alloc_box _ HB.out)
            have d2 : ∀ o, (wr.alloc o).cell? ⟨w.heap.size, 2, none⟩ = some (.int .i64 x.next) := fun o => box_cell (alloc_box o HB.out) 2 _ rfl
            clear hcat HK HB hq hrise
            obtain ⟨a, rfl, hblk, c0, c1, ⟨ao2, cap2, c2, hl2⟩, ⟨ao3, cap3, c3, hl3⟩, c4⟩ := (hl.below TabAt.fast hbel) k x.tabs[k] (List.getElem?_eq_getElem hkl)
            generalize (x.tabs.take k).map Tab.name = L at *
            generalize x.tabs[k] = y at *
            have hw := within_any y.id (la + 1) (x.next - 1)
            have hl2' : LiesK (wr.alloc (.cells #[.int .i64 y.id, .string y.name, .slice ao2 y.cols.length cap2, .slice ao3 y.idxs.length cap3, .int .i64 y.next] 40)) (wr.alloc (.cells #[.int .i64 y.id, .string y.name, .slice ao2 y.cols.length cap2, .slice ao3 y.idxs.length cap3, .int .i64 y.next] 40)).heap.size ao2 y.cols := (hl2.below ColAt.fast ((Below.refl _ wr).alloc hsz _)).mono (by simp; omega) (fun _ _ h => h)
            have hl3' : LiesI (wr.alloc (.cells #[.int .i64 y.id, .string y.name, .slice ao2 y.cols.length cap2, .slice ao3 y.idxs.length cap3, .int .i64 y.next] 40)) (wr.alloc (.cells #[.int .i64 y.id, .string y.name, .slice ao2 y.cols.length cap2, .slice ao3 y.idxs.length cap3, .int .i64 y.next] 40)).heap.size ao3 y.idxs := (hl3.below IdxAt.fast ((Below.refl _ wr).alloc hsz _)).mono (by simp; omega) (fun _ _ h => idxAt_mono (by simp; omega) h)
            have ht := mayTable_any y ao2 cap2 ao3 cap3 _ hl2' hl3'
            clear hl2 hl3 hl2' hl3'
            have d2' := d2 (.cells #[.int .i64 y.id, .string y.name, .slice ao2 y.cols.length cap2, .slice ao3 y.idxs.length cap3, .int .i64 y.next] 40)
            clear d2
            by_cases p1 : la + 1 ≤ y.id ∧ y.id ≤ x.next - 1
            · rw [tru_yes p1] at hw
              by_cases p2 : TabM y
              · rw [tru_yes p2] at ht
                have HK2 := HKs p1 p2
                have hy : 0 ≤ y.id ∧ y.id ≤ 1099511627775 := by omega
                clear HKs HKn1 HKn2 p1 p2
                go_wp2_with (first
                  | (go_at_call 25; refine (hw _).mono ?_; rintro e w4 ⟨rfl, hw4⟩; subst hw4)
                  | (go_at_call 26; refine ht.mono ?_; rintro e w5 ⟨rfl, hb5⟩; have by5 := below_box hb5 (heap_new wr (.cells #[.int .i64 y.id, .string y.name, .slice ao2 y.cols.length cap2, .slice ao3 y.idxs.length cap3, .int .i64 y.next] 40)); have r5 := (hrow.alloc (.cells #[.int .i64 y.id, .string y.name, .slice ao2 y.cols.length cap2, .slice ao3 y.idxs.length cap3, .int .i64 y.next] 40)).below hb5; have bx5 := HBk _ _ hb5; have e1 := box_cell by5 1 _ rfl; have hbel5 : Below w.heap.size w w5 := hbel.trans (below_box0 hb5 |>.mono hsz); have hsz5 : w.heap.size ≤ w5.heap.size := hbel5.size)
                  | (at_builtin; refine wpList_appRowS _ rfl _ _ rfl w.heap.size _ L rfl (r5.alloc _) _ _ _ rfl (one_cellB _ _ _ _ (by simp)) (by omega) (by simp; omega) ?_; intro v6 w6 r6 hb6 st6; have by6 := stay_box st6 (alloc_box _ by5) (by decide) id; have f0 := box_cell by6 0 _ rfl))
                have r7 := hend _ _ r6
                have bx6 := stay_box st6 (alloc_box _ bx5) (by decide) id
                have hbel6 : Below w.heap.size w w6 := (hbel5.alloc hsz5 _).trans hb6
                go_roundw
                case rel => exact ⟨k + 1, y.id, by omega, by go_num, rfl, hy, r7, hbel6, bx6, HK2⟩
                case measure => simp [intOf]; omega
              · rw [tru_no p2] at ht
                have hno := HKn2 p2
                clear HKs HKn1 HKn2 p1 p2
                go_wp2_with (first
                  | (go_at_call 25; refine (hw _).mono ?_; rintro e w4 ⟨rfl, hw4⟩; subst hw4)
                  | (go_at_call 26; refine ht.mono ?_; rintro e w5 ⟨rfl, hb5⟩))
                go_ret
                rw [tru_no hno.out]
                exact ⟨rfl, hbel.trans (below_box0 hb5 |>.mono hsz)⟩
            · rw [tru_no p1] at hw
              have hno := HKn1 p1
              clear HKs HKn1 HKn2 p1 ht
              go_wp2_with (first
                | (go_at_call 25; refine (hw _).mono ?_; rintro e w4 ⟨rfl, hw4⟩; subst hw4))
              go_ret
              rw [tru_no hno.out]
              exact ⟨rfl, hbel.alloc hsz _⟩
          · have hke : k = x.tabs.length := by omega
            subst hke
            rw [List.take_length] at hrow
            obtain ⟨ao5, cap5, rfl, hcap5, hlS⟩ := hrow.lies
            have hnn := mayNames_any ao5 cap5 (x.tabs.map Tab.name) (by rw [List.length_map]; omega) hcap5 wr hlS
            have he : Hid (tru (SchM x) = tru (NamesOk (x.tabs.map Tab.name))) := tru_iff ⟨fun h => h.names, fun h => hq (fun j hj => (HK.out.2 j hj hj).1) (fun t ht => by
              obtain ⟨j, hj, rfl⟩ := List.getElem_of_mem ht
              exact (HK.out.2 j hj hj).2) h⟩
            clear HK hrow hlS hcap5 hq
            generalize tru (NamesOk (x.tabs.map Tab.name)) = c at *
            generalize x.tabs.map Tab.name = L at *
            go_wp2_with (go_at_call 27; refine hnn.mono ?_; rintro e w1 ⟨rfl, rfl⟩)
            go_ret
            rw [he.out]
            exact ⟨rfl, hbel⟩
    · rw [tru_no q2] at hn
      rw [tru_no (show ¬ SchM x from fun h => q2 h.next)]
      clear q1 q2
      go_enter Try.func13, Try.ntmps13
      go_wp2_with (first
          | (go_at_call 25; refine (hv _).mono ?_; rintro e w1 ⟨rfl, rfl⟩; clear hv)
          | (go_at_call 25; refine (hn _).mono ?_; rintro e w1 ⟨rfl, rfl⟩))
      go_ret
      exact ⟨rfl, (Below.refl _ _).alloc (Nat.le_refl _) _⟩
  · rw [tru_no q1] at hv
    rw [tru_no (show ¬ SchM x from fun h => q1 h.ver)]
    clear q1
    go_enter Try.func13, Try.ntmps13
    go_wp2_with (first
      | (go_at_call 25; refine (hv _).mono ?_; rintro e w1 ⟨rfl, rfl⟩; clear hv))
    go_ret
    exact ⟨rfl, (Below.refl _ _).alloc (Nat.le_refl _) _⟩
end Go.Proofs.Ytndppffcladalaa
