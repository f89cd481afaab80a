/-
  Contracts: what package desc asks of indexes and of a table's numbers (6.2).
-/
import Derived.Test.YtndppffcladalaaDMayB
namespace Go.Proofs.Ytndppffcladalaa
open Go.RowKit Num
open scoped Classical
set_option linter.unusedVariables false

/-- What is asked of a table's numbers. -/
def Num.IdsM (t : Tab) : Prop := (∀ d ∈ t.ids, 1 ≤ d ∧ d ≤ t.next - 1) ∧ Apart t.ids
theorem map_snoc {α β : Type} (f : α → β) (l : List α) (k : Nat) (hk : k < l.length) : (l.take (k + 1)).map f = (l.take k).map f ++ [f l[k]] := by
  rw [List.take_succ_eq_append_getElem hk, List.map_append]
  rfl
theorem len_take {α β : Type} (f : α → β) (l : List α) (k : Nat) : ((l.take k).map f).length ≤ l.length := by
  rw [List.length_map, List.length_take]
  omega
set_option maxHeartbeats 1000000 in
theorem mayIDs_any (t : Tab) (ao2 : Option Addr) (cap2 : Nat) (ao3 : Option Addr) (cap3 : Nat) (h8 : t.cols.length ≤ 8) (h4 : t.idxs.length ≤ 4) (hnx : 1 ≤ t.next ∧ t.next ≤ 60000) (w : World) (hl2 : LiesK w w.heap.size ao2 t.cols) (hl3 : LiesI w w.heap.size ao3 t.idxs) :
    Calls Try.prog 43 #[.agg #[.int .i64 t.id, .string t.name, .slice ao2 t.cols.length cap2, .slice ao3 t.idxs.length cap3, .int .i64 t.next]] w fun e w' => e = .returned (.bool (tru (IdsM t))) ∧ Below w.heap.size w w' := by
  have hbx := heap_new w (.cells #[.int .i64 t.id, .string t.name, .slice ao2 t.cols.length cap2, .slice ao3 t.idxs.length cap3, .int .i64 t.next] 40)
  go_enter Try.func43, Try.ntmps43
  go_wp2
  go_loopw [3, 13] (fun v i wr => ∃ k : Nat, k ≤ t.cols.length ∧ i = .int .i64 (k : Int) ∧ RowN w.heap.size wr v ((t.cols.take k).map Colm.id) ∧ Below w.heap.size w wr ∧ Hid (wr.heap[w.heap.size]? = some (.cells #[.int .i64 t.id, .string t.name, .slice ao2 t.cols.length cap2, .slice ao3 t.idxs.length cap3, .int .i64 t.next] 40 (0, 0)))) (fun _ i _ => t.cols.length - (intOf i).toNat)
  case atStart => exact ⟨0, by omega, rfl, (RowN.nil _ _).alloc _, (Below.refl _ _).alloc (Nat.le_refl _) _, hbx⟩
  case round =>
    clear hbx
    obtain ⟨k, hk, rfl, hrow, hbel, HB⟩ := hrel
    have hsz := hbel.size
    have hlt := len_take Colm.id t.cols k
    by_cases hkl : k < t.cols.length
    · have hcat := map_snoc Colm.id t.cols k hkl
      have hstep : ∀ (o1 o2 : Obj) (w3 : World) (v3 : Value), RowN w.heap.size w3 v3 ((t.cols.take k).map Colm.id ++ [(t.cols[k]).id]) → Below w.heap.size ((wr.alloc o1).alloc o2) w3 → Stay (fun _ => False) 3 ((wr.alloc o1).alloc o2) w3 → RowN w.heap.size w3 v3 ((t.cols.take (k + 1)).map Colm.id) ∧ Below w.heap.size w w3 ∧ Hid (w3.heap[w.heap.size]? = some (.cells #[.int .i64 t.id, .string t.name, .slice ao2 t.cols.length cap2, .slice ao3 t.idxs.length cap3, .int .i64 t.next] 40 (0, 0))) := by
        intro o1 o2 w3 v3 h1 h2 h3
        rw [← hcat] at h1
        exact ⟨h1, (((hbel.alloc hsz _).alloc (by simp; omega) _).trans h2), stay_box h3 (alloc_box _ (alloc_box _ HB.out)) (by decide) id⟩
      clear hcat
      obtain ⟨a, rfl, hblk, c0, c1, c2, c3, c4, c5, c6, c7, c8⟩ := (hl2.below ColAt.fast hbel) k t.cols[k] (List.getElem?_eq_getElem hkl)
      generalize (t.cols.take k).map Colm.id = L at *
      generalize t.cols[k] = y at *
      go_wp2_with (first
        | (at_builtin; refine wpList_appRowN _ rfl _ _ rfl w.heap.size _ L rfl ((hrow.alloc _).alloc _) _ _ _ rfl (one_cellB _ _ _ _ (by simp)) (by omega) (by simp; omega) ?_; intro v3 w3 hrow3 hbel3 hst3))
      obtain ⟨g1, g2, g3⟩ := hstep _ _ _ _ hrow3 hbel3 hst3
      go_roundw
      case rel => exact ⟨k + 1, by omega, by go_num, g1, g2, g3⟩
      case measure => simp [intOf]; omega
    · have hke : k = t.cols.length := by omega
      subst hke
      rw [List.take_length] at hrow
      clear hlt hk hkl
      rename World => W0
      have d3 := box_cell HB.out 3 _ rfl
      have hl3' := hl3.below IdxAt.fast hbel
      go_wp2
      go_loopw [3, 26] (fun v i wr => ∃ k : Nat, k ≤ t.idxs.length ∧ i = .int .i64 (k : Int) ∧ RowN w.heap.size wr v (t.cols.map Colm.id ++ (t.idxs.take k).map Idx.id) ∧ Below w.heap.size w wr ∧ Hid (wr.heap[w.heap.size]? = some (.cells #[.int .i64 t.id, .string t.name, .slice ao2 t.cols.length cap2, .slice ao3 t.idxs.length cap3, .int .i64 t.next] 40 (0, 0)))) (fun _ i _ => t.idxs.length - (intOf i).toNat)
      case atStart => exact ⟨0, by omega, rfl, by simpa using hrow, hbel, HB⟩
      case round =>
        clear hrow HB d3
        obtain ⟨k, hk, rfl, hrow, hbelr, HB⟩ := hrel
        have hszr := hbelr.size
        have hlt : (t.cols.map Colm.id ++ (t.idxs.take k).map Idx.id).length ≤ 12 := by
          have := len_take Idx.id t.idxs k
          rw [List.length_append, List.length_map]
          omega
        by_cases hkl : k < t.idxs.length
        · have hcat := map_snoc Idx.id t.idxs k hkl
          have hstep : ∀ (o1 o2 : Obj) (w3 : World) (v3 : Value), RowN w.heap.size w3 v3 (t.cols.map Colm.id ++ (t.idxs.take k).map Idx.id ++ [(t.idxs[k]).id]) → Below w.heap.size ((wr.alloc o1).alloc o2) w3 → Stay (fun _ => False) 3 ((wr.alloc o1).alloc o2) w3 → RowN w.heap.size w3 v3 (t.cols.map Colm.id ++ (t.idxs.take (k + 1)).map Idx.id) ∧ Below w.heap.size w w3 ∧ Hid (w3.heap[w.heap.size]? = some (.cells #[.int .i64 t.id, .string t.name, .slice ao2 t.cols.length cap2, .slice ao3 t.idxs.length cap3, .int .i64 t.next] 40 (0, 0))) := by
            intro o1 o2 w3 v3 h1 h2 h3
            rw [List.append_assoc, ← hcat] at h1
            exact ⟨h1, (((hbelr.alloc hszr _).alloc (by simp; omega) _).trans h2), stay_box h3 (alloc_box _ (alloc_box _ HB.out)) (by decide) id⟩
          clear hcat
          obtain ⟨a, rfl, hblk, c0, c1, ⟨aoi, capi, c2, hli⟩, c3, c4⟩ := (hl3.below IdxAt.fast hbelr) k t.idxs[k] (List.getElem?_eq_getElem hkl)
          clear hli
          generalize t.cols.map Colm.id ++ (t.idxs.take k).map Idx.id = L at *
          generalize t.idxs[k] = y at *
          go_wp2_with (first
            | (at_builtin; refine wpList_appRowN _ rfl _ _ rfl w.heap.size _ L rfl ((hrow.alloc _).alloc _) _ _ _ rfl (one_cellB _ _ _ _ (by simp)) (by omega) (by simp; omega) ?_; intro v3 w3 hrow3 hbel3 hst3))
          obtain ⟨g1, g2, g3⟩ := hstep _ _ _ _ hrow3 hbel3 hst3
          go_roundw
          case rel => exact ⟨k + 1, by omega, by go_num, g1, g2, g3⟩
          case measure => simp [intOf]; omega
        · have hke : k = t.idxs.length := by omega
          subst hke
          rw [List.take_length] at hrow hlt
          rename World => W1
          have d4 := box_cell HB.out 4 _ rfl
          obtain ⟨ao, cap, rfl, hcap, hlN⟩ := hrow.lies
          have hids : t.cols.map Colm.id ++ t.idxs.map Idx.id = t.ids := rfl
          rw [hids] at hlt hcap hlN
          rw [hids]
          have hu := unlike_any ao cap t.ids (by omega) hcap W1 hlN
          clear hrow HB hids
          go_wp2
          go_loop [38] (fun i => ∃ k : Nat, k ≤ t.ids.length ∧ i = .int .i64 (k : Int) ∧ Hid (∀ j (hj : j < t.ids.length), j < k → 1 ≤ t.ids[j] ∧ t.ids[j] ≤ t.next - 1)) (fun i => t.ids.length - (intOf i).toNat)
          case atStart => exact ⟨0, by omega, rfl, fun _ _ h => absurd h (Nat.not_lt_zero _)⟩
          case round =>
            obtain ⟨k, hk, rfl, HK⟩ := hrel
            by_cases hkl : k < t.ids.length
            · obtain ⟨a, rfl, hblk, c0⟩ := hlN k t.ids[k] (List.getElem?_eq_getElem hkl)
              rw [Nat.mul_one] at c0
              unfold NumAt at c0
              have hw := within_any t.ids[k] 1 (t.next - 1)
              clear hu
              by_cases hx : 1 ≤ t.ids[k] ∧ t.ids[k] ≤ t.next - 1
              · have HK2 : Hid (∀ j (hj : j < t.ids.length), j < k + 1 → 1 ≤ t.ids[j] ∧ t.ids[j] ≤ t.next - 1) := by
                  intro j hj hjk
                  by_cases h : j = k
                  · subst h
                    exact hx
                  · exact HK.out j hj (by omega)
                rw [tru_yes hx] at hw
                clear HK hx
                generalize t.ids[k] = y at *
                go_wp2_with (go_at_call 25; refine (hw _).mono ?_; rintro e w1 ⟨rfl, rfl⟩)
                go_round
                case rel => exact ⟨k + 1, by omega, by go_num, HK2⟩
                case measure => simp [intOf]; omega
              · have hno : Hid (¬ IdsM t) := fun h => hx (h.1 _ (List.getElem_mem hkl))
                rw [tru_no hx] at hw
                clear HK hx
                generalize t.ids[k] = y at *
                go_wp2_with (go_at_call 25; refine (hw _).mono ?_; rintro e w1 ⟨rfl, rfl⟩)
                go_ret
                rw [tru_no hno.out]
                exact ⟨rfl, hbelr⟩
            · have hall : ∀ d ∈ t.ids, 1 ≤ d ∧ d ≤ t.next - 1 := fun s hs => by
                obtain ⟨j, hj, rfl⟩ := List.getElem_of_mem hs
                exact HK.out j hj (by omega)
              have he : Hid (tru (IdsM t) = tru (Apart t.ids)) := tru_iff ⟨fun h => h.2, fun h => ⟨hall, h⟩⟩
              clear HK hall
              generalize tru (Apart t.ids) = c at *
              go_wp2_with (go_at_call 64; refine hu.mono ?_; rintro e w1 ⟨rfl, rfl⟩)
              go_ret
              rw [he.out]
              exact ⟨rfl, hbelr⟩
end Go.Proofs.Ytndppffcladalaa
