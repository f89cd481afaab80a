/-
  Contracts: what package cmd asks of writes and of rows (13.1).
-/
import Derived.Test.YtbhaahkjglfjmaaCMayA
namespace Go.Proofs.Ytbhaahkjglfjmaa
open Go.RowKit Num
open scoped Classical
set_option linter.unusedVariables false

theorem map_snoc {α β : Type} (f : α → β) (l : List α) (k : Nat) (hk : k < l.length) : (l.take (k + 1)).map f = (l.take k).map f ++ [f l[k]] := by
  rw [List.take_succ_eq_append_getElem hk, List.map_append]
  rfl
theorem len_take {α β : Type} (f : α → β) (l : List α) (k : Nat) : ((l.take k).map f).length ≤ k := by
  rw [List.length_map, List.length_take]
  omega
theorem mayWrites_any (ao : Option Addr) (cap : Nat) (l : List Wrt) (w : World) (hl : LiesW w w.heap.size ao l) :
    Calls Try.prog 20 #[.slice ao l.length cap] w fun e w' => e = .returned (.bool (tru (WrtsOk l))) ∧ Below w.heap.size w w' := by
  by_cases q : 200 < (l.length : Int)
  · rw [tru_no (show ¬ WrtsOk l from fun h => h.1 q)]
    go_enter Try.func20, Try.ntmps20
    go_wp2
    go_ret
    exact ⟨rfl, Below.refl _ _⟩
  · have h200 : l.length ≤ 200 := by omega
    go_enter Try.func20, Try.ntmps20
    go_wp2
    go_loopw [3, 11] (fun v i wr => ∃ k : Nat, k ≤ l.length ∧ i = .int .i64 (k : Int) ∧ RowS w.heap.size wr v ((l.take k).map Wrt.key) ∧ Below w.heap.size w wr ∧ Hid (∀ j (hj : j < l.length), j < k → WrtOk l[j])) (fun _ i _ => l.length - (intOf i).toNat)
    case atStart => exact ⟨0, by omega, rfl, RowS.nil _ _, Below.refl _ _, fun _ _ h => absurd h (Nat.not_lt_zero _)⟩
    case round =>
      obtain ⟨k, hk, rfl, hrow, hbel, HK⟩ := hrel
      have hsz := hbel.size
      by_cases hkl : k < l.length
      · have HKs : WrtOk l[k] → Hid (∀ j (hj : j < l.length), j < k + 1 → WrtOk l[j]) := by
          intro hx j hj hjk
          by_cases h : j = k
          · subst h
            exact hx
          · exact HK.out j hj (by omega)
        have HKn : ¬ WrtOk l[k] → Hid (¬ WrtsOk l) := fun hx h => hx (h.2.1 _ (List.getElem_mem hkl))
        have hcat := map_snoc Wrt.key l k hkl
        have hlt := len_take Wrt.key l k
        clear HK
        obtain ⟨a, rfl, hblk, c0, c1, c2⟩ := (hl.below WrtAt.fast hbel) k l[k] (List.getElem?_eq_getElem hkl)
        have hend : ∀ (w7 : World) (v7 : Value), RowS w.heap.size w7 v7 ((l.take k).map Wrt.key ++ [(l[k]).key]) → RowS w.heap.size w7 v7 ((l.take (k + 1)).map Wrt.key) := by
          intro w7 v7 r1
          rw [hcat]
          exact r1
        clear hcat
        generalize (l.take k).map Wrt.key = L at *
        generalize l[k] = y at *
        obtain ⟨K, V, D⟩ := y
        dsimp only at c0 c1 c2 hend
        unfold WrtOk at HKs HKn
        dsimp only at HKs HKn
        have hbel2 := fun d => hbel.alloc hsz (.cells #[.string K, .string V, .bool d] 41)
        have r2 := fun d => hrow.alloc (.cells #[.string K, .string V, .bool d] 41)
        by_cases p1 : 10000 < (V.size : Int)
        · have hno := HKn (fun h => h.1 p1)
          clear HKs HKn hend
          go_wp2
          go_ret
          rw [tru_no hno.out]
          exact ⟨rfl, hbel2 _⟩
        · cases D with
          | true =>
            rcases Bool.eq_false_or_eq_true (V.toList.isEmpty) with p3 | p3
            · have HK2 := HKs ⟨p1, fun _ => p3⟩
              clear HKs HKn
              go_wp2_with (first
                | (at_builtin; refine wpList_appRowS _ rfl _ _ rfl w.heap.size _ L rfl ((r2 true).alloc _) _ _ _ rfl (one_cellB _ _ _ _ (by simp)) (by omega) (by simp; omega) ?_; intro v6 w6 r6 hb6 st6))
              have r7 := hend _ _ r6
              go_roundw
              case rel => exact ⟨k + 1, by omega, by go_num, r7, ((hbel2 true).alloc (by simp; omega) _).trans hb6, HK2⟩
              case measure => simp [intOf]; omega
            · have hno := HKn (fun h => by have := h.2 rfl; rw [p3] at this; cases this)
              clear HKs HKn hend
              go_wp2
              go_ret
              rw [tru_no hno.out]
              exact ⟨rfl, hbel2 _⟩
          | false =>
            have HK2 := HKs ⟨p1, fun h => by cases h⟩
            clear HKs HKn
            go_wp2_with (first
              | (at_builtin; refine wpList_appRowS _ rfl _ _ rfl w.heap.size _ L rfl ((r2 false).alloc _) _ _ _ rfl (one_cellB _ _ _ _ (by simp)) (by omega) (by simp; omega) ?_; intro v6 w6 r6 hb6 st6))
            have r7 := hend _ _ r6
            go_roundw
            case rel => exact ⟨k + 1, by omega, by go_num, r7, ((hbel2 false).alloc (by simp; omega) _).trans hb6, HK2⟩
            case measure => simp [intOf]; omega
      · have hke : k = l.length := by omega
        subst hke
        rw [List.take_length] at hrow
        obtain ⟨ao5, cap5, rfl, hcap5, hlS⟩ := hrow.lies
        have hnn := mayKeys_any ao5 cap5 (l.map Wrt.key) wr hlS
        have he : Hid (tru (WrtsOk l) = tru (KeysOk' (l.map Wrt.key))) := tru_iff ⟨fun h => h.2.2, fun h => ⟨by omega, fun x hx => by
          obtain ⟨j, hj, rfl⟩ := List.getElem_of_mem hx
          exact HK.out j hj hj, h⟩⟩
        clear HK hrow hlS hcap5
        generalize tru (KeysOk' (l.map Wrt.key)) = c at *
        generalize l.map Wrt.key = L at *
        go_wp2_with (go_at_call 18; refine hnn.mono ?_; rintro e w1 ⟨rfl, hq⟩; have hq' := hq.symm; clear hq; subst hq')
        go_ret
        rw [he.out]
        exact ⟨rfl, hbel⟩
theorem mayRows_any (ao : Option Addr) (cap : Nat) (l : List (List Val)) (w : World) (hl : LiesX w w.heap.size ao l) :
    Calls Try.prog 21 #[.slice ao l.length cap] w fun e w' => e = .returned (.bool (tru (RowsOk l))) ∧ Below w.heap.size w w' := by
  by_cases q : 200 < (l.length : Int)
  · rw [tru_no (show ¬ RowsOk l from fun h => h.1 q)]
    go_enter Try.func21, Try.ntmps21
    go_wp2
    go_ret
    exact ⟨rfl, Below.refl _ _⟩
  · have h200 : l.length ≤ 200 := by omega
    go_enter Try.func21, Try.ntmps21
    go_wp2
    go_loopw [12] (fun i wr => ∃ k : Nat, k ≤ l.length ∧ i = .int .i64 (k : Int) ∧ Below w.heap.size w wr ∧ Hid (∀ j (hj : j < l.length), j < k → RowOk' l[j])) (fun i _ => l.length - (intOf i).toNat)
    case atStart => exact ⟨0, by omega, rfl, Below.refl _ _, fun _ _ h => absurd h (Nat.not_lt_zero _)⟩
    case round =>
      obtain ⟨k, hk, rfl, hbel, HK⟩ := hrel
      have hsz := hbel.size
      by_cases hkl : k < l.length
      · have HKs : RowOk' l[k] → Hid (∀ j (hj : j < l.length), j < k + 1 → RowOk' l[j]) := by
          intro hx j hj hjk
          by_cases h : j = k
          · subst h
            exact hx
          · exact HK.out j hj (by omega)
        have HKn : ¬ RowOk' l[k] → Hid (¬ RowsOk l) := fun hx h => hx (h.2 _ (List.getElem_mem hkl))
        clear HK
        obtain ⟨a, rfl, hblk, ao2, cap2, c0, hl2⟩ := (hl.below RowAt.fast hbel) k l[k] (List.getElem?_eq_getElem hkl)
        rw [Nat.mul_one] at c0
        generalize l[k] = y at *
        by_cases p1 : 8 < (y.length : Int)
        · have hno := HKn (fun h => h.1 p1)
          clear HKs HKn
          go_wp2
          go_ret
          rw [tru_no hno.out]
          exact ⟨rfl, hbel⟩
        · have h8 : y.length ≤ 8 := by omega
          have HKs2 : (∀ v ∈ y, v.may = true) → Hid (∀ j (hj : j < l.length), j < k + 1 → RowOk' l[j]) := fun h => HKs ⟨p1, h⟩
          have HKn2 : (∃ v ∈ y, v.may = false) → Hid (¬ RowsOk l) := fun ⟨v, hv, h⟩ => HKn (fun h2 => by have := h2.2 v hv; rw [h] at this; cases this)
          clear HKs HKn
          rename World => W0
          go_wp2
          go_loopw [21] (fun i wr => ∃ m : Nat, m ≤ y.length ∧ i = .int .i64 (m : Int) ∧ Below w.heap.size w wr ∧ Below w.heap.size W0 wr ∧ Hid (∀ j (hj : j < y.length), j < m → (y[j]).may = true)) (fun i _ => y.length - (intOf i).toNat)
          case atStart => exact ⟨0, by omega, rfl, hbel, Below.refl _ _, fun _ _ h => absurd h (Nat.not_lt_zero _)⟩
          case round =>
            obtain ⟨m, hm, rfl, hbel2, hbr2, HM⟩ := hrel
            have hsz2 := hbel2.size
            by_cases hml : m < y.length
            · have HMs : (y[m]).may = true → Hid (∀ j (hj : j < y.length), j < m + 1 → (y[j]).may = true) := by
                intro hx j hj hjk
                by_cases h : j = m
                · subst h
                  exact hx
                · exact HM.out j hj (by omega)
              have HMn : (y[m]).may = false → Hid (¬ RowsOk l) := fun h => HKn2 ⟨_, List.getElem_mem hml, h⟩
              clear HM HKs2 HKn2
              obtain ⟨a2, rfl, hblk2, e0, e1, e2, e3⟩ := (hl2.below ValAt.fast hbr2) m y[m] (List.getElem?_eq_getElem hml)
              generalize y[m] = z at *
              have hmay : ∀ w, Calls Try.prog 41 #[.agg #[.int .i64 z.k, .int .i64 z.n, .int .u64 (z.f : Int), .string z.s]] w fun e w' => e = .returned (.bool z.may) ∧ Below w.heap.size w w' := may_any z.k z.n z.f z.s
              rcases Bool.eq_false_or_eq_true z.may with p2 | p2
              · rw [p2] at hmay
                have HM2 := HMs p2
                clear HMs HMn p2
                go_wp2_with (go_at_call 41; refine (hmay _).mono ?_; rintro e w5 ⟨rfl, hb5⟩)
                go_roundw
                case rel => exact ⟨m + 1, by omega, by go_num, hbel2.trans (below_box0 hb5 |>.mono hsz2), hbr2.trans (below_box0 hb5 |>.mono hsz2), HM2⟩
                case measure => simp [intOf]; omega
              · rw [p2] at hmay
                have hno := HMn p2
                clear HMs HMn p2
                go_wp2_with (go_at_call 41; refine (hmay _).mono ?_; rintro e w5 ⟨rfl, hb5⟩)
                go_ret
                rw [tru_no hno.out]
                exact ⟨rfl, hbel2.trans (below_box0 hb5 |>.mono hsz2)⟩
            · have HK2 := HKs2 (fun v hv => by
                obtain ⟨j, hj, rfl⟩ := List.getElem_of_mem hv
                exact HM.out j hj (by omega))
              clear HM HKs2 HKn2
              go_wp2
              go_roundw
              case rel => exact ⟨k + 1, by omega, by go_num, hbel2, HK2⟩
              case measure => simp [intOf]; omega
      · have hyes : Hid (RowsOk l) := ⟨by omega, fun x hx => by
          obtain ⟨j, hj, rfl⟩ := List.getElem_of_mem hx
          exact HK.out j hj (by omega)⟩
        clear HK
        go_wp2
        go_ret
        rw [tru_yes hyes.out]
        exact ⟨rfl, hbel⟩
end Go.Proofs.Ytbhaahkjglfjmaa
