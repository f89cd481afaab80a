/-
  Contracts: the document's own: do texts rise, may writes be (13.1)?
-/
import Derived.Test.YtbhaahkjglfjmaaCMayB
import Derived.Deep.QuietTactic
import Derived.BigRegion
namespace Go.Proofs.Ytbhaahkjglfjmaa
open Go.RowKit Num
open scoped Classical
set_option linter.unusedVariables false

theorem time_any (n : Int) (w : World) : Calls Try.prog 22 #[.int .i64 n] w fun e w' => e = .returned (.bool (tru (TimeC n))) ∧ w' = w := by
  by_cases h1 : n < 0
  · rw [tru_no (show ¬ TimeC n from fun h => by unfold TimeC at h; omega)]
    have h1' : ¬ 0 ≤ n := by omega
    go_enter Try.func22, Try.ntmps22
    go_wp2
    go_ret
    exact ⟨rfl, rfl⟩
  · have h1' : 0 ≤ n := by omega
    by_cases h2 : n ≤ 1099511627776
    · rw [tru_yes (show TimeC n from ⟨h1', h2⟩)]
      go_enter Try.func22, Try.ntmps22
      go_wp2
      go_ret
      exact ⟨rfl, rfl⟩
    · rw [tru_no (show ¬ TimeC n from fun h => h2 h.2)]
      go_enter Try.func22, Try.ntmps22
      go_wp2
      go_ret
      exact ⟨rfl, rfl⟩
/-- May the write at a place be? -/
def Num.WrAt (l : List Wrt) (i : Nat) : Prop := ∀ x, l[i]? = some x → ¬ 1000 < (x.key.size : Int) ∧ WrtOk x ∧ ∀ j y, i = j + 1 → l[j]? = some y → leqT x.key y.key = false
theorem wrAt_iff (l : List Wrt) : (∀ i, i < l.length → WrAt l i) ↔ ((∀ x ∈ l, WrtOk x) ∧ Rises (l.map Wrt.key)) := by
  constructor
  · intro h
    refine ⟨fun x hx => ?_, fun i hi x hx => ?_⟩
    · obtain ⟨i, hi, rfl⟩ := List.getElem_of_mem hx
      exact (h i hi _ (List.getElem?_eq_getElem hi)).2.1
    · rw [List.length_map] at hi
      rw [List.getElem?_map, List.getElem?_eq_getElem hi] at hx
      simp only [Option.map_some, Option.some.injEq] at hx
      subst hx
      obtain ⟨h1, _, h3⟩ := h i hi _ (List.getElem?_eq_getElem hi)
      refine ⟨h1, fun j y hj hy => ?_⟩
      rw [List.getElem?_map, List.getElem?_eq_getElem (show j < l.length by omega)] at hy
      simp only [Option.map_some, Option.some.injEq] at hy
      subst hy
      exact h3 j _ hj (List.getElem?_eq_getElem (by omega))
  · rintro ⟨h1, h2⟩ i hi x hx
    rw [List.getElem?_eq_getElem hi] at hx
    simp only [Option.some.injEq] at hx
    subst hx
    obtain ⟨h3, h4⟩ := h2 i (by rw [List.length_map]; exact hi) (l[i]).key (by rw [List.getElem?_map, List.getElem?_eq_getElem hi]; rfl)
    refine ⟨h3, h1 _ (List.getElem_mem hi), fun j y hj hy => h4 j y.key hj ?_⟩
    rw [List.getElem?_map, hy]
    rfl
set_option maxHeartbeats 2000000 in
theorem rises_any (ao : Option Addr) (cap : Nat) (l : List ByteArray) (h200 : l.length ≤ 1000) (w : World) (hl : LiesS w w.heap.size ao l) :
    Calls Try.prog 24 #[.slice ao l.length cap] w fun e w' => e = .returned (.bool (tru (∀ i, i < l.length → KeyAt l i))) ∧ Below w.heap.size w w' := by
  go_enter Try.func24, Try.ntmps24
  go_wp2
  go_loopw [3] (fun i wr => ∃ k : Nat, k ≤ l.length ∧ i = .int .i64 (k : Int) ∧ Below w.heap.size w wr ∧ Hid (∀ j, j < k → KeyAt l j)) (fun i _ => l.length - (intOf i).toNat)
  case atStart => exact ⟨0, by omega, rfl, Below.refl _ _, fun _ h => absurd h (Nat.not_lt_zero _)⟩
  case round =>
    obtain ⟨k, hk, rfl, hbel, HK⟩ := hrel
    by_cases hkl : k < l.length
    · have HKs : KeyAt l k → Hid (∀ j, j < k + 1 → KeyAt l j) := by
        intro hx j hj
        by_cases h : j = k
        · subst h
          exact hx
        · exact HK.out j (by omega)
      have HKn : ¬ KeyAt l k → Hid (¬ ∀ i, i < l.length → KeyAt l i) := fun hx h => hx (h k hkl)
      clear HK
      have hat : ∀ x, l[k]? = some x → x = l[k] := fun x hx => by rw [List.getElem?_eq_getElem hkl] at hx; cases hx; rfl
      have i1 : (k : Int) < (l.length : Int) := by omega
      obtain ⟨a, rfl, hblk, c0⟩ := (hl.below TxtAt.fast hbel) k l[k] (List.getElem?_eq_getElem hkl)
      rw [Nat.mul_one] at c0
      unfold TxtAt at c0
      by_cases hz : 1000 < (l[k].size : Int)
      · have hno := HKn (fun h => (h _ (List.getElem?_eq_getElem hkl)).1 hz)
        clear HKs HKn hat
        have hzd : decide (1000 < (l[k].size : Int)) = true := decide_eq_true hz
        generalize l[k] = y at *
        go_wp2
        go_quiet (fail)
        go_wp2
        go_ret
        rw [tru_no hno.out]
        exact ⟨rfl, below_drewN hbel _⟩
      · have hzd : decide (1000 < (l[k].size : Int)) = false := decide_eq_false hz
        by_cases hk0 : k = 0
        · subst hk0
          have HK2 := HKs (fun x hx => by
            rw [hat x hx]
            exact ⟨hz, fun j y hj => by omega⟩)
          clear HKs HKn hat
          have c00 : wr.cell? a = some (.string l[0]) := by rw [addr_zero] at c0; exact c0
          clear c0
          generalize l[0] = y at *
          go_wp2
          go_quiet (fail)
          go_wp2
          go_roundw
          case rel => exact ⟨1, by omega, by go_num, below_drewN hbel _, HK2⟩
          case measure => simp [intOf]; omega
        · obtain ⟨j, hj⟩ : ∃ j, k = j + 1 := ⟨k - 1, by omega⟩
          have hjl : j < l.length := by omega
          have HKs2 : leqT l[k] l[j] = false → Hid (∀ j, j < k + 1 → KeyAt l j) := fun he => HKs (fun x hx => by
            rw [hat x hx]
            refine ⟨hz, fun j' y hj' hy => ?_⟩
            obtain rfl : j' = j := by omega
            rw [List.getElem?_eq_getElem hjl] at hy
            cases hy
            exact he)
          have HKn2 : leqT l[k] l[j] = true → Hid (¬ ∀ i, i < l.length → KeyAt l i) := fun he => HKn (fun h => by
            have := (h _ (List.getElem?_eq_getElem hkl)).2 j l[j] hj (List.getElem?_eq_getElem hjl)
            rw [he] at this
            cases this)
          clear HKs HKn hat
          have hsub : (k : Int) - 1 = (j : Int) := by omega
          have hjb : (j : Int) < (l.length : Int) := by omega
          have hpos : decide (0 < k) = true := decide_eq_true (by omega)
          have hpos2 : decide ((0 : Int) < (k : Int)) = true := decide_eq_true (by omega)
          unfold leqT at HKs2 HKn2
          obtain ⟨a', ha', _, d0⟩ := (hl.below TxtAt.fast hbel) j l[j] (List.getElem?_eq_getElem hjl)
          cases ha'
          rw [Nat.mul_one] at d0
          unfold TxtAt at d0
          generalize l[k] = x at *
          generalize l[j] = y at *
          have HJ : Hid (k = j + 1) := hj
          clear hj hk0
          rcases Bool.eq_false_or_eq_true (Op.bytesLess x.toList y.toList) with h1 | h1
          · have hno := HKn2 (by rw [h1]; rfl)
            clear HKs2 HKn2
            go_wp2
            go_quiet (fail)
            go_wp2
            go_ret
            rw [tru_no hno.out]
            exact ⟨rfl, below_drewN hbel _⟩
          · rcases Bool.eq_false_or_eq_true (x.toList == y.toList) with h2 | h2
            · have hno := HKn2 (by rw [h1, h2]; rfl)
              clear HKs2 HKn2
              go_wp2
              go_quiet (fail)
              go_wp2
              go_ret
              rw [tru_no hno.out]
              exact ⟨rfl, below_drewN hbel _⟩
            · have HK2 := HKs2 (by rw [h1, h2]; rfl)
              clear HKs2 HKn2
              go_wp2
              go_quiet (fail)
              go_wp2
              go_roundw
              case rel => exact ⟨k + 1, by omega, by go_num, below_drewN hbel _, HK2⟩
              case measure => simp [intOf]; omega
    · have hyes : Hid (∀ i, i < l.length → KeyAt l i) := fun i hi => HK.out i (by omega)
      clear HK
      go_wp2
      go_ret
      rw [tru_yes hyes.out]
      exact ⟨rfl, hbel⟩
set_option maxHeartbeats 2000000 in
theorem writes_any (ao : Option Addr) (cap : Nat) (l : List Wrt) (h200 : l.length ≤ 1000) (w : World) (hl : LiesW w w.heap.size ao l) :
    Calls Try.prog 25 #[.slice ao l.length cap] w fun e w' => e = .returned (.bool (tru (∀ i, i < l.length → WrAt l i))) ∧ Below w.heap.size w w' := by
  go_enter Try.func25, Try.ntmps25
  go_wp2
  go_loopw [3] (fun i wr => ∃ k : Nat, k ≤ l.length ∧ i = .int .i64 (k : Int) ∧ Below w.heap.size w wr ∧ Hid (∀ j, j < k → WrAt l j)) (fun i _ => l.length - (intOf i).toNat)
  case atStart => exact ⟨0, by omega, rfl, Below.refl _ _, fun _ h => absurd h (Nat.not_lt_zero _)⟩
  case round =>
    obtain ⟨k, hk, rfl, hbel, HK⟩ := hrel
    by_cases hkl : k < l.length
    · have HKs : WrAt l k → Hid (∀ j, j < k + 1 → WrAt l j) := by
        intro hx j hj
        by_cases h : j = k
        · subst h
          exact hx
        · exact HK.out j (by omega)
      have HKn : ¬ WrAt l k → Hid (¬ ∀ i, i < l.length → WrAt l i) := fun hx h => hx (h k hkl)
      clear HK
      have hat : ∀ x, l[k]? = some x → x = l[k] := fun x hx => by rw [List.getElem?_eq_getElem hkl] at hx; cases hx; rfl
      have i1 : (k : Int) < (l.length : Int) := by omega
      obtain ⟨a, rfl, hblk, c0, c1, c2⟩ := (hl.below WrtAt.fast hbel) k l[k] (List.getElem?_eq_getElem hkl)
      by_cases hz : 1000 < (l[k].key.size : Int)
      · have hno := HKn (fun h => (h _ (List.getElem?_eq_getElem hkl)).1 hz)
        clear HKs HKn hat
        have hzd : decide (1000 < (l[k].key.size : Int)) = true := decide_eq_true hz
        generalize l[k] = y at *
        go_wp2
        go_quiet (fail)
        go_wp2
        go_ret
        rw [tru_no hno.out]
        exact ⟨rfl, below_drewN hbel _⟩
      · have hzd : decide (1000 < (l[k].key.size : Int)) = false := decide_eq_false hz
        by_cases hv : 10000 < (l[k].val.size : Int)
        · have hno := HKn (fun h => (h _ (List.getElem?_eq_getElem hkl)).2.1.1 hv)
          clear HKs HKn hat
          have hvd : decide (10000 < (l[k].val.size : Int)) = true := decide_eq_true hv
          generalize l[k] = y at *
          go_wp2
          go_quiet (fail)
          go_wp2
          go_ret
          rw [tru_no hno.out]
          exact ⟨rfl, below_drewN hbel _⟩
        · have hvd : decide (10000 < (l[k].val.size : Int)) = false := decide_eq_false hv
          by_cases hd : l[k].del = true ∧ l[k].val.toList.isEmpty = false
          · obtain ⟨hd1, hd2⟩ := hd
            have hno := HKn (fun h => by have := (h _ (List.getElem?_eq_getElem hkl)).2.1.2 hd1; rw [hd2] at this; cases this)
            clear HKs HKn hat
            generalize l[k] = y at *
            rw [hd1] at c2
            clear hd1
            go_wp2
            go_quiet (fail)
            go_wp2
            go_ret
            rw [tru_no hno.out]
            exact ⟨rfl, below_drewN hbel _⟩
          · have hwo : WrtOk l[k] := ⟨hv, fun h1 => by
              rcases Bool.eq_false_or_eq_true (l[k].val.toList.isEmpty) with h2 | h2
              · exact h2
              · exact absurd ⟨h1, h2⟩ hd⟩
            obtain ⟨dd, vv, hdd, hvv, hor⟩ : ∃ dd vv, l[k].del = dd ∧ l[k].val.toList.isEmpty = vv ∧ (dd = false ∨ (dd = true ∧ vv = true)) := ⟨_, _, rfl, rfl, by
              rcases Bool.eq_false_or_eq_true l[k].del with h1 | h1
              · rw [h1]
                exact .inr ⟨rfl, hwo.2 h1⟩
              · exact .inl h1⟩
            rw [hdd] at c2
            clear hdd hd
            by_cases hk0 : k = 0
            · subst hk0
              have HK2 := HKs (fun x hx => by
                rw [hat x hx]
                exact ⟨hz, hwo, fun j y hj => by omega⟩)
              clear HKs HKn hat
              have c00 : wr.cell? a = some (.string l[0].key) := by rw [Nat.zero_mul, addr_zero] at c0; exact c0
              rw [Nat.zero_mul, addr_zero] at c1 c2
              clear c0 hwo
              generalize l[0] = y at *
              rcases hor with rfl | ⟨rfl, rfl⟩
              all_goals
                go_wp2
                go_quiet (fail)
                go_wp2
                go_roundw
                case rel => exact ⟨1, by omega, by go_num, below_drewN hbel _, HK2⟩
                case measure => simp [intOf]; omega
            · obtain ⟨j, hj⟩ : ∃ j, k = j + 1 := ⟨k - 1, by omega⟩
              have hjl : j < l.length := by omega
              have HKs2 : leqT l[k].key l[j].key = false → Hid (∀ j, j < k + 1 → WrAt l j) := fun he => HKs (fun x hx => by
                rw [hat x hx]
                refine ⟨hz, hwo, fun j' y hj' hy => ?_⟩
                obtain rfl : j' = j := by omega
                rw [List.getElem?_eq_getElem hjl] at hy
                cases hy
                exact he)
              have HKn2 : leqT l[k].key l[j].key = true → Hid (¬ ∀ i, i < l.length → WrAt l i) := fun he => HKn (fun h => by
                have := (h _ (List.getElem?_eq_getElem hkl)).2.2 j l[j] hj (List.getElem?_eq_getElem hjl)
                rw [he] at this
                cases this)
              clear HKs HKn hat
              have hsub : (k : Int) - 1 = (j : Int) := by omega
              have hjb : (j : Int) < (l.length : Int) := by omega
              have hpos : decide (0 < k) = true := decide_eq_true (by omega)
              have hpos2 : decide ((0 : Int) < (k : Int)) = true := decide_eq_true (by omega)
              unfold leqT at HKs2 HKn2
              obtain ⟨a', ha', _, d0, _, _⟩ := (hl.below WrtAt.fast hbel) j l[j] (List.getElem?_eq_getElem hjl)
              cases ha'
              clear hwo
              generalize l[k] = x at *
              generalize l[j] = y at *
              have HJ : Hid (k = j + 1) := hj
              clear hj hk0
              rcases hor with rfl | ⟨rfl, rfl⟩
              all_goals
                rcases Bool.eq_false_or_eq_true (Op.bytesLess x.key.toList y.key.toList) with h1 | h1
                · have hno := HKn2 (by rw [h1]; rfl)
                  clear HKs2 HKn2
                  go_wp2
                  go_quiet (fail)
                  go_wp2
                  go_ret
                  rw [tru_no hno.out]
                  exact ⟨rfl, below_drewN hbel _⟩
                · rcases Bool.eq_false_or_eq_true (x.key.toList == y.key.toList) with h2 | h2
                  · have hno := HKn2 (by rw [h1, h2]; rfl)
                    clear HKs2 HKn2
                    go_wp2
                    go_quiet (fail)
                    go_wp2
                    go_ret
                    rw [tru_no hno.out]
                    exact ⟨rfl, below_drewN hbel _⟩
                  · have HK2 := HKs2 (by rw [h1, h2]; rfl)
                    clear HKs2 HKn2
                    go_wp2
                    go_quiet (fail)
                    go_wp2
                    go_roundw
                    case rel => exact ⟨k + 1, by omega, by go_num, below_drewN hbel _, HK2⟩
                    case measure => simp [intOf]; omega
    · have hyes : Hid (∀ i, i < l.length → WrAt l i) := fun i hi => HK.out i (by omega)
      clear HK
      go_wp2
      go_ret
      rw [tru_yes hyes.out]
      exact ⟨rfl, hbel⟩
end Go.Proofs.Ytbhaahkjglfjmaa
