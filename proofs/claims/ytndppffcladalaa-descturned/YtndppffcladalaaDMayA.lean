/-
  Contracts: what package desc asks of numbers, columns, lists of numbers and lists of texts (6.2).
-/
import Derived.Test.YtndppffcladalaaDNam2
import Derived.Test.YtndppffcladalaaDMem
namespace Go.Proofs.Ytndppffcladalaa
open Go.RowKit Num
open scoped Classical
set_option linter.unusedVariables false

/-- Is it so? -/
def Num.tru (P : Prop) [d : Decidable P] : Bool := @decide P d
theorem tru_yes {P : Prop} [d : Decidable P] (h : P) : tru P = true := decide_eq_true h
theorem tru_no {P : Prop} [d : Decidable P] (h : ¬ P) : tru P = false := decide_eq_false h
theorem tru_iff {P Q : Prop} [d : Decidable P] [d2 : Decidable Q] (h : P ↔ Q) : tru P = tru Q := by
  by_cases hp : P
  · rw [tru_yes hp, tru_yes (h.1 hp)]
  · rw [tru_no hp, tru_no (fun hq => hp (h.2 hq))]
theorem Num.LiesG.take {α : Type} {At : World → Addr → α → Prop} {sz : Nat} {w : World} {B : Nat} {ao : Option Addr} {l : List α} (h : LiesG At sz w B ao l) (k : Nat) : LiesG At sz w B ao (l.take k) := by
  intro i x hx
  refine h i x ?_
  rw [List.getElem?_take] at hx
  split at hx
  · exact hx
  · cases hx

theorem within_any (n lo hi : Int) (w : World) :
    Calls Try.prog 25 #[.int .i64 n, .int .i64 lo, .int .i64 hi] w fun e w' => e = .returned (.bool (tru (lo ≤ n ∧ n ≤ hi))) ∧ w' = w := by
  by_cases h1 : lo ≤ n
  · by_cases h2 : n ≤ hi
    · rw [tru_yes ⟨h1, h2⟩]
      go_enter Try.func25, Try.ntmps25
      go_wp2
      go_ret
      exact ⟨rfl, rfl⟩
    · rw [tru_no (fun h => h2 h.2)]
      go_enter Try.func25, Try.ntmps25
      go_wp2
      go_ret
      exact ⟨rfl, rfl⟩
  · rw [tru_no (fun h => h1 h.1)]
    go_enter Try.func25, Try.ntmps25
    go_wp2
    go_ret
    exact ⟨rfl, rfl⟩
theorem mayState_any (n : Int) (w : World) :
    Calls Try.prog 62 #[.int .i64 n] w fun e w' => e = .returned (.bool (tru (0 ≤ n ∧ n ≤ 4))) ∧ w' = w := by
  have h := within_any n 0 4
  go_enter Try.func62, Try.ntmps62
  go_wp2_with (go_at_call 25; refine (h _).mono ?_; rintro e w1 ⟨rfl, rfl⟩)
  go_ret
  exact ⟨rfl, rfl⟩
theorem list_ne' {a b : ByteArray} (h : ¬ a = b) : (a.toList == b.toList) = false := by
  rw [Lib.toList_data, Lib.toList_data, beq_eq_false_iff_ne]
  intro e
  exact h (ByteArray.ext (Array.ext' e))
theorem index_any (ao : Option Addr) (cap : Nat) (l : List Int) (hl1 : l.length ≤ 1000000) (x : Int) (w : World) (hl : LiesN w w.heap.size ao l) :
    Calls Try.prog 83 #[.slice ao l.length cap, .int .i64 x] w fun e w' => (∃ r : Int, e = .returned (.int .i64 r) ∧ (0 ≤ r ↔ x ∈ l)) ∧ w' = w := by
  go_enter Try.func83, Try.ntmps83
  go_wp2
  go_loop [8] (fun i => ∃ k : Nat, k ≤ l.length ∧ i = .int .i64 (k : Int) ∧ Hid (∀ j (hj : j < l.length), j < k → l[j] ≠ x)) (fun i => l.length - (intOf i).toNat)
  case atStart => exact ⟨0, by omega, rfl, fun _ _ h => absurd h (Nat.not_lt_zero _)⟩
  case round =>
    obtain ⟨k, hk, rfl, HK⟩ := hrel
    by_cases hkl : k < l.length
    · obtain ⟨a, rfl, hblk, c0⟩ := hl k l[k] (List.getElem?_eq_getElem hkl)
      rw [Nat.mul_one] at c0
      unfold NumAt at c0
      by_cases hx : l[k] = x
      · have hm : Hid (x ∈ l) := hx ▸ List.getElem_mem hkl
        rw [hx] at c0
        clear HK hx
        go_wp2
        go_ret
        exact ⟨⟨_, rfl, ⟨fun _ => hm.out, fun _ => by omega⟩⟩, rfl⟩
      · have HK2 : Hid (∀ j (hj : j < l.length), j < k + 1 → l[j] ≠ x) := by
          intro j hj hjk
          by_cases h : j = k
          · subst h
            exact hx
          · exact HK.out j hj (by omega)
        have hxe : (x == l[k]) = false := beq_eq_false_iff_ne.2 (fun e => hx e.symm)
        clear HK
        generalize l[k] = y at *
        clear hx
        go_wp2
        go_round
        case rel => exact ⟨k + 1, by omega, by go_num, HK2⟩
        case measure => simp [intOf]; omega
    · have hno : Hid (x ∉ l) := fun hm => by
        obtain ⟨j, hj, e⟩ := List.getElem_of_mem hm
        exact HK.out j hj (by omega) e
      clear HK
      go_wp2
      go_ret
      exact ⟨⟨_, rfl, ⟨fun h => by omega, fun h => absurd h hno.out⟩⟩, rfl⟩
theorem indexS_any (ao : Option Addr) (cap : Nat) (l : List ByteArray) (hl1 : l.length ≤ 1000000) (x : ByteArray) (w : World) (hl : LiesS w w.heap.size ao l) :
    Calls Try.prog 84 #[.slice ao l.length cap, .string x] w fun e w' => (∃ r : Int, e = .returned (.int .i64 r) ∧ (0 ≤ r ↔ x ∈ l)) ∧ w' = w := by
  go_enter Try.func84, Try.ntmps84
  go_wp2
  go_loop [8] (fun i => ∃ k : Nat, k ≤ l.length ∧ i = .int .i64 (k : Int) ∧ Hid (∀ j (hj : j < l.length), j < k → l[j] ≠ x)) (fun i => l.length - (intOf i).toNat)
  case atStart => exact ⟨0, by omega, rfl, fun _ _ h => absurd h (Nat.not_lt_zero _)⟩
  case round =>
    obtain ⟨k, hk, rfl, HK⟩ := hrel
    by_cases hkl : k < l.length
    · obtain ⟨a, rfl, hblk, c0⟩ := hl k l[k] (List.getElem?_eq_getElem hkl)
      rw [Nat.mul_one] at c0
      unfold TxtAt at c0
      by_cases hx : l[k] = x
      · have hm : Hid (x ∈ l) := hx ▸ List.getElem_mem hkl
        rw [hx] at c0
        clear HK hx
        go_wp2
        go_ret
        exact ⟨⟨_, rfl, ⟨fun _ => hm.out, fun _ => by omega⟩⟩, rfl⟩
      · have HK2 : Hid (∀ j (hj : j < l.length), j < k + 1 → l[j] ≠ x) := by
          intro j hj hjk
          by_cases h : j = k
          · subst h
            exact hx
          · exact HK.out j hj (by omega)
        have hxl : (x.toList == l[k].toList) = false := list_ne' (fun e => hx e.symm)
        clear HK
        generalize l[k] = y at *
        clear hx
        go_wp2
        go_round
        case rel => exact ⟨k + 1, by omega, by go_num, HK2⟩
        case measure => simp [intOf]; omega
    · have hno : Hid (x ∉ l) := fun hm => by
        obtain ⟨j, hj, e⟩ := List.getElem_of_mem hm
        exact HK.out j hj (by omega) e
      clear HK
      go_wp2
      go_ret
      exact ⟨⟨_, rfl, ⟨fun h => by omega, fun h => absurd h hno.out⟩⟩, rfl⟩
theorem contains_any (ao : Option Addr) (cap : Nat) (l : List Int) (hl1 : l.length ≤ 1000000) (x : Int) (w : World) (hl : LiesN w w.heap.size ao l) :
    Calls Try.prog 65 #[.slice ao l.length cap, .int .i64 x] w fun e w' => e = .returned (.bool (tru (x ∈ l))) ∧ w' = w := by
  have h := index_any ao cap l hl1 x w hl
  go_enter Try.func65, Try.ntmps65
  go_wp2_with (go_at_call 83; refine h.mono ?_; rintro e w1 ⟨⟨r, rfl, hr0⟩, rfl⟩; have hr : Hid (0 ≤ r ↔ x ∈ l) := hr0; clear hr0)
  go_ret
  refine ⟨?_, rfl⟩
  by_cases hx : x ∈ l
  · rw [tru_yes hx]
    show Ending.returned (.bool (decide (0 ≤ r))) = _
    rw [decide_eq_true (hr.out.2 hx)]
  · rw [tru_no hx]
    show Ending.returned (.bool (decide (0 ≤ r))) = _
    rw [decide_eq_false (fun h => hx (hr.out.1 h))]
theorem containsS_any (ao : Option Addr) (cap : Nat) (l : List ByteArray) (hl1 : l.length ≤ 1000000) (x : ByteArray) (w : World) (hl : LiesS w w.heap.size ao l) :
    Calls Try.prog 66 #[.slice ao l.length cap, .string x] w fun e w' => e = .returned (.bool (tru (x ∈ l))) ∧ w' = w := by
  have h := indexS_any ao cap l hl1 x w hl
  go_enter Try.func66, Try.ntmps66
  go_wp2_with (go_at_call 84; refine h.mono ?_; rintro e w1 ⟨⟨r, rfl, hr0⟩, rfl⟩; have hr : Hid (0 ≤ r ↔ x ∈ l) := hr0; clear hr0)
  go_ret
  refine ⟨?_, rfl⟩
  by_cases hx : x ∈ l
  · rw [tru_yes hx]
    show Ending.returned (.bool (decide (0 ≤ r))) = _
    rw [decide_eq_true (hr.out.2 hx)]
  · rw [tru_no hx]
    show Ending.returned (.bool (decide (0 ≤ r))) = _
    rw [decide_eq_false (fun h => hx (hr.out.1 h))]
theorem unlike_any (ao : Option Addr) (cap : Nat) (l : List Int) (hl1 : l.length ≤ 1000000) (hcap : l.length ≤ cap) (w : World) (hl : LiesN w w.heap.size ao l) :
    Calls Try.prog 64 #[.slice ao l.length cap] w fun e w' => e = .returned (.bool (tru (Apart l))) ∧ w' = w := by
  go_enter Try.func64, Try.ntmps64
  go_wp2
  go_loop [7] (fun i => ∃ k : Nat, k ≤ l.length ∧ i = .int .i64 (k : Int) ∧ Hid (∀ i j (hi : i < l.length) (hj : j < i), i < k → l[j] ≠ l[i])) (fun i => l.length - (intOf i).toNat)
  case atStart => exact ⟨0, by omega, rfl, fun _ _ _ _ h => absurd h (Nat.not_lt_zero _)⟩
  case round =>
    obtain ⟨k, hk, rfl, HK⟩ := hrel
    by_cases hkl : k < l.length
    · obtain ⟨a, rfl, hblk, c0⟩ := hl k l[k] (List.getElem?_eq_getElem hkl)
      rw [Nat.mul_one] at c0
      unfold NumAt at c0
      have hlt : (l.take k).length = k := by rw [List.length_take]; omega
      have hc := contains_any (some a) cap (l.take k) (by omega) l[k] w (hl.take k)
      rw [hlt] at hc
      have hk0 : (k : Int) ≤ (cap : Int) := by omega
      by_cases hx : l[k] ∈ l.take k
      · have hno : Hid (¬ Apart l) := fun h => by
          obtain ⟨j, hj, e⟩ := List.getElem_of_mem hx
          rw [List.getElem_take] at e
          exact h k j hkl (by omega) e
        rw [tru_yes hx] at hc
        clear HK hx
        generalize l[k] = y at *
        go_wp2_with (go_at_call 65; refine hc.mono ?_; rintro e w1 ⟨rfl, rfl⟩)
        go_ret
        rw [tru_no hno.out]
        exact ⟨rfl, rfl⟩
      · have HK2 : Hid (∀ i j (hi : i < l.length) (hj : j < i), i < k + 1 → l[j] ≠ l[i]) := by
          intro i j hi hj hik
          by_cases h : i = k
          · subst h
            intro e
            exact hx (e ▸ List.mem_take_iff_getElem.2 ⟨j, by omega, rfl⟩)
          · exact HK.out i j hi hj (by omega)
        rw [tru_no hx] at hc
        clear HK hx
        generalize l[k] = y at *
        go_wp2_with (go_at_call 65; refine hc.mono ?_; rintro e w1 ⟨rfl, rfl⟩)
        go_round
        case rel => exact ⟨k + 1, by omega, by go_num, HK2⟩
        case measure => simp [intOf]; omega
    · have hyes : Hid (Apart l) := fun i j hi hj => HK.out i j hi hj (by omega)
      clear HK
      go_wp2
      go_ret
      rw [tru_yes hyes.out]
      exact ⟨rfl, rfl⟩
theorem unlikeS_any (ao : Option Addr) (cap : Nat) (l : List ByteArray) (hl1 : l.length ≤ 1000000) (hcap : l.length ≤ cap) (w : World) (hl : LiesS w w.heap.size ao l) :
    Calls Try.prog 44 #[.slice ao l.length cap] w fun e w' => e = .returned (.bool (tru (Apart l))) ∧ w' = w := by
  go_enter Try.func44, Try.ntmps44
  go_wp2
  go_loop [7] (fun i => ∃ k : Nat, k ≤ l.length ∧ i = .int .i64 (k : Int) ∧ Hid (∀ i j (hi : i < l.length) (hj : j < i), i < k → l[j] ≠ l[i])) (fun i => l.length - (intOf i).toNat)
  case atStart => exact ⟨0, by omega, rfl, fun _ _ _ _ h => absurd h (Nat.not_lt_zero _)⟩
  case round =>
    obtain ⟨k, hk, rfl, HK⟩ := hrel
    by_cases hkl : k < l.length
    · obtain ⟨a, rfl, hblk, c0⟩ := hl k l[k] (List.getElem?_eq_getElem hkl)
      rw [Nat.mul_one] at c0
      unfold TxtAt at c0
      have hlt : (l.take k).length = k := by rw [List.length_take]; omega
      have hc := containsS_any (some a) cap (l.take k) (by omega) l[k] w (hl.take k)
      rw [hlt] at hc
      have hk0 : (k : Int) ≤ (cap : Int) := by omega
      by_cases hx : l[k] ∈ l.take k
      · have hno : Hid (¬ Apart l) := fun h => by
          obtain ⟨j, hj, e⟩ := List.getElem_of_mem hx
          rw [List.getElem_take] at e
          exact h k j hkl (by omega) e
        rw [tru_yes hx] at hc
        clear HK hx
        generalize l[k] = y at *
        go_wp2_with (go_at_call 66; refine hc.mono ?_; rintro e w1 ⟨rfl, rfl⟩)
        go_ret
        rw [tru_no hno.out]
        exact ⟨rfl, rfl⟩
      · have HK2 : Hid (∀ i j (hi : i < l.length) (hj : j < i), i < k + 1 → l[j] ≠ l[i]) := by
          intro i j hi hj hik
          by_cases h : i = k
          · subst h
            intro e
            exact hx (e ▸ List.mem_take_iff_getElem.2 ⟨j, by omega, rfl⟩)
          · exact HK.out i j hi hj (by omega)
        rw [tru_no hx] at hc
        clear HK hx
        generalize l[k] = y at *
        go_wp2_with (go_at_call 66; refine hc.mono ?_; rintro e w1 ⟨rfl, rfl⟩)
        go_round
        case rel => exact ⟨k + 1, by omega, by go_num, HK2⟩
        case measure => simp [intOf]; omega
    · have hyes : Hid (Apart l) := fun i j hi hj => HK.out i j hi hj (by omega)
      clear HK
      go_wp2
      go_ret
      rw [tru_yes hyes.out]
      exact ⟨rfl, rfl⟩
/-- All are names, and unlike. -/
def Num.NamesOk (l : List ByteArray) : Prop := (∀ s ∈ l, nameOk s = true) ∧ Apart l
theorem mayNames_any (ao : Option Addr) (cap : Nat) (l : List ByteArray) (hl1 : l.length ≤ 1000000) (hcap : l.length ≤ cap) (w : World) (hl : LiesS w w.heap.size ao l) :
    Calls Try.prog 27 #[.slice ao l.length cap] w fun e w' => e = .returned (.bool (tru (NamesOk l))) ∧ w' = w := by
  have hu := unlikeS_any ao cap l hl1 hcap w hl
  go_enter Try.func27, Try.ntmps27
  go_wp2
  go_loop [7] (fun i => ∃ k : Nat, k ≤ l.length ∧ i = .int .i64 (k : Int) ∧ Hid (∀ j (hj : j < l.length), j < k → nameOk l[j] = true)) (fun i => l.length - (intOf i).toNat)
  case atStart => exact ⟨0, by omega, rfl, fun _ _ h => absurd h (Nat.not_lt_zero _)⟩
  case round =>
    obtain ⟨k, hk, rfl, HK⟩ := hrel
    by_cases hkl : k < l.length
    · obtain ⟨a, rfl, hblk, c0⟩ := hl k l[k] (List.getElem?_eq_getElem hkl)
      rw [Nat.mul_one] at c0
      unfold TxtAt at c0
      have hn := name_any l[k]
      clear hu
      rcases Bool.eq_false_or_eq_true (nameOk l[k]) with hx | hx
      · have HK2 : Hid (∀ j (hj : j < l.length), j < k + 1 → nameOk l[j] = true) := by
          intro j hj hjk
          by_cases h : j = k
          · subst h
            exact hx
          · exact HK.out j hj (by omega)
        rw [hx] at hn
        clear HK hx
        generalize l[k] = y at *
        go_wp2_with (go_at_call 9; refine (hn _).mono ?_; rintro e w1 ⟨rfl, rfl⟩)
        go_round
        case rel => exact ⟨k + 1, by omega, by go_num, HK2⟩
        case measure => simp [intOf]; omega
      · have hno : Hid (¬ NamesOk l) := fun h => by
          have := h.1 l[k] (List.getElem_mem hkl)
          rw [hx] at this
          cases this
        rw [hx] at hn
        clear HK hx
        generalize l[k] = y at *
        go_wp2_with (go_at_call 9; refine (hn _).mono ?_; rintro e w1 ⟨rfl, rfl⟩)
        go_ret
        rw [tru_no hno.out]
        exact ⟨rfl, rfl⟩
    · have hall : ∀ s ∈ l, nameOk s = true := fun s hs => by
        obtain ⟨j, hj, rfl⟩ := List.getElem_of_mem hs
        exact HK.out j hj (by omega)
      have he : Hid (tru (NamesOk l) = tru (Apart l)) := tru_iff ⟨fun h => h.2, fun h => ⟨hall, h⟩⟩
      clear HK hall
      generalize tru (Apart l) = c at *
      go_wp2_with (go_at_call 44; refine hu.mono ?_; rintro e w1 ⟨rfl, rfl⟩)
      go_ret
      rw [he.out]
      exact ⟨rfl, rfl⟩
end Go.Proofs.Ytndppffcladalaa
