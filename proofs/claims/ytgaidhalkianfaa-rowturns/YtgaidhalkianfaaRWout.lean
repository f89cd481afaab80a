/-
  Contracts: the cells without those of a column: of the program and of the document's own.
-/
import Derived.Test.YtgaidhalkianfaaRBox
import Derived.Test.YtgaidhalkianfaaRWithM
namespace Go.Proofs.Ytgaidhalkianfaa
open Go.RowKit Num
set_option linter.unusedVariables false

theorem without_keep {l : List Cel} {col : Int} {k : Nat} (hk : k < l.length) (h : ¬ (l[k]).c = col) : without (l.take (k + 1)) col = without (l.take k) col ++ [l[k]] := by
  rw [without_snoc l col k hk, if_neg h]
theorem without_drop {l : List Cel} {col : Int} {k : Nat} (hk : k < l.length) (h : (l[k]).c = col) : without (l.take (k + 1)) col = without (l.take k) col := by
  rw [without_snoc l col k hk, if_pos h, List.append_nil]
theorem without_take (l : List Cel) (col : Int) (k : Nat) : (without (l.take k) col).length ≤ k := Nat.le_trans (without_len _ _) (by rw [List.length_take]; omega)

set_option maxHeartbeats 1000000 in
theorem without_any (ao : Option Addr) (cap : Nat) (l : List Cel) (h500 : l.length ≤ 1000) (col : Int) (w : World) (hl : LiesC w w.heap.size ao l) :
    Calls Try.prog 21 #[.slice ao l.length cap, .int .i64 col] w fun e w' => e = .returned (.slice (some ⟨w.heap.size, 0, none⟩) (without l col).length (l.length + 1)) ∧ w'.ownsRow w.heap.size 41 5 (.slice (some ⟨w.heap.size, 0, none⟩) (without l col).length (l.length + 1)) (without l col).length (celCells (without l col)) ∧ Below w.heap.size w w' := by
  obtain ⟨i0, hi, hz0, hz1, hz2⟩ := info_parts Try.infoCel
  go_enter Try.func21, Try.ntmps21
  go_wp2_with (first
    | (at_make; refine wpList_make_own _ rfl _ _ 22 rfl w.heap.size 41 i0 _ 5 Try.underlying22 hi hz0 hz1 _ _ _ (l.length + 1) rfl rfl (by omega) (by rw [hz2]; omega) (by unfold maxLen; omega) (Nat.le_refl _) ?_; intro w1 hown1 hgrow1))
  have hb1 : Below w.heap.size w w1 := (Below.refl _ _).grown hgrow1 (Nat.le_refl _) (by simp)
  clear hgrow1
  go_loopw [5, 14] (fun v i wr => ∃ (k n : Nat), k ≤ l.length ∧ i = .int .i64 (k : Int) ∧ v = .slice (some ⟨w.heap.size, 0, none⟩) n (l.length + 1) ∧ n ≤ k ∧ Hid (n = (without (l.take k) col).length) ∧ wr.ownsRow w.heap.size 41 5 (.slice (some ⟨w.heap.size, 0, none⟩) n (l.length + 1)) n (celCells (without (l.take k) col)) ∧ Below w.heap.size w wr) (fun _ i _ => l.length - (intOf i).toNat)
  case atStart => exact ⟨0, 0, by omega, rfl, rfl, by omega, rfl, hown1, hb1⟩
  case round =>
    obtain ⟨k, n, hk, rfl, rfl, hn, HN, hown, hbel⟩ := hrel
    clear hown1 hb1
    have hsz := hbel.size
    by_cases hkl : k < l.length
    · obtain ⟨a, rfl, hblk, c0, c1, c2, c3, c4⟩ := (hl.below hbel) k l[k] (List.getElem?_eq_getElem hkl)
      by_cases hc : (l[k]).c = col
      · have hw := without_drop hkl hc
        go_wp2
        go_roundw
        case rel => exact ⟨k + 1, n, by omega, by go_num, rfl, by omega, by unfold Hid; rw [hw]; exact HN.out, by rw [hw]; exact hown.alloc _, hbel.alloc hsz _⟩
        case measure => simp [intOf]; omega
      · have hw := without_keep hkl hc
        generalize l[k] = y at *
        go_wp2_with (first
          | (at_builtin; refine wpList_append_fits _ rfl _ _ 22 rfl w.heap.size 41 i0 5 Try.underlying22 hi hz1 w.heap.size n (l.length + 1) _ rfl ((hown.alloc _).alloc _) ⟨wr.heap.size + 1, 0, none⟩ 1 1 [.int .i64 y.c, .int .i64 y.x.k, .int .i64 y.x.n, .int .u64 (y.x.f : Int), .string y.x.s] rfl rfl (five_new2 _ _ y _) (one5 y) (by omega) ?_; intro w3 hown3 hgrow3))
        have hb3 := ((hbel.alloc hsz (.cells #[.int .i64 y.c, .int .i64 y.x.k, .int .i64 y.x.n, .int .u64 (y.x.f : Int), .string y.x.s] 41)).alloc (by simp; omega) (.cells #[.int .i64 y.c, .int .i64 y.x.k, .int .i64 y.x.n, .int .u64 (y.x.f : Int), .string y.x.s] 41)).grown hgrow3 (by simp; omega) (fun j e => by cases e; exact Nat.le_refl _)
        go_roundw
        case rel => exact ⟨k + 1, n + 1, by omega, by go_num, rfl, by omega, by unfold Hid; rw [hw, List.length_append, ← HN.out]; rfl, by rw [hw, celCells_snoc]; exact hown3, hb3⟩
        case measure => simp [intOf]; omega
    · have hke : k = l.length := by omega
      subst hke
      rw [List.take_length] at hown HN
      have HN' := HN.out
      clear HN
      subst HN'
      go_wp2
      go_ret
      exact ⟨rfl, hown, hbel⟩

set_option maxHeartbeats 1000000 in
theorem refWithout_any (ao : Option Addr) (cap : Nat) (l : List Cel) (h500 : l.length ≤ 1000) (col : Int) (w : World) (hl : LiesC w w.heap.size ao l) :
    Calls Try.prog 23 #[.slice ao l.length cap, .int .i64 col] w fun e w' => ∃ ao' cap', e = .returned (.slice ao' (without l col).length cap') ∧ LiesC w' w'.heap.size ao' (without l col) ∧ Below w.heap.size w w' := by
  obtain ⟨i0, hi, hz0, hz1, hz2⟩ := info_parts Try.infoCel
  go_enter Try.func23, Try.ntmps23
  go_wp2
  go_loopw [5, 6] (fun v i wr => ∃ (k n : Nat), k ≤ l.length ∧ i = .int .i64 (k : Int) ∧ n ≤ k ∧ Hid (n = (without (l.take k) col).length) ∧ wr.ownsRow w.heap.size 41 5 v n (celCells (without (l.take k) col)) ∧ Below w.heap.size w wr) (fun _ i _ => l.length - (intOf i).toNat)
  case atStart => exact ⟨0, 0, by omega, rfl, by omega, rfl, World.ownsRow_nil _ _ _ _, Below.refl _ _⟩
  case round =>
    obtain ⟨k, n, hk, rfl, hn, HN, hown, hbel⟩ := hrel
    have hsz := hbel.size
    by_cases hkl : k < l.length
    · obtain ⟨a, rfl, hblk, c0, c1, c2, c3, c4⟩ := (hl.below hbel) k l[k] (List.getElem?_eq_getElem hkl)
      by_cases hc : (l[k]).c = col
      · have hw := without_drop hkl hc
        go_wp2
        go_roundw
        case rel => exact ⟨k + 1, n, by omega, by go_num, by omega, by unfold Hid; rw [hw]; exact HN.out, by rw [hw]; exact hown, hbel⟩
        case measure => simp [intOf]; omega
      · have hw := without_keep hkl hc
        generalize l[k] = y at *
        go_wp2_with (first
          | (at_builtin; refine wpList_append_own _ rfl _ _ 22 rfl w.heap.size 41 i0 _ 5 48 Try.underlying22 hi hz0 hz1 hz2 rfl (by decide) _ _ _ rfl (hown.alloc _) ⟨wr.heap.size, 0, none⟩ 1 1 [.int .i64 y.c, .int .i64 y.x.k, .int .i64 y.x.n, .int .u64 (y.x.f : Int), .string y.x.s] rfl rfl (five_new _ y _) (one5 y) (by unfold maxLen; omega) (by omega) (by simp; omega) ?_; intro v3 w3 hown3 hgrow3 _))
        have hb3 := (hbel.alloc hsz (.cells #[.int .i64 y.c, .int .i64 y.x.k, .int .i64 y.x.n, .int .u64 (y.x.f : Int), .string y.x.s] 41)).grown hgrow3 (by simp; omega) (fun j e => (hown.lt j e).1)
        go_roundw
        case rel => exact ⟨k + 1, n + 1, by omega, by go_num, by omega, by unfold Hid; rw [hw, List.length_append, ← HN.out]; rfl, by rw [hw, celCells_snoc]; exact hown3, hb3⟩
        case measure => simp [intOf]; omega
    · have hke : k = l.length := by omega
      subst hke
      rw [List.take_length] at hown HN
      have HN' := HN.out
      clear HN
      subst HN'
      obtain ⟨ao', cap', rfl, hl', _⟩ := liesC_of_row hown
      go_wp2
      go_ret
      exact ⟨ao', cap', rfl, hl', hbel⟩
end Go.Proofs.Ytgaidhalkianfaa
