/-
  Contracts: the place of the first cell with a greater column: slices.IndexFunc with With's function.
-/
import Derived.Test.YtgaidhalkianfaaRBox
import Derived.Test.YtgaidhalkianfaaRWithM
namespace Go.Proofs.Ytgaidhalkianfaa
open Go.RowKit Num
set_option linter.unusedVariables false

/-- Has a cell a greater column? -/
theorem pred_any (y : Cel) (B : Nat) (col : Int) (w : World) (hc : w.cell? ⟨B, 0, none⟩ = some (.int .i64 col)) (hB : B < w.heap.size) :
    Calls Try.prog 31 #[.agg #[.int .i64 y.c, .int .i64 y.x.k, .int .i64 y.x.n, .int .u64 (y.x.f : Int), .string y.x.s], .pointer (some ⟨B, 0, none⟩)] w fun e w' => e = .returned (.bool (decide (col < y.c))) ∧ Below w.heap.size w w' := by
  have hne : B ≠ w.heap.size := by omega
  have hcc : (w.alloc (.cells #[.int .i64 y.c, .int .i64 y.x.k, .int .i64 y.x.n, .int .u64 (y.x.f : Int), .string y.x.s] 41)).cell? ⟨B, 0, none⟩ = some (.int .i64 col) := by
    rw [World.cell?_alloc_past _ _ _ hB]
    exact hc
  go_enter Try.func31, Try.ntmps31
  go_wp2
  go_ret
  exact ⟨rfl, (Below.refl _ _).alloc (Nat.le_refl _) _⟩

/-- What IndexFunc tells. -/
def Num.idxI (r : List Cel) (col : Int) : Int := if idxC r col < r.length then (idxC r col : Int) else -1
theorem idxI_hit {r : List Cel} {col : Int} {k : Nat} (hk : k < r.length) (h : ∀ j (hj : j < r.length), j < k → (r[j]).c ≤ col) (hh : col < (r[k]).c) : idxI r col = (k : Int) := by
  unfold idxI
  rw [idxC_hit hk (fun j hj hjk => by have := h j hj hjk; omega) hh, if_pos hk]
theorem idxI_none {r : List Cel} {col : Int} {k : Nat} (hk : r.length ≤ k) (h : ∀ j (hj : j < r.length), j < k → (r[j]).c ≤ col) : idxI r col = -1 := by
  unfold idxI
  rw [idxC_none (fun j hj => by have := h j hj (by omega); omega), if_neg (by omega)]

set_option maxHeartbeats 1000000 in
theorem idx_any (ao : Option Addr) (cap : Nat) (r : List Cel) (h500 : r.length ≤ 1000) (col : Int) (B : Nat) (w : World) (hl : LiesC w w.heap.size ao r) (hB : B < w.heap.size) (hc : w.cell? ⟨B, 0, none⟩ = some (.int .i64 col)) :
    Calls Try.prog 30 #[.slice ao r.length cap, .func (.func 31) #[] #[.pointer (some ⟨B, 0, none⟩)]] w fun e w' => e = .returned (.int .i64 (idxI r col)) ∧ Below w.heap.size w w' := by
  go_enter Try.func30, Try.ntmps30
  go_wp2
  go_loopw [8] (fun i wr => ∃ k : Nat, k ≤ r.length ∧ i = .int .i64 (k : Int) ∧ Hid (∀ j (hj : j < r.length), j < k → (r[j]).c ≤ col) ∧ Below w.heap.size w wr) (fun i _ => r.length - (intOf i).toNat)
  case atStart => exact ⟨0, by omega, rfl, fun _ _ h => absurd h (Nat.not_lt_zero _), Below.refl _ _⟩
  case round =>
    obtain ⟨k, hk, rfl, HK, hbel⟩ := hrel
    have hsz := hbel.size
    by_cases hkl : k < r.length
    · obtain ⟨a, rfl, hblk, c0, c1, c2, c3, c4⟩ := (hl.below hbel) k r[k] (List.getElem?_eq_getElem hkl)
      have hcB : wr.cell? ⟨B, 0, none⟩ = some (.int .i64 col) := (hbel.cell (p := ⟨B, 0, none⟩) hB).trans hc
      have hp := pred_any r[k] B col wr hcB (by omega)
      by_cases hg : col < (r[k]).c
      · have hv := idxI_hit hkl HK.out hg
        rw [decide_eq_true hg] at hp
        clear HK
        go_wp2_with (first
          | (go_at_call 31; refine hp.mono ?_; rintro e w1 ⟨rfl, hb1⟩))
        go_ret
        rw [hv]
        exact ⟨rfl, below_next hbel (Nat.le_refl _) hb1⟩
      · have HK2 : Hid (∀ j (hj : j < r.length), j < k + 1 → (r[j]).c ≤ col) := by
          intro j hj hjk
          by_cases h : j = k
          · subst h
            exact Int.not_lt.1 hg
          · exact HK.out j hj (by omega)
        rw [decide_eq_false hg] at hp
        clear HK
        go_wp2_with (first
          | (go_at_call 31; refine hp.mono ?_; rintro e w1 ⟨rfl, hb1⟩))
        go_roundw
        case rel => exact ⟨k + 1, by omega, by go_num, HK2, below_next hbel (Nat.le_refl _) hb1⟩
        case measure => simp [intOf]; omega
    · have hv := idxI_none (k := k) (by omega) HK.out
      clear HK
      go_wp2
      go_ret
      rw [hv]
      exact ⟨rfl, hbel⟩
end Go.Proofs.Ytgaidhalkianfaa
