/-
  Contracts: slices.Grow of nothing, slices.Concat of two, at entries.
-/
import Derived.Test.YtajbdffepfjegaaGreatRpG3
namespace Go.Proofs.YtajbdffepfjegaaGreat
open Go.RowKit Num
set_option linter.unusedVariables false
set_option maxRecDepth 100000

theorem growE_any (n : Nat) (hn : n ≤ 20000) (w : World) :
    Calls Tryz.prog 108 #[.slice none 0 0, .int .i64 (n : Int)] w fun e w' => ∃ ao1 cap1, e = .returned (.slice ao1 0 cap1) ∧ w'.ownsRow w.heap.size 48 2 (.slice ao1 0 cap1) 0 [] ∧ Below w.heap.size w w' := by
  obtain ⟨i0, hi, hz0, hz1, hz2⟩ := info_parts Tryz.infoEn
  by_cases h0 : n = 0
  · subst h0
    go_enter Tryz.func108, Tryz.ntmps108
    go_wp2
    go_ret
    exact ⟨_, _, rfl, World.ownsRow_nil _ _ _ _, Below.refl _ _⟩
  · have hr : ∀ ty, (Builtin.append_ #[22, 3] ty #[.slice none 0 0, .int .i64 (n : Int)]).run Tryz.prog w = _ := fun ty => Lib.run_append_nil_zeros w 22 3 ty 48 i0 _ .i64 .i64 Tryz.underlying22 Tryz.underlying3 hi hz0 n (by omega) (by omega) (by omega) (by rw [hz2]; omega)
    have hp : (0 : Int) < (n : Int) := by omega
    obtain ⟨G, hG⟩ : ∃ G, grownCap w n 0 48 = G := ⟨_, rfl⟩
    have hGm : G ≤ maxLen := by rw [← hG]; exact grownCap_le_maxLen w n 0 _ (by unfold maxLen; omega)
    have hGn : n ≤ G := by rw [← hG]; exact grownCap_ge w _ _ _
    rw [hG] at hr
    obtain ⟨cur, hcur⟩ : ∃ cur, Builtin.zeroCells (Value.agg #[.int .i64 0, .string ⟨#[]⟩]).cells n ++ Builtin.zeroCells (Value.agg #[.int .i64 0, .string ⟨#[]⟩]).cells (G - n) = cur := ⟨_, rfl⟩
    have hcs : cur.size = G * 2 := by
      rw [← hcur, Array.size_append, size_zeroCells, size_zeroCells]
      show n * 2 + (G - n) * 2 = G * 2
      omega
    rw [hcur] at hr
    have hown : (w.drew.alloc (.cells cur 48)).ownsRow w.heap.size 48 2 (.slice (some ⟨w.heap.size, 0, none⟩) 0 G) 0 [] := World.ownsRow_made w.drew cur G (Nat.le_refl _) hGm hcs
    have hbel : Below w.heap.size w (w.drew.alloc (.cells cur 48)) := (Below.refl _ w).drew.alloc (Nat.le_refl _) _
    clear hcur hcs hG
    unfold maxLen at hGm
    go_enter Tryz.func108, Tryz.ntmps108
    go_wp2_with (first
      | (at_builtin; refine Lib.wpList_append_run _ rfl _ _ _ _ rfl _ _ rfl rfl _ _ (hr _) ?_))
    go_ret
    exact ⟨_, _, rfl, hown, hbel⟩
theorem concatE_any (ao bo : Option Addr) (n m c d b : Nat) (cs1 cs2 : List Value) (hn : n ≤ 10000) (hm : m ≤ 10000) (w : World) (h1 : Held w ao n 2 cs1) (h2 : Held w bo m 2 cs2)
    (k0 : w.cell? ⟨b, 0, none⟩ = some (.slice ao n c)) (k1 : w.cell? ⟨b, 1, none⟩ = some (.slice bo m d)) :
    Calls Tryz.prog 100 #[.slice (some ⟨b, 0, none⟩) 2 2] w fun e w' => ∃ ao1 cap1, e = .returned (.slice ao1 (n + m) cap1) ∧ w'.ownsRow w.heap.size 48 2 (.slice ao1 (n + m) cap1) (n + m) (cs1 ++ cs2) ∧ Below w.heap.size w w' := by
  go_enter Tryz.func100, Tryz.ntmps100
  go_wp2
  go_loopw [3, 11] (fun sz i wr => ∃ k : Nat, k ≤ 2 ∧ i = .int .i64 (k : Int) ∧ w = wr ∧ ((k = 0 ∧ sz = .int .i64 0) ∨ (k = 1 ∧ sz = .int .i64 (n : Int)) ∨ (k = 2 ∧ sz = .int .i64 ((n : Int) + (m : Int))))) (fun _ i _ => 2 - (intOf i).toNat)
  case atStart => exact ⟨0, by omega, rfl, rfl, .inl ⟨rfl, rfl⟩⟩
  case round =>
    obtain ⟨k, hk, rfl, hw, hh⟩ := hrel
    subst hw
    rcases hh with ⟨rfl, rfl⟩ | ⟨rfl, rfl⟩ | ⟨rfl, rfl⟩
    · go_wp2
      go_roundw
      case rel => exact ⟨1, by omega, by go_num, trivial, .inr (.inl ⟨rfl, by go_num⟩)⟩
      case measure => simp [intOf]
    · go_wp2
      go_roundw
      case rel => exact ⟨2, by omega, by go_num, trivial, .inr (.inr ⟨rfl, by go_num⟩)⟩
      case measure => simp [intOf]
    · have hgrow := growE_any (n + m) (by omega) w
      rw [Int.natCast_add] at hgrow
      go_wp2_with (first
        | (go_at_call 108; refine hgrow.mono ?_; rintro e w1 ⟨ao1, cap1, rfl, hown1, hb1⟩))
      clear hgrow
      have hs1 := hb1.size
      go_loopw [6, 27] (fun v i wr => ∃ k : Nat, k ≤ 2 ∧ i = .int .i64 (k : Int) ∧ Below w.heap.size w wr ∧ Hid ((k = 0 ∧ wr.ownsRow w.heap.size 48 2 v 0 []) ∨ (k = 1 ∧ wr.ownsRow w.heap.size 48 2 v n cs1) ∨ (k = 2 ∧ wr.ownsRow w.heap.size 48 2 v (n + m) (cs1 ++ cs2)))) (fun _ i _ => 2 - (intOf i).toNat)
      case atStart => exact ⟨0, by omega, rfl, hb1, .inl ⟨rfl, hown1⟩⟩
      case round =>
        obtain ⟨k, hk, rfl, hbel, hh⟩ := hrel
        have hsz := hbel.size
        have e0 := (hbel.cell (cell_lt k0)).trans k0
        have e1 := (hbel.cell (cell_lt k1)).trans k1
        have g1 := src_next h1 hbel
        have g2 := src_next h2 hbel
        rcases hh.out with ⟨rfl, hown⟩ | ⟨rfl, hown⟩ | ⟨rfl, hown⟩
        · clear hh
          obtain ⟨ao2, cap2, rfl⟩ := own_form hown
          go_wp2_with (first
            | (at_builtin; refine wpList_app_g Tryz.underlying22 Tryz.infoEn (by decide) _ rfl _ _ rfl w.heap.size _ 0 [] rfl hown ao n c cs1 rfl g1 (by omega) hsz ?_; intro v3 w3 hown3 hgrow3 _))
          go_roundw
          case rel => exact ⟨1, by omega, by go_num, hbel.grown hgrow3 hsz (fun j hj => (hown.lt j hj).1), .inr (.inl ⟨rfl, by simpa using hown3⟩)⟩
          case measure => simp [intOf]
        · clear hh
          obtain ⟨ao2, cap2, rfl⟩ := own_form hown
          go_wp2_with (first
            | (at_builtin; refine wpList_app_g Tryz.underlying22 Tryz.infoEn (by decide) _ rfl _ _ rfl w.heap.size _ n cs1 rfl hown bo m d cs2 rfl g2 (by omega) hsz ?_; intro v3 w3 hown3 hgrow3 _))
          go_roundw
          case rel => exact ⟨2, by omega, by go_num, hbel.grown hgrow3 hsz (fun j hj => (hown.lt j hj).1), .inr (.inr ⟨rfl, hown3⟩)⟩
          case measure => simp [intOf]
        · clear hh
          obtain ⟨ao2, cap2, rfl⟩ := own_form hown
          go_wp2
          go_ret
          exact ⟨_, _, rfl, hown, hbel⟩
end Go.Proofs.YtajbdffepfjegaaGreat
