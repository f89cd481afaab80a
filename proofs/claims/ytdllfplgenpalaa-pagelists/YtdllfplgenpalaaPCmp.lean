/-
  Contracts: are two lists of pairs, or of pages, one?
-/
import Derived.Test.YtdllfplgenpalaaPMem
namespace Go.Proofs.Ytdllfplgenpalaa
open Go.RowKit Num
set_option linter.unusedVariables false

theorem low_pr {w : World} {p : Addr} {y : Pr} (hb : p.block < w.heap.size) (h : PrAt w p y) :
    (∀ z : Low w, z.wd.cell? p = some (.string y.key)) ∧ (∀ z : Low w, z.wd.cell? ⟨p.block, p.off + 1, none⟩ = some (.string y.val)) :=
  ⟨fun z => (z.cell hb).trans h.1, fun z => (z.cell (p := ⟨p.block, p.off + 1, none⟩) hb).trans h.2⟩
set_option maxHeartbeats 1000000 in
theorem pairs_same (ao0 ao1 : Option Addr) (cap0 cap1 : Nat) (l : List Pr) (hlen : l.length ≤ 1000000) (w : World) (hl0 : LiesPr w w.heap.size ao0 l) (hl1 : LiesPr w w.heap.size ao1 l) :
    Calls Try.prog 20 #[.slice ao0 l.length cap0, .slice ao1 l.length cap1] w fun e w' => e = .returned (.bool true) ∧ Below w.heap.size w w' := by
  go_enter Try.func20, Try.ntmps20
  go_wp2
  go_loopw [5] (fun i wr => ∃ k : Nat, k ≤ l.length ∧ i = .int .i64 (k : Int) ∧ Below w.heap.size w wr) (fun i _ => l.length - (intOf i).toNat)
  case atStart => exact ⟨0, by omega, rfl, Below.refl _ _⟩
  case round =>
    obtain ⟨k, hk, rfl, hbel⟩ := hrel
    by_cases hkl : k < l.length
    · obtain ⟨a0, rfl, hblk0, h0⟩ := (liesPr_next hl0 hbel hbel.size) k l[k] (List.getElem?_eq_getElem hkl)
      obtain ⟨a1, rfl, hblk1, h1⟩ := (liesPr_next hl1 hbel hbel.size) k l[k] (List.getElem?_eq_getElem hkl)
      obtain ⟨d00, d01⟩ := low_pr (by rw [Addr.block_add]; exact hblk0) h0
      obtain ⟨d10, d11⟩ := low_pr (by rw [Addr.block_add]; exact hblk1) h1
      clear h0 h1 hblk0 hblk1 hl0 hl1
      go_wp2_with fail
      refine wp_region_low (by kernel_rfl) (by kernel_rfl) fun hsome => ?_
      repeat (go_big_quiet_step (fail))
      refine wpQuiet_nil ?_
      rintro _ ⟨x, rfl⟩
      have hx := x.low
      go_wp2
      go_roundw
      case rel => exact ⟨k + 1, by omega, by go_num, below_next hbel (Nat.le_refl _) hx⟩
      case measure => simp [intOf]; omega
    · have hke : k = l.length := by omega
      subst hke
      go_wp2
      go_ret
      exact ⟨rfl, hbel⟩
set_option maxHeartbeats 1000000 in
theorem pages_same (ao0 ao1 : Option Addr) (cap0 cap1 : Nat) (ps : Pages) (hlen : ps.length ≤ 1000000) (hp4 : ∀ p ∈ ps, p.length ≤ 1000000) (w : World) (hl0 : LiesPg w w.heap.size ao0 ps) (hl1 : LiesPg w w.heap.size ao1 ps) :
    Calls Try.prog 13 #[.slice ao0 ps.length cap0, .slice ao1 ps.length cap1] w fun e w' => e = .returned (.bool true) ∧ Below w.heap.size w w' := by
  go_enter Try.func13, Try.ntmps13
  go_wp2
  go_loopw [5] (fun i wr => ∃ k : Nat, k ≤ ps.length ∧ i = .int .i64 (k : Int) ∧ Below w.heap.size w wr) (fun i _ => ps.length - (intOf i).toNat)
  case atStart => exact ⟨0, by omega, rfl, Below.refl _ _⟩
  case round =>
    obtain ⟨k, hk, rfl, hbel⟩ := hrel
    by_cases hkl : k < ps.length
    · have hlen2 := hp4 ps[k] (List.getElem_mem hkl)
      obtain ⟨a0, rfl, hblk0, b0, c0, d0, hl2, _⟩ := (liesPg_next hl0 hbel hbel.size) k ps[k] (List.getElem?_eq_getElem hkl)
      obtain ⟨a1, rfl, hblk1, b1, c1, d1, hl3, _⟩ := (liesPg_next hl1 hbel hbel.size) k ps[k] (List.getElem?_eq_getElem hkl)
      rw [Nat.mul_one] at d0 d1
      have e0 : ∀ z : Low wr, z.wd.cell? (a0.add k) = some (.slice b0 ps[k].length c0) := fun z => (z.cell (by rw [Addr.block_add]; exact hblk0)).trans d0
      have e1 : ∀ z : Low wr, z.wd.cell? (a1.add k) = some (.slice b1 ps[k].length c1) := fun z => (z.cell (by rw [Addr.block_add]; exact hblk1)).trans d1
      have hcall : ∀ z : Low wr, Calls Try.prog 20 #[.slice b0 ps[k].length c0, .slice b1 ps[k].length c1] z.wd fun e w'' => e = .returned (.bool true) ∧ ∃ y : Low wr, w'' = y.wd := fun z =>
        Calls.low_of (pairs_same b0 b1 c0 c1 ps[k] hlen2 z.wd (liesPr_next hl2 z.low z.low.size) (liesPr_next hl3 z.low z.low.size))
      clear d0 d1 hblk0 hblk1 hl0 hl1 hl2 hl3
      generalize ps[k] = p at *
      go_wp2_with fail
      refine wp_region_low (by kernel_rfl) (by kernel_rfl) fun hsome => ?_
      repeat (go_big_quiet_step (exact hcall _))
      refine wpQuiet_nil ?_
      rintro _ ⟨x, rfl⟩
      have hx := x.low
      go_wp2
      go_roundw
      case rel => exact ⟨k + 1, by omega, by go_num, below_next hbel (Nat.le_refl _) hx⟩
      case measure => simp [intOf]; omega
    · have hke : k = ps.length := by omega
      subst hke
      go_wp2
      go_ret
      exact ⟨rfl, hbel⟩
end Go.Proofs.Ytdllfplgenpalaa
