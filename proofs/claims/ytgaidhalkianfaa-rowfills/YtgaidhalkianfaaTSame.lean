/-
  Contracts: are two lists of values one?
-/
import Derived.Test.YtgaidhalkianfaaTPut
import Derived.Test.YtgaidhalkianfaaVLow
namespace Go.Proofs.Ytgaidhalkianfaa
open Go.RowKit Num
set_option linter.unusedVariables false

theorem low_cells {w : World} {a : Addr} {i : Nat} {x : Val} (hb : a.block < w.heap.size) (h0 : w.cell? (a.add (i * 4)) = some (.int .i64 x.k)) (h1 : w.cell? ⟨(a.add (i * 4)).block, (a.add (i * 4)).off + 1, none⟩ = some (.int .i64 x.n)) (h2 : w.cell? ⟨(a.add (i * 4)).block, (a.add (i * 4)).off + 2, none⟩ = some (.int .u64 (x.f : Int))) (h3 : w.cell? ⟨(a.add (i * 4)).block, (a.add (i * 4)).off + 3, none⟩ = some (.string x.s)) :
    (∀ y : Low w, y.wd.cell? (a.add (i * 4)) = some (.int .i64 x.k)) ∧ (∀ y : Low w, y.wd.cell? ⟨(a.add (i * 4)).block, (a.add (i * 4)).off + 1, none⟩ = some (.int .i64 x.n)) ∧ (∀ y : Low w, y.wd.cell? ⟨(a.add (i * 4)).block, (a.add (i * 4)).off + 2, none⟩ = some (.int .u64 (x.f : Int))) ∧ (∀ y : Low w, y.wd.cell? ⟨(a.add (i * 4)).block, (a.add (i * 4)).off + 3, none⟩ = some (.string x.s)) := by
  have hb' : (a.add (i * 4)).block < w.heap.size := by rw [Addr.block_add]; exact hb
  exact ⟨fun y => (y.cell hb').trans h0, fun y => (y.cell (p := ⟨(a.add (i * 4)).block, (a.add (i * 4)).off + 1, none⟩) hb').trans h1, fun y => (y.cell (p := ⟨(a.add (i * 4)).block, (a.add (i * 4)).off + 2, none⟩) hb').trans h2, fun y => (y.cell (p := ⟨(a.add (i * 4)).block, (a.add (i * 4)).off + 3, none⟩) hb').trans h3⟩

theorem same_any (ao0 ao1 : Option Addr) (cap0 cap1 : Nat) (l : List Val) (hlen : l.length ≤ 1000000) (w : World) (hl0 : Lies w w.heap.size ao0 l) (hl1 : Lies w w.heap.size ao1 l) :
    Calls Try.prog 17 #[.slice ao0 l.length cap0, .slice ao1 l.length cap1] w fun e w' => e = .returned (.bool true) ∧ Below w.heap.size w w' := by
  go_enter Try.func17, Try.ntmps17
  go_wp2
  go_loopw [5] (fun i wr => ∃ k : Nat, k ≤ l.length ∧ i = .int .i64 (k : Int) ∧ Below w.heap.size w wr) (fun i _ => l.length - (intOf i).toNat)
  case atStart => exact ⟨0, by omega, rfl, Below.refl _ _⟩
  case round =>
    obtain ⟨k, hk, rfl, hbel⟩ := hrel
    by_cases hkl : k < l.length
    · obtain ⟨a0, rfl, hblk0, c00, c01, c02, c03⟩ := (lies_next hl0 hbel) k l[k] (List.getElem?_eq_getElem hkl)
      obtain ⟨a1, rfl, hblk1, c10, c11, c12, c13⟩ := (lies_next hl1 hbel) k l[k] (List.getElem?_eq_getElem hkl)
      obtain ⟨d00, d01, d02, d03⟩ := low_cells hblk0 c00 c01 c02 c03
      obtain ⟨d10, d11, d12, d13⟩ := low_cells hblk1 c10 c11 c12 c13
      clear c00 c01 c02 c03 c10 c11 c12 c13 hblk0 hblk1 hl0 hl1
      go_wp2_with fail
      refine wp_region_low (by kernel_rfl) (by kernel_rfl) fun hsome => ?_
      repeat (go_big_quiet_step (fail))
      refine wpQuiet_nil ?_
      rintro _ ⟨x, rfl⟩
      have hx := x.low
      go_wp2
      go_roundw
      case rel => exact ⟨k + 1, by omega, by go_num, below_next hbel (Nat.le_refl _) hx⟩
      case measure => simp [intOf]; omega
    · have hke : k = l.length := by omega
      subst hke
      go_wp2
      go_ret
      exact ⟨rfl, hbel⟩
end Go.Proofs.Ytgaidhalkianfaa
