/-
  Contracts: are two logs, or two lists of messages, one? Of one list that lies twice.
-/
import Derived.Test.YthnbaijkhhbelaaGreatMsMem
import Derived.Deep.QuietTactic
import Derived.BigRegion
namespace Go.Proofs.YthnbaijkhhbelaaGreat
open Go.RowKit Num
set_option linter.unusedVariables false
set_option maxRecDepth 100000

theorem low_en {w : World} {p : Addr} {y : Ent} (hb : p.block < w.heap.size) (h : EnAt w p y) :
    (∀ z : Low w, z.wd.cell? p = some (.int .i64 y.time)) ∧ (∀ z : Low w, z.wd.cell? ⟨p.block, p.off + 1, none⟩ = some (.string y.data)) :=
  ⟨fun z => (z.cell hb).trans h.1, fun z => (z.cell (p := ⟨p.block, p.off + 1, none⟩) hb).trans h.2⟩
set_option maxHeartbeats 1000000 in
theorem logs_same (ao0 ao1 : Option Addr) (cap0 cap1 : Nat) (l : List Ent) (hlen : l.length ≤ 1000000) (w : World) (hl0 : LiesE w w.heap.size ao0 l) (hl1 : LiesE w w.heap.size ao1 l) :
    Calls Tryz.prog 19 #[.slice ao0 l.length cap0, .slice ao1 l.length cap1] w fun e w' => e = .returned (.bool true) ∧ Below w.heap.size w w' := by
  go_enter Tryz.func19, Tryz.ntmps19
  go_wp2
  go_loopw [5] (fun i wr => ∃ k : Nat, k ≤ l.length ∧ i = .int .i64 (k : Int) ∧ Below w.heap.size w wr) (fun i _ => l.length - (intOf i).toNat)
  case atStart => exact ⟨0, by omega, rfl, Below.refl _ _⟩
  case round =>
    obtain ⟨k, hk, rfl, hbel⟩ := hrel
    by_cases hkl : k < l.length
    · obtain ⟨a0, rfl, hblk0, h0⟩ := (liesE_next hl0 hbel hbel.size) k l[k] (List.getElem?_eq_getElem hkl)
      obtain ⟨a1, rfl, hblk1, h1⟩ := (liesE_next hl1 hbel hbel.size) k l[k] (List.getElem?_eq_getElem hkl)
      obtain ⟨d00, d01⟩ := low_en (by rw [Addr.block_add]; exact hblk0) h0
      obtain ⟨d10, d11⟩ := low_en (by rw [Addr.block_add]; exact hblk1) h1
      clear h0 h1 hblk0 hblk1 hl0 hl1
      go_wp2_with fail
      refine wp_region_low (by kernel_rfl) (by kernel_rfl) fun hsome => ?_
      repeat (go_big_quiet_step (fail))
      refine wpQuiet_nil ?_
      rintro _ ⟨x, rfl⟩
      have hx := x.low
      go_wp2
      go_roundw
      case rel => exact ⟨k + 1, by omega, by go_num, below_next hbel (Nat.le_refl _) hx⟩
      case measure => simp [intOf]; omega
    · have hke : k = l.length := by omega
      subst hke
      go_wp2
      go_ret
      exact ⟨rfl, hbel⟩
end Go.Proofs.YthnbaijkhhbelaaGreat
