/-
  Contracts: are two logs, or two lists of messages, one? Of one list that lies twice.
-/
import Derived.Test.YtgdehjdajjhjpaaMsMem
import Derived.Deep.QuietTactic
import Derived.BigRegion
namespace Go.Proofs.Ytgdehjdajjhjpaa
open Go.RowKit Num
set_option linter.unusedVariables false

theorem low_en {w : World} {p : Addr} {y : Ent} (hb : p.block < w.heap.size) (h : EnAt w p y) :
    (∀ z : Low w, z.wd.cell? p = some (.int .i64 y.time)) ∧ (∀ z : Low w, z.wd.cell? ⟨p.block, p.off + 1, none⟩ = some (.string y.data)) :=
  ⟨fun z => (z.cell hb).trans h.1, fun z => (z.cell (p := ⟨p.block, p.off + 1, none⟩) hb).trans h.2⟩
set_option maxHeartbeats 1000000 in
theorem logs_same (ao0 ao1 : Option Addr) (cap0 cap1 : Nat) (l : List Ent) (hlen : l.length ≤ 1000000) (w : World) (hl0 : LiesE w w.heap.size ao0 l) (hl1 : LiesE w w.heap.size ao1 l) :
    Calls Try.prog 25 #[.slice ao0 l.length cap0, .slice ao1 l.length cap1] w fun e w' => e = .returned (.bool true) ∧ Below w.heap.size w w' := by
  go_enter Try.func25, Try.ntmps25
  go_wp2
  go_loopw [5] (fun i wr => ∃ k : Nat, k ≤ l.length ∧ i = .int .i64 (k : Int) ∧ Below w.heap.size w wr) (fun i _ => l.length - (intOf i).toNat)
  case atStart => exact ⟨0, by omega, rfl, Below.refl _ _⟩
  case round =>
    obtain ⟨k, hk, rfl, hbel⟩ := hrel
    by_cases hkl : k < l.length
    · obtain ⟨a0, rfl, hblk0, h0⟩ := (liesE_next hl0 hbel hbel.size) k l[k] (List.getElem?_eq_getElem hkl)
      obtain ⟨a1, rfl, hblk1, h1⟩ := (liesE_next hl1 hbel hbel.size) k l[k] (List.getElem?_eq_getElem hkl)
      obtain ⟨d00, d01⟩ := low_en (by rw [Addr.block_add]; exact hblk0) h0
      obtain ⟨d10, d11⟩ := low_en (by rw [Addr.block_add]; exact hblk1) h1
      clear h0 h1 hblk0 hblk1 hl0 hl1
      go_wp2_with fail
      refine wp_region_low (by kernel_rfl) (by kernel_rfl) fun hsome => ?_
      repeat (go_big_quiet_step (fail))
      refine wpQuiet_nil ?_
      rintro _ ⟨x, rfl⟩
      have hx := x.low
      go_wp2
      go_roundw
      case rel => exact ⟨k + 1, by omega, by go_num, below_next hbel (Nat.le_refl _) hx⟩
      case measure => simp [intOf]; omega
    · have hke : k = l.length := by omega
      subst hke
      go_wp2
      go_ret
      exact ⟨rfl, hbel⟩
set_option maxRecDepth 100000 in
set_option maxHeartbeats 2000000 in
theorem msgs_same (ao bo : Option Addr) (ac bc : Nat) (l : Msgs) (hlen : l.length ≤ 1000000) (hlog : ∀ m ∈ l, m.log.length ≤ 1000000) (w : World) (ha : LiesM w w.heap.size ao l) (hb : LiesM w w.heap.size bo l) :
    Calls Try.prog 18 #[.slice ao l.length ac, .slice bo l.length bc] w fun e w' => e = .returned (.bool true) ∧ Below w.heap.size w w' := by
  go_enter Try.func18, Try.ntmps18
  go_wp2
  go_loopw [5] (fun i wr => ∃ k : Nat, k ≤ l.length ∧ i = .int .i64 (k : Int) ∧ Below w.heap.size w wr) (fun i _ => l.length - (intOf i).toNat)
  case atStart => exact ⟨0, by omega, rfl, Below.refl _ _⟩
  case round =>
    obtain ⟨k, hk, rfl, hbel⟩ := hrel
    by_cases hkl : k < l.length
    · have hy8 := hlog _ (List.getElem_mem hkl)
      obtain ⟨a, rfl, _, e0, e1, e2, e3, e4, e5, e6, bo4, bc4, e7, hl4⟩ := (liesM_next ha hbel hbel.size) k l[k] (List.getElem?_eq_getElem hkl)
      obtain ⟨b, rfl, _, f0, f1, f2, f3, f4, f5, f6, bo5, bc5, f7, hm4⟩ := (liesM_next hb hbel hbel.size) k l[k] (List.getElem?_eq_getElem hkl)
      have i1 : (k : Int) < (l.length : Int) := by omega
      generalize l[k] = y at *
      have hint : ∀ W', Below wr.heap.size wr W' → Calls Try.prog 25 #[.slice bo4 y.log.length bc4, .slice bo5 y.log.length bc5] W' fun e w' => e = .returned (.bool true) ∧ Below W'.heap.size W' w' := fun W' hb => logs_same bo4 bo5 bc4 bc5 y.log hy8 W' (liesE_next hl4 hb hb.size) (liesE_next hm4 hb hb.size)
      have e0z := fun o : Obj => alloc_cell o e0
      have e0zz := fun o o2 : Obj => alloc_cell o2 (e0z o)
      have e1z := fun o : Obj => alloc_cell o e1
      have e1zz := fun o o2 : Obj => alloc_cell o2 (e1z o)
      have e2z := fun o : Obj => alloc_cell o e2
      have e2zz := fun o o2 : Obj => alloc_cell o2 (e2z o)
      have e3z := fun o : Obj => alloc_cell o e3
      have e3zz := fun o o2 : Obj => alloc_cell o2 (e3z o)
      have e4z := fun o : Obj => alloc_cell o e4
      have e4zz := fun o o2 : Obj => alloc_cell o2 (e4z o)
      have e5z := fun o : Obj => alloc_cell o e5
      have e5zz := fun o o2 : Obj => alloc_cell o2 (e5z o)
      have e6z := fun o : Obj => alloc_cell o e6
      have e6zz := fun o o2 : Obj => alloc_cell o2 (e6z o)
      have e7z := fun o : Obj => alloc_cell o e7
      have e7zz := fun o o2 : Obj => alloc_cell o2 (e7z o)
      have f0z := fun o : Obj => alloc_cell o f0
      have f0zz := fun o o2 : Obj => alloc_cell o2 (f0z o)
      have f1z := fun o : Obj => alloc_cell o f1
      have f1zz := fun o o2 : Obj => alloc_cell o2 (f1z o)
      have f2z := fun o : Obj => alloc_cell o f2
      have f2zz := fun o o2 : Obj => alloc_cell o2 (f2z o)
      have f3z := fun o : Obj => alloc_cell o f3
      have f3zz := fun o o2 : Obj => alloc_cell o2 (f3z o)
      have f4z := fun o : Obj => alloc_cell o f4
      have f4zz := fun o o2 : Obj => alloc_cell o2 (f4z o)
      have f5z := fun o : Obj => alloc_cell o f5
      have f5zz := fun o o2 : Obj => alloc_cell o2 (f5z o)
      have f6z := fun o : Obj => alloc_cell o f6
      have f6zz := fun o o2 : Obj => alloc_cell o2 (f6z o)
      have f7z := fun o : Obj => alloc_cell o f7
      have f7zz := fun o o2 : Obj => alloc_cell o2 (f7z o)
      go_wp2
      go_region
      all_goals
        clear e0z e0zz e1z e1zz e2z e2zz e3z e3zz e4z e4zz e5z e5zz e6z e6zz e7z e7zz f0z f0zz f1z f1zz f2z f2zz f3z f3zz f4z f4zz f5z f5zz f6z f6zz f7z f7zz
        go_wp2_with (first
          | (go_at_call 25; refine (hint _ ((((Below.refl _ wr).alloc (Nat.le_refl _) _).alloc (by simp) _).drew)).mono ?_; rintro e w5 ⟨rfl, hb5⟩))
        go_roundw
        case rel => exact ⟨k + 1, by omega, by go_num, below_next hbel (Nat.le_refl _) (below_next ((((Below.refl _ wr).alloc (Nat.le_refl _) _).alloc (by simp) _).drew) (Nat.le_refl _) hb5)⟩
        case measure => simp [intOf]; omega
    · go_wp2
      go_ret
      exact ⟨rfl, hbel⟩
end Go.Proofs.Ytgdehjdajjhjpaa
