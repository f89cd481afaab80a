/-
  Contracts: the document's own: are two commands one? Of one command that lies twice.
-/
import Derived.Test.YtdmkmhjalcfchaaCMem
import Derived.Deep.QuietTactic
import Derived.BigRegion
namespace Go.Proofs.Ytdmkmhjalcfchaa
open Go.RowKit Num
set_option maxRecDepth 100000
set_option linter.unusedVariables false
set_option maxRecDepth 100000

theorem texts_same (ao : Option Addr) (ac : Nat) (bo : Option Addr) (bc : Nat) (l : List ByteArray) (hl : l.length ≤ 1000000) (w : World) (ha : LiesS w w.heap.size ao l) (hb : LiesS w w.heap.size bo l) :
    Calls Try.prog 45 #[.slice ao l.length ac, .slice bo l.length bc] w fun e w' => e = .returned (.bool true) ∧ Below w.heap.size w w' := by
  go_enter Try.func45, Try.ntmps45
  go_wp2
  go_loopw [5] (fun i wr => ∃ k : Nat, k ≤ l.length ∧ i = .int .i64 (k : Int) ∧ Below w.heap.size w wr) (fun i _ => l.length - (intOf i).toNat)
  case atStart => exact ⟨0, by omega, rfl, Below.refl _ _⟩
  case round =>
    obtain ⟨k, hk, rfl, hbel⟩ := hrel
    by_cases hkl : k < l.length
    · obtain ⟨a, rfl, _, e0⟩ := (ha.below TxtAt.fast hbel) k l[k] (List.getElem?_eq_getElem hkl)
      obtain ⟨b, rfl, _, f0⟩ := (hb.below TxtAt.fast hbel) k l[k] (List.getElem?_eq_getElem hkl)
      rw [Nat.mul_one] at e0 f0
      unfold TxtAt at e0 f0
      have i1 : (k : Int) < (l.length : Int) := by omega
      generalize l[k] = d at *
      go_wp2
      go_quiet (fail)
      go_wp2
      go_roundw
      case rel => exact ⟨k + 1, by omega, by go_num, below_drewN hbel _⟩
      case measure => simp [intOf]; omega
    · have i1 : ¬ (k : Int) < (l.length : Int) := by omega
      go_wp2
      go_ret
      exact ⟨rfl, hbel⟩
theorem rngs_same (ao : Option Addr) (ac : Nat) (bo : Option Addr) (bc : Nat) (l : List Rng) (hl : l.length ≤ 1000000) (w : World) (ha : LiesQ w w.heap.size ao l) (hb : LiesQ w w.heap.size bo l) :
    Calls Try.prog 46 #[.slice ao l.length ac, .slice bo l.length bc] w fun e w' => e = .returned (.bool true) ∧ Below w.heap.size w w' := by
  go_enter Try.func46, Try.ntmps46
  go_wp2
  go_loopw [5] (fun i wr => ∃ k : Nat, k ≤ l.length ∧ i = .int .i64 (k : Int) ∧ Below w.heap.size w wr) (fun i _ => l.length - (intOf i).toNat)
  case atStart => exact ⟨0, by omega, rfl, Below.refl _ _⟩
  case round =>
    obtain ⟨k, hk, rfl, hbel⟩ := hrel
    by_cases hkl : k < l.length
    · obtain ⟨a, rfl, _, e0, e1⟩ := (ha.below RngAt.fast hbel) k l[k] (List.getElem?_eq_getElem hkl)
      obtain ⟨b, rfl, _, f0, f1⟩ := (hb.below RngAt.fast hbel) k l[k] (List.getElem?_eq_getElem hkl)
      have i1 : (k : Int) < (l.length : Int) := by omega
      generalize l[k] = d at *
      go_wp2
      go_quiet (fail)
      go_wp2
      go_roundw
      case rel => exact ⟨k + 1, by omega, by go_num, below_drewN hbel _⟩
      case measure => simp [intOf]; omega
    · have i1 : ¬ (k : Int) < (l.length : Int) := by omega
      go_wp2
      go_ret
      exact ⟨rfl, hbel⟩
theorem wrts_same (ao : Option Addr) (ac : Nat) (bo : Option Addr) (bc : Nat) (l : List Wrt) (hl : l.length ≤ 1000000) (w : World) (ha : LiesW w w.heap.size ao l) (hb : LiesW w w.heap.size bo l) :
    Calls Try.prog 47 #[.slice ao l.length ac, .slice bo l.length bc] w fun e w' => e = .returned (.bool true) ∧ Below w.heap.size w w' := by
  go_enter Try.func47, Try.ntmps47
  go_wp2
  go_loopw [5] (fun i wr => ∃ k : Nat, k ≤ l.length ∧ i = .int .i64 (k : Int) ∧ Below w.heap.size w wr) (fun i _ => l.length - (intOf i).toNat)
  case atStart => exact ⟨0, by omega, rfl, Below.refl _ _⟩
  case round =>
    obtain ⟨k, hk, rfl, hbel⟩ := hrel
    by_cases hkl : k < l.length
    · obtain ⟨a, rfl, _, e0, e1, e2⟩ := (ha.below WrtAt.fast hbel) k l[k] (List.getElem?_eq_getElem hkl)
      obtain ⟨b, rfl, _, f0, f1, f2⟩ := (hb.below WrtAt.fast hbel) k l[k] (List.getElem?_eq_getElem hkl)
      have i1 : (k : Int) < (l.length : Int) := by omega
      generalize l[k] = d at *
      go_wp2
      go_quiet (fail)
      go_wp2
      go_roundw
      case rel => exact ⟨k + 1, by omega, by go_num, below_drewN hbel _⟩
      case measure => simp [intOf]; omega
    · have i1 : ¬ (k : Int) < (l.length : Int) := by omega
      go_wp2
      go_ret
      exact ⟨rfl, hbel⟩
theorem vals_same (ao : Option Addr) (ac : Nat) (bo : Option Addr) (bc : Nat) (l : List Val) (hl : l.length ≤ 1000000) (w : World) (ha : LiesVal w w.heap.size ao l) (hb : LiesVal w w.heap.size bo l) :
    Calls Try.prog 61 #[.slice ao l.length ac, .slice bo l.length bc] w fun e w' => e = .returned (.bool true) ∧ Below w.heap.size w w' := by
  go_enter Try.func61, Try.ntmps61
  go_wp2
  go_loopw [5] (fun i wr => ∃ k : Nat, k ≤ l.length ∧ i = .int .i64 (k : Int) ∧ Below w.heap.size w wr) (fun i _ => l.length - (intOf i).toNat)
  case atStart => exact ⟨0, by omega, rfl, Below.refl _ _⟩
  case round =>
    obtain ⟨k, hk, rfl, hbel⟩ := hrel
    by_cases hkl : k < l.length
    · obtain ⟨a, rfl, _, e0, e1, e2, e3⟩ := (ha.below ValAt.fast hbel) k l[k] (List.getElem?_eq_getElem hkl)
      obtain ⟨b, rfl, _, f0, f1, f2, f3⟩ := (hb.below ValAt.fast hbel) k l[k] (List.getElem?_eq_getElem hkl)
      have i1 : (k : Int) < (l.length : Int) := by omega
      generalize l[k] = d at *
      go_wp2
      go_quiet (fail)
      go_wp2
      go_roundw
      case rel => exact ⟨k + 1, by omega, by go_num, below_drewN hbel _⟩
      case measure => simp [intOf]; omega
    · have i1 : ¬ (k : Int) < (l.length : Int) := by omega
      go_wp2
      go_ret
      exact ⟨rfl, hbel⟩
set_option maxHeartbeats 2000000 in
theorem rows_sameC (ao : Option Addr) (ac : Nat) (bo : Option Addr) (bc : Nat) (l : List (List Val)) (hl : l.length ≤ 1000000) (hs : ∀ y ∈ l, y.length ≤ 1000000) (w : World) (ha : LiesX w w.heap.size ao l) (hb : LiesX w w.heap.size bo l) :
    Calls Try.prog 48 #[.slice ao l.length ac, .slice bo l.length bc] w fun e w' => e = .returned (.bool true) ∧ Below w.heap.size w w' := by
  go_enter Try.func48, Try.ntmps48
  go_wp2
  go_loopw [5] (fun i wr => ∃ k : Nat, k ≤ l.length ∧ i = .int .i64 (k : Int) ∧ Below w.heap.size w wr) (fun i _ => l.length - (intOf i).toNat)
  case atStart => exact ⟨0, by omega, rfl, Below.refl _ _⟩
  case round =>
    obtain ⟨k, hk, rfl, hbel⟩ := hrel
    by_cases hkl : k < l.length
    · have hy := hs _ (List.getElem_mem hkl)
      obtain ⟨a, rfl, _, ao2, ac2, e0, hl2⟩ := (ha.below RowAt.fast hbel) k l[k] (List.getElem?_eq_getElem hkl)
      obtain ⟨b, rfl, _, bo2, bc2, f0, hm2⟩ := (hb.below RowAt.fast hbel) k l[k] (List.getElem?_eq_getElem hkl)
      rw [Nat.mul_one] at e0 f0
      have i1 : (k : Int) < (l.length : Int) := by omega
      generalize l[k] = y at *
      have hsz := hbel.size
      have hl2' := hl2.mono hsz (fun _ _ h => h)
      have hm2' := hm2.mono hsz (fun _ _ h => h)
      rename World => W2
      have hc : ∀ y' : Low W2, _ := fun y' => vals_same ao2 ac2 bo2 bc2 y hy y'.wd (liesVal_next hl2' y'.low) (liesVal_next hm2' y'.low)
      have p0 := fun y' : Low W2 => (y'.cell (cell_lt e0)).trans e0
      have r0 := fun y' : Low W2 => (y'.cell (cell_lt f0)).trans f0
      go_wp2_with fail
      refine wp_region_low (by kernel_rfl) (by kernel_rfl) fun hsome => ?_
      repeat (go_big_quiet_step (first
        | (go_at_call 61; refine Calls.low_of (hc _))))
      refine wpQuiet_nil ?_
      rintro _ ⟨x5, rfl⟩
      clear p0 r0 hc
      go_wp2
      go_roundw
      case rel => exact ⟨k + 1, by omega, by go_num, below_next hbel (Nat.le_refl _) x5.low⟩
      case measure => simp [intOf]; omega
    · have i1 : ¬ (k : Int) < (l.length : Int) := by omega
      go_wp2
      go_ret
      exact ⟨rfl, hbel⟩
/-- How long the lists of a command are. -/
def Num.LenC (c : Cmd) : Prop := c.keys.length ≤ 1000000 ∧ c.rngs.length ≤ 1000000 ∧ c.wrts.length ≤ 1000000 ∧ c.rows.length ≤ 1000000 ∧ ∀ y ∈ c.rows, y.length ≤ 1000000
set_option maxHeartbeats 4000000 in
theorem cmd_same (c : Cmd) (hz : LenC c) (s t : Cs) (w : World) (ha : LiesC w w.heap.size s c) (hb : LiesC w w.heap.size t c) :
    Calls Try.prog 22 #[.agg #[.int .i64 c.kind, .int .i64 c.client, .int .i64 c.seq, .int .i64 c.snap, .slice s.ko c.keys.length s.kc, .slice s.ro c.rngs.length s.rc, .slice s.wo c.wrts.length s.wc, .int .i64 c.dead, .int .i64 c.aft, .int .i64 c.held, .string c.text, .int .i64 c.code, .slice s.xo c.rows.length s.xc], .agg #[.int .i64 c.kind, .int .i64 c.client, .int .i64 c.seq, .int .i64 c.snap, .slice t.ko c.keys.length t.kc, .slice t.ro c.rngs.length t.rc, .slice t.wo c.wrts.length t.wc, .int .i64 c.dead, .int .i64 c.aft, .int .i64 c.held, .string c.text, .int .i64 c.code, .slice t.xo c.rows.length t.xc]] w fun e w' => e = .returned (.bool true) ∧ Below w.heap.size w w' := by
  obtain ⟨z1, z2, z3, z4, z5⟩ := hz
  have hbW : Below w.heap.size w ((w.alloc (.cells #[.int .i64 c.kind, .int .i64 c.client, .int .i64 c.seq, .int .i64 c.snap, .slice s.ko c.keys.length s.kc, .slice s.ro c.rngs.length s.rc, .slice s.wo c.wrts.length s.wc, .int .i64 c.dead, .int .i64 c.aft, .int .i64 c.held, .string c.text, .int .i64 c.code, .slice s.xo c.rows.length s.xc] 48)).alloc (.cells #[.int .i64 c.kind, .int .i64 c.client, .int .i64 c.seq, .int .i64 c.snap, .slice t.ko c.keys.length t.kc, .slice t.ro c.rngs.length t.rc, .slice t.wo c.wrts.length t.wc, .int .i64 c.dead, .int .i64 c.aft, .int .i64 c.held, .string c.text, .int .i64 c.code, .slice t.xo c.rows.length t.xc] 48)) := ((Below.refl _ _).alloc (Nat.le_refl _) _).alloc (by simp) _
  have hba : ((w.alloc (.cells #[.int .i64 c.kind, .int .i64 c.client, .int .i64 c.seq, .int .i64 c.snap, .slice s.ko c.keys.length s.kc, .slice s.ro c.rngs.length s.rc, .slice s.wo c.wrts.length s.wc, .int .i64 c.dead, .int .i64 c.aft, .int .i64 c.held, .string c.text, .int .i64 c.code, .slice s.xo c.rows.length s.xc] 48)).alloc (.cells #[.int .i64 c.kind, .int .i64 c.client, .int .i64 c.seq, .int .i64 c.snap, .slice t.ko c.keys.length t.kc, .slice t.ro c.rngs.length t.rc, .slice t.wo c.wrts.length t.wc, .int .i64 c.dead, .int .i64 c.aft, .int .i64 c.held, .string c.text, .int .i64 c.code, .slice t.xo c.rows.length t.xc] 48)).heap[w.heap.size]? = some (.cells #[.int .i64 c.kind, .int .i64 c.client, .int .i64 c.seq, .int .i64 c.snap, .slice s.ko c.keys.length s.kc, .slice s.ro c.rngs.length s.rc, .slice s.wo c.wrts.length s.wc, .int .i64 c.dead, .int .i64 c.aft, .int .i64 c.held, .string c.text, .int .i64 c.code, .slice s.xo c.rows.length s.xc] 48 (0, 0)) := alloc_box _ (heap_new w _)
  have hbb : ((w.alloc (.cells #[.int .i64 c.kind, .int .i64 c.client, .int .i64 c.seq, .int .i64 c.snap, .slice s.ko c.keys.length s.kc, .slice s.ro c.rngs.length s.rc, .slice s.wo c.wrts.length s.wc, .int .i64 c.dead, .int .i64 c.aft, .int .i64 c.held, .string c.text, .int .i64 c.code, .slice s.xo c.rows.length s.xc] 48)).alloc (.cells #[.int .i64 c.kind, .int .i64 c.client, .int .i64 c.seq, .int .i64 c.snap, .slice t.ko c.keys.length t.kc, .slice t.ro c.rngs.length t.rc, .slice t.wo c.wrts.length t.wc, .int .i64 c.dead, .int .i64 c.aft, .int .i64 c.held, .string c.text, .int .i64 c.code, .slice t.xo c.rows.length t.xc] 48)).heap[w.heap.size + 1]? = some (.cells #[.int .i64 c.kind, .int .i64 c.client, .int .i64 c.seq, .int .i64 c.snap, .slice t.ko c.keys.length t.kc, .slice t.ro c.rngs.length t.rc, .slice t.wo c.wrts.length t.wc, .int .i64 c.dead, .int .i64 c.aft, .int .i64 c.held, .string c.text, .int .i64 c.code, .slice t.xo c.rows.length t.xc] 48 (0, 0)) := by
    have h := heap_new (w.alloc (.cells #[.int .i64 c.kind, .int .i64 c.client, .int .i64 c.seq, .int .i64 c.snap, .slice s.ko c.keys.length s.kc, .slice s.ro c.rngs.length s.rc, .slice s.wo c.wrts.length s.wc, .int .i64 c.dead, .int .i64 c.aft, .int .i64 c.held, .string c.text, .int .i64 c.code, .slice s.xo c.rows.length s.xc] 48)) (.cells #[.int .i64 c.kind, .int .i64 c.client, .int .i64 c.seq, .int .i64 c.snap, .slice t.ko c.keys.length t.kc, .slice t.ro c.rngs.length t.rc, .slice t.wo c.wrts.length t.wc, .int .i64 c.dead, .int .i64 c.aft, .int .i64 c.held, .string c.text, .int .i64 c.code, .slice t.xo c.rows.length t.xc] 48)
    simpa using h
  have hla := liesC_next ha hbW
  have hlb := liesC_next hb hbW
  have k1 := texts_same s.ko s.kc t.ko t.kc c.keys z1 _ hla.keys hlb.keys
  have k2 : ∀ w1, LiesC w1 w1.heap.size s c → LiesC w1 w1.heap.size t c → _ := fun w1 h1 h2 => rngs_same s.ro s.rc t.ro t.rc c.rngs z2 w1 h1.rngs h2.rngs
  have k3 : ∀ w1, LiesC w1 w1.heap.size s c → LiesC w1 w1.heap.size t c → _ := fun w1 h1 h2 => wrts_same s.wo s.wc t.wo t.wc c.wrts z3 w1 h1.wrts h2.wrts
  have k4 : ∀ w1, LiesC w1 w1.heap.size s c → LiesC w1 w1.heap.size t c → _ := fun w1 h1 h2 => rows_sameC s.xo s.xc t.xo t.xc c.rows z4 z5 w1 h1.rows h2.rows
  clear ha hb z1 z2 z3 z4 z5
  go_enter Try.func22, Try.ntmps22
  go_wp2_with (first
    | (go_at_call 45; refine k1.mono ?_; rintro e w1 ⟨rfl, hb1⟩; have b1 := below_box hb1 hba; have d1 := below_box hb1 hbb; have la1 := liesC_next hla hb1; have lb1 := liesC_next hlb hb1; have p5 := box_cell b1 5 _ rfl; have q5 := box_cell d1 5 _ rfl)
    | (go_at_call 46; refine (k2 _ la1 lb1).mono ?_; rintro e w2 ⟨rfl, hb2⟩; have b2 := below_box hb2 b1; have d2 := below_box hb2 d1; have la2 := liesC_next la1 hb2; have lb2 := liesC_next lb1 hb2; have p6 := box_cell b2 6 _ rfl; have q6 := box_cell d2 6 _ rfl)
    | (go_at_call 47; refine (k3 _ la2 lb2).mono ?_; rintro e w3 ⟨rfl, hb3⟩; have b3 := below_box hb3 b2; have d3 := below_box hb3 d2; have la3 := liesC_next la2 hb3; have lb3 := liesC_next lb2 hb3; have p12 := box_cell b3 12 _ rfl; have q12 := box_cell d3 12 _ rfl)
    | (go_at_call 48; refine (k4 _ la3 lb3).mono ?_; rintro e w4 ⟨rfl, hb4⟩))
  go_ret
  exact ⟨rfl, below_next (below_next (below_next (below_next hbW (Nat.le_refl _) hb1) (Nat.le_refl _) hb2) (Nat.le_refl _) hb3) (Nat.le_refl _) hb4⟩
end Go.Proofs.Ytdmkmhjalcfchaa
