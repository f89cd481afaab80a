/-
  Proved: for every command the law CmdBack returns true: the bytes of a command that has some are read back by cmd.Get as that command, also when what was told is spoilt; what has none is told with no bytes (13.4), and the document's example holds; the command reads behind the call as before. No condition.
-/
import Derived.Test.YtbhaahkjglfjmaaRows
import Derived.Test.YtbhaahkjglfjmaaCPut
import Derived.Test.YtbhaahkjglfjmaaCGreat
import Derived.Test.YtbhaahkjglfjmaaCSpoil
import Derived.WalkKit
import Derived.ProofKit
import Derived.OpenShut
import Derived.ShutString
import Derived.Lib.SmallJoins
namespace Go.Proofs.Ytbhaahkjglfjmaa.cmdBack
open Go.ChangeShapes Go.WideShapes Go.ChangeAt Go.RowKit Go.Joins Num
open Go.ChangeMaps (open_string shut_string)
set_option linter.unusedVariables false

theorem own : ownKnob Try.prog.godebug = none := by kernel_rfl

open scoped Classical
set_option maxRecDepth 100000
set_option maxHeartbeats 4000000
theorem core_bad (c0 : Cmd) (s0 : Cs) (w : World) (hl0 : LiesC w w.heap.size s0 c0) (E : Int) (hE : ¬ E = 0)
    (hg : ∀ w, LiesC w w.heap.size s0 c0 → Calls Try.prog 8 #[.agg #[.int .i64 c0.kind, .int .i64 c0.client, .int .i64 c0.seq, .int .i64 c0.snap, .slice s0.ko c0.keys.length s0.kc, .slice s0.ro c0.rngs.length s0.rc, .slice s0.wo c0.wrts.length s0.wc, .int .i64 c0.dead, .int .i64 c0.aft, .int .i64 c0.held, .string c0.text, .int .i64 c0.code, .slice s0.xo c0.rows.length s0.xc]] w fun e w' => e = .returned (.bool false) ∧ Below w.heap.size w w')
    (h1 : ∀ w, LiesC w w.heap.size s0 c0 → Calls Try.prog 12 #[.agg #[.int .i64 c0.kind, .int .i64 c0.client, .int .i64 c0.seq, .int .i64 c0.snap, .slice s0.ko c0.keys.length s0.kc, .slice s0.ro c0.rngs.length s0.rc, .slice s0.wo c0.wrts.length s0.wc, .int .i64 c0.dead, .int .i64 c0.aft, .int .i64 c0.held, .string c0.text, .int .i64 c0.code, .slice s0.xo c0.rows.length s0.xc]] w fun e w' => e = .returned (.tuple #[.string ⟨#[]⟩, .int .i64 E]) ∧ Below w.heap.size w w') :
    Calls Try.prog 6 #[.agg #[.int .i64 c0.kind, .int .i64 c0.client, .int .i64 c0.seq, .int .i64 c0.snap, .slice s0.ko c0.keys.length s0.kc, .slice s0.ro c0.rngs.length s0.rc, .slice s0.wo c0.wrts.length s0.wc, .int .i64 c0.dead, .int .i64 c0.aft, .int .i64 c0.held, .string c0.text, .int .i64 c0.code, .slice s0.xo c0.rows.length s0.xc]] w fun e w' => e = .returned (.bool true) ∧ Below w.heap.size w w' := by
  have hbx := heap_new w (.cells #[.int .i64 c0.kind, .int .i64 c0.client, .int .i64 c0.seq, .int .i64 c0.snap, .slice s0.ko c0.keys.length s0.kc, .slice s0.ro c0.rngs.length s0.rc, .slice s0.wo c0.wrts.length s0.wc, .int .i64 c0.dead, .int .i64 c0.aft, .int .i64 c0.held, .string c0.text, .int .i64 c0.code, .slice s0.xo c0.rows.length s0.xc] 27)
  have hla := liesC_alloc hl0 (.cells #[.int .i64 c0.kind, .int .i64 c0.client, .int .i64 c0.seq, .int .i64 c0.snap, .slice s0.ko c0.keys.length s0.kc, .slice s0.ro c0.rngs.length s0.rc, .slice s0.wo c0.wrts.length s0.wc, .int .i64 c0.dead, .int .i64 c0.aft, .int .i64 c0.held, .string c0.text, .int .i64 c0.code, .slice s0.xo c0.rows.length s0.xc] 27)
  have hE1 : (E == 0) = false := by simp [hE]
  have hE2 : (E != 0) = true := by simp [hE]
  go_enter Try.func6, Try.ntmps6
  go_wp2_with (first
    | (go_at_call 8; refine (hg _ hla).mono ?_; rintro e w1 ⟨rfl, hb1⟩; have b1 := below_box hb1 hbx; have xc0 := box_cell b1 0 _ rfl; have xc1 := box_cell b1 1 _ rfl; have xc2 := box_cell b1 2 _ rfl; have xc3 := box_cell b1 3 _ rfl; have xc4 := box_cell b1 4 _ rfl; have xc5 := box_cell b1 5 _ rfl; have xc6 := box_cell b1 6 _ rfl; have xc7 := box_cell b1 7 _ rfl; have xc8 := box_cell b1 8 _ rfl; have xc9 := box_cell b1 9 _ rfl; have xc10 := box_cell b1 10 _ rfl; have xc11 := box_cell b1 11 _ rfl; have xc12 := box_cell b1 12 _ rfl; have hl1 := liesC_next hla hb1)
    | (go_at_call 12; refine (h1 _ hl1).mono ?_; rintro e w2 ⟨rfl, hb2⟩)
    | (go_at_call 14; refine (num_any _ _).mono ?_; rintro e w4 ⟨rfl, hw4⟩; have hq4 := hw4.symm; clear hw4; subst hq4)
    | (go_at_call 11; refine (awake_any _).mono ?_; rintro e w5 ⟨rfl, hb5⟩))
  go_ret
  exact ⟨rfl, below_next (below_next (below_box0 hb1) (Nat.le_refl _) hb2) (Nat.le_refl _) hb5⟩
theorem core_ok (c0 : Cmd) (s0 : Cs) (w : World) (hl0 : LiesC w w.heap.size s0 c0) (hz : LenC c0) (A : ByteArray)
    (hg : ∀ w, LiesC w w.heap.size s0 c0 → Calls Try.prog 8 #[.agg #[.int .i64 c0.kind, .int .i64 c0.client, .int .i64 c0.seq, .int .i64 c0.snap, .slice s0.ko c0.keys.length s0.kc, .slice s0.ro c0.rngs.length s0.rc, .slice s0.wo c0.wrts.length s0.wc, .int .i64 c0.dead, .int .i64 c0.aft, .int .i64 c0.held, .string c0.text, .int .i64 c0.code, .slice s0.xo c0.rows.length s0.xc]] w fun e w' => e = .returned (.bool false) ∧ Below w.heap.size w w')
    (h1 : ∀ w, LiesC w w.heap.size s0 c0 → Calls Try.prog 12 #[.agg #[.int .i64 c0.kind, .int .i64 c0.client, .int .i64 c0.seq, .int .i64 c0.snap, .slice s0.ko c0.keys.length s0.kc, .slice s0.ro c0.rngs.length s0.rc, .slice s0.wo c0.wrts.length s0.wc, .int .i64 c0.dead, .int .i64 c0.aft, .int .i64 c0.held, .string c0.text, .int .i64 c0.code, .slice s0.xo c0.rows.length s0.xc]] w fun e w' => e = .returned (.tuple #[.string A, .int .i64 0]) ∧ Below w.heap.size w w')
    (hget : ∀ w, Calls Try.prog 15 #[.string A] w fun e w' => ∃ t : Cs, e = .returned (.tuple #[.agg #[.int .i64 c0.kind, .int .i64 c0.client, .int .i64 c0.seq, .int .i64 c0.snap, .slice t.ko c0.keys.length t.kc, .slice t.ro c0.rngs.length t.rc, .slice t.wo c0.wrts.length t.wc, .int .i64 c0.dead, .int .i64 c0.aft, .int .i64 c0.held, .string c0.text, .int .i64 c0.code, .slice t.xo c0.rows.length t.xc], .int .i64 0]) ∧ OwnC w.heap.size w' t c0 ∧ Below w.heap.size w w')
    (hsame : ∀ t w, LiesC w w.heap.size s0 c0 → LiesC w w.heap.size t c0 → Calls Try.prog 16 #[.agg #[.int .i64 c0.kind, .int .i64 c0.client, .int .i64 c0.seq, .int .i64 c0.snap, .slice s0.ko c0.keys.length s0.kc, .slice s0.ro c0.rngs.length s0.rc, .slice s0.wo c0.wrts.length s0.wc, .int .i64 c0.dead, .int .i64 c0.aft, .int .i64 c0.held, .string c0.text, .int .i64 c0.code, .slice s0.xo c0.rows.length s0.xc], .agg #[.int .i64 c0.kind, .int .i64 c0.client, .int .i64 c0.seq, .int .i64 c0.snap, .slice t.ko c0.keys.length t.kc, .slice t.ro c0.rngs.length t.rc, .slice t.wo c0.wrts.length t.wc, .int .i64 c0.dead, .int .i64 c0.aft, .int .i64 c0.held, .string c0.text, .int .i64 c0.code, .slice t.xo c0.rows.length t.xc]] w fun e w' => e = .returned (.bool true) ∧ Below w.heap.size w w') :
    Calls Try.prog 6 #[.agg #[.int .i64 c0.kind, .int .i64 c0.client, .int .i64 c0.seq, .int .i64 c0.snap, .slice s0.ko c0.keys.length s0.kc, .slice s0.ro c0.rngs.length s0.rc, .slice s0.wo c0.wrts.length s0.wc, .int .i64 c0.dead, .int .i64 c0.aft, .int .i64 c0.held, .string c0.text, .int .i64 c0.code, .slice s0.xo c0.rows.length s0.xc]] w fun e w' => e = .returned (.bool true) ∧ Below w.heap.size w w' := by
  obtain ⟨_, _, z3, z4, z5⟩ := hz
  have hbx := heap_new w (.cells #[.int .i64 c0.kind, .int .i64 c0.client, .int .i64 c0.seq, .int .i64 c0.snap, .slice s0.ko c0.keys.length s0.kc, .slice s0.ro c0.rngs.length s0.rc, .slice s0.wo c0.wrts.length s0.wc, .int .i64 c0.dead, .int .i64 c0.aft, .int .i64 c0.held, .string c0.text, .int .i64 c0.code, .slice s0.xo c0.rows.length s0.xc] 27)
  have hla := liesC_alloc hl0 (.cells #[.int .i64 c0.kind, .int .i64 c0.client, .int .i64 c0.seq, .int .i64 c0.snap, .slice s0.ko c0.keys.length s0.kc, .slice s0.ro c0.rngs.length s0.rc, .slice s0.wo c0.wrts.length s0.wc, .int .i64 c0.dead, .int .i64 c0.aft, .int .i64 c0.held, .string c0.text, .int .i64 c0.code, .slice s0.xo c0.rows.length s0.xc] 27)
  go_enter Try.func6, Try.ntmps6
  go_wp2_with (first
    | (go_at_call 8; refine (hg _ hla).mono ?_; rintro e w1 ⟨rfl, hb1⟩; have b1 := below_box hb1 hbx; have xc0 := box_cell b1 0 _ rfl; have xc1 := box_cell b1 1 _ rfl; have xc2 := box_cell b1 2 _ rfl; have xc3 := box_cell b1 3 _ rfl; have xc4 := box_cell b1 4 _ rfl; have xc5 := box_cell b1 5 _ rfl; have xc6 := box_cell b1 6 _ rfl; have xc7 := box_cell b1 7 _ rfl; have xc8 := box_cell b1 8 _ rfl; have xc9 := box_cell b1 9 _ rfl; have xc10 := box_cell b1 10 _ rfl; have xc11 := box_cell b1 11 _ rfl; have xc12 := box_cell b1 12 _ rfl; have hl1 := liesC_next hla hb1)
    | (go_at_call 12; refine (h1 _ hl1).mono ?_; rintro e w2 ⟨rfl, hb2⟩; have b2 := below_box hb2 b1; have hl2 := liesC_next hl1 hb2; have hbel2 : Below w.heap.size w w2 := below_next (below_box0 hb1) (Nat.le_refl _) hb2)
    | (go_at_call 15; refine (hget _).mono ?_; rintro e w3 ⟨t, rfl, hO3, hb3⟩; have hl3 := hO3.lies; have b3 := alloc_box (.cells #[.int .i64 c0.kind, .int .i64 c0.client, .int .i64 c0.seq, .int .i64 c0.snap, .slice t.ko c0.keys.length t.kc, .slice t.ro c0.rngs.length t.rc, .slice t.wo c0.wrts.length t.wc, .int .i64 c0.dead, .int .i64 c0.aft, .int .i64 c0.held, .string c0.text, .int .i64 c0.code, .slice t.xo c0.rows.length t.xc] 27) (below_box hb3 b2); have d0 := box_cell b3 0 _ rfl; have d1 := box_cell b3 1 _ rfl; have d2 := box_cell b3 2 _ rfl; have d3 := box_cell b3 3 _ rfl; have d4 := box_cell b3 4 _ rfl; have d5 := box_cell b3 5 _ rfl; have d6 := box_cell b3 6 _ rfl; have d7 := box_cell b3 7 _ rfl; have d8 := box_cell b3 8 _ rfl; have d9 := box_cell b3 9 _ rfl; have d10 := box_cell b3 10 _ rfl; have d11 := box_cell b3 11 _ rfl; have d12 := box_cell b3 12 _ rfl)
    | (go_at_call 16; refine (hsame t _ (liesC_next (liesC_next hl2 hb3) ((Below.refl _ _).alloc (Nat.le_refl _) (.cells #[.int .i64 c0.kind, .int .i64 c0.client, .int .i64 c0.seq, .int .i64 c0.snap, .slice t.ko c0.keys.length t.kc, .slice t.ro c0.rngs.length t.rc, .slice t.wo c0.wrts.length t.wc, .int .i64 c0.dead, .int .i64 c0.aft, .int .i64 c0.held, .string c0.text, .int .i64 c0.code, .slice t.xo c0.rows.length t.xc] 27))) (liesC_alloc hl3 (.cells #[.int .i64 c0.kind, .int .i64 c0.client, .int .i64 c0.seq, .int .i64 c0.snap, .slice t.ko c0.keys.length t.kc, .slice t.ro c0.rngs.length t.rc, .slice t.wo c0.wrts.length t.wc, .int .i64 c0.dead, .int .i64 c0.aft, .int .i64 c0.held, .string c0.text, .int .i64 c0.code, .slice t.xo c0.rows.length t.xc] 27))).mono ?_; rintro e w5 ⟨rfl, hb5⟩)
    | (go_at_call 14; refine (num_any _ _).mono ?_; rintro e w4 ⟨rfl, hw4⟩; have hq4 := hw4.symm; clear hw4; subst hq4))
  have b5 := below_box hb5 b3
  have y5 := below_box hb5 (heap_new w3 (.cells #[.int .i64 c0.kind, .int .i64 c0.client, .int .i64 c0.seq, .int .i64 c0.snap, .slice t.ko c0.keys.length t.kc, .slice t.ro c0.rngs.length t.rc, .slice t.wo c0.wrts.length t.wc, .int .i64 c0.dead, .int .i64 c0.aft, .int .i64 c0.held, .string c0.text, .int .i64 c0.code, .slice t.xo c0.rows.length t.xc] 27))
  have sh5 : Shape w3 w5 := shape_below ((below_box0 hb5))
  have hw5 := spW_shape (sp1_of hO3.wrts) sh5
  have hr5 := spR_shape (spR_of hO3.rows) sh5
  have hlow5 : Below w2.heap.size w2 w5 := hb3.trans ((below_box0 hb5).mono hb3.size)
  clear hO3 hl3 b3 d0 d1 d2 d3 d4 d5 d6 d7 d8 d9 d10 d11 d12 xc0 xc1 xc2 xc3 xc4 xc5 xc6 xc7 xc8 xc9 xc10 xc11 xc12 hbx hla hl1 hl2 sh5
  go_loopw [8] (fun i wr => ∃ k : Nat, k ≤ c0.wrts.length ∧ i = .int .i64 (k : Int) ∧ Sp1 41 3 wr w2.heap.size t.wo c0.wrts.length ∧ SpR wr w2.heap.size t.xo c0.rows ∧ Below w2.heap.size w2 wr ∧ Hid (wr.heap[w3.heap.size]? = some (.cells #[.int .i64 c0.kind, .int .i64 c0.client, .int .i64 c0.seq, .int .i64 c0.snap, .slice t.ko c0.keys.length t.kc, .slice t.ro c0.rngs.length t.rc, .slice t.wo c0.wrts.length t.wc, .int .i64 c0.dead, .int .i64 c0.aft, .int .i64 c0.held, .string c0.text, .int .i64 c0.code, .slice t.xo c0.rows.length t.xc] 27 (0, 0)))) (fun i _ => c0.wrts.length - (intOf i).toNat)
  case atStart => exact ⟨0, by omega, rfl, hw5, hr5, hlow5, y5⟩
  case round =>
    clear hw5 hr5 hlow5 y5 b5
    obtain ⟨k, hk, rfl, hsw, hsr, hlow, HY⟩ := hrel
    have y6 := box_cell HY.out 6 _ rfl
    by_cases hkl : k < c0.wrts.length
    · obtain ⟨g, cur, he, hBg, hgc, hcz⟩ := hsw (by omega)
      rw [he] at y6
      obtain ⟨u1, hu1⟩ := cell_in hgc (show k * 3 < cur.size by omega)
      have fz1 := box_open hgc (k * 3)
      have hsh := shape_wrt (o := k * 3) hgc (.string ⟨#[63]⟩)
      have hsw2 := spW_shape hsw hsh
      have hsr2 := spR_shape hsr hsh
      have hlow2 := hlow.setCell (p := ⟨g, k * 3, none⟩) hBg (.string ⟨#[63]⟩)
      have hne : w3.heap.size ≠ g := by
        intro e
        rw [← e, HY.out] at hgc
        simp at hgc
      have HY2 : Hid _ := set_far (i := k * 3) hne HY.out (.string ⟨#[63]⟩)
      have i1 : (k : Int) < (c0.wrts.length : Int) := by omega
      clear he hsw hsr hlow hsh HY hgc hcz hne
      go_wp2
      go_roundw
      case rel => exact ⟨k + 1, by omega, by go_num, hsw2, hsr2, hlow2, HY2⟩
      case measure => simp [intOf]; omega
    · have i1 : ¬ (k : Int) < (c0.wrts.length : Int) := by omega
      clear hsw
      go_wp2
      clear y6
      rename World => WB
      go_loopw [9] (fun i wr => ∃ k : Nat, k ≤ c0.rows.length ∧ i = .int .i64 (k : Int) ∧ SpR wr w2.heap.size t.xo c0.rows ∧ Below w2.heap.size w2 wr ∧ Hid (wr.heap[w3.heap.size]? = some (.cells #[.int .i64 c0.kind, .int .i64 c0.client, .int .i64 c0.seq, .int .i64 c0.snap, .slice t.ko c0.keys.length t.kc, .slice t.ro c0.rngs.length t.rc, .slice t.wo c0.wrts.length t.wc, .int .i64 c0.dead, .int .i64 c0.aft, .int .i64 c0.held, .string c0.text, .int .i64 c0.code, .slice t.xo c0.rows.length t.xc] 27 (0, 0)))) (fun i _ => c0.rows.length - (intOf i).toNat)
      case atStart => exact ⟨0, by omega, rfl, hsr, hlow, HY⟩
      case round =>
        clear hsr hlow HY i1
        obtain ⟨k2, hk2, rfl, hsr, hlow, HY⟩ := hrel
        have y12 := box_cell HY.out 12 _ rfl
        by_cases hkl2 : k2 < c0.rows.length
        · have hyl := z5 _ (List.getElem_mem hkl2)
          have i2 : (k2 : Int) < (c0.rows.length : Int) := by omega
          obtain ⟨g, cur, he, hgc, a, cap, hc, _⟩ := hsr k2 c0.rows[k2] (List.getElem?_eq_getElem hkl2)
          have HE : Hid (t.xo = some ⟨g, 0, none⟩) := he
          rw [he] at y12
          clear he
          have hrow : Hid (c0.rows[k2]? = some c0.rows[k2]) := List.getElem?_eq_getElem hkl2
          have e0 := box_cell hgc k2 _ hc
          generalize c0.rows[k2] = y at *
          clear hgc hc
          go_wp2
          clear y12 e0
          rename World => WC
          go_loopw [10] (fun i wr => ∃ m : Nat, m ≤ y.length ∧ i = .int .i64 (m : Int) ∧ SpR wr w2.heap.size t.xo c0.rows ∧ Below w2.heap.size w2 wr ∧ Hid (wr.heap[w3.heap.size]? = some (.cells #[.int .i64 c0.kind, .int .i64 c0.client, .int .i64 c0.seq, .int .i64 c0.snap, .slice t.ko c0.keys.length t.kc, .slice t.ro c0.rngs.length t.rc, .slice t.wo c0.wrts.length t.wc, .int .i64 c0.dead, .int .i64 c0.aft, .int .i64 c0.held, .string c0.text, .int .i64 c0.code, .slice t.xo c0.rows.length t.xc] 27 (0, 0)))) (fun i _ => y.length - (intOf i).toNat)
          case atStart => exact ⟨0, by omega, rfl, hsr, hlow, HY⟩
          case round =>
            clear hsr hlow HY
            obtain ⟨m, hm, rfl, hsr, hlow, HY⟩ := hrel
            have y12 := box_cell HY.out 12 _ rfl
            rw [HE.out] at y12
            obtain ⟨g', cur, he, hgc, a, cap, hc, hv⟩ := hsr k2 y hrow.out
            obtain rfl : g' = g := by
              have := HE.out.symm.trans he
              simp at this
              exact this.symm
            clear he
            have e0 := box_cell hgc k2 _ hc
            by_cases hml : m < y.length
            · have i3 : (m : Int) < (y.length : Int) := by omega
              obtain ⟨gv, curv, rfl, hBv, hgv, hvz⟩ := hv (by omega)
              obtain ⟨u2, hu2⟩ := cell_in hgv (show m * 4 < curv.size by omega)
              have fz2 := box_open hgv (m * 4)
              have hsh := shape_val (o := m * 4) hgv (.int .i64 9)
              have hsr2 := spR_shape hsr hsh
              have hlow2 := hlow.setCell (p := ⟨gv, m * 4, none⟩) hBv (.int .i64 9)
              have hne : w3.heap.size ≠ gv := by
                intro e
                rw [← e, HY.out] at hgv
                simp at hgv
              have HY2 : Hid _ := set_far (i := m * 4) hne HY.out (.int .i64 9)
              clear hsr hlow hsh HY hgc hc hgv hvz hne hv
              go_wp2
              go_roundw
              case rel => exact ⟨m + 1, by omega, by go_num, hsr2, hlow2, HY2⟩
              case measure => simp [intOf]; omega
            · have i3 : ¬ (m : Int) < (y.length : Int) := by omega
              clear hgc hc hv
              go_wp2
              go_roundw
              case rel => exact ⟨k2 + 1, by omega, by go_num, hsr, hlow, HY⟩
              case measure => simp [intOf]; omega
        · have i2 : ¬ (k2 : Int) < (c0.rows.length : Int) := by omega
          rename World => WD
          have hbelr : Below w.heap.size w WD := hbel2.trans (hlow.mono hbel2.size)
          have hlr := liesC_next hl0 hbelr
          have bxr : WD.heap[w.heap.size]? = some (.cells #[.int .i64 c0.kind, .int .i64 c0.client, .int .i64 c0.seq, .int .i64 c0.snap, .slice s0.ko c0.keys.length s0.kc, .slice s0.ro c0.rngs.length s0.rc, .slice s0.wo c0.wrts.length s0.wc, .int .i64 c0.dead, .int .i64 c0.aft, .int .i64 c0.held, .string c0.text, .int .i64 c0.code, .slice s0.xo c0.rows.length s0.xc] 27 (0, 0)) := by
            rw [hlow.block w.heap.size (by have := (Array.getElem?_eq_some_iff.1 b2).1; omega)]
            exact b2
          go_wp2_with (first
            | (go_at_call 15; refine (hget _).mono ?_; rintro e w8 ⟨t8, rfl, hO8, hb8⟩; have hl8 := hO8.lies; have b8 := alloc_box (.cells #[.int .i64 c0.kind, .int .i64 c0.client, .int .i64 c0.seq, .int .i64 c0.snap, .slice t8.ko c0.keys.length t8.kc, .slice t8.ro c0.rngs.length t8.rc, .slice t8.wo c0.wrts.length t8.wc, .int .i64 c0.dead, .int .i64 c0.aft, .int .i64 c0.held, .string c0.text, .int .i64 c0.code, .slice t8.xo c0.rows.length t8.xc] 27) (below_box hb8 bxr); have d0 := box_cell b8 0 _ rfl; have d1 := box_cell b8 1 _ rfl; have d2 := box_cell b8 2 _ rfl; have d3 := box_cell b8 3 _ rfl; have d4 := box_cell b8 4 _ rfl; have d5 := box_cell b8 5 _ rfl; have d6 := box_cell b8 6 _ rfl; have d7 := box_cell b8 7 _ rfl; have d8 := box_cell b8 8 _ rfl; have d9 := box_cell b8 9 _ rfl; have d10 := box_cell b8 10 _ rfl; have d11 := box_cell b8 11 _ rfl; have d12 := box_cell b8 12 _ rfl)
            | (go_at_call 16; refine (hsame t8 _ (liesC_next (liesC_next hlr hb8) ((Below.refl _ _).alloc (Nat.le_refl _) (.cells #[.int .i64 c0.kind, .int .i64 c0.client, .int .i64 c0.seq, .int .i64 c0.snap, .slice t8.ko c0.keys.length t8.kc, .slice t8.ro c0.rngs.length t8.rc, .slice t8.wo c0.wrts.length t8.wc, .int .i64 c0.dead, .int .i64 c0.aft, .int .i64 c0.held, .string c0.text, .int .i64 c0.code, .slice t8.xo c0.rows.length t8.xc] 27))) (liesC_alloc hl8 (.cells #[.int .i64 c0.kind, .int .i64 c0.client, .int .i64 c0.seq, .int .i64 c0.snap, .slice t8.ko c0.keys.length t8.kc, .slice t8.ro c0.rngs.length t8.rc, .slice t8.wo c0.wrts.length t8.wc, .int .i64 c0.dead, .int .i64 c0.aft, .int .i64 c0.held, .string c0.text, .int .i64 c0.code, .slice t8.xo c0.rows.length t8.xc] 27))).mono ?_; rintro e w9 ⟨rfl, hb9⟩)
            | (go_at_call 11; refine (awake_any _).mono ?_; rintro e w10 ⟨rfl, hb10⟩))
          go_ret
          exact ⟨rfl, below_next (below_next (below_next hbelr (Nat.le_refl _) hb8) (Nat.le_refl _) (below_box0 hb9)) (Nat.le_refl _) hb10⟩

theorem walk (c0 : Cmd) (hin0 : CmdIn c0) (s0 : Cs) (w : World) (hl0 : LiesC w w.heap.size s0 c0) :
    Calls Try.prog 6 #[.agg #[.int .i64 c0.kind, .int .i64 c0.client, .int .i64 c0.seq, .int .i64 c0.snap, .slice s0.ko c0.keys.length s0.kc, .slice s0.ro c0.rngs.length s0.rc, .slice s0.wo c0.wrts.length s0.wc, .int .i64 c0.dead, .int .i64 c0.aft, .int .i64 c0.held, .string c0.text, .int .i64 c0.code, .slice s0.xo c0.rows.length s0.xc]] w fun e w' => e = .returned (.bool true) ∧ Below w.heap.size w w' := by
  have hg := fun w h => great_any c0 s0 w h
  have hla := liesC_alloc hl0 (.cells #[.int .i64 c0.kind, .int .i64 c0.client, .int .i64 c0.seq, .int .i64 c0.snap, .slice s0.ko c0.keys.length s0.kc, .slice s0.ro c0.rngs.length s0.rc, .slice s0.wo c0.wrts.length s0.wc, .int .i64 c0.dead, .int .i64 c0.aft, .int .i64 c0.held, .string c0.text, .int .i64 c0.code, .slice s0.xo c0.rows.length s0.xc] 27)
  by_cases q : ¬ SmallC c0
  · rw [tru_yes q] at hg
    go_enter Try.func6, Try.ntmps6
    go_wp2_with (first
      | (go_at_call 8; refine (hg _ hla).mono ?_; rintro e w1 ⟨rfl, hb1⟩)
      | (go_at_call 11; refine (awake_any _).mono ?_; rintro e w5 ⟨rfl, hb5⟩))
    go_ret
    exact ⟨rfl, below_next (below_box0 hb1) (Nat.le_refl _) hb5⟩
  · rw [tru_no q] at hg
    have hsm : SmallC c0 := Classical.not_not.1 q
    clear hla
    by_cases hx : CmdOk c0
    · have hlen := cmd_len hx hsm
      by_cases hz : (cmdB c0).length ≤ 19996
      · have hsz : ¬ 20000 < ((str (sealL (cmdB c0))).size : Int) := by rw [str_size, sealL_len]; omega
        have ho : openL (str (sealL (cmdB c0))).data.toList = some (cmdB c0) := by rw [str_data]; exact open_seal (cmdB c0)
        exact core_ok c0 s0 w hl0 (lenC_of hx) _ hg (dput_yes c0 hx hz s0) (dget_yes _ hsz (cmdB c0) ho (by omega) c0 [] (rdCmd_fwd c0 hx hin0) (dput_yes c0 hx hz)) (fun t w ha hb => cmd_same c0 (lenC_of hx) s0 t w ha hb)
      · exact core_bad c0 s0 w hl0 2 (by omega) hg (dput_long c0 hx (by omega) (by omega) s0)
    · exact core_bad c0 s0 w hl0 1 (by omega) hg (dput_no c0 hx s0)

set_option maxRecDepth 100000 in
theorem lifted (os : Os) (started : os.Started) (H : Type) (enc : TypeId × Value → H) :
    ReturnsInHanded {} Try.checked os 6 .any (Rows.cmdBackSpec.pre6 enc Try.prog Try.f6 Rows.cmdBackRow.domain false) (Rows.cmdBackSpec.post enc Try.prog Try.f6 false true false false) := by
  refine returnsInHanded_of_change (C := Try.checked) own started (by kernel_rfl) Try.func6
    (ChangeSpec.witness6 (enc := enc) (C := Try.checked) false ⟨#[], #[.agg #[.int .i64 0, .int .i64 0, .int .i64 0, .int .i64 0, .slice none 0 0, .slice none 0 0, .slice none 0 0, .int .i64 0, .int .i64 0, .int .i64 0, .string ⟨#[]⟩, .int .i64 0, .slice none 0 0]], []⟩ 8 (by kernel_rfl) (by kernel_rfl) (by kernel_rfl) (by kernel_rfl)) ?_
  intro W base args ds gs before hval0 hW hcnd _
  have hval : ∀ (j : Nat) t v, Try.f6.params[j]? = some t → args[j]? = some v → Value.okWide Try.prog W .any base t v := hval0
  have hW' := hW
  have hWk := hW
  obtain ⟨p, q, hA0, hV, rfl, hfz, hnd⟩ := hW
  have hA : DataW.TrodAll enc Try.prog W 0 (fun _ => true) true Try.f6.params.toList args.toList ds p := hA0
  rw [Try.params6] at hA hval
  obtain ⟨v0, vs0, d0, ds0, p0, q0, hargs, rfl, rfl, h0, rt0⟩ := trodAll_cons hA
  obtain ⟨rfl, rfl, rfl⟩ := trodAll_nil rt0
  obtain rfl : args = #[v0] := by cases args; simp_all
  obtain ⟨rfl, rfl⟩ := trodVars_none hV
  have hk0 := h0
  obtain ⟨c0, s0, rfl, hin0, hlies0⟩ := open_cmd (hval 0 27 v0 rfl rfl) h0
  have hlt0 : ∀ x ∈ p0, x.block < W.heap.size := fun x hx => by simpa using hWk.lt x (by simp [hx])
  clear hA0 hval0
  simp only [List.append_nil] at hW'

  refine (walk c0 hin0 s0 W hlies0).mono fun e W' ⟨he, hg⟩ => ?_
  subst he
  exact ⟨_, rfl, _, _, _, [], _, [], hW', trodAll_cons_mk (shut_bool Try.underlying4 _) trodAll_mk0, (trodAll_cons_mk (Below.trod Try.laidOut (by kernel_rfl) (of_decide_eq_true (by kernel_rfl)) hk0 hg hlt0) trodAll_mk0), rfl, hg.frame _, fun h => by cases h⟩

theorem over : Rows.cmdBackRow.holds Try.pinned (OpenSpec.ofChange Rows.cmdBackSpec) :=
  OpenClaim.holds_of_wide 6 Try.f6 rfl rfl rfl rfl rfl rfl rfl ⟨rfl, rfl, rfl, rfl, rfl⟩ rfl rfl rfl rfl rfl (by kernel_rfl) Try.func6 (by kernel_rfl)
    (of_decide_eq_true (by kernel_rfl)) (by unfold Func.isWrapper; first | (rw [if_pos (by decide +kernel)]; kernel_rfl) | (rw [if_neg (by decide +kernel)]; exact ⟨rfl, rfl⟩))
    (fun os started H enc _ => lifted os started H enc)

theorem proved : Rows.CmdBackSaid :=
  over
#print axioms proved
end Go.Proofs.Ytbhaahkjglfjmaa.cmdBack
