/-
  Joined:
  Contracts of a machine's checks: when, again, needs, turned.
  Contracts of a machine's checks: needs.
  Contracts of a machine's checks: has something that a command read changed since?
  Contracts of a machine's checks: turned; the nine checks, each a function of its own.
-/
import Derived.Test.YtclliljkmmpglaaGreatApM
namespace Go.Proofs.YtclliljkmmpglaaGreat
open Go.RowKit Go.Maps Num
open scoped Classical
set_option linter.unusedVariables false
set_option maxRecDepth 100000

abbrev Num.verdV (p : Int × Int) : Value := .agg #[.int .i64 p.1, .int .i64 p.2]
abbrev Num.cmV (s : Cs) (c : Cmd) : Value := .agg #[.int .i64 c.kind, .int .i64 c.client, .int .i64 c.seq, .int .i64 c.snap, .slice s.ko c.keys.length s.kc, .slice s.ro c.rngs.length s.rc, .slice s.wo c.wrts.length s.wc, .int .i64 c.dead, .int .i64 c.aft, .int .i64 c.held, .string c.text, .int .i64 c.code, .slice s.xo c.rows.length s.xc]
theorem when_any (b : Bool) (kind code : Int) (w : World) : Calls Tryz.prog 71 #[.bool b, .int .i64 kind, .int .i64 code] w fun e w' => e = .returned (verdV (whenV b kind code)) ∧ Below w.heap.size w w' := by
  cases b
  · have q := heap_new w (.cells #[.int .i64 0, .int .i64 0] 96)
    have q0 := box_cell q 0 _ rfl
    have q1 := box_cell q 1 _ rfl
    go_enter Tryz.func71, Tryz.ntmps71
    go_wp2
    refine bodyPost_ret (v := verdV (0, 0)) (by simp [results, Tryz.results71, go_sem, q0, q1]) rfl ⟨rfl, (Below.refl _ _).alloc (Nat.le_refl _) _⟩
  · have q := heap_new w (.cells #[.int .i64 kind, .int .i64 code] 96)
    have q0 := box_cell q 0 _ rfl
    have q1 := box_cell q 1 _ rfl
    go_enter Tryz.func71, Tryz.ntmps71
    go_wp2
    refine bodyPost_ret (v := verdV (kind, code)) (by simp [results, Tryz.results71, go_sem, q0, q1]) rfl ⟨rfl, (Below.refl _ _).alloc (Nat.le_refl _) _⟩
abbrev Num.cmCells (s : Cs) (c : Cmd) : Obj := .cells #[.int .i64 c.kind, .int .i64 c.client, .int .i64 c.seq, .int .i64 c.snap, .slice s.ko c.keys.length s.kc, .slice s.ro c.rngs.length s.rc, .slice s.wo c.wrts.length s.wc, .int .i64 c.dead, .int .i64 c.aft, .int .i64 c.held, .string c.text, .int .i64 c.code, .slice s.xo c.rows.length s.xc] 41
abbrev Num.agW (w : World) (s : Cs) (c : Cmd) : World := (w.alloc (cmCells s c)).alloc (.cells #[.int .i64 0, .int .i64 0] 96)
set_option maxRecDepth 100000 in
set_option maxHeartbeats 1000000 in
theorem again_any (B g gs cap : Nat) (m : Mac) (ao : Option Addr) (lv : Value) (s : Cs) (c : Cmd) (hc : 0 ≤ c.client ∧ c.client ≤ 100) (w : World) (h : HoldM B w g m gs ao cap lv) :
    Calls Tryz.prog 74 #[.pointer (some ⟨g, 0, none⟩), cmV s c] w fun e w' => e = .returned (verdV (againV (m.last c.client) c.seq)) ∧ Below w.heap.size w w' := by
  have hb0 : Below w.heap.size w (agW w s c) := ((Below.refl _ w).alloc (Nat.le_refl _) _).alloc (by simp) _
  have hb1 : ∀ o, Below w.heap.size w ((agW w s c).alloc o) := fun o => hb0.alloc hb0.size o
  have c4 := (mac_cells (h.below hb0)).2.2.2.2
  have c4' : ∀ o, ((agW w s c).alloc o).cell? ⟨g, 4, none⟩ = some lv := fun o => (mac_cells (h.below (hb1 o))).2.2.2.2
  have hrun := run_last (w := (agW w s c).drew) (h.below hb0).last.drew hc
  have hrun' := fun o => run_last (w := ((agW w s c).alloc o).drew) (h.below (hb1 o)).last.drew hc
  clear h
  cases hl : m.last c.client with
  | none =>
    rw [hl] at hrun hrun'
    show Calls _ _ _ _ fun e w' => e = .returned (verdV (0, 0)) ∧ _
    have hrun2 : (Instr.lookup 87 lv (.int .i64 c.client) true).run Tryz.prog (agW w s c).drew = .ok (.tuple #[.agg #[.int .i64 0, .int .i64 0], .bool false]) (agW w s c).drew := hrun
    have hrun3 : ∀ o, (Instr.lookup 87 lv (.int .i64 c.client) true).run Tryz.prog ((agW w s c).alloc o).drew = .ok (.tuple #[.agg #[.int .i64 0, .int .i64 0], .bool false]) ((agW w s c).alloc o).drew := hrun'
    have hb2 : Below w.heap.size w ((w.alloc (cmCells s c)).alloc (.cells #[.int .i64 0, .int .i64 0] 96)) := ((Below.refl _ w).alloc (Nat.le_refl _) _).alloc (by simp) _
    have hb3 : Below w.heap.size w (((w.alloc (cmCells s c)).alloc (.cells #[.int .i64 0, .int .i64 0] 96)).alloc (.cells #[.int .i64 0, .int .i64 0] 103)) := hb2.alloc hb2.size _
    have q2 : (((w.alloc (cmCells s c)).alloc (.cells #[.int .i64 0, .int .i64 0] 96)).alloc (.cells #[.int .i64 0, .int .i64 0] 103)).heap[w.heap.size + 1]? = some (.cells #[.int .i64 0, .int .i64 0] 96 (0, 0)) := alloc_box _ (heap_newB _ _ _ (by simp))
    have q0 := box_cell q2 0 _ rfl
    have q1 := box_cell q2 1 _ rfl
    clear hrun hrun' q2 hb0 hb1 hb2 hl
    go_enter Tryz.func74, Tryz.ntmps74
    go_wp2
    go_region
    go_wp2
    refine bodyPost_ret (v := verdV (0, 0)) (by simp [results, Tryz.results74, go_sem, q0, q1]) rfl ⟨rfl, hb3.drew⟩
  | some p =>
    obtain ⟨q, k⟩ := p
    rw [hl] at hrun hrun'
    by_cases h1 : q < c.seq
    · rw [show againV (some (q, k)) c.seq = (0, 0) from if_pos h1]
      have h2 : decide (q < c.seq) = true := decide_eq_true h1
      have hrun2 : (Instr.lookup 87 lv (.int .i64 c.client) true).run Tryz.prog (agW w s c).drew = .ok (.tuple #[.agg #[.int .i64 q, .int .i64 k], .bool true]) (agW w s c).drew := hrun
      have hrun3 : ∀ o, (Instr.lookup 87 lv (.int .i64 c.client) true).run Tryz.prog ((agW w s c).alloc o).drew = .ok (.tuple #[.agg #[.int .i64 q, .int .i64 k], .bool true]) ((agW w s c).alloc o).drew := hrun'
      have hb2 : Below w.heap.size w ((w.alloc (cmCells s c)).alloc (.cells #[.int .i64 0, .int .i64 0] 96)) := ((Below.refl _ w).alloc (Nat.le_refl _) _).alloc (by simp) _
      have hb3 : Below w.heap.size w (((w.alloc (cmCells s c)).alloc (.cells #[.int .i64 0, .int .i64 0] 96)).alloc (.cells #[.int .i64 q, .int .i64 k] 103)) := hb2.alloc hb2.size _
      have q2 : (((w.alloc (cmCells s c)).alloc (.cells #[.int .i64 0, .int .i64 0] 96)).alloc (.cells #[.int .i64 q, .int .i64 k] 103)).heap[w.heap.size + 1]? = some (.cells #[.int .i64 0, .int .i64 0] 96 (0, 0)) := alloc_box _ (heap_newB _ _ _ (by simp))
      have q0 := box_cell q2 0 _ rfl
      have q1 := box_cell q2 1 _ rfl
      clear hrun hrun' q2 hb0 hb1 hb2 hl
      go_enter Tryz.func74, Tryz.ntmps74
      go_wp2
      go_region
      go_wp2
      refine bodyPost_ret (v := verdV (0, 0)) (by simp [results, Tryz.results74, go_sem, q0, q1]) rfl ⟨rfl, hb3.drew⟩
    · have h2 : decide (q < c.seq) = false := decide_eq_false h1
      by_cases h3 : c.seq = q
      · rw [show againV (some (q, k)) c.seq = (2, k) from (if_neg h1).trans (if_pos h3)]
        have h4 : (c.seq == q) = true := by rw [h3]; simp
        clear h3
        have hrun2 : (Instr.lookup 87 lv (.int .i64 c.client) true).run Tryz.prog (agW w s c).drew = .ok (.tuple #[.agg #[.int .i64 q, .int .i64 k], .bool true]) (agW w s c).drew := hrun
        have hrun3 : ∀ o, (Instr.lookup 87 lv (.int .i64 c.client) true).run Tryz.prog ((agW w s c).alloc o).drew = .ok (.tuple #[.agg #[.int .i64 q, .int .i64 k], .bool true]) ((agW w s c).alloc o).drew := hrun'
        have hb2 : Below w.heap.size w ((w.alloc (cmCells s c)).alloc (.cells #[.int .i64 2, .int .i64 k] 96)) := ((Below.refl _ w).alloc (Nat.le_refl _) _).alloc (by simp) _
        have hb3 : Below w.heap.size w (((w.alloc (cmCells s c)).alloc (.cells #[.int .i64 2, .int .i64 k] 96)).alloc (.cells #[.int .i64 q, .int .i64 k] 103)) := hb2.alloc hb2.size _
        have q2 : (((w.alloc (cmCells s c)).alloc (.cells #[.int .i64 2, .int .i64 k] 96)).alloc (.cells #[.int .i64 q, .int .i64 k] 103)).heap[w.heap.size + 1]? = some (.cells #[.int .i64 2, .int .i64 k] 96 (0, 0)) := alloc_box _ (heap_newB _ _ _ (by simp))
        have q0 := box_cell q2 0 _ rfl
        have q1 := box_cell q2 1 _ rfl
        clear hrun hrun' q2 hb0 hb1 hb2 hl
        go_enter Tryz.func74, Tryz.ntmps74
        go_wp2
        go_region
        go_wp2
        refine bodyPost_ret (v := verdV (2, k)) (by simp [results, Tryz.results74, go_sem, q0, q1]) rfl ⟨rfl, hb3.drew⟩
      · rw [show againV (some (q, k)) c.seq = (2, 6) from (if_neg h1).trans (if_neg h3)]
        have h4 : (c.seq == q) = false := by simp [h3]
        have hrun2 : (Instr.lookup 87 lv (.int .i64 c.client) true).run Tryz.prog (agW w s c).drew = .ok (.tuple #[.agg #[.int .i64 q, .int .i64 k], .bool true]) (agW w s c).drew := hrun
        have hrun3 : ∀ o, (Instr.lookup 87 lv (.int .i64 c.client) true).run Tryz.prog ((agW w s c).alloc o).drew = .ok (.tuple #[.agg #[.int .i64 q, .int .i64 k], .bool true]) ((agW w s c).alloc o).drew := hrun'
        have hb2 : Below w.heap.size w ((w.alloc (cmCells s c)).alloc (.cells #[.int .i64 2, .int .i64 6] 96)) := ((Below.refl _ w).alloc (Nat.le_refl _) _).alloc (by simp) _
        have hb3 : Below w.heap.size w (((w.alloc (cmCells s c)).alloc (.cells #[.int .i64 2, .int .i64 6] 96)).alloc (.cells #[.int .i64 q, .int .i64 k] 103)) := hb2.alloc hb2.size _
        have q2 : (((w.alloc (cmCells s c)).alloc (.cells #[.int .i64 2, .int .i64 6] 96)).alloc (.cells #[.int .i64 q, .int .i64 k] 103)).heap[w.heap.size + 1]? = some (.cells #[.int .i64 2, .int .i64 6] 96 (0, 0)) := alloc_box _ (heap_newB _ _ _ (by simp))
        have q0 := box_cell q2 0 _ rfl
        have q1 := box_cell q2 1 _ rfl
        clear hrun hrun' q2 hb0 hb1 hb2 hl
        go_enter Tryz.func74, Tryz.ntmps74
        go_wp2
        go_region
        go_wp2
        refine bodyPost_ret (v := verdV (2, 6)) (by simp [results, Tryz.results74, go_sem, q0, q1]) rfl ⟨rfl, hb3.drew⟩
end Go.Proofs.YtclliljkmmpglaaGreat
namespace Go.Proofs.YtclliljkmmpglaaGreat
open Go.RowKit Go.Maps Num
open scoped Classical
set_option linter.unusedVariables false
set_option maxRecDepth 100000

theorem needs_snoc {vs : List Ver} {t : Int} {ws : List Wrt} {i : Nat} {x : Wrt} (h : ws[i]? = some x) : needsN vs t (ws.take (i + 1)) = needsN vs t (ws.take i) + (if needsW vs t x = true then 1 else 0) := by
  unfold needsN
  rw [List.take_add_one, h, List.filter_append, List.length_append]
  congr 1
  show ([x].filter _).length = _
  cases h0 : needsW vs t x <;> simp [h0]
theorem needs_le (vs : List Ver) (t : Int) (ws : List Wrt) : needsN vs t ws ≤ ws.length := List.length_filter_le _ _
theorem key_max {x : ByteArray} (h : x.size ≤ 1000) : x.size ≤ maxLen := Nat.le_trans h (by decide)
set_option maxRecDepth 100000 in
set_option maxHeartbeats 1000000 in
theorem needs_any (B g gs cap : Nat) (m : Mac) (ao : Option Addr) (lv : Value) (t : Int) (ws : List Wrt) (wo : Option Addr) (wc : Nat) (hks : ∀ x ∈ ws, x.key.size ≤ 1000) (hlen : ws.length ≤ 200) (w : World) (h : HoldM B w g m gs ao cap lv) (hl : LiesW w w.heap.size wo ws) :
    Calls Tryz.prog 82 #[.pointer (some ⟨g, 0, none⟩), .int .i64 t, .slice wo ws.length wc] w fun e w' => e = .returned (.int .i64 (needsN m.st.vs t ws : Int)) ∧ Below w.heap.size w w' := by
  have hget : ∀ (x : Wrt) W, x.key.size ≤ 1000 → Below w.heap.size w W → Calls Tryz.prog 30 #[.pointer (some ⟨gs, 0, none⟩), .int .i64 t, .string x.key] W fun e w' => e = .returned (.tuple #[.string (lookS (getV m.st.vs x.key t)), .bool (lookB (getV m.st.vs x.key t))]) ∧ Below W.heap.size W w' := fun x W hx hb => sget_any B gs m.st t x.key (key_max hx) (Nat.le_trans h.few (by decide)) W (h.below hb).sto
  have hcell : ∀ W, Below w.heap.size w W → W.cell? ⟨g, 2, none⟩ = some (.pointer (some ⟨gs, 0, none⟩)) := fun W hb => (mac_cells (h.below hb)).2.2.1
  generalize hV : m.st.vs = vs at *
  clear h hV
  go_enter Tryz.func82, Tryz.ntmps82
  go_wp2
  go_loopw [7, 14] (fun v i wr => ∃ k : Nat, k ≤ ws.length ∧ i = .int .i64 (k : Int) ∧ v = .int .i64 (needsN vs t (ws.take k) : Int) ∧ Below w.heap.size w wr) (fun _ i _ => ws.length - (intOf i).toNat)
  case atStart => exact ⟨0, by omega, rfl, rfl, Below.refl _ _⟩
  case round =>
    obtain ⟨k, hk, rfl, rfl, hbel⟩ := hrel
    by_cases hkl : k < ws.length
    · have HX : Hid (ws[k]? = some (ws[k]'hkl)) := List.getElem?_eq_getElem hkl
      obtain ⟨a, rfl, hblk, e0, e1, e2⟩ := (hl.below WrtAt.fast hbel) k _ HX.out
      have hxs := hks _ (List.mem_of_getElem? HX.out)
      generalize (ws[k]'hkl) = x at *
      have hb1 : Below w.heap.size w (wr.alloc (.cells #[.string x.key, .string x.val, .bool x.del] 72)) := hbel.alloc hbel.size _
      obtain ⟨W, hW⟩ : ∃ W, wr.alloc (.cells #[.string x.key, .string x.val, .bool x.del] 72) = W := ⟨_, rfl⟩
      have hxb : W.heap[wr.heap.size]? = some (.cells #[.string x.key, .string x.val, .bool x.del] 72 (0, 0)) := by rw [← hW]; exact heap_new wr _
      rw [hW] at hb1
      have hc2 : ∀ z : Low W, z.wd.cell? ⟨g, 2, none⟩ = some (.pointer (some ⟨gs, 0, none⟩)) := fun z => hcell _ (below_next hb1 (Nat.le_refl _) z.low)
      have hk0 : ∀ z : Low W, z.wd.cell? ⟨wr.heap.size, 0, none⟩ = some (.string x.key) := fun z => box_cell (below_box z.low hxb) 0 _ rfl
      have hk2 : ∀ z : Low W, z.wd.cell? ⟨wr.heap.size, 2, none⟩ = some (.bool x.del) := fun z => box_cell (below_box z.low hxb) 2 _ rfl
      have hg : ∀ z : Low W, Calls Tryz.prog 30 #[.pointer (some ⟨gs, 0, none⟩), .int .i64 t, .string x.key] z.wd fun e w' => e = .returned (.tuple #[.string (lookS (getV vs x.key t)), .bool (lookB (getV vs x.key t))]) ∧ ∃ y : Low W, w' = y.wd := fun z => Calls.low_of (hget x _ hxs (below_next hb1 (Nat.le_refl _) z.low))
      have HN : Hid (needsN vs t (ws.take (k + 1)) = needsN vs t (ws.take k) + (if needsW vs t x = true then 1 else 0)) := needs_snoc HX.out
      have hle := needs_le vs t (ws.take k)
      have hle2 : (ws.take k).length ≤ 200 := by rw [List.length_take]; omega
      generalize needsN vs t (ws.take k) = n at *
      cases hT : lookB (getV vs x.key t) with
      | true =>
        have HN2 : Hid (needsN vs t (ws.take (k + 1)) = n + 1) := by
          have := HN.out
          rw [if_pos (by unfold needsW; rw [hT]; rfl)] at this
          exact this
        rw [hT] at hg
        have hn9 : (n : Int) < 1000 := by omega
        clear HN hT hle hle2 hget hcell
        go_wp2_with fail
        try rw [hW]
        refine wp_region_low (by kernel_rfl) (by kernel_rfl) fun hsome => ?_
        repeat (go_big_quiet_step (exact hg _))
        refine wpQuiet_nil ?_
        rintro _ ⟨z, rfl⟩
        have k2 := hk2 z
        have hbz := below_next hb1 (Nat.le_refl _) z.low
        clear hc2 hk0 hk2 hg hsome
        go_wp2
        go_roundw
        case rel => exact ⟨k + 1, by omega, by go_num, by rw [HN2.out]; go_num, hbz⟩
        case measure => simp [intOf]; omega
      | false =>
        cases hD : x.del with
        | false =>
          have HN2 : Hid (needsN vs t (ws.take (k + 1)) = n + 1) := by
            have := HN.out
            rw [if_pos (by unfold needsW; rw [hT, hD]; rfl)] at this
            exact this
          rw [hT] at hg
          rw [hD] at hk2
          have hn9 : (n : Int) < 1000 := by omega
          clear HN hT hle hle2 hget hcell hD
          go_wp2_with fail
          try rw [hW]
          refine wp_region_low (by kernel_rfl) (by kernel_rfl) fun hsome => ?_
          repeat (go_big_quiet_step (exact hg _))
          refine wpQuiet_nil ?_
          rintro _ ⟨z, rfl⟩
          have k2 := hk2 z
          have hbz := below_next hb1 (Nat.le_refl _) z.low
          clear hc2 hk0 hk2 hg hsome
          go_wp2
          go_roundw
          case rel => exact ⟨k + 1, by omega, by go_num, by rw [HN2.out]; go_num, hbz⟩
          case measure => simp [intOf]; omega
        | true =>
          have HN2 : Hid (needsN vs t (ws.take (k + 1)) = n) := by
            have := HN.out
            rw [if_neg (by unfold needsW; rw [hT, hD]; decide)] at this
            exact this
          rw [hT] at hg
          rw [hD] at hk2
          clear HN hT hle hle2 hget hcell hD
          go_wp2_with fail
          try rw [hW]
          refine wp_region_low (by kernel_rfl) (by kernel_rfl) fun hsome => ?_
          repeat (go_big_quiet_step (exact hg _))
          refine wpQuiet_nil ?_
          rintro _ ⟨z, rfl⟩
          have k2 := hk2 z
          have hbz := below_next hb1 (Nat.le_refl _) z.low
          clear hc2 hk0 hk2 hg hsome
          go_wp2
          go_roundw
          case rel => exact ⟨k + 1, by omega, by go_num, by rw [HN2.out], hbz⟩
          case measure => simp [intOf]; omega
    · have hke : k = ws.length := by omega
      subst hke
      rw [List.take_length]
      go_wp2
      go_ret
      exact ⟨rfl, hbel⟩
end Go.Proofs.YtclliljkmmpglaaGreat
namespace Go.Proofs.YtclliljkmmpglaaGreat
open Go.RowKit Go.Maps Num
open scoped Classical
set_option linter.unusedVariables false
set_option maxRecDepth 100000

abbrev Num.ptr1 (g : Nat) : Obj := .cells #[.pointer (some ⟨g, 0, none⟩)] 25
set_option maxRecDepth 100000 in
set_option maxHeartbeats 1000000 in
theorem turned1_any (B g gs cap mb cb : Nat) (m : Mac) (ao : Option Addr) (lv : Value) (s : Cs) (c : Cmd) (k : ByteArray) (hk : k.size ≤ 1000) (w : World) (h : HoldM B w g m gs ao cap lv) (hm : w.heap[mb]? = some (ptr1 g)) (hcb : w.heap[cb]? = some (cmCells s c)) :
    Calls Tryz.prog 119 #[.string k, .pointer (some ⟨mb, 0, none⟩), .pointer (some ⟨cb, 0, none⟩)] w fun e w' => e = .returned (.bool (decide (c.snap < lastT m.st.vs k))) ∧ Below w.heap.size w w' := by
  have k0 : ∀ z : Low w, z.wd.cell? ⟨mb, 0, none⟩ = some (.pointer (some ⟨g, 0, none⟩)) := fun z => box_cell (below_box z.low hm) 0 _ rfl
  have k1 : ∀ z : Low w, z.wd.cell? ⟨cb, 3, none⟩ = some (.int .i64 c.snap) := fun z => box_cell (below_box z.low hcb) 3 _ rfl
  have k2 : ∀ z : Low w, z.wd.cell? ⟨g, 2, none⟩ = some (.pointer (some ⟨gs, 0, none⟩)) := fun z => (mac_cells (h.below z.low)).2.2.1
  have hc : ∀ z : Low w, Calls Tryz.prog 23 #[.pointer (some ⟨gs, 0, none⟩), .string k] z.wd fun e w' => e = .returned (.int .i64 (lastT m.st.vs k)) ∧ ∃ y : Low w, w' = y.wd := fun z => Calls.low_of_same (slast_any B gs m.st k (key_max hk) (Nat.le_trans h.few (by decide)) z.wd (h.below z.low).sto)
  clear h hm hcb
  go_enter Tryz.func119, Tryz.ntmps119
  go_wp2_with fail
  refine wp_region_low (by kernel_rfl) (by kernel_rfl) fun hsome => ?_
  repeat (go_big_quiet_step (exact hc _))
  refine wpQuiet_nil ?_
  rintro _ ⟨z, rfl⟩
  have hz := z.low
  clear k0 k1 k2 hc hsome
  go_wp2
  go_ret
  exact ⟨rfl, hz⟩
set_option maxRecDepth 100000 in
set_option maxHeartbeats 1000000 in
theorem turned2_any (B g gs cap mb cb : Nat) (m : Mac) (ao : Option Addr) (lv : Value) (s : Cs) (c : Cmd) (r : Rng) (w : World) (h : HoldM B w g m gs ao cap lv) (hm : w.heap[mb]? = some (ptr1 g)) (hcb : w.heap[cb]? = some (cmCells s c)) :
    Calls Tryz.prog 121 #[.agg #[.string r.lo, .string r.hi], .pointer (some ⟨mb, 0, none⟩), .pointer (some ⟨cb, 0, none⟩)] w fun e w' => e = .returned (.bool (sinceV m.st.vs r.lo r.hi c.snap)) ∧ Below w.heap.size w w' := by
  obtain ⟨W, hW⟩ : ∃ W, w.alloc (.cells #[.string r.lo, .string r.hi] 67) = W := ⟨_, rfl⟩
  have hb : Below w.heap.size w W := by rw [← hW]; exact (Below.refl _ w).alloc (Nat.le_refl _) _
  have hrb : W.heap[w.heap.size]? = some (.cells #[.string r.lo, .string r.hi] 67 (0, 0)) := by rw [← hW]; exact heap_new w _
  have hm := below_box hb hm
  have hcb := below_box hb hcb
  have h := h.below hb
  have k0 : ∀ z : Low W, z.wd.cell? ⟨mb, 0, none⟩ = some (.pointer (some ⟨g, 0, none⟩)) := fun z => box_cell (below_box z.low hm) 0 _ rfl
  have k1 : ∀ z : Low W, z.wd.cell? ⟨cb, 3, none⟩ = some (.int .i64 c.snap) := fun z => box_cell (below_box z.low hcb) 3 _ rfl
  have k2 : ∀ z : Low W, z.wd.cell? ⟨g, 2, none⟩ = some (.pointer (some ⟨gs, 0, none⟩)) := fun z => (mac_cells (h.below z.low)).2.2.1
  have k3 : ∀ z : Low W, z.wd.cell? ⟨w.heap.size, 0, none⟩ = some (.string r.lo) := fun z => box_cell (below_box z.low hrb) 0 _ rfl
  have k4 : ∀ z : Low W, z.wd.cell? ⟨w.heap.size, 1, none⟩ = some (.string r.hi) := fun z => box_cell (below_box z.low hrb) 1 _ rfl
  have hc : ∀ z : Low W, Calls Tryz.prog 24 #[.pointer (some ⟨gs, 0, none⟩), .string r.lo, .string r.hi, .int .i64 c.snap] z.wd fun e w' => e = .returned (.bool (sinceV m.st.vs r.lo r.hi c.snap)) ∧ ∃ y : Low W, w' = y.wd := fun z => Calls.low_of (ssince_any B gs m.st r.lo r.hi c.snap (Nat.le_trans h.few (by decide)) z.wd (h.below z.low).sto)
  clear h hm hcb
  go_enter Tryz.func121, Tryz.ntmps121
  go_wp2_with fail
  try rw [hW]
  refine wp_region_low (by kernel_rfl) (by kernel_rfl) fun hsome => ?_
  repeat (go_big_quiet_step (exact hc _))
  refine wpQuiet_nil ?_
  rintro _ ⟨z, rfl⟩
  have hz := below_next hb (Nat.le_refl _) z.low
  clear k0 k1 k2 k3 k4 hc hsome
  go_wp2
  go_ret
  exact ⟨rfl, hz⟩
theorem any_hit {α : Type} {l : List α} {p : α → Bool} {k : Nat} {x : α} (h : l[k]? = some x) (hx : p x = true) : l.any p = true := List.any_eq_true.2 ⟨x, List.mem_of_getElem? h, hx⟩
theorem any_none {α : Type} {l : List α} {p : α → Bool} (h : ∀ (j : Nat) x, j < l.length → l[j]? = some x → p x = false) : l.any p = false := by
  rw [List.any_eq_false]
  intro x hx
  obtain ⟨j, hj⟩ := List.getElem?_of_mem hx
  rw [h j x (List.getElem?_eq_some_iff.1 hj).1 hj]
  decide
set_option maxRecDepth 100000 in
set_option maxHeartbeats 1000000 in
theorem idxS_any (ko : Option Addr) (kc mb cb : Nat) (l : List ByteArray) (hlen : l.length ≤ 200) (p : ByteArray → Bool) (w : World) (hl : LiesS w w.heap.size ko l)
    (hc : ∀ x ∈ l, ∀ W, Below w.heap.size w W → Calls Tryz.prog 119 #[.string x, .pointer (some ⟨mb, 0, none⟩), .pointer (some ⟨cb, 0, none⟩)] W fun e w' => e = .returned (.bool (p x)) ∧ Below W.heap.size W w') :
    Calls Tryz.prog 151 #[.slice ko l.length kc, .func (.func 119) #[] #[.pointer (some ⟨mb, 0, none⟩), .pointer (some ⟨cb, 0, none⟩)]] w fun e w' => ∃ i : Int, e = .returned (.int .i64 i) ∧ decide (0 ≤ i) = l.any p ∧ Below w.heap.size w w' := by
  go_enter Tryz.func151, Tryz.ntmps151
  go_wp2
  go_loopw [8] (fun i wr => ∃ k : Nat, k ≤ l.length ∧ i = .int .i64 (k : Int) ∧ Hid (∀ (j : Nat) x, j < k → l[j]? = some x → p x = false) ∧ Below w.heap.size w wr) (fun i _ => l.length - (intOf i).toNat)
  case atStart => exact ⟨0, by omega, rfl, fun _ _ h => absurd h (Nat.not_lt_zero _), Below.refl _ _⟩
  case round =>
    obtain ⟨k, hk, rfl, HK, hbel⟩ := hrel
    have hsz := hbel.size
    by_cases hkl : k < l.length
    · have HX : Hid (l[k]? = some (l[k]'hkl)) := List.getElem?_eq_getElem hkl
      obtain ⟨a, rfl, hblk, e9⟩ := (hl.below TxtAt.fast hbel) k _ HX.out
      rw [Nat.mul_one] at e9
      have e0 : wr.cell? (a.add k) = some (.string (l[k]'hkl)) := e9
      clear e9
      have hp := hc (l[k]'hkl) (List.getElem_mem hkl) wr hbel
      generalize (l[k]'hkl) = x at *
      cases hpx : p x with
      | true =>
        have HV : Hid (l.any p = true) := any_hit HX.out hpx
        rw [hpx] at hp
        clear HK HX hc hpx
        go_wp2_with (first
          | (go_at_call 119; refine hp.mono ?_; rintro e w1 ⟨rfl, hb1⟩))
        go_ret
        exact ⟨_, rfl, by rw [HV.out]; exact decide_eq_true (by omega), below_next hbel (Nat.le_refl _) hb1⟩
      | false =>
        have HK2 : Hid (∀ (j : Nat) x, j < k + 1 → l[j]? = some x → p x = false) := by
          intro j y hj hy
          by_cases h : j = k
          · subst h
            rw [HX.out] at hy
            cases hy
            exact hpx
          · exact HK.out j y (by omega) hy
        rw [hpx] at hp
        clear HK HX hc hpx
        go_wp2_with (first
          | (go_at_call 119; refine hp.mono ?_; rintro e w1 ⟨rfl, hb1⟩))
        go_roundw
        case rel => exact ⟨k + 1, by omega, by go_num, HK2, below_next hbel (Nat.le_refl _) hb1⟩
        case measure => simp [intOf]; omega
    · have HV : Hid (l.any p = false) := any_none fun j x hj hx => HK.out j x (by omega) hx
      clear HK
      go_wp2
      go_ret
      exact ⟨_, rfl, by rw [HV.out]; decide, hbel⟩
set_option maxRecDepth 100000 in
set_option maxHeartbeats 1000000 in
theorem idxR_any (ko : Option Addr) (kc mb cb : Nat) (l : List Rng) (hlen : l.length ≤ 200) (p : Rng → Bool) (w : World) (hl : LiesQ w w.heap.size ko l)
    (hc : ∀ x ∈ l, ∀ W, Below w.heap.size w W → Calls Tryz.prog 121 #[.agg #[.string x.lo, .string x.hi], .pointer (some ⟨mb, 0, none⟩), .pointer (some ⟨cb, 0, none⟩)] W fun e w' => e = .returned (.bool (p x)) ∧ Below W.heap.size W w') :
    Calls Tryz.prog 152 #[.slice ko l.length kc, .func (.func 121) #[] #[.pointer (some ⟨mb, 0, none⟩), .pointer (some ⟨cb, 0, none⟩)]] w fun e w' => ∃ i : Int, e = .returned (.int .i64 i) ∧ decide (0 ≤ i) = l.any p ∧ Below w.heap.size w w' := by
  go_enter Tryz.func152, Tryz.ntmps152
  go_wp2
  go_loopw [8] (fun i wr => ∃ k : Nat, k ≤ l.length ∧ i = .int .i64 (k : Int) ∧ Hid (∀ (j : Nat) x, j < k → l[j]? = some x → p x = false) ∧ Below w.heap.size w wr) (fun i _ => l.length - (intOf i).toNat)
  case atStart => exact ⟨0, by omega, rfl, fun _ _ h => absurd h (Nat.not_lt_zero _), Below.refl _ _⟩
  case round =>
    obtain ⟨k, hk, rfl, HK, hbel⟩ := hrel
    have hsz := hbel.size
    by_cases hkl : k < l.length
    · have HX : Hid (l[k]? = some (l[k]'hkl)) := List.getElem?_eq_getElem hkl
      obtain ⟨a, rfl, hblk, e0, e1⟩ := (hl.below RngAt.fast hbel) k _ HX.out
      have hp := hc (l[k]'hkl) (List.getElem_mem hkl) wr hbel
      generalize (l[k]'hkl) = x at *
      cases hpx : p x with
      | true =>
        have HV : Hid (l.any p = true) := any_hit HX.out hpx
        rw [hpx] at hp
        clear HK HX hc hpx
        go_wp2_with (first
          | (go_at_call 121; refine hp.mono ?_; rintro e w1 ⟨rfl, hb1⟩))
        go_ret
        exact ⟨_, rfl, by rw [HV.out]; exact decide_eq_true (by omega), below_next hbel (Nat.le_refl _) hb1⟩
      | false =>
        have HK2 : Hid (∀ (j : Nat) x, j < k + 1 → l[j]? = some x → p x = false) := by
          intro j y hj hy
          by_cases h : j = k
          · subst h
            rw [HX.out] at hy
            cases hy
            exact hpx
          · exact HK.out j y (by omega) hy
        rw [hpx] at hp
        clear HK HX hc hpx
        go_wp2_with (first
          | (go_at_call 121; refine hp.mono ?_; rintro e w1 ⟨rfl, hb1⟩))
        go_roundw
        case rel => exact ⟨k + 1, by omega, by go_num, HK2, below_next hbel (Nat.le_refl _) hb1⟩
        case measure => simp [intOf]; omega
    · have HV : Hid (l.any p = false) := any_none fun j x hj hx => HK.out j x (by omega) hx
      clear HK
      go_wp2
      go_ret
      exact ⟨_, rfl, by rw [HV.out]; decide, hbel⟩
theorem containsS_any (ko : Option Addr) (kc mb cb : Nat) (l : List ByteArray) (hlen : l.length ≤ 200) (p : ByteArray → Bool) (w : World) (hl : LiesS w w.heap.size ko l)
    (hc : ∀ x ∈ l, ∀ W, Below w.heap.size w W → Calls Tryz.prog 119 #[.string x, .pointer (some ⟨mb, 0, none⟩), .pointer (some ⟨cb, 0, none⟩)] W fun e w' => e = .returned (.bool (p x)) ∧ Below W.heap.size W w') :
    Calls Tryz.prog 118 #[.slice ko l.length kc, .func (.func 119) #[] #[.pointer (some ⟨mb, 0, none⟩), .pointer (some ⟨cb, 0, none⟩)]] w fun e w' => e = .returned (.bool (l.any p)) ∧ Below w.heap.size w w' := by
  have h := idxS_any ko kc mb cb l hlen p w hl hc
  clear hc hl
  generalize l.any p = b at *
  go_enter Tryz.func118, Tryz.ntmps118
  go_wp2_with (first
    | (go_at_call 151; refine h.mono ?_; rintro e w1 ⟨i, rfl, hi, hb⟩))
  go_ret
  exact ⟨by rw [← hi]; rfl, hb⟩
theorem containsR_any (ko : Option Addr) (kc mb cb : Nat) (l : List Rng) (hlen : l.length ≤ 200) (p : Rng → Bool) (w : World) (hl : LiesQ w w.heap.size ko l)
    (hc : ∀ x ∈ l, ∀ W, Below w.heap.size w W → Calls Tryz.prog 121 #[.agg #[.string x.lo, .string x.hi], .pointer (some ⟨mb, 0, none⟩), .pointer (some ⟨cb, 0, none⟩)] W fun e w' => e = .returned (.bool (p x)) ∧ Below W.heap.size W w') :
    Calls Tryz.prog 120 #[.slice ko l.length kc, .func (.func 121) #[] #[.pointer (some ⟨mb, 0, none⟩), .pointer (some ⟨cb, 0, none⟩)]] w fun e w' => e = .returned (.bool (l.any p)) ∧ Below w.heap.size w w' := by
  have h := idxR_any ko kc mb cb l hlen p w hl hc
  clear hc hl
  generalize l.any p = b at *
  go_enter Tryz.func120, Tryz.ntmps120
  go_wp2_with (first
    | (go_at_call 152; refine h.mono ?_; rintro e w1 ⟨i, rfl, hi, hb⟩))
  go_ret
  exact ⟨by rw [← hi]; rfl, hb⟩
end Go.Proofs.YtclliljkmmpglaaGreat
namespace Go.Proofs.YtclliljkmmpglaaGreat
open Go.RowKit Go.Maps Num
open scoped Classical
set_option linter.unusedVariables false
set_option maxRecDepth 100000

set_option maxRecDepth 100000 in
set_option maxHeartbeats 1000000 in
theorem turned_any (B g gs cap : Nat) (m : Mac) (ao : Option Addr) (lv : Value) (s : Cs) (c : Cmd) (hks : ∀ k ∈ c.keys, k.size ≤ 1000) (hkl : c.keys.length ≤ 200) (hrl : c.rngs.length ≤ 200) (w : World) (h : HoldM B w g m gs ao cap lv) (hl : LiesC w w.heap.size s c) :
    Calls Tryz.prog 80 #[.pointer (some ⟨g, 0, none⟩), cmV s c] w fun e w' => e = .returned (.bool (turnedB m.st.vs c.snap c.keys c.rngs)) ∧ Below w.heap.size w w' := by
  have hmf : ∀ (fn : Fn) (first cap : Array Value) (w : World), (Instr.makeFunc fn first cap).run Tryz.prog w = .ok (.func fn first cap) w := fun _ _ _ _ => rfl
  obtain ⟨W, hW⟩ : ∃ W, (w.alloc (ptr1 g)).alloc (cmCells s c) = W := ⟨_, rfl⟩
  have hb : Below w.heap.size w W := by rw [← hW]; exact ((Below.refl _ w).alloc (Nat.le_refl _) _).alloc (by simp) _
  have hmb : W.heap[w.heap.size]? = some (ptr1 g) := by rw [← hW]; exact alloc_box _ (heap_new w _)
  have hcb : W.heap[w.heap.size + 1]? = some (cmCells s c) := by rw [← hW]; exact heap_newB _ _ _ (by simp)
  have h := h.below hb
  have hl := liesC_next hl hb
  have k4 : ∀ z : Low W, z.wd.cell? ⟨w.heap.size + 1, 4, none⟩ = some (.slice s.ko c.keys.length s.kc) := fun z => box_cell (below_box z.low hcb) 4 _ rfl
  have k5 : ∀ z : Low W, z.wd.cell? ⟨w.heap.size + 1, 5, none⟩ = some (.slice s.ro c.rngs.length s.rc) := fun z => box_cell (below_box z.low hcb) 5 _ rfl
  have hc1 : ∀ z : Low W, Calls Tryz.prog 118 #[.slice s.ko c.keys.length s.kc, .func (.func 119) #[] #[.pointer (some ⟨w.heap.size, 0, none⟩), .pointer (some ⟨w.heap.size + 1, 0, none⟩)]] z.wd fun e w' => e = .returned (.bool (c.keys.any (fun k => decide (c.snap < lastT m.st.vs k)))) ∧ ∃ y : Low W, w' = y.wd := fun z =>
    Calls.low_of (containsS_any s.ko s.kc w.heap.size (w.heap.size + 1) c.keys hkl _ z.wd (liesC_next hl z.low).keys (fun x hx V hV => by
      have hV' := below_next z.low (Nat.le_refl _) hV
      exact turned1_any B g gs cap w.heap.size (w.heap.size + 1) m ao lv s c x (hks x hx) V (h.below hV') (below_box hV' hmb) (below_box hV' hcb)))
  have hc2 : ∀ z : Low W, Calls Tryz.prog 120 #[.slice s.ro c.rngs.length s.rc, .func (.func 121) #[] #[.pointer (some ⟨w.heap.size, 0, none⟩), .pointer (some ⟨w.heap.size + 1, 0, none⟩)]] z.wd fun e w' => e = .returned (.bool (c.rngs.any (fun r => sinceV m.st.vs r.lo r.hi c.snap))) ∧ ∃ y : Low W, w' = y.wd := fun z =>
    Calls.low_of (containsR_any s.ro s.rc w.heap.size (w.heap.size + 1) c.rngs hrl _ z.wd (liesC_next hl z.low).rngs (fun x hx V hV => by
      have hV' := below_next z.low (Nat.le_refl _) hV
      exact turned2_any B g gs cap w.heap.size (w.heap.size + 1) m ao lv s c x V (h.below hV') (below_box hV' hmb) (below_box hV' hcb)))
  unfold turnedB
  generalize c.keys.any (fun k => decide (c.snap < lastT m.st.vs k)) = b1 at *
  generalize c.rngs.any (fun r => sinceV m.st.vs r.lo r.hi c.snap) = b2 at *
  clear h hl hmb hcb
  obtain ⟨z0, hz0⟩ : ∃ z : Low W, z.wd = W := ⟨⟨W, Below.refl _ _⟩, rfl⟩
  have k4w := k4 z0
  rw [hz0] at k4w
  have hc1w := hc1 z0
  rw [hz0] at hc1w
  cases b1
  · go_enter Tryz.func80, Tryz.ntmps80
    go_wp2_with (first
      | (go_at_call 118; refine hc1w.mono ?_; rintro e w1 ⟨rfl, y, rfl⟩; have k5y := k5 y)
      | (go_at_call 120; refine (hc2 y).mono ?_; rintro e w2 ⟨rfl, y2, rfl⟩))
    go_ret
    exact ⟨rfl, below_next hb (Nat.le_refl _) y2.low⟩
  · go_enter Tryz.func80, Tryz.ntmps80
    go_wp2_with (first
      | (go_at_call 118; refine hc1w.mono ?_; rintro e w1 ⟨rfl, y, rfl⟩; have k5y := k5 y))
    go_ret
    exact ⟨rfl, below_next hb (Nat.le_refl _) y.low⟩
end Go.Proofs.YtclliljkmmpglaaGreat
