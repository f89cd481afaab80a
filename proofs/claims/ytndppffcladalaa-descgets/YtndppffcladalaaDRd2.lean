/-
  Contracts: package desc's reader: values.
-/
import Derived.Test.YtndppffcladalaaDOwn
namespace Go.Proofs.Ytndppffcladalaa
open Go.RowKit Num
set_option linter.unusedVariables false

theorem grown_box {w w' : World} {p b : Nat} {o : Obj} (hg : w.grownBy w' (some p)) (hb : w.heap[b]? = some o) (hne : b ≠ p) : w'.heap[b]? = some o := by
  rw [hg.block b (Array.getElem?_eq_some_iff.1 hb).1 (by intro e; cases e; exact hne rfl)]
  exact hb
theorem grown_new {w W W' : World} {p b : Nat} (h : w.grownBy W (some p)) (k : W.grownBy W' (some b)) (hb : w.heap.size ≤ b) : w.grownBy W' (some p) :=
  ⟨k.os.trans h.os, k.tape.trans h.tape, k.output.trans h.output, Nat.le_trans h.size k.size, fun i hi hne => (k.block i (Nat.lt_of_lt_of_le hi h.size) (by intro e; cases e; omega)).trans (h.block i hi hne)⟩
set_option maxHeartbeats 2000000 in
theorem gVal_any {p : Nat} {w : World} {x : ByteArray} (h : RdAt p w x) (hx : x.size ≤ 1000000) :
    Calls Try.prog 89 #[.pointer (some ⟨p, 0, none⟩)] w fun e w' => Rds p w (fun _ _ v (a : Val) => v = .agg #[.int .i64 a.k, .int .i64 a.n, .int .u64 (a.f : Int), .string a.s]) (rdVal x.data.toList) e w' := by
  have hp := h.lt
  have hd : x.data.toList.length = x.size := rfl
  have h0 : RdAt p (w.alloc (.cells #[.int .i64 0, .int .i64 0, .int .u64 0, .string ⟨#[]⟩] 43)) x := alloc_box _ h
  have hbz := heap_new w (.cells #[.int .i64 0, .int .i64 0, .int .u64 0, .string ⟨#[]⟩] 43)
  have hsz0 : (w.alloc (.cells #[.int .i64 0, .int .i64 0, .int .u64 0, .string ⟨#[]⟩] 43)).heap.size = w.heap.size + 1 := by simp
  have hga : w.grownBy (w.alloc (.cells #[.int .i64 0, .int .i64 0, .int .u64 0, .string ⟨#[]⟩] 43)) (some p) := World.grownBy_alloc w _ _
  cases hr1 : rdInt x.data.toList with
  | none =>
    have hR : rdVal x.data.toList = none := by simp [rdVal, hr1]
    rw [hR]
    have hf1 := gInt_any h0 hx
    rw [hr1] at hf1
    clear hR hr1
    go_enter Try.func89, Try.ntmps89
    go_wp2_with (first
        | (go_at_call 58; refine hf1.mono ?_; rintro e w1 ⟨hg1, rfl⟩))
    exact ⟨rfl, hga.trans hg1, rfl⟩
  | some qq1 =>
    obtain ⟨a1, r1⟩ := qq1
    have hl1 : r1.length ≤ x.size := rdInt_le _ _ hr1
    cases hr2 : rdInt r1 with
    | none =>
      have hR : rdVal x.data.toList = none := by simp [rdVal, hr1, hr2]
      rw [hR]
      have hf1 := gInt_any h0 hx
      rw [hr1] at hf1
      have hf2 : ∀ w1 y1, RdAt p w1 y1 → y1.data.toList = r1 → Calls Try.prog 96 #[.pointer (some ⟨p, 0, none⟩)] w1 fun e w' => Rds p w1 (fun _ _ v (n : Int) => v = .int .i64 n) none e w' := fun w1 y1 hat hy => by
        have hs : y1.size = r1.length := by rw [← hy]; rfl
        have t := gI64_any hat (by omega)
        rw [hy, hr2] at t
        exact t
      clear hR hr1 hr2
      go_enter Try.func89, Try.ntmps89
      go_wp2_with (first
          | (go_at_call 58; refine hf1.mono ?_; rintro e w1 ⟨hg1, v1, y1, rfl, rfl, hat1, hy1⟩; clear hf1)
          | (go_at_call 96; refine (hf2 _ _ hat1 hy1).mono ?_; rintro e w2 ⟨hg2, rfl⟩))
      exact ⟨rfl, hga.trans (hg1.trans hg2), rfl⟩
    | some qq2 =>
      obtain ⟨a2, r2⟩ := qq2
      have hl2 : r2.length ≤ r1.length := rdInt_le _ _ hr2
      cases hr3 : rdNat r2 with
      | none =>
        have hR : rdVal x.data.toList = none := by simp [rdVal, hr1, hr2, hr3]
        rw [hR]
        have hf1 := gInt_any h0 hx
        rw [hr1] at hf1
        have hf2 : ∀ w1 y1, RdAt p w1 y1 → y1.data.toList = r1 → Calls Try.prog 96 #[.pointer (some ⟨p, 0, none⟩)] w1 fun e w' => Rds p w1 (fun _ _ v (n : Int) => v = .int .i64 n) (some (a2, r2)) e w' := fun w1 y1 hat hy => by
          have hs : y1.size = r1.length := by rw [← hy]; rfl
          have t := gI64_any hat (by omega)
          rw [hy, hr2] at t
          exact t
        have hf3 : ∀ w1 y1, RdAt p w1 y1 → y1.data.toList = r2 → Calls Try.prog 76 #[.pointer (some ⟨p, 0, none⟩)] w1 fun e w' => Rds p w1 (fun _ _ v (n : Nat) => v = .int .u64 (n : Int)) none e w' := fun w1 y1 hat hy => by
          have hs : y1.size = r2.length := by rw [← hy]; rfl
          have t := gNat_any hat (by omega)
          rw [hy, hr3] at t
          exact t
        clear hR hr1 hr2 hr3
        go_enter Try.func89, Try.ntmps89
        go_wp2_with (first
            | (go_at_call 58; refine hf1.mono ?_; rintro e w1 ⟨hg1, v1, y1, rfl, rfl, hat1, hy1⟩; clear hf1)
            | (go_at_call 96; refine (hf2 _ _ hat1 hy1).mono ?_; rintro e w2 ⟨hg2, v2, y2, rfl, rfl, hat2, hy2⟩; clear hf2)
            | (go_at_call 76; refine (hf3 _ _ hat2 hy2).mono ?_; rintro e w3 ⟨hg3, rfl⟩))
        exact ⟨rfl, hga.trans ((hg1.trans hg2).trans hg3), rfl⟩
      | some qq3 =>
        obtain ⟨a3, r3⟩ := qq3
        have hl3 : r3.length ≤ r2.length := rdNat_le _ _ hr3
        cases hr4 : rdTxt r3 with
        | none =>
          have hR : rdVal x.data.toList = none := by simp [rdVal, hr1, hr2, hr3, hr4]
          rw [hR]
          have hf1 := gInt_any h0 hx
          rw [hr1] at hf1
          have hf2 : ∀ w1 y1, RdAt p w1 y1 → y1.data.toList = r1 → Calls Try.prog 96 #[.pointer (some ⟨p, 0, none⟩)] w1 fun e w' => Rds p w1 (fun _ _ v (n : Int) => v = .int .i64 n) (some (a2, r2)) e w' := fun w1 y1 hat hy => by
            have hs : y1.size = r1.length := by rw [← hy]; rfl
            have t := gI64_any hat (by omega)
            rw [hy, hr2] at t
            exact t
          have hf3 : ∀ w1 y1, RdAt p w1 y1 → y1.data.toList = r2 → Calls Try.prog 76 #[.pointer (some ⟨p, 0, none⟩)] w1 fun e w' => Rds p w1 (fun _ _ v (n : Nat) => v = .int .u64 (n : Int)) (some (a3, r3)) e w' := fun w1 y1 hat hy => by
            have hs : y1.size = r2.length := by rw [← hy]; rfl
            have t := gNat_any hat (by omega)
            rw [hy, hr3] at t
            exact t
          have hf4 : ∀ w1 y1, RdAt p w1 y1 → y1.data.toList = r3 → Calls Try.prog 77 #[.pointer (some ⟨p, 0, none⟩)] w1 fun e w' => Rds p w1 (fun _ _ v (s : ByteArray) => v = .string s) none e w' := fun w1 y1 hat hy => by
            have hs : y1.size = r3.length := by rw [← hy]; rfl
            have t := gTxt_any hat (by omega)
            rw [hy, hr4] at t
            exact t
          clear hR hr1 hr2 hr3 hr4
          go_enter Try.func89, Try.ntmps89
          go_wp2_with (first
              | (go_at_call 58; refine hf1.mono ?_; rintro e w1 ⟨hg1, v1, y1, rfl, rfl, hat1, hy1⟩; clear hf1)
              | (go_at_call 96; refine (hf2 _ _ hat1 hy1).mono ?_; rintro e w2 ⟨hg2, v2, y2, rfl, rfl, hat2, hy2⟩; clear hf2)
              | (go_at_call 76; refine (hf3 _ _ hat2 hy2).mono ?_; rintro e w3 ⟨hg3, v3, y3, rfl, rfl, hat3, hy3⟩; clear hf3)
              | (go_at_call 77; refine (hf4 _ _ hat3 hy3).mono ?_; rintro e w4 ⟨hg4, rfl⟩))
          exact ⟨rfl, hga.trans (((hg1.trans hg2).trans hg3).trans hg4), rfl⟩
        | some qq4 =>
          obtain ⟨a4, r4⟩ := qq4
          have hl4 : r4.length ≤ r3.length := rdTxt_le _ _ hr4
          have hR : rdVal x.data.toList = some ((⟨a1, a2, a3, a4⟩ : Val), r4) := by simp [rdVal, hr1, hr2, hr3, hr4]
          rw [hR]
          have hf1 := gInt_any h0 hx
          rw [hr1] at hf1
          have hf2 : ∀ w1 y1, RdAt p w1 y1 → y1.data.toList = r1 → Calls Try.prog 96 #[.pointer (some ⟨p, 0, none⟩)] w1 fun e w' => Rds p w1 (fun _ _ v (n : Int) => v = .int .i64 n) (some (a2, r2)) e w' := fun w1 y1 hat hy => by
            have hs : y1.size = r1.length := by rw [← hy]; rfl
            have t := gI64_any hat (by omega)
            rw [hy, hr2] at t
            exact t
          have hf3 : ∀ w1 y1, RdAt p w1 y1 → y1.data.toList = r2 → Calls Try.prog 76 #[.pointer (some ⟨p, 0, none⟩)] w1 fun e w' => Rds p w1 (fun _ _ v (n : Nat) => v = .int .u64 (n : Int)) (some (a3, r3)) e w' := fun w1 y1 hat hy => by
            have hs : y1.size = r2.length := by rw [← hy]; rfl
            have t := gNat_any hat (by omega)
            rw [hy, hr3] at t
            exact t
          have hf4 : ∀ w1 y1, RdAt p w1 y1 → y1.data.toList = r3 → Calls Try.prog 77 #[.pointer (some ⟨p, 0, none⟩)] w1 fun e w' => Rds p w1 (fun _ _ v (s : ByteArray) => v = .string s) (some (a4, r4)) e w' := fun w1 y1 hat hy => by
            have hs : y1.size = r3.length := by rw [← hy]; rfl
            have t := gTxt_any hat (by omega)
            rw [hy, hr4] at t
            exact t
          clear hR hr1 hr2 hr3 hr4
          go_enter Try.func89, Try.ntmps89
          go_wp2_with (first
              | (go_at_call 58; refine hf1.mono ?_; rintro e w1 ⟨hg1, v1, y1, rfl, rfl, hat1, hy1⟩; clear hf1)
              | (go_at_call 96; refine (hf2 _ _ hat1 hy1).mono ?_; rintro e w2 ⟨hg2, v2, y2, rfl, rfl, hat2, hy2⟩; clear hf2)
              | (go_at_call 76; refine (hf3 _ _ hat2 hy2).mono ?_; rintro e w3 ⟨hg3, v3, y3, rfl, rfl, hat3, hy3⟩; clear hf3)
              | (go_at_call 77; refine (hf4 _ _ hat3 hy3).mono ?_; rintro e w4 ⟨hg4, v4, y4, rfl, rfl, hat4, hy4⟩; clear hf4; have hgA := (((hg1.trans hg2).trans hg3).trans hg4); have bz := grown_box hgA hbz (by omega); have z0 := box_cell bz 0 _ rfl; have f0 := box_open bz 0; have z1 := box_cell bz 1 _ rfl; have f1 := box_open bz 1; have z2 := box_cell bz 2 _ rfl; have f2 := box_open bz 2; have z3 := box_cell bz 3 _ rfl; have f3 := box_open bz 3))
          have s1 : (w4.setCell ⟨w.heap.size, 0, none⟩ (.int .i64 a1)).heap[w.heap.size]? = some (.cells #[.int .i64 a1, .int .i64 0, .int .u64 0, .string ⟨#[]⟩] 43 (0, 0)) := (heap_setCell_same _ w.heap.size 0 _ _ _ bz).trans (by simp)
          have s2 : ((w4.setCell ⟨w.heap.size, 0, none⟩ (.int .i64 a1)).setCell ⟨w.heap.size, 1, none⟩ (.int .i64 a2)).heap[w.heap.size]? = some (.cells #[.int .i64 a1, .int .i64 a2, .int .u64 0, .string ⟨#[]⟩] 43 (0, 0)) := (heap_setCell_same _ w.heap.size 1 _ _ _ s1).trans (by simp)
          have s3 : (((w4.setCell ⟨w.heap.size, 0, none⟩ (.int .i64 a1)).setCell ⟨w.heap.size, 1, none⟩ (.int .i64 a2)).setCell ⟨w.heap.size, 2, none⟩ (.int .u64 (a3 : Int))).heap[w.heap.size]? = some (.cells #[.int .i64 a1, .int .i64 a2, .int .u64 (a3 : Int), .string ⟨#[]⟩] 43 (0, 0)) := (heap_setCell_same _ w.heap.size 2 _ _ _ s2).trans (by simp)
          have s4 : ((((w4.setCell ⟨w.heap.size, 0, none⟩ (.int .i64 a1)).setCell ⟨w.heap.size, 1, none⟩ (.int .i64 a2)).setCell ⟨w.heap.size, 2, none⟩ (.int .u64 (a3 : Int))).setCell ⟨w.heap.size, 3, none⟩ (.string a4)).heap[w.heap.size]? = some (.cells #[.int .i64 a1, .int .i64 a2, .int .u64 (a3 : Int), .string a4] 43 (0, 0)) := (heap_setCell_same _ w.heap.size 3 _ _ _ s3).trans (by simp)
          have hset : ((((w4.setCell ⟨w.heap.size, 0, none⟩ (.int .i64 a1)).setCell ⟨w.heap.size, 1, none⟩ (.int .i64 a2)).setCell ⟨w.heap.size, 2, none⟩ (.int .u64 (a3 : Int))).setCell ⟨w.heap.size, 3, none⟩ (.string a4)).heap[w.heap.size]? = some (.cells #[.int .i64 a1, .int .i64 a2, .int .u64 (a3 : Int), .string a4] 43 (0, 0)) := s4
          have gset : w4.grownBy ((((w4.setCell ⟨w.heap.size, 0, none⟩ (.int .i64 a1)).setCell ⟨w.heap.size, 1, none⟩ (.int .i64 a2)).setCell ⟨w.heap.size, 2, none⟩ (.int .u64 (a3 : Int))).setCell ⟨w.heap.size, 3, none⟩ (.string a4)) (some w.heap.size) := (((grown_set _ w.heap.size 0 _).trans (grown_set _ w.heap.size 1 _)).trans (grown_set _ w.heap.size 2 _)).trans (grown_set _ w.heap.size 3 _)
          have gall : w.grownBy ((((w4.setCell ⟨w.heap.size, 0, none⟩ (.int .i64 a1)).setCell ⟨w.heap.size, 1, none⟩ (.int .i64 a2)).setCell ⟨w.heap.size, 2, none⟩ (.int .u64 (a3 : Int))).setCell ⟨w.heap.size, 3, none⟩ (.string a4)) (some p) := grown_new (hga.trans hgA) gset (Nat.le_refl _)
          have hatF : RdAt p ((((w4.setCell ⟨w.heap.size, 0, none⟩ (.int .i64 a1)).setCell ⟨w.heap.size, 1, none⟩ (.int .i64 a2)).setCell ⟨w.heap.size, 2, none⟩ (.int .u64 (a3 : Int))).setCell ⟨w.heap.size, 3, none⟩ (.string a4)) y4 := grown_box gset hat4 (by omega)
          have q0 := box_cell hset 0 _ rfl
          have q1 := box_cell hset 1 _ rfl
          have q2 := box_cell hset 2 _ rfl
          have q3 := box_cell hset 3 _ rfl
          refine bodyPost_ret (v := .agg #[.int .i64 a1, .int .i64 a2, .int .u64 (a3 : Int), .string a4]) (by simp [results, Try.results89, go_sem, q0, q1, q2, q3]) rfl ⟨gall, _, y4, rfl, rfl, hatF, hy4⟩
end Go.Proofs.Ytndppffcladalaa
