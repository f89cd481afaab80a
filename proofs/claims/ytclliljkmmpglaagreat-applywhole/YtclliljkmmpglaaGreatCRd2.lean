/-
  Contracts: package cmd's reader: values, ranges, writes.
-/
import Derived.Test.YtclliljkmmpglaaGreatBase
import Derived.Test.YtclliljkmmpglaaGreatCRd1
namespace Go.Proofs.YtclliljkmmpglaaGreat
open Go.RowKit Num
set_option linter.unusedVariables false
set_option maxRecDepth 100000

set_option maxRecDepth 100000 in
set_option maxHeartbeats 4000000 in
theorem gVal_any {p : Nat} {w : World} {x : ByteArray} (h : RdAt p w x) (hx : x.size ≤ 1000000) :
    Calls Tryz.prog 136 #[.pointer (some ⟨p, 0, none⟩)] w fun e w' => Rds p w (fun B w' v (a : Val) => ∃ cs : List Value, v = .agg cs.toArray ∧ ValV B w' cs a) (rdVal x.data.toList) e w' := by
  have hp := h.lt
  have hd : x.data.toList.length = x.size := rfl
  have h0 : RdAt p (w.alloc (.cells #[.int .i64 0, .int .i64 0, .int .u64 0, .string ⟨#[]⟩] 119)) x := alloc_box _ h
  have hbz := heap_new w (.cells #[.int .i64 0, .int .i64 0, .int .u64 0, .string ⟨#[]⟩] 119)
  have hsz0 : (w.alloc (.cells #[.int .i64 0, .int .i64 0, .int .u64 0, .string ⟨#[]⟩] 119)).heap.size = w.heap.size + 1 := by simp
  have hga : w.grownBy (w.alloc (.cells #[.int .i64 0, .int .i64 0, .int .u64 0, .string ⟨#[]⟩] 119)) (some p) := World.grownBy_alloc w _ _
  cases hr1 : rdInt x.data.toList with
  | none =>
    have hR : rdVal x.data.toList = none := by simp [rdVal, hr1]
    rw [hR]
    have hf1 := gInt_any h0 (by omega)
    rw [hr1] at hf1
    clear hR hr1
    go_enter Tryz.func136, Tryz.ntmps136
    go_wp2_with (first
        | (go_at_call 106; refine hf1.mono ?_; rintro e w1 ⟨hg1, rfl⟩))
    exact ⟨rfl, hga.trans hg1, rfl⟩
  | some qq1 =>
    obtain ⟨a1, r1⟩ := qq1
    have hl1 : r1.length ≤ x.size := rdInt_le _ _ hr1
    cases hr2 : rdNat r1 with
    | none =>
      have hq2 : rdInt r1 = none := by rw [rdInt_map, hr2]; rfl
      have hR : rdVal x.data.toList = none := by simp [rdVal, hr1, hq2]
      rw [hR]
      have hf1 := gInt_any h0 (by omega)
      rw [hr1] at hf1
      have hf2 : ∀ w1 y1, RdAt p w1 y1 → y1.data.toList = r1 → Calls Tryz.prog 133 #[.pointer (some ⟨p, 0, none⟩)] w1 fun e w' => Rds p w1 (fun _ _ v (n : Nat) => v = .int .u64 (n : Int)) none e w' := fun w1 y1 hat hy => by
        have hs : y1.size = r1.length := by rw [← hy]; rfl
        have t := gNat_any hat (by omega)
        rw [hy, hr2] at t
        exact t
      clear hR hr1 hr2 hq2
      go_enter Tryz.func136, Tryz.ntmps136
      go_wp2_with (first
          | (go_at_call 106; refine hf1.mono ?_; rintro e w1 ⟨hg1, v1, y1, rfl, rfl, hat1, hy1⟩; clear hf1)
          | (go_at_call 133; refine (hf2 _ _ hat1 hy1).mono ?_; rintro e w2 ⟨hg2, rfl⟩))
      exact ⟨rfl, hga.trans (hg1.trans hg2), rfl⟩
    | some qq2 =>
      obtain ⟨a2, r2⟩ := qq2
      have hl2 : r2.length ≤ r1.length := rdNat_le _ _ hr2
      obtain ⟨z2, hz2⟩ : ∃ z, sgn a2 = z := ⟨_, rfl⟩
      have hcv2 : IntKind.i64.wrap (a2 : Int) = z2 := by
        have hlt := rdNat_ok _ _ hr2
        rw [← hz2, IntKind.wrap_i64]
        unfold sgn
        simp only at hlt
        split <;> omega
      have hq2 : rdInt r1 = some (z2, r2) := by rw [rdInt_map, hr2, ← hz2]; rfl
      clear hz2
      cases hr3 : rdNat r2 with
      | none =>
        have hR : rdVal x.data.toList = none := by simp [rdVal, hr1, hq2, hr3]
        rw [hR]
        have hf1 := gInt_any h0 (by omega)
        rw [hr1] at hf1
        have hf2 : ∀ w1 y1, RdAt p w1 y1 → y1.data.toList = r1 → Calls Tryz.prog 133 #[.pointer (some ⟨p, 0, none⟩)] w1 fun e w' => Rds p w1 (fun _ _ v (n : Nat) => v = .int .u64 (n : Int)) (some (a2, r2)) e w' := fun w1 y1 hat hy => by
          have hs : y1.size = r1.length := by rw [← hy]; rfl
          have t := gNat_any hat (by omega)
          rw [hy, hr2] at t
          exact t
        have hf3 : ∀ w1 y1, RdAt p w1 y1 → y1.data.toList = r2 → Calls Tryz.prog 133 #[.pointer (some ⟨p, 0, none⟩)] w1 fun e w' => Rds p w1 (fun _ _ v (n : Nat) => v = .int .u64 (n : Int)) none e w' := fun w1 y1 hat hy => by
          have hs : y1.size = r2.length := by rw [← hy]; rfl
          have t := gNat_any hat (by omega)
          rw [hy, hr3] at t
          exact t
        clear hR hr1 hr2 hq2 hr3
        go_enter Tryz.func136, Tryz.ntmps136
        go_wp2_with (first
            | (go_at_call 106; refine hf1.mono ?_; rintro e w1 ⟨hg1, v1, y1, rfl, rfl, hat1, hy1⟩; clear hf1)
            | (go_at_call 133; refine (hf2 _ _ hat1 hy1).mono ?_; rintro e w2 ⟨hg2, v2, y2, rfl, rfl, hat2, hy2⟩; clear hf2)
            | (go_at_call 133; refine (hf3 _ _ hat2 hy2).mono ?_; rintro e w3 ⟨hg3, rfl⟩))
        exact ⟨rfl, hga.trans ((hg1.trans hg2).trans hg3), rfl⟩
      | some qq3 =>
        obtain ⟨a3, r3⟩ := qq3
        have hl3 : r3.length ≤ r2.length := rdNat_le _ _ hr3
        cases hr4 : rdTxt r3 with
        | none =>
          have hR : rdVal x.data.toList = none := by simp [rdVal, hr1, hq2, hr3, hr4]
          rw [hR]
          have hf1 := gInt_any h0 (by omega)
          rw [hr1] at hf1
          have hf2 : ∀ w1 y1, RdAt p w1 y1 → y1.data.toList = r1 → Calls Tryz.prog 133 #[.pointer (some ⟨p, 0, none⟩)] w1 fun e w' => Rds p w1 (fun _ _ v (n : Nat) => v = .int .u64 (n : Int)) (some (a2, r2)) e w' := fun w1 y1 hat hy => by
            have hs : y1.size = r1.length := by rw [← hy]; rfl
            have t := gNat_any hat (by omega)
            rw [hy, hr2] at t
            exact t
          have hf3 : ∀ w1 y1, RdAt p w1 y1 → y1.data.toList = r2 → Calls Tryz.prog 133 #[.pointer (some ⟨p, 0, none⟩)] w1 fun e w' => Rds p w1 (fun _ _ v (n : Nat) => v = .int .u64 (n : Int)) (some (a3, r3)) e w' := fun w1 y1 hat hy => by
            have hs : y1.size = r2.length := by rw [← hy]; rfl
            have t := gNat_any hat (by omega)
            rw [hy, hr3] at t
            exact t
          have hf4 : ∀ w1 y1, RdAt p w1 y1 → y1.data.toList = r3 → Calls Tryz.prog 108 #[.pointer (some ⟨p, 0, none⟩)] w1 fun e w' => Rds p w1 (fun _ _ v (s : ByteArray) => v = .string s) none e w' := fun w1 y1 hat hy => by
            have hs : y1.size = r3.length := by rw [← hy]; rfl
            have t := gTxt_any hat (by omega)
            rw [hy, hr4] at t
            exact t
          clear hR hr1 hr2 hq2 hr3 hr4
          go_enter Tryz.func136, Tryz.ntmps136
          go_wp2_with (first
              | (go_at_call 106; refine hf1.mono ?_; rintro e w1 ⟨hg1, v1, y1, rfl, rfl, hat1, hy1⟩; clear hf1)
              | (go_at_call 133; refine (hf2 _ _ hat1 hy1).mono ?_; rintro e w2 ⟨hg2, v2, y2, rfl, rfl, hat2, hy2⟩; clear hf2)
              | (go_at_call 133; refine (hf3 _ _ hat2 hy2).mono ?_; rintro e w3 ⟨hg3, v3, y3, rfl, rfl, hat3, hy3⟩; clear hf3)
              | (go_at_call 108; refine (hf4 _ _ hat3 hy3).mono ?_; rintro e w4 ⟨hg4, rfl⟩))
          exact ⟨rfl, hga.trans (((hg1.trans hg2).trans hg3).trans hg4), rfl⟩
        | some qq4 =>
          obtain ⟨a4, r4⟩ := qq4
          have hl4 : r4.length ≤ r3.length := rdTxt_le _ _ hr4
          have hR : rdVal x.data.toList = some ((⟨a1, z2, a3, a4⟩ : Val), r4) := by simp [rdVal, hr1, hq2, hr3, hr4]
          rw [hR]
          have hf1 := gInt_any h0 (by omega)
          rw [hr1] at hf1
          have hf2 : ∀ w1 y1, RdAt p w1 y1 → y1.data.toList = r1 → Calls Tryz.prog 133 #[.pointer (some ⟨p, 0, none⟩)] w1 fun e w' => Rds p w1 (fun _ _ v (n : Nat) => v = .int .u64 (n : Int)) (some (a2, r2)) e w' := fun w1 y1 hat hy => by
            have hs : y1.size = r1.length := by rw [← hy]; rfl
            have t := gNat_any hat (by omega)
            rw [hy, hr2] at t
            exact t
          have hf3 : ∀ w1 y1, RdAt p w1 y1 → y1.data.toList = r2 → Calls Tryz.prog 133 #[.pointer (some ⟨p, 0, none⟩)] w1 fun e w' => Rds p w1 (fun _ _ v (n : Nat) => v = .int .u64 (n : Int)) (some (a3, r3)) e w' := fun w1 y1 hat hy => by
            have hs : y1.size = r2.length := by rw [← hy]; rfl
            have t := gNat_any hat (by omega)
            rw [hy, hr3] at t
            exact t
          have hf4 : ∀ w1 y1, RdAt p w1 y1 → y1.data.toList = r3 → Calls Tryz.prog 108 #[.pointer (some ⟨p, 0, none⟩)] w1 fun e w' => Rds p w1 (fun _ _ v (s : ByteArray) => v = .string s) (some (a4, r4)) e w' := fun w1 y1 hat hy => by
            have hs : y1.size = r3.length := by rw [← hy]; rfl
            have t := gTxt_any hat (by omega)
            rw [hy, hr4] at t
            exact t
          clear hR hr1 hr2 hq2 hr3 hr4
          go_enter Tryz.func136, Tryz.ntmps136
          go_wp2_with (first
              | (go_at_call 106; refine hf1.mono ?_; rintro e w1 ⟨hg1, v1, y1, rfl, rfl, hat1, hy1⟩; clear hf1)
              | (go_at_call 133; refine (hf2 _ _ hat1 hy1).mono ?_; rintro e w2 ⟨hg2, v2, y2, rfl, rfl, hat2, hy2⟩; clear hf2)
              | (go_at_call 133; refine (hf3 _ _ hat2 hy2).mono ?_; rintro e w3 ⟨hg3, v3, y3, rfl, rfl, hat3, hy3⟩; clear hf3)
              | (go_at_call 108; refine (hf4 _ _ hat3 hy3).mono ?_; rintro e w4 ⟨hg4, v4, y4, rfl, rfl, hat4, hy4⟩; clear hf4; have hgA := (((hg1.trans hg2).trans hg3).trans hg4); have bz := grown_box hgA hbz (by omega); have z_0 := box_cell bz 0 _ rfl; have f0 := box_open bz 0; have z_1 := box_cell bz 1 _ rfl; have f1 := box_open bz 1; have z_2 := box_cell bz 2 _ rfl; have f2 := box_open bz 2; have z_3 := box_cell bz 3 _ rfl; have f3 := box_open bz 3))
          have s1 : (w4.setCell ⟨w.heap.size, 0, none⟩ (.int .i64 a1)).heap[w.heap.size]? = some (.cells #[.int .i64 a1, .int .i64 0, .int .u64 0, .string ⟨#[]⟩] 119 (0, 0)) := (heap_setCell_same _ w.heap.size 0 _ _ _ bz).trans (by simp)
          have s2 : ((w4.setCell ⟨w.heap.size, 0, none⟩ (.int .i64 a1)).setCell ⟨w.heap.size, 1, none⟩ (.int .i64 z2)).heap[w.heap.size]? = some (.cells #[.int .i64 a1, .int .i64 z2, .int .u64 0, .string ⟨#[]⟩] 119 (0, 0)) := (heap_setCell_same _ w.heap.size 1 _ _ _ s1).trans (by simp)
          have s3 : (((w4.setCell ⟨w.heap.size, 0, none⟩ (.int .i64 a1)).setCell ⟨w.heap.size, 1, none⟩ (.int .i64 z2)).setCell ⟨w.heap.size, 2, none⟩ (.int .u64 (a3 : Int))).heap[w.heap.size]? = some (.cells #[.int .i64 a1, .int .i64 z2, .int .u64 (a3 : Int), .string ⟨#[]⟩] 119 (0, 0)) := (heap_setCell_same _ w.heap.size 2 _ _ _ s2).trans (by simp)
          have s4 : ((((w4.setCell ⟨w.heap.size, 0, none⟩ (.int .i64 a1)).setCell ⟨w.heap.size, 1, none⟩ (.int .i64 z2)).setCell ⟨w.heap.size, 2, none⟩ (.int .u64 (a3 : Int))).setCell ⟨w.heap.size, 3, none⟩ (.string a4)).heap[w.heap.size]? = some (.cells #[.int .i64 a1, .int .i64 z2, .int .u64 (a3 : Int), .string a4] 119 (0, 0)) := (heap_setCell_same _ w.heap.size 3 _ _ _ s3).trans (by simp)
          have gset : w4.grownBy ((((w4.setCell ⟨w.heap.size, 0, none⟩ (.int .i64 a1)).setCell ⟨w.heap.size, 1, none⟩ (.int .i64 z2)).setCell ⟨w.heap.size, 2, none⟩ (.int .u64 (a3 : Int))).setCell ⟨w.heap.size, 3, none⟩ (.string a4)) (some w.heap.size) := (((grown_set _ w.heap.size 0 _).trans (grown_set _ w.heap.size 1 _)).trans (grown_set _ w.heap.size 2 _)).trans (grown_set _ w.heap.size 3 _)
          have gall : w.grownBy ((((w4.setCell ⟨w.heap.size, 0, none⟩ (.int .i64 a1)).setCell ⟨w.heap.size, 1, none⟩ (.int .i64 z2)).setCell ⟨w.heap.size, 2, none⟩ (.int .u64 (a3 : Int))).setCell ⟨w.heap.size, 3, none⟩ (.string a4)) (some p) := grown_new (hga.trans hgA) gset (Nat.le_refl _)
          have hatF : RdAt p ((((w4.setCell ⟨w.heap.size, 0, none⟩ (.int .i64 a1)).setCell ⟨w.heap.size, 1, none⟩ (.int .i64 z2)).setCell ⟨w.heap.size, 2, none⟩ (.int .u64 (a3 : Int))).setCell ⟨w.heap.size, 3, none⟩ (.string a4)) y4 := grown_box gset hat4 (by omega)
          have q0 := box_cell s4 0 _ rfl
          have q1 := box_cell s4 1 _ rfl
          have q2 := box_cell s4 2 _ rfl
          have q3 := box_cell s4 3 _ rfl
          refine bodyPost_ret (v := .agg #[.int .i64 a1, .int .i64 z2, .int .u64 (a3 : Int), .string a4]) (by simp [results, Tryz.results136, go_sem, q0, q1, q2, q3]) rfl ⟨gall, _, y4, rfl, ⟨_, rfl, rfl⟩, hatF, hy4⟩
set_option maxRecDepth 100000 in
set_option maxHeartbeats 4000000 in
theorem gRng_any {p : Nat} {w : World} {x : ByteArray} (h : RdAt p w x) (hx : x.size ≤ 1000000) :
    Calls Tryz.prog 110 #[.pointer (some ⟨p, 0, none⟩)] w fun e w' => Rds p w (fun B w' v (a : Rng) => ∃ cs : List Value, v = .agg cs.toArray ∧ RngV B w' cs a) (rdRng x.data.toList) e w' := by
  have hp := h.lt
  have hd : x.data.toList.length = x.size := rfl
  have h0 : RdAt p (w.alloc (.cells #[.string ⟨#[]⟩, .string ⟨#[]⟩] 67)) x := alloc_box _ h
  have hbz := heap_new w (.cells #[.string ⟨#[]⟩, .string ⟨#[]⟩] 67)
  have hsz0 : (w.alloc (.cells #[.string ⟨#[]⟩, .string ⟨#[]⟩] 67)).heap.size = w.heap.size + 1 := by simp
  have hga : w.grownBy (w.alloc (.cells #[.string ⟨#[]⟩, .string ⟨#[]⟩] 67)) (some p) := World.grownBy_alloc w _ _
  cases hr1 : rdTxt x.data.toList with
  | none =>
    have hR : rdRng x.data.toList = none := by simp [rdRng, hr1]
    rw [hR]
    have hf1 := gTxt_any h0 (by omega)
    rw [hr1] at hf1
    clear hR hr1
    go_enter Tryz.func110, Tryz.ntmps110
    go_wp2_with (first
        | (go_at_call 108; refine hf1.mono ?_; rintro e w1 ⟨hg1, rfl⟩))
    exact ⟨rfl, hga.trans hg1, rfl⟩
  | some qq1 =>
    obtain ⟨a1, r1⟩ := qq1
    have hl1 : r1.length ≤ x.size := rdTxt_le _ _ hr1
    cases hr2 : rdTxt r1 with
    | none =>
      have hR : rdRng x.data.toList = none := by simp [rdRng, hr1, hr2]
      rw [hR]
      have hf1 := gTxt_any h0 (by omega)
      rw [hr1] at hf1
      have hf2 : ∀ w1 y1, RdAt p w1 y1 → y1.data.toList = r1 → Calls Tryz.prog 108 #[.pointer (some ⟨p, 0, none⟩)] w1 fun e w' => Rds p w1 (fun _ _ v (s : ByteArray) => v = .string s) none e w' := fun w1 y1 hat hy => by
        have hs : y1.size = r1.length := by rw [← hy]; rfl
        have t := gTxt_any hat (by omega)
        rw [hy, hr2] at t
        exact t
      clear hR hr1 hr2
      go_enter Tryz.func110, Tryz.ntmps110
      go_wp2_with (first
          | (go_at_call 108; refine hf1.mono ?_; rintro e w1 ⟨hg1, v1, y1, rfl, rfl, hat1, hy1⟩; clear hf1)
          | (go_at_call 108; refine (hf2 _ _ hat1 hy1).mono ?_; rintro e w2 ⟨hg2, rfl⟩))
      exact ⟨rfl, hga.trans (hg1.trans hg2), rfl⟩
    | some qq2 =>
      obtain ⟨a2, r2⟩ := qq2
      have hl2 : r2.length ≤ r1.length := rdTxt_le _ _ hr2
      have hR : rdRng x.data.toList = some ((⟨a1, a2⟩ : Rng), r2) := by simp [rdRng, hr1, hr2]
      rw [hR]
      have hf1 := gTxt_any h0 (by omega)
      rw [hr1] at hf1
      have hf2 : ∀ w1 y1, RdAt p w1 y1 → y1.data.toList = r1 → Calls Tryz.prog 108 #[.pointer (some ⟨p, 0, none⟩)] w1 fun e w' => Rds p w1 (fun _ _ v (s : ByteArray) => v = .string s) (some (a2, r2)) e w' := fun w1 y1 hat hy => by
        have hs : y1.size = r1.length := by rw [← hy]; rfl
        have t := gTxt_any hat (by omega)
        rw [hy, hr2] at t
        exact t
      clear hR hr1 hr2
      go_enter Tryz.func110, Tryz.ntmps110
      go_wp2_with (first
          | (go_at_call 108; refine hf1.mono ?_; rintro e w1 ⟨hg1, v1, y1, rfl, rfl, hat1, hy1⟩; clear hf1)
          | (go_at_call 108; refine (hf2 _ _ hat1 hy1).mono ?_; rintro e w2 ⟨hg2, v2, y2, rfl, rfl, hat2, hy2⟩; clear hf2; have hgA := (hg1.trans hg2); have bz := grown_box hgA hbz (by omega); have z_0 := box_cell bz 0 _ rfl; have f0 := box_open bz 0; have z_1 := box_cell bz 1 _ rfl; have f1 := box_open bz 1))
      have s1 : (w2.setCell ⟨w.heap.size, 0, none⟩ (.string a1)).heap[w.heap.size]? = some (.cells #[.string a1, .string ⟨#[]⟩] 67 (0, 0)) := (heap_setCell_same _ w.heap.size 0 _ _ _ bz).trans (by simp)
      have s2 : ((w2.setCell ⟨w.heap.size, 0, none⟩ (.string a1)).setCell ⟨w.heap.size, 1, none⟩ (.string a2)).heap[w.heap.size]? = some (.cells #[.string a1, .string a2] 67 (0, 0)) := (heap_setCell_same _ w.heap.size 1 _ _ _ s1).trans (by simp)
      have gset : w2.grownBy ((w2.setCell ⟨w.heap.size, 0, none⟩ (.string a1)).setCell ⟨w.heap.size, 1, none⟩ (.string a2)) (some w.heap.size) := (grown_set _ w.heap.size 0 _).trans (grown_set _ w.heap.size 1 _)
      have gall : w.grownBy ((w2.setCell ⟨w.heap.size, 0, none⟩ (.string a1)).setCell ⟨w.heap.size, 1, none⟩ (.string a2)) (some p) := grown_new (hga.trans hgA) gset (Nat.le_refl _)
      have hatF : RdAt p ((w2.setCell ⟨w.heap.size, 0, none⟩ (.string a1)).setCell ⟨w.heap.size, 1, none⟩ (.string a2)) y2 := grown_box gset hat2 (by omega)
      have q0 := box_cell s2 0 _ rfl
      have q1 := box_cell s2 1 _ rfl
      refine bodyPost_ret (v := .agg #[.string a1, .string a2]) (by simp [results, Tryz.results110, go_sem, q0, q1]) rfl ⟨gall, _, y2, rfl, ⟨_, rfl, rfl⟩, hatF, hy2⟩
set_option maxRecDepth 100000 in
set_option maxHeartbeats 4000000 in
theorem gWrt_any {p : Nat} {w : World} {x : ByteArray} (h : RdAt p w x) (hx : x.size ≤ 1000000) :
    Calls Tryz.prog 112 #[.pointer (some ⟨p, 0, none⟩)] w fun e w' => Rds p w (fun B w' v (a : Wrt) => ∃ cs : List Value, v = .agg cs.toArray ∧ WrtV B w' cs a) (rdWrt x.data.toList) e w' := by
  have hp := h.lt
  have hd : x.data.toList.length = x.size := rfl
  have h0 : RdAt p (w.alloc (.cells #[.string ⟨#[]⟩, .string ⟨#[]⟩, .bool false] 72)) x := alloc_box _ h
  have hbz := heap_new w (.cells #[.string ⟨#[]⟩, .string ⟨#[]⟩, .bool false] 72)
  have hsz0 : (w.alloc (.cells #[.string ⟨#[]⟩, .string ⟨#[]⟩, .bool false] 72)).heap.size = w.heap.size + 1 := by simp
  have hga : w.grownBy (w.alloc (.cells #[.string ⟨#[]⟩, .string ⟨#[]⟩, .bool false] 72)) (some p) := World.grownBy_alloc w _ _
  cases hr1 : rdTxt x.data.toList with
  | none =>
    have hR : rdWrt x.data.toList = none := by simp [rdWrt, hr1]
    rw [hR]
    have hf1 := gTxt_any h0 (by omega)
    rw [hr1] at hf1
    clear hR hr1
    go_enter Tryz.func112, Tryz.ntmps112
    go_wp2_with (first
        | (go_at_call 108; refine hf1.mono ?_; rintro e w1 ⟨hg1, rfl⟩))
    exact ⟨rfl, hga.trans hg1, rfl⟩
  | some qq1 =>
    obtain ⟨a1, r1⟩ := qq1
    have hl1 : r1.length ≤ x.size := rdTxt_le _ _ hr1
    cases hr2 : rdTxt r1 with
    | none =>
      have hR : rdWrt x.data.toList = none := by simp [rdWrt, hr1, hr2]
      rw [hR]
      have hf1 := gTxt_any h0 (by omega)
      rw [hr1] at hf1
      have hf2 : ∀ w1 y1, RdAt p w1 y1 → y1.data.toList = r1 → Calls Tryz.prog 108 #[.pointer (some ⟨p, 0, none⟩)] w1 fun e w' => Rds p w1 (fun _ _ v (s : ByteArray) => v = .string s) none e w' := fun w1 y1 hat hy => by
        have hs : y1.size = r1.length := by rw [← hy]; rfl
        have t := gTxt_any hat (by omega)
        rw [hy, hr2] at t
        exact t
      clear hR hr1 hr2
      go_enter Tryz.func112, Tryz.ntmps112
      go_wp2_with (first
          | (go_at_call 108; refine hf1.mono ?_; rintro e w1 ⟨hg1, v1, y1, rfl, rfl, hat1, hy1⟩; clear hf1)
          | (go_at_call 108; refine (hf2 _ _ hat1 hy1).mono ?_; rintro e w2 ⟨hg2, rfl⟩))
      exact ⟨rfl, hga.trans (hg1.trans hg2), rfl⟩
    | some qq2 =>
      obtain ⟨a2, r2⟩ := qq2
      have hl2 : r2.length ≤ r1.length := rdTxt_le _ _ hr2
      cases hr3 : rdInt r2 with
      | none =>
        have hq3 : rdBit r2 = none := by unfold rdBit; rw [hr3]; rfl
        have hR : rdWrt x.data.toList = none := by simp [rdWrt, hr1, hr2, hq3]
        rw [hR]
        have hf1 := gTxt_any h0 (by omega)
        rw [hr1] at hf1
        have hf2 : ∀ w1 y1, RdAt p w1 y1 → y1.data.toList = r1 → Calls Tryz.prog 108 #[.pointer (some ⟨p, 0, none⟩)] w1 fun e w' => Rds p w1 (fun _ _ v (s : ByteArray) => v = .string s) (some (a2, r2)) e w' := fun w1 y1 hat hy => by
          have hs : y1.size = r1.length := by rw [← hy]; rfl
          have t := gTxt_any hat (by omega)
          rw [hy, hr2] at t
          exact t
        have hf3 : ∀ w1 y1, RdAt p w1 y1 → y1.data.toList = r2 → Calls Tryz.prog 106 #[.pointer (some ⟨p, 0, none⟩)] w1 fun e w' => Rds p w1 (fun _ _ v (n : Int) => v = .int .i64 n) none e w' := fun w1 y1 hat hy => by
          have hs : y1.size = r2.length := by rw [← hy]; rfl
          have t := gInt_any hat (by omega)
          rw [hy, hr3] at t
          exact t
        clear hR hr1 hr2 hr3 hq3
        go_enter Tryz.func112, Tryz.ntmps112
        go_wp2_with (first
            | (go_at_call 108; refine hf1.mono ?_; rintro e w1 ⟨hg1, v1, y1, rfl, rfl, hat1, hy1⟩; clear hf1)
            | (go_at_call 108; refine (hf2 _ _ hat1 hy1).mono ?_; rintro e w2 ⟨hg2, v2, y2, rfl, rfl, hat2, hy2⟩; clear hf2)
            | (go_at_call 106; refine (hf3 _ _ hat2 hy2).mono ?_; rintro e w3 ⟨hg3, rfl⟩))
        exact ⟨rfl, hga.trans ((hg1.trans hg2).trans hg3), rfl⟩
      | some qq3 =>
        obtain ⟨a3, r3⟩ := qq3
        have hl3 : r3.length ≤ r2.length := rdInt_le _ _ hr3
        have hq3 : rdBit r2 = some (a3 == 1, r3) := by unfold rdBit; rw [hr3]; rfl
        have hR : rdWrt x.data.toList = some ((⟨a1, a2, a3 == 1⟩ : Wrt), r3) := by simp [rdWrt, hr1, hr2, hq3]
        rw [hR]
        have hf1 := gTxt_any h0 (by omega)
        rw [hr1] at hf1
        have hf2 : ∀ w1 y1, RdAt p w1 y1 → y1.data.toList = r1 → Calls Tryz.prog 108 #[.pointer (some ⟨p, 0, none⟩)] w1 fun e w' => Rds p w1 (fun _ _ v (s : ByteArray) => v = .string s) (some (a2, r2)) e w' := fun w1 y1 hat hy => by
          have hs : y1.size = r1.length := by rw [← hy]; rfl
          have t := gTxt_any hat (by omega)
          rw [hy, hr2] at t
          exact t
        have hf3 : ∀ w1 y1, RdAt p w1 y1 → y1.data.toList = r2 → Calls Tryz.prog 106 #[.pointer (some ⟨p, 0, none⟩)] w1 fun e w' => Rds p w1 (fun _ _ v (n : Int) => v = .int .i64 n) (some (a3, r3)) e w' := fun w1 y1 hat hy => by
          have hs : y1.size = r2.length := by rw [← hy]; rfl
          have t := gInt_any hat (by omega)
          rw [hy, hr3] at t
          exact t
        clear hR hr1 hr2 hr3 hq3
        go_enter Tryz.func112, Tryz.ntmps112
        go_wp2_with (first
            | (go_at_call 108; refine hf1.mono ?_; rintro e w1 ⟨hg1, v1, y1, rfl, rfl, hat1, hy1⟩; clear hf1)
            | (go_at_call 108; refine (hf2 _ _ hat1 hy1).mono ?_; rintro e w2 ⟨hg2, v2, y2, rfl, rfl, hat2, hy2⟩; clear hf2)
            | (go_at_call 106; refine (hf3 _ _ hat2 hy2).mono ?_; rintro e w3 ⟨hg3, v3, y3, rfl, rfl, hat3, hy3⟩; clear hf3; have hgA := ((hg1.trans hg2).trans hg3); have bz := grown_box hgA hbz (by omega); have z_0 := box_cell bz 0 _ rfl; have f0 := box_open bz 0; have z_1 := box_cell bz 1 _ rfl; have f1 := box_open bz 1; have z_2 := box_cell bz 2 _ rfl; have f2 := box_open bz 2))
        have s1 : (w3.setCell ⟨w.heap.size, 0, none⟩ (.string a1)).heap[w.heap.size]? = some (.cells #[.string a1, .string ⟨#[]⟩, .bool false] 72 (0, 0)) := (heap_setCell_same _ w.heap.size 0 _ _ _ bz).trans (by simp)
        have s2 : ((w3.setCell ⟨w.heap.size, 0, none⟩ (.string a1)).setCell ⟨w.heap.size, 1, none⟩ (.string a2)).heap[w.heap.size]? = some (.cells #[.string a1, .string a2, .bool false] 72 (0, 0)) := (heap_setCell_same _ w.heap.size 1 _ _ _ s1).trans (by simp)
        have s3 : (((w3.setCell ⟨w.heap.size, 0, none⟩ (.string a1)).setCell ⟨w.heap.size, 1, none⟩ (.string a2)).setCell ⟨w.heap.size, 2, none⟩ (.bool (a3 == 1))).heap[w.heap.size]? = some (.cells #[.string a1, .string a2, .bool (a3 == 1)] 72 (0, 0)) := (heap_setCell_same _ w.heap.size 2 _ _ _ s2).trans (by simp)
        have gset : w3.grownBy (((w3.setCell ⟨w.heap.size, 0, none⟩ (.string a1)).setCell ⟨w.heap.size, 1, none⟩ (.string a2)).setCell ⟨w.heap.size, 2, none⟩ (.bool (a3 == 1))) (some w.heap.size) := ((grown_set _ w.heap.size 0 _).trans (grown_set _ w.heap.size 1 _)).trans (grown_set _ w.heap.size 2 _)
        have gall : w.grownBy (((w3.setCell ⟨w.heap.size, 0, none⟩ (.string a1)).setCell ⟨w.heap.size, 1, none⟩ (.string a2)).setCell ⟨w.heap.size, 2, none⟩ (.bool (a3 == 1))) (some p) := grown_new (hga.trans hgA) gset (Nat.le_refl _)
        have hatF : RdAt p (((w3.setCell ⟨w.heap.size, 0, none⟩ (.string a1)).setCell ⟨w.heap.size, 1, none⟩ (.string a2)).setCell ⟨w.heap.size, 2, none⟩ (.bool (a3 == 1))) y3 := grown_box gset hat3 (by omega)
        have q0 := box_cell s3 0 _ rfl
        have q1 := box_cell s3 1 _ rfl
        have q2 := box_cell s3 2 _ rfl
        refine bodyPost_ret (v := .agg #[.string a1, .string a2, .bool (a3 == 1)]) (by simp [results, Tryz.results112, go_sem, q0, q1, q2]) rfl ⟨gall, _, y3, rfl, ⟨_, rfl, rfl⟩, hatF, hy3⟩
end Go.Proofs.YtclliljkmmpglaaGreat
