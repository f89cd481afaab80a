/-
  Contracts: package desc's reader: indexes and lists of them.
-/
import Derived.Test.YtndppffcladalaaDRd4
namespace Go.Proofs.Ytndppffcladalaa
open Go.RowKit Num
set_option linter.unusedVariables false

set_option maxHeartbeats 2000000 in
theorem gIdx_any {p : Nat} {w : World} {x : ByteArray} (h : RdAt p w x) (hx : x.size ≤ 1000000) :
    Calls Try.prog 81 #[.pointer (some ⟨p, 0, none⟩)] w fun e w' => Rds p w (fun B w' v (a : Idx) => ∃ cs : List Value, v = .agg cs.toArray ∧ IdxV B w' cs a) (rdIdx x.data.toList) e w' := by
  have hp := h.lt
  have hd : x.data.toList.length = x.size := rfl
  have h0 : RdAt p (w.alloc (.cells #[.int .i64 0, .string ⟨#[]⟩, .slice none 0 0, .bool false, .int .i64 0] 52)) x := alloc_box _ h
  have hbz := heap_new w (.cells #[.int .i64 0, .string ⟨#[]⟩, .slice none 0 0, .bool false, .int .i64 0] 52)
  have hsz0 : (w.alloc (.cells #[.int .i64 0, .string ⟨#[]⟩, .slice none 0 0, .bool false, .int .i64 0] 52)).heap.size = w.heap.size + 1 := by simp
  have hga : w.grownBy (w.alloc (.cells #[.int .i64 0, .string ⟨#[]⟩, .slice none 0 0, .bool false, .int .i64 0] 52)) (some p) := World.grownBy_alloc w _ _
  cases hr1 : rdInt x.data.toList with
  | none =>
    have hR : rdIdx x.data.toList = none := by simp [rdIdx, hr1]
    rw [hR]
    have hf1 := gInt_any h0 hx
    rw [hr1] at hf1
    clear hR hr1
    go_enter Try.func81, Try.ntmps81
    go_wp2_with (first
        | (go_at_call 58; refine hf1.mono ?_; rintro e w1 ⟨hg1, rfl⟩))
    exact ⟨rfl, hga.trans hg1, rfl⟩
  | some qq1 =>
    obtain ⟨a1, r1⟩ := qq1
    have hl1 : r1.length ≤ x.size := rdInt_le _ _ hr1
    cases hr2 : rdTxt r1 with
    | none =>
      have hR : rdIdx x.data.toList = none := by simp [rdIdx, hr1, hr2]
      rw [hR]
      have hf1 := gInt_any h0 hx
      rw [hr1] at hf1
      have hf2 : ∀ w1 y1, RdAt p w1 y1 → y1.data.toList = r1 → Calls Try.prog 77 #[.pointer (some ⟨p, 0, none⟩)] w1 fun e w' => Rds p w1 (fun _ _ v (s : ByteArray) => v = .string s) none e w' := fun w1 y1 hat hy => by
        have hs : y1.size = r1.length := by rw [← hy]; rfl
        have t := gTxt_any hat (by omega)
        rw [hy, hr2] at t
        exact t
      clear hR hr1 hr2
      go_enter Try.func81, Try.ntmps81
      go_wp2_with (first
          | (go_at_call 58; refine hf1.mono ?_; rintro e w1 ⟨hg1, v1, y1, rfl, rfl, hat1, hy1⟩; clear hf1)
          | (go_at_call 77; refine (hf2 _ _ hat1 hy1).mono ?_; rintro e w2 ⟨hg2, rfl⟩))
      exact ⟨rfl, hga.trans (hg1.trans hg2), rfl⟩
    | some qq2 =>
      obtain ⟨a2, r2⟩ := qq2
      have hl2 : r2.length ≤ r1.length := rdTxt_le _ _ hr2
      cases hr3 : rdList 8 rdInt r2 with
      | none =>
        have hR : rdIdx x.data.toList = none := by simp [rdIdx, hr1, hr2, hr3]
        rw [hR]
        have hf1 := gInt_any h0 hx
        rw [hr1] at hf1
        have hf2 : ∀ w1 y1, RdAt p w1 y1 → y1.data.toList = r1 → Calls Try.prog 77 #[.pointer (some ⟨p, 0, none⟩)] w1 fun e w' => Rds p w1 (fun _ _ v (s : ByteArray) => v = .string s) (some (a2, r2)) e w' := fun w1 y1 hat hy => by
          have hs : y1.size = r1.length := by rw [← hy]; rfl
          have t := gTxt_any hat (by omega)
          rw [hy, hr2] at t
          exact t
        have hf3 : ∀ w1 y1, RdAt p w1 y1 → y1.data.toList = r2 → Calls Try.prog 90 #[.pointer (some ⟨p, 0, none⟩), .int .u64 8, .func (.func 58) #[] #[]] w1 fun e w' => Rds p w1 (fun B w' v (l : List Int) => RowN B w' v l) none e w' := fun w1 y1 hat hy => by
          have hs : y1.size = r2.length := by rw [← hy]; rfl
          have t := gInts_any hat (by omega)
          rw [hy, hr3] at t
          exact t
        clear hR hr1 hr2 hr3
        go_enter Try.func81, Try.ntmps81
        go_wp2_with (first
            | (go_at_call 58; refine hf1.mono ?_; rintro e w1 ⟨hg1, v1, y1, rfl, rfl, hat1, hy1⟩; clear hf1)
            | (go_at_call 77; refine (hf2 _ _ hat1 hy1).mono ?_; rintro e w2 ⟨hg2, v2, y2, rfl, rfl, hat2, hy2⟩; clear hf2)
            | (go_at_call 90; refine (hf3 _ _ hat2 hy2).mono ?_; rintro e w3 ⟨hg3, rfl⟩))
        exact ⟨rfl, hga.trans ((hg1.trans hg2).trans hg3), rfl⟩
      | some qq3 =>
        obtain ⟨a3, r3⟩ := qq3
        have hl3 : r3.length ≤ r2.length := (rdList_le rdInt_le 8) _ _ hr3
        cases hr4 : rdBit r3 with
        | none =>
          have hR : rdIdx x.data.toList = none := by simp [rdIdx, hr1, hr2, hr3, hr4]
          rw [hR]
          have hf1 := gInt_any h0 hx
          rw [hr1] at hf1
          have hf2 : ∀ w1 y1, RdAt p w1 y1 → y1.data.toList = r1 → Calls Try.prog 77 #[.pointer (some ⟨p, 0, none⟩)] w1 fun e w' => Rds p w1 (fun _ _ v (s : ByteArray) => v = .string s) (some (a2, r2)) e w' := fun w1 y1 hat hy => by
            have hs : y1.size = r1.length := by rw [← hy]; rfl
            have t := gTxt_any hat (by omega)
            rw [hy, hr2] at t
            exact t
          have hf3 : ∀ w1 y1, RdAt p w1 y1 → y1.data.toList = r2 → Calls Try.prog 90 #[.pointer (some ⟨p, 0, none⟩), .int .u64 8, .func (.func 58) #[] #[]] w1 fun e w' => Rds p w1 (fun B w' v (l : List Int) => RowN B w' v l) (some (a3, r3)) e w' := fun w1 y1 hat hy => by
            have hs : y1.size = r2.length := by rw [← hy]; rfl
            have t := gInts_any hat (by omega)
            rw [hy, hr3] at t
            exact t
          have hf4 : ∀ w1 y1, RdAt p w1 y1 → y1.data.toList = r3 → Calls Try.prog 91 #[.pointer (some ⟨p, 0, none⟩)] w1 fun e w' => Rds p w1 (fun _ _ v (b : Bool) => v = .bool b) none e w' := fun w1 y1 hat hy => by
            have hs : y1.size = r3.length := by rw [← hy]; rfl
            have t := gBit_any hat (by omega)
            rw [hy, hr4] at t
            exact t
          clear hR hr1 hr2 hr3 hr4
          go_enter Try.func81, Try.ntmps81
          go_wp2_with (first
              | (go_at_call 58; refine hf1.mono ?_; rintro e w1 ⟨hg1, v1, y1, rfl, rfl, hat1, hy1⟩; clear hf1)
              | (go_at_call 77; refine (hf2 _ _ hat1 hy1).mono ?_; rintro e w2 ⟨hg2, v2, y2, rfl, rfl, hat2, hy2⟩; clear hf2)
              | (go_at_call 90; refine (hf3 _ _ hat2 hy2).mono ?_; rintro e w3 ⟨hg3, v3, y3, rfl, hV3, hat3, hy3⟩; clear hf3; obtain ⟨ao3, cap3, rfl⟩ := rowN_shape hV3)
              | (go_at_call 91; refine (hf4 _ _ hat3 hy3).mono ?_; rintro e w4 ⟨hg4, rfl⟩))
          exact ⟨rfl, hga.trans (((hg1.trans hg2).trans hg3).trans hg4), rfl⟩
        | some qq4 =>
          obtain ⟨a4, r4⟩ := qq4
          have hl4 : r4.length ≤ r3.length := rdBit_le _ _ hr4
          cases hr5 : rdInt r4 with
          | none =>
            have hR : rdIdx x.data.toList = none := by simp [rdIdx, hr1, hr2, hr3, hr4, hr5]
            rw [hR]
            have hf1 := gInt_any h0 hx
            rw [hr1] at hf1
            have hf2 : ∀ w1 y1, RdAt p w1 y1 → y1.data.toList = r1 → Calls Try.prog 77 #[.pointer (some ⟨p, 0, none⟩)] w1 fun e w' => Rds p w1 (fun _ _ v (s : ByteArray) => v = .string s) (some (a2, r2)) e w' := fun w1 y1 hat hy => by
              have hs : y1.size = r1.length := by rw [← hy]; rfl
              have t := gTxt_any hat (by omega)
              rw [hy, hr2] at t
              exact t
            have hf3 : ∀ w1 y1, RdAt p w1 y1 → y1.data.toList = r2 → Calls Try.prog 90 #[.pointer (some ⟨p, 0, none⟩), .int .u64 8, .func (.func 58) #[] #[]] w1 fun e w' => Rds p w1 (fun B w' v (l : List Int) => RowN B w' v l) (some (a3, r3)) e w' := fun w1 y1 hat hy => by
              have hs : y1.size = r2.length := by rw [← hy]; rfl
              have t := gInts_any hat (by omega)
              rw [hy, hr3] at t
              exact t
            have hf4 : ∀ w1 y1, RdAt p w1 y1 → y1.data.toList = r3 → Calls Try.prog 91 #[.pointer (some ⟨p, 0, none⟩)] w1 fun e w' => Rds p w1 (fun _ _ v (b : Bool) => v = .bool b) (some (a4, r4)) e w' := fun w1 y1 hat hy => by
              have hs : y1.size = r3.length := by rw [← hy]; rfl
              have t := gBit_any hat (by omega)
              rw [hy, hr4] at t
              exact t
            have hf5 : ∀ w1 y1, RdAt p w1 y1 → y1.data.toList = r4 → Calls Try.prog 58 #[.pointer (some ⟨p, 0, none⟩)] w1 fun e w' => Rds p w1 (fun _ _ v (n : Int) => v = .int .i64 n) none e w' := fun w1 y1 hat hy => by
              have hs : y1.size = r4.length := by rw [← hy]; rfl
              have t := gInt_any hat (by omega)
              rw [hy, hr5] at t
              exact t
            clear hR hr1 hr2 hr3 hr4 hr5
            go_enter Try.func81, Try.ntmps81
            go_wp2_with (first
                | (go_at_call 58; refine hf1.mono ?_; rintro e w1 ⟨hg1, v1, y1, rfl, rfl, hat1, hy1⟩; clear hf1)
                | (go_at_call 77; refine (hf2 _ _ hat1 hy1).mono ?_; rintro e w2 ⟨hg2, v2, y2, rfl, rfl, hat2, hy2⟩; clear hf2)
                | (go_at_call 90; refine (hf3 _ _ hat2 hy2).mono ?_; rintro e w3 ⟨hg3, v3, y3, rfl, hV3, hat3, hy3⟩; clear hf3; obtain ⟨ao3, cap3, rfl⟩ := rowN_shape hV3)
                | (go_at_call 91; refine (hf4 _ _ hat3 hy3).mono ?_; rintro e w4 ⟨hg4, v4, y4, rfl, rfl, hat4, hy4⟩; clear hf4)
                | (go_at_call 58; refine (hf5 _ _ hat4 hy4).mono ?_; rintro e w5 ⟨hg5, rfl⟩))
            exact ⟨rfl, hga.trans ((((hg1.trans hg2).trans hg3).trans hg4).trans hg5), rfl⟩
          | some qq5 =>
            obtain ⟨a5, r5⟩ := qq5
            have hl5 : r5.length ≤ r4.length := rdInt_le _ _ hr5
            have hR : rdIdx x.data.toList = some ((⟨a1, a2, a3, a4, a5⟩ : Idx), r5) := by simp [rdIdx, hr1, hr2, hr3, hr4, hr5]
            rw [hR]
            have hf1 := gInt_any h0 hx
            rw [hr1] at hf1
            have hf2 : ∀ w1 y1, RdAt p w1 y1 → y1.data.toList = r1 → Calls Try.prog 77 #[.pointer (some ⟨p, 0, none⟩)] w1 fun e w' => Rds p w1 (fun _ _ v (s : ByteArray) => v = .string s) (some (a2, r2)) e w' := fun w1 y1 hat hy => by
              have hs : y1.size = r1.length := by rw [← hy]; rfl
              have t := gTxt_any hat (by omega)
              rw [hy, hr2] at t
              exact t
            have hf3 : ∀ w1 y1, RdAt p w1 y1 → y1.data.toList = r2 → Calls Try.prog 90 #[.pointer (some ⟨p, 0, none⟩), .int .u64 8, .func (.func 58) #[] #[]] w1 fun e w' => Rds p w1 (fun B w' v (l : List Int) => RowN B w' v l) (some (a3, r3)) e w' := fun w1 y1 hat hy => by
              have hs : y1.size = r2.length := by rw [← hy]; rfl
              have t := gInts_any hat (by omega)
              rw [hy, hr3] at t
              exact t
            have hf4 : ∀ w1 y1, RdAt p w1 y1 → y1.data.toList = r3 → Calls Try.prog 91 #[.pointer (some ⟨p, 0, none⟩)] w1 fun e w' => Rds p w1 (fun _ _ v (b : Bool) => v = .bool b) (some (a4, r4)) e w' := fun w1 y1 hat hy => by
              have hs : y1.size = r3.length := by rw [← hy]; rfl
              have t := gBit_any hat (by omega)
              rw [hy, hr4] at t
              exact t
            have hf5 : ∀ w1 y1, RdAt p w1 y1 → y1.data.toList = r4 → Calls Try.prog 58 #[.pointer (some ⟨p, 0, none⟩)] w1 fun e w' => Rds p w1 (fun _ _ v (n : Int) => v = .int .i64 n) (some (a5, r5)) e w' := fun w1 y1 hat hy => by
              have hs : y1.size = r4.length := by rw [← hy]; rfl
              have t := gInt_any hat (by omega)
              rw [hy, hr5] at t
              exact t
            clear hR hr1 hr2 hr3 hr4 hr5
            go_enter Try.func81, Try.ntmps81
            go_wp2_with (first
                | (go_at_call 58; refine hf1.mono ?_; rintro e w1 ⟨hg1, v1, y1, rfl, rfl, hat1, hy1⟩; clear hf1)
                | (go_at_call 77; refine (hf2 _ _ hat1 hy1).mono ?_; rintro e w2 ⟨hg2, v2, y2, rfl, rfl, hat2, hy2⟩; clear hf2)
                | (go_at_call 90; refine (hf3 _ _ hat2 hy2).mono ?_; rintro e w3 ⟨hg3, v3, y3, rfl, hV3, hat3, hy3⟩; clear hf3; obtain ⟨ao3, cap3, rfl⟩ := rowN_shape hV3)
                | (go_at_call 91; refine (hf4 _ _ hat3 hy3).mono ?_; rintro e w4 ⟨hg4, v4, y4, rfl, rfl, hat4, hy4⟩; clear hf4)
                | (go_at_call 58; refine (hf5 _ _ hat4 hy4).mono ?_; rintro e w5 ⟨hg5, v5, y5, rfl, rfl, hat5, hy5⟩; clear hf5; have hgA := ((((hg1.trans hg2).trans hg3).trans hg4).trans hg5); have bz := grown_box hgA hbz (by omega); have z0 := box_cell bz 0 _ rfl; have f0 := box_open bz 0; have z1 := box_cell bz 1 _ rfl; have f1 := box_open bz 1; have z2 := box_cell bz 2 _ rfl; have f2 := box_open bz 2; have z3 := box_cell bz 3 _ rfl; have f3 := box_open bz 3; have z4 := box_cell bz 4 _ rfl; have f4 := box_open bz 4))
            have s1 : (w5.setCell ⟨w.heap.size, 0, none⟩ (.int .i64 a1)).heap[w.heap.size]? = some (.cells #[.int .i64 a1, .string ⟨#[]⟩, .slice none 0 0, .bool false, .int .i64 0] 52 (0, 0)) := (heap_setCell_same _ w.heap.size 0 _ _ _ bz).trans (by simp)
            have s2 : ((w5.setCell ⟨w.heap.size, 0, none⟩ (.int .i64 a1)).setCell ⟨w.heap.size, 1, none⟩ (.string a2)).heap[w.heap.size]? = some (.cells #[.int .i64 a1, .string a2, .slice none 0 0, .bool false, .int .i64 0] 52 (0, 0)) := (heap_setCell_same _ w.heap.size 1 _ _ _ s1).trans (by simp)
            have s3 : (((w5.setCell ⟨w.heap.size, 0, none⟩ (.int .i64 a1)).setCell ⟨w.heap.size, 1, none⟩ (.string a2)).setCell ⟨w.heap.size, 2, none⟩ (.slice ao3 a3.length cap3)).heap[w.heap.size]? = some (.cells #[.int .i64 a1, .string a2, .slice ao3 a3.length cap3, .bool false, .int .i64 0] 52 (0, 0)) := (heap_setCell_same _ w.heap.size 2 _ _ _ s2).trans (by simp)
            have s4 : ((((w5.setCell ⟨w.heap.size, 0, none⟩ (.int .i64 a1)).setCell ⟨w.heap.size, 1, none⟩ (.string a2)).setCell ⟨w.heap.size, 2, none⟩ (.slice ao3 a3.length cap3)).setCell ⟨w.heap.size, 3, none⟩ (.bool a4)).heap[w.heap.size]? = some (.cells #[.int .i64 a1, .string a2, .slice ao3 a3.length cap3, .bool a4, .int .i64 0] 52 (0, 0)) := (heap_setCell_same _ w.heap.size 3 _ _ _ s3).trans (by simp)
            have s5 : (((((w5.setCell ⟨w.heap.size, 0, none⟩ (.int .i64 a1)).setCell ⟨w.heap.size, 1, none⟩ (.string a2)).setCell ⟨w.heap.size, 2, none⟩ (.slice ao3 a3.length cap3)).setCell ⟨w.heap.size, 3, none⟩ (.bool a4)).setCell ⟨w.heap.size, 4, none⟩ (.int .i64 a5)).heap[w.heap.size]? = some (.cells #[.int .i64 a1, .string a2, .slice ao3 a3.length cap3, .bool a4, .int .i64 a5] 52 (0, 0)) := (heap_setCell_same _ w.heap.size 4 _ _ _ s4).trans (by simp)
            have hset : (((((w5.setCell ⟨w.heap.size, 0, none⟩ (.int .i64 a1)).setCell ⟨w.heap.size, 1, none⟩ (.string a2)).setCell ⟨w.heap.size, 2, none⟩ (.slice ao3 a3.length cap3)).setCell ⟨w.heap.size, 3, none⟩ (.bool a4)).setCell ⟨w.heap.size, 4, none⟩ (.int .i64 a5)).heap[w.heap.size]? = some (.cells #[.int .i64 a1, .string a2, .slice ao3 a3.length cap3, .bool a4, .int .i64 a5] 52 (0, 0)) := s5
            have gset : w5.grownBy (((((w5.setCell ⟨w.heap.size, 0, none⟩ (.int .i64 a1)).setCell ⟨w.heap.size, 1, none⟩ (.string a2)).setCell ⟨w.heap.size, 2, none⟩ (.slice ao3 a3.length cap3)).setCell ⟨w.heap.size, 3, none⟩ (.bool a4)).setCell ⟨w.heap.size, 4, none⟩ (.int .i64 a5)) (some w.heap.size) := ((((grown_set _ w.heap.size 0 _).trans (grown_set _ w.heap.size 1 _)).trans (grown_set _ w.heap.size 2 _)).trans (grown_set _ w.heap.size 3 _)).trans (grown_set _ w.heap.size 4 _)
            have gall : w.grownBy (((((w5.setCell ⟨w.heap.size, 0, none⟩ (.int .i64 a1)).setCell ⟨w.heap.size, 1, none⟩ (.string a2)).setCell ⟨w.heap.size, 2, none⟩ (.slice ao3 a3.length cap3)).setCell ⟨w.heap.size, 3, none⟩ (.bool a4)).setCell ⟨w.heap.size, 4, none⟩ (.int .i64 a5)) (some p) := grown_new (hga.trans hgA) gset (Nat.le_refl _)
            have hatF : RdAt p (((((w5.setCell ⟨w.heap.size, 0, none⟩ (.int .i64 a1)).setCell ⟨w.heap.size, 1, none⟩ (.string a2)).setCell ⟨w.heap.size, 2, none⟩ (.slice ao3 a3.length cap3)).setCell ⟨w.heap.size, 3, none⟩ (.bool a4)).setCell ⟨w.heap.size, 4, none⟩ (.int .i64 a5)) y5 := grown_box gset hat5 (by omega)
            have q0 := box_cell hset 0 _ rfl
            have q1 := box_cell hset 1 _ rfl
            have q2 := box_cell hset 2 _ rfl
            have q3 := box_cell hset 3 _ rfl
            have q4 := box_cell hset 4 _ rfl
            have hB3 : w.heap.size + 1 ≤ w2.heap.size := by have := (hg1.trans hg2).size; omega
            have hpB3 : p < w2.heap.size := by omega
            have hbB3 : w.heap.size < w2.heap.size := by omega
            have hN3 : RowN w.heap.size (((((w5.setCell ⟨w.heap.size, 0, none⟩ (.int .i64 a1)).setCell ⟨w.heap.size, 1, none⟩ (.string a2)).setCell ⟨w.heap.size, 2, none⟩ (.slice ao3 a3.length cap3)).setCell ⟨w.heap.size, 3, none⟩ (.bool a4)).setCell ⟨w.heap.size, 4, none⟩ (.int .i64 a5)) (.slice ao3 a3.length cap3) a3 := rowN_mono (rowN_hold hV3 ((((HoldX.of_grown hg4 hpB3).trans (HoldX.of_grown hg5 hpB3)).trans (HoldX.of_grown gset hbB3)) : HoldX _ 68 _ _) (by decide)) (by omega)
            refine bodyPost_ret (v := .agg #[.int .i64 a1, .string a2, .slice ao3 a3.length cap3, .bool a4, .int .i64 a5]) (by simp [results, Try.results81, go_sem, q0, q1, q2, q3, q4]) rfl ⟨gall, _, y5, rfl, ⟨_, rfl, _, rfl, hN3⟩, hatF, hy5⟩
set_option maxHeartbeats 2000000 in
theorem gIdxs_any {p : Nat} {w : World} {x : ByteArray} (h : RdAt p w x) (hx : x.size ≤ 1000000) :
    Calls Try.prog 80 #[.pointer (some ⟨p, 0, none⟩), .int .u64 4, .func (.func 81) #[] #[]] w fun e w' => Rds p w (fun B w' v (l : List Idx) => OwnI B w' v l) (rdList 4 rdIdx x.data.toList) e w' := by
  have hp := h.lt
  have hd : x.data.toList.length = x.size := rfl
  have hn := gNat_any h hx
  unfold rdList
  cases hr : rdNat x.data.toList with
  | none =>
    rw [hr] at hn
    clear hr
    go_enter Try.func80, Try.ntmps80
    go_wp2_with (go_at_call 76; refine hn.mono ?_; rintro e w1 ⟨hg, rfl⟩)
    exact ⟨rfl, hg, rfl⟩
  | some q =>
    have hle := rdNat_le _ _ hr
    have hzlt := rdNat_ok _ _ hr
    rw [hr] at hn
    clear hr
    obtain ⟨z, r⟩ := q
    simp only [Option.bind_some] at hle hzlt ⊢
    by_cases hz : 4 < z
    · rw [if_pos hz]
      have hz2 : (4 : Int) < (z : Int) := by omega
      go_enter Try.func80, Try.ntmps80
      go_wp2_with (go_at_call 76; refine hn.mono ?_; rintro e w1 ⟨hg, v, y, rfl, rfl, hat, hy⟩)
      exact ⟨rfl, hg, rfl⟩
    · rw [if_neg hz]
      have hz2 : ¬ (4 : Int) < (z : Int) := by omega
      go_enter Try.func80, Try.ntmps80
      go_wp2_with (go_at_call 76; refine hn.mono ?_; rintro e w1 ⟨hg1, v1, y1, rfl, rfl, hat1, hy1⟩)
      clear hn
      go_loopw [8, 16] (fun v i wr => ∃ (k : Nat) (acc : List Idx) (y : ByteArray), k ≤ z ∧ i = .int .u64 (k : Int) ∧ acc.length = k ∧ OwnI w.heap.size wr v acc ∧ RdAt p wr y ∧ y.size ≤ x.size ∧ w.grownBy wr (some p) ∧ Hid (rdMany rdIdx z r = (rdMany rdIdx (z - k) y.data.toList).map (fun s => (acc ++ s.1, s.2)))) (fun _ i _ => z - (intOf i).toNat)
      case atStart => exact ⟨0, [], y1, by omega, rfl, rfl, OwnS.nil _ _ _ _ _, hat1, by have := size_of hy1; omega, hg1, by unfold Hid; rw [hy1]; simp⟩
      case round =>
        obtain ⟨k, acc, y, hk, rfl, hacc, hown, hat, hys, hg, HM⟩ := hrel
        clear hat1 hy1 hg1
        have hsz := hg.size
        have hyd : y.data.toList.length = y.size := rfl
        by_cases hkl : k < z
        · obtain ⟨m, hm⟩ : ∃ m, z - k = m + 1 := ⟨z - k - 1, by omega⟩
          have hone := gIdx_any hat (by omega)
          cases hre : rdIdx y.data.toList with
          | none =>
            have hno : Hid (rdMany rdIdx z r = none) := by
              unfold Hid
              rw [HM.out, hm]
              unfold rdMany
              rw [hre]
              rfl
            rw [hre] at hone
            clear HM hre
            go_wp2_with (go_at_call 81; refine hone.mono ?_; rintro e w2 ⟨hg2, rfl⟩)
            rw [hno.out]
            exact ⟨rfl, hg.trans hg2, rfl⟩
          | some qq =>
            obtain ⟨a, s⟩ := qq
            have hsle : s.length ≤ y.size := rdIdx_le _ _ hre
            have HM2 : Hid (rdMany rdIdx z r = (rdMany rdIdx (z - (k + 1)) s).map (fun t => ((acc ++ [a]) ++ t.1, t.2))) := by
              unfold Hid
              rw [HM.out, hm, show z - (k + 1) = m by omega]
              conv => lhs; unfold rdMany
              rw [hre]
              simp only [Option.bind_some, Option.map_map]
              congr 1
              funext t
              simp
            rw [hre] at hone
            clear HM hre
            go_wp2_with (first
              | (go_at_call 81; refine hone.mono ?_; rintro e w2 ⟨hg2, v2, y2, rfl, ⟨cs, rfl, ⟨vn, hcs, hrn⟩⟩, hat2, hy2⟩; obtain ⟨aon, capn, rfl⟩ := rowN_shape hrn; subst hcs; have own2 := ownI_hold hown (HoldX.of_grown hg2 hp : HoldX _ 68 _ _) (by decide) (by decide); obtain ⟨css, hcl, hcc, hrow2, hVs⟩ := own2)
              | (at_builtin; refine wpList_appX _ rfl _ _ 38 rfl 52 5 _ Try.underlying38 Try.infoIdx w.heap.size _ acc.length _ rfl (hrow2.alloc _) _ _ _ rfl (by rfl) (by simp [Value.oneCell']) (new_cells _ _ _ _ (by simp)) ⟨by omega, by omega, by omega, rfl⟩ (by have := hg2.size; simp; omega) ?_; intro v3 w3 hown3 hbel3 hst3))
            have hg3 : w.grownBy w3 (some p) := grown_low (hg.trans hg2) ((Below.refl _ _).alloc (hg.trans hg2).size _ |>.trans hbel3)
            have hat3 : RdAt p w3 y2 := stay_box hst3 (alloc_box _ hat2) (by decide) id
            have hys2 : y2.size ≤ x.size := by
              have : y2.size = s.length := by rw [← hy2]; rfl
              omega
            have hh : HoldX w.heap.size 52 w2 w3 := (HoldX.of_below ((Below.refl _ _).alloc (Nat.le_refl _) _)).trans (HoldX.of_stay hst3)
            have hnew := own_snoc (V := IdxV) (a := a) hcl hcc (by rfl) (by simp [Value.oneCell']) hown3 (fun i cs x a1 b1 => idxV_hold (hVs i cs x a1 b1) hh (by decide)) ⟨_, rfl, rowN_hold (rowN_mono hrn hsz) hh (by decide)⟩
            go_roundw
            case rel => exact ⟨k + 1, acc ++ [a], y2, by omega, by go_num, by rw [List.length_append, hacc]; rfl, hnew, hat3, hys2, hg3, by unfold Hid; rw [HM2.out, hy2]⟩
            case measure => simp [intOf]; omega
        · have hke : z - k = 0 := by omega
          have hyes : Hid (rdMany rdIdx z r = some (acc, y.data.toList)) := by
            unfold Hid
            rw [HM.out, hke]
            simp [rdMany]
          clear HM
          go_wp2
          go_ret
          rw [hyes.out]
          exact ⟨hg, _, y, rfl, hown, hat, rfl⟩
end Go.Proofs.Ytndppffcladalaa
