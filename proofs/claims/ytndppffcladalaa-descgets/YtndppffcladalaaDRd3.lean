/-
  Contracts: package desc's reader: columns.
-/
import Derived.Test.YtndppffcladalaaDRd2
namespace Go.Proofs.Ytndppffcladalaa
open Go.RowKit Num
set_option linter.unusedVariables false

set_option maxHeartbeats 2000000 in
theorem gCol_any {p : Nat} {w : World} {x : ByteArray} (h : RdAt p w x) (hx : x.size ≤ 1000000) :
    Calls Try.prog 79 #[.pointer (some ⟨p, 0, none⟩)] w fun e w' => Rds p w (fun B w' v (a : Colm) => ∃ cs : List Value, v = .agg cs.toArray ∧ ColV B w' cs a) (rdCol x.data.toList) e w' := by
  have hp := h.lt
  have hd : x.data.toList.length = x.size := rfl
  have h0 : RdAt p (w.alloc (.cells #[.int .i64 0, .string ⟨#[]⟩, .int .i64 0, .int .i64 0, .int .i64 0, .int .i64 0, .int .i64 0, .int .u64 0, .string ⟨#[]⟩] 45)) x := alloc_box _ h
  have hbz := heap_new w (.cells #[.int .i64 0, .string ⟨#[]⟩, .int .i64 0, .int .i64 0, .int .i64 0, .int .i64 0, .int .i64 0, .int .u64 0, .string ⟨#[]⟩] 45)
  have hsz0 : (w.alloc (.cells #[.int .i64 0, .string ⟨#[]⟩, .int .i64 0, .int .i64 0, .int .i64 0, .int .i64 0, .int .i64 0, .int .u64 0, .string ⟨#[]⟩] 45)).heap.size = w.heap.size + 1 := by simp
  have hga : w.grownBy (w.alloc (.cells #[.int .i64 0, .string ⟨#[]⟩, .int .i64 0, .int .i64 0, .int .i64 0, .int .i64 0, .int .i64 0, .int .u64 0, .string ⟨#[]⟩] 45)) (some p) := World.grownBy_alloc w _ _
  cases hr1 : rdInt x.data.toList with
  | none =>
    have hR : rdCol x.data.toList = none := by simp [rdCol, hr1]
    rw [hR]
    have hf1 := gInt_any h0 hx
    rw [hr1] at hf1
    clear hR hr1
    go_enter Try.func79, Try.ntmps79
    go_wp2_with (first
        | (go_at_call 58; refine hf1.mono ?_; rintro e w1 ⟨hg1, rfl⟩))
    exact ⟨rfl, hga.trans hg1, rfl⟩
  | some qq1 =>
    obtain ⟨a1, r1⟩ := qq1
    have hl1 : r1.length ≤ x.size := rdInt_le _ _ hr1
    cases hr2 : rdTxt r1 with
    | none =>
      have hR : rdCol x.data.toList = none := by simp [rdCol, hr1, hr2]
      rw [hR]
      have hf1 := gInt_any h0 hx
      rw [hr1] at hf1
      have hf2 : ∀ w1 y1, RdAt p w1 y1 → y1.data.toList = r1 → Calls Try.prog 77 #[.pointer (some ⟨p, 0, none⟩)] w1 fun e w' => Rds p w1 (fun _ _ v (s : ByteArray) => v = .string s) none e w' := fun w1 y1 hat hy => by
        have hs : y1.size = r1.length := by rw [← hy]; rfl
        have t := gTxt_any hat (by omega)
        rw [hy, hr2] at t
        exact t
      clear hR hr1 hr2
      go_enter Try.func79, Try.ntmps79
      go_wp2_with (first
          | (go_at_call 58; refine hf1.mono ?_; rintro e w1 ⟨hg1, v1, y1, rfl, rfl, hat1, hy1⟩; clear hf1)
          | (go_at_call 77; refine (hf2 _ _ hat1 hy1).mono ?_; rintro e w2 ⟨hg2, rfl⟩))
      exact ⟨rfl, hga.trans (hg1.trans hg2), rfl⟩
    | some qq2 =>
      obtain ⟨a2, r2⟩ := qq2
      have hl2 : r2.length ≤ r1.length := rdTxt_le _ _ hr2
      cases hr3 : rdInt r2 with
      | none =>
        have hR : rdCol x.data.toList = none := by simp [rdCol, hr1, hr2, hr3]
        rw [hR]
        have hf1 := gInt_any h0 hx
        rw [hr1] at hf1
        have hf2 : ∀ w1 y1, RdAt p w1 y1 → y1.data.toList = r1 → Calls Try.prog 77 #[.pointer (some ⟨p, 0, none⟩)] w1 fun e w' => Rds p w1 (fun _ _ v (s : ByteArray) => v = .string s) (some (a2, r2)) e w' := fun w1 y1 hat hy => by
          have hs : y1.size = r1.length := by rw [← hy]; rfl
          have t := gTxt_any hat (by omega)
          rw [hy, hr2] at t
          exact t
        have hf3 : ∀ w1 y1, RdAt p w1 y1 → y1.data.toList = r2 → Calls Try.prog 58 #[.pointer (some ⟨p, 0, none⟩)] w1 fun e w' => Rds p w1 (fun _ _ v (n : Int) => v = .int .i64 n) none e w' := fun w1 y1 hat hy => by
          have hs : y1.size = r2.length := by rw [← hy]; rfl
          have t := gInt_any hat (by omega)
          rw [hy, hr3] at t
          exact t
        clear hR hr1 hr2 hr3
        go_enter Try.func79, Try.ntmps79
        go_wp2_with (first
            | (go_at_call 58; refine hf1.mono ?_; rintro e w1 ⟨hg1, v1, y1, rfl, rfl, hat1, hy1⟩; clear hf1)
            | (go_at_call 77; refine (hf2 _ _ hat1 hy1).mono ?_; rintro e w2 ⟨hg2, v2, y2, rfl, rfl, hat2, hy2⟩; clear hf2)
            | (go_at_call 58; refine (hf3 _ _ hat2 hy2).mono ?_; rintro e w3 ⟨hg3, rfl⟩))
        exact ⟨rfl, hga.trans ((hg1.trans hg2).trans hg3), rfl⟩
      | some qq3 =>
        obtain ⟨a3, r3⟩ := qq3
        have hl3 : r3.length ≤ r2.length := rdInt_le _ _ hr3
        cases hr4 : rdInt r3 with
        | none =>
          have hR : rdCol x.data.toList = none := by simp [rdCol, hr1, hr2, hr3, hr4]
          rw [hR]
          have hf1 := gInt_any h0 hx
          rw [hr1] at hf1
          have hf2 : ∀ w1 y1, RdAt p w1 y1 → y1.data.toList = r1 → Calls Try.prog 77 #[.pointer (some ⟨p, 0, none⟩)] w1 fun e w' => Rds p w1 (fun _ _ v (s : ByteArray) => v = .string s) (some (a2, r2)) e w' := fun w1 y1 hat hy => by
            have hs : y1.size = r1.length := by rw [← hy]; rfl
            have t := gTxt_any hat (by omega)
            rw [hy, hr2] at t
            exact t
          have hf3 : ∀ w1 y1, RdAt p w1 y1 → y1.data.toList = r2 → Calls Try.prog 58 #[.pointer (some ⟨p, 0, none⟩)] w1 fun e w' => Rds p w1 (fun _ _ v (n : Int) => v = .int .i64 n) (some (a3, r3)) e w' := fun w1 y1 hat hy => by
            have hs : y1.size = r2.length := by rw [← hy]; rfl
            have t := gInt_any hat (by omega)
            rw [hy, hr3] at t
            exact t
          have hf4 : ∀ w1 y1, RdAt p w1 y1 → y1.data.toList = r3 → Calls Try.prog 58 #[.pointer (some ⟨p, 0, none⟩)] w1 fun e w' => Rds p w1 (fun _ _ v (n : Int) => v = .int .i64 n) none e w' := fun w1 y1 hat hy => by
            have hs : y1.size = r3.length := by rw [← hy]; rfl
            have t := gInt_any hat (by omega)
            rw [hy, hr4] at t
            exact t
          clear hR hr1 hr2 hr3 hr4
          go_enter Try.func79, Try.ntmps79
          go_wp2_with (first
              | (go_at_call 58; refine hf1.mono ?_; rintro e w1 ⟨hg1, v1, y1, rfl, rfl, hat1, hy1⟩; clear hf1)
              | (go_at_call 77; refine (hf2 _ _ hat1 hy1).mono ?_; rintro e w2 ⟨hg2, v2, y2, rfl, rfl, hat2, hy2⟩; clear hf2)
              | (go_at_call 58; refine (hf3 _ _ hat2 hy2).mono ?_; rintro e w3 ⟨hg3, v3, y3, rfl, rfl, hat3, hy3⟩; clear hf3)
              | (go_at_call 58; refine (hf4 _ _ hat3 hy3).mono ?_; rintro e w4 ⟨hg4, rfl⟩))
          exact ⟨rfl, hga.trans (((hg1.trans hg2).trans hg3).trans hg4), rfl⟩
        | some qq4 =>
          obtain ⟨a4, r4⟩ := qq4
          have hl4 : r4.length ≤ r3.length := rdInt_le _ _ hr4
          cases hr5 : rdInt r4 with
          | none =>
            have hR : rdCol x.data.toList = none := by simp [rdCol, hr1, hr2, hr3, hr4, hr5]
            rw [hR]
            have hf1 := gInt_any h0 hx
            rw [hr1] at hf1
            have hf2 : ∀ w1 y1, RdAt p w1 y1 → y1.data.toList = r1 → Calls Try.prog 77 #[.pointer (some ⟨p, 0, none⟩)] w1 fun e w' => Rds p w1 (fun _ _ v (s : ByteArray) => v = .string s) (some (a2, r2)) e w' := fun w1 y1 hat hy => by
              have hs : y1.size = r1.length := by rw [← hy]; rfl
              have t := gTxt_any hat (by omega)
              rw [hy, hr2] at t
              exact t
            have hf3 : ∀ w1 y1, RdAt p w1 y1 → y1.data.toList = r2 → Calls Try.prog 58 #[.pointer (some ⟨p, 0, none⟩)] w1 fun e w' => Rds p w1 (fun _ _ v (n : Int) => v = .int .i64 n) (some (a3, r3)) e w' := fun w1 y1 hat hy => by
              have hs : y1.size = r2.length := by rw [← hy]; rfl
              have t := gInt_any hat (by omega)
              rw [hy, hr3] at t
              exact t
            have hf4 : ∀ w1 y1, RdAt p w1 y1 → y1.data.toList = r3 → Calls Try.prog 58 #[.pointer (some ⟨p, 0, none⟩)] w1 fun e w' => Rds p w1 (fun _ _ v (n : Int) => v = .int .i64 n) (some (a4, r4)) e w' := fun w1 y1 hat hy => by
              have hs : y1.size = r3.length := by rw [← hy]; rfl
              have t := gInt_any hat (by omega)
              rw [hy, hr4] at t
              exact t
            have hf5 : ∀ w1 y1, RdAt p w1 y1 → y1.data.toList = r4 → Calls Try.prog 58 #[.pointer (some ⟨p, 0, none⟩)] w1 fun e w' => Rds p w1 (fun _ _ v (n : Int) => v = .int .i64 n) none e w' := fun w1 y1 hat hy => by
              have hs : y1.size = r4.length := by rw [← hy]; rfl
              have t := gInt_any hat (by omega)
              rw [hy, hr5] at t
              exact t
            clear hR hr1 hr2 hr3 hr4 hr5
            go_enter Try.func79, Try.ntmps79
            go_wp2_with (first
                | (go_at_call 58; refine hf1.mono ?_; rintro e w1 ⟨hg1, v1, y1, rfl, rfl, hat1, hy1⟩; clear hf1)
                | (go_at_call 77; refine (hf2 _ _ hat1 hy1).mono ?_; rintro e w2 ⟨hg2, v2, y2, rfl, rfl, hat2, hy2⟩; clear hf2)
                | (go_at_call 58; refine (hf3 _ _ hat2 hy2).mono ?_; rintro e w3 ⟨hg3, v3, y3, rfl, rfl, hat3, hy3⟩; clear hf3)
                | (go_at_call 58; refine (hf4 _ _ hat3 hy3).mono ?_; rintro e w4 ⟨hg4, v4, y4, rfl, rfl, hat4, hy4⟩; clear hf4)
                | (go_at_call 58; refine (hf5 _ _ hat4 hy4).mono ?_; rintro e w5 ⟨hg5, rfl⟩))
            exact ⟨rfl, hga.trans ((((hg1.trans hg2).trans hg3).trans hg4).trans hg5), rfl⟩
          | some qq5 =>
            obtain ⟨a5, r5⟩ := qq5
            have hl5 : r5.length ≤ r4.length := rdInt_le _ _ hr5
            cases hr6 : rdVal r5 with
            | none =>
              have hR : rdCol x.data.toList = none := by simp [rdCol, hr1, hr2, hr3, hr4, hr5, hr6]
              rw [hR]
              have hf1 := gInt_any h0 hx
              rw [hr1] at hf1
              have hf2 : ∀ w1 y1, RdAt p w1 y1 → y1.data.toList = r1 → Calls Try.prog 77 #[.pointer (some ⟨p, 0, none⟩)] w1 fun e w' => Rds p w1 (fun _ _ v (s : ByteArray) => v = .string s) (some (a2, r2)) e w' := fun w1 y1 hat hy => by
                have hs : y1.size = r1.length := by rw [← hy]; rfl
                have t := gTxt_any hat (by omega)
                rw [hy, hr2] at t
                exact t
              have hf3 : ∀ w1 y1, RdAt p w1 y1 → y1.data.toList = r2 → Calls Try.prog 58 #[.pointer (some ⟨p, 0, none⟩)] w1 fun e w' => Rds p w1 (fun _ _ v (n : Int) => v = .int .i64 n) (some (a3, r3)) e w' := fun w1 y1 hat hy => by
                have hs : y1.size = r2.length := by rw [← hy]; rfl
                have t := gInt_any hat (by omega)
                rw [hy, hr3] at t
                exact t
              have hf4 : ∀ w1 y1, RdAt p w1 y1 → y1.data.toList = r3 → Calls Try.prog 58 #[.pointer (some ⟨p, 0, none⟩)] w1 fun e w' => Rds p w1 (fun _ _ v (n : Int) => v = .int .i64 n) (some (a4, r4)) e w' := fun w1 y1 hat hy => by
                have hs : y1.size = r3.length := by rw [← hy]; rfl
                have t := gInt_any hat (by omega)
                rw [hy, hr4] at t
                exact t
              have hf5 : ∀ w1 y1, RdAt p w1 y1 → y1.data.toList = r4 → Calls Try.prog 58 #[.pointer (some ⟨p, 0, none⟩)] w1 fun e w' => Rds p w1 (fun _ _ v (n : Int) => v = .int .i64 n) (some (a5, r5)) e w' := fun w1 y1 hat hy => by
                have hs : y1.size = r4.length := by rw [← hy]; rfl
                have t := gInt_any hat (by omega)
                rw [hy, hr5] at t
                exact t
              have hf6 : ∀ w1 y1, RdAt p w1 y1 → y1.data.toList = r5 → Calls Try.prog 89 #[.pointer (some ⟨p, 0, none⟩)] w1 fun e w' => Rds p w1 (fun _ _ v (a : Val) => v = .agg #[.int .i64 a.k, .int .i64 a.n, .int .u64 (a.f : Int), .string a.s]) none e w' := fun w1 y1 hat hy => by
                have hs : y1.size = r5.length := by rw [← hy]; rfl
                have t := gVal_any hat (by omega)
                rw [hy, hr6] at t
                exact t
              clear hR hr1 hr2 hr3 hr4 hr5 hr6
              go_enter Try.func79, Try.ntmps79
              go_wp2_with (first
                  | (go_at_call 58; refine hf1.mono ?_; rintro e w1 ⟨hg1, v1, y1, rfl, rfl, hat1, hy1⟩; clear hf1)
                  | (go_at_call 77; refine (hf2 _ _ hat1 hy1).mono ?_; rintro e w2 ⟨hg2, v2, y2, rfl, rfl, hat2, hy2⟩; clear hf2)
                  | (go_at_call 58; refine (hf3 _ _ hat2 hy2).mono ?_; rintro e w3 ⟨hg3, v3, y3, rfl, rfl, hat3, hy3⟩; clear hf3)
                  | (go_at_call 58; refine (hf4 _ _ hat3 hy3).mono ?_; rintro e w4 ⟨hg4, v4, y4, rfl, rfl, hat4, hy4⟩; clear hf4)
                  | (go_at_call 58; refine (hf5 _ _ hat4 hy4).mono ?_; rintro e w5 ⟨hg5, v5, y5, rfl, rfl, hat5, hy5⟩; clear hf5)
                  | (go_at_call 89; refine (hf6 _ _ hat5 hy5).mono ?_; rintro e w6 ⟨hg6, rfl⟩))
              exact ⟨rfl, hga.trans (((((hg1.trans hg2).trans hg3).trans hg4).trans hg5).trans hg6), rfl⟩
            | some qq6 =>
              obtain ⟨a6, r6⟩ := qq6
              have hl6 : r6.length ≤ r5.length := rdVal_le _ _ hr6
              have hR : rdCol x.data.toList = some ((⟨a1, a2, a3, a4, a5, a6⟩ : Colm), r6) := by simp [rdCol, hr1, hr2, hr3, hr4, hr5, hr6]
              rw [hR]
              have hf1 := gInt_any h0 hx
              rw [hr1] at hf1
              have hf2 : ∀ w1 y1, RdAt p w1 y1 → y1.data.toList = r1 → Calls Try.prog 77 #[.pointer (some ⟨p, 0, none⟩)] w1 fun e w' => Rds p w1 (fun _ _ v (s : ByteArray) => v = .string s) (some (a2, r2)) e w' := fun w1 y1 hat hy => by
                have hs : y1.size = r1.length := by rw [← hy]; rfl
                have t := gTxt_any hat (by omega)
                rw [hy, hr2] at t
                exact t
              have hf3 : ∀ w1 y1, RdAt p w1 y1 → y1.data.toList = r2 → Calls Try.prog 58 #[.pointer (some ⟨p, 0, none⟩)] w1 fun e w' => Rds p w1 (fun _ _ v (n : Int) => v = .int .i64 n) (some (a3, r3)) e w' := fun w1 y1 hat hy => by
                have hs : y1.size = r2.length := by rw [← hy]; rfl
                have t := gInt_any hat (by omega)
                rw [hy, hr3] at t
                exact t
              have hf4 : ∀ w1 y1, RdAt p w1 y1 → y1.data.toList = r3 → Calls Try.prog 58 #[.pointer (some ⟨p, 0, none⟩)] w1 fun e w' => Rds p w1 (fun _ _ v (n : Int) => v = .int .i64 n) (some (a4, r4)) e w' := fun w1 y1 hat hy => by
                have hs : y1.size = r3.length := by rw [← hy]; rfl
                have t := gInt_any hat (by omega)
                rw [hy, hr4] at t
                exact t
              have hf5 : ∀ w1 y1, RdAt p w1 y1 → y1.data.toList = r4 → Calls Try.prog 58 #[.pointer (some ⟨p, 0, none⟩)] w1 fun e w' => Rds p w1 (fun _ _ v (n : Int) => v = .int .i64 n) (some (a5, r5)) e w' := fun w1 y1 hat hy => by
                have hs : y1.size = r4.length := by rw [← hy]; rfl
                have t := gInt_any hat (by omega)
                rw [hy, hr5] at t
                exact t
              have hf6 : ∀ w1 y1, RdAt p w1 y1 → y1.data.toList = r5 → Calls Try.prog 89 #[.pointer (some ⟨p, 0, none⟩)] w1 fun e w' => Rds p w1 (fun _ _ v (a : Val) => v = .agg #[.int .i64 a.k, .int .i64 a.n, .int .u64 (a.f : Int), .string a.s]) (some (a6, r6)) e w' := fun w1 y1 hat hy => by
                have hs : y1.size = r5.length := by rw [← hy]; rfl
                have t := gVal_any hat (by omega)
                rw [hy, hr6] at t
                exact t
              clear hR hr1 hr2 hr3 hr4 hr5 hr6
              go_enter Try.func79, Try.ntmps79
              go_wp2_with (first
                  | (go_at_call 58; refine hf1.mono ?_; rintro e w1 ⟨hg1, v1, y1, rfl, rfl, hat1, hy1⟩; clear hf1)
                  | (go_at_call 77; refine (hf2 _ _ hat1 hy1).mono ?_; rintro e w2 ⟨hg2, v2, y2, rfl, rfl, hat2, hy2⟩; clear hf2)
                  | (go_at_call 58; refine (hf3 _ _ hat2 hy2).mono ?_; rintro e w3 ⟨hg3, v3, y3, rfl, rfl, hat3, hy3⟩; clear hf3)
                  | (go_at_call 58; refine (hf4 _ _ hat3 hy3).mono ?_; rintro e w4 ⟨hg4, v4, y4, rfl, rfl, hat4, hy4⟩; clear hf4)
                  | (go_at_call 58; refine (hf5 _ _ hat4 hy4).mono ?_; rintro e w5 ⟨hg5, v5, y5, rfl, rfl, hat5, hy5⟩; clear hf5)
                  | (go_at_call 89; refine (hf6 _ _ hat5 hy5).mono ?_; rintro e w6 ⟨hg6, v6, y6, rfl, rfl, hat6, hy6⟩; clear hf6; have hgA := (((((hg1.trans hg2).trans hg3).trans hg4).trans hg5).trans hg6); have bz := grown_box hgA hbz (by omega); have z0 := box_cell bz 0 _ rfl; have f0 := box_open bz 0; have z1 := box_cell bz 1 _ rfl; have f1 := box_open bz 1; have z2 := box_cell bz 2 _ rfl; have f2 := box_open bz 2; have z3 := box_cell bz 3 _ rfl; have f3 := box_open bz 3; have z4 := box_cell bz 4 _ rfl; have f4 := box_open bz 4; have z5 := box_cell bz 5 _ rfl; have f5 := box_open bz 5; have z6 := box_cell bz 6 _ rfl; have f6 := box_open bz 6; have z7 := box_cell bz 7 _ rfl; have f7 := box_open bz 7; have z8 := box_cell bz 8 _ rfl; have f8 := box_open bz 8))
              have s1 : (w6.setCell ⟨w.heap.size, 0, none⟩ (.int .i64 a1)).heap[w.heap.size]? = some (.cells #[.int .i64 a1, .string ⟨#[]⟩, .int .i64 0, .int .i64 0, .int .i64 0, .int .i64 0, .int .i64 0, .int .u64 0, .string ⟨#[]⟩] 45 (0, 0)) := (heap_setCell_same _ w.heap.size 0 _ _ _ bz).trans (by simp)
              have s2 : ((w6.setCell ⟨w.heap.size, 0, none⟩ (.int .i64 a1)).setCell ⟨w.heap.size, 1, none⟩ (.string a2)).heap[w.heap.size]? = some (.cells #[.int .i64 a1, .string a2, .int .i64 0, .int .i64 0, .int .i64 0, .int .i64 0, .int .i64 0, .int .u64 0, .string ⟨#[]⟩] 45 (0, 0)) := (heap_setCell_same _ w.heap.size 1 _ _ _ s1).trans (by simp)
              have s3 : (((w6.setCell ⟨w.heap.size, 0, none⟩ (.int .i64 a1)).setCell ⟨w.heap.size, 1, none⟩ (.string a2)).setCell ⟨w.heap.size, 2, none⟩ (.int .i64 a3)).heap[w.heap.size]? = some (.cells #[.int .i64 a1, .string a2, .int .i64 a3, .int .i64 0, .int .i64 0, .int .i64 0, .int .i64 0, .int .u64 0, .string ⟨#[]⟩] 45 (0, 0)) := (heap_setCell_same _ w.heap.size 2 _ _ _ s2).trans (by simp)
              have s4 : ((((w6.setCell ⟨w.heap.size, 0, none⟩ (.int .i64 a1)).setCell ⟨w.heap.size, 1, none⟩ (.string a2)).setCell ⟨w.heap.size, 2, none⟩ (.int .i64 a3)).setCell ⟨w.heap.size, 3, none⟩ (.int .i64 a4)).heap[w.heap.size]? = some (.cells #[.int .i64 a1, .string a2, .int .i64 a3, .int .i64 a4, .int .i64 0, .int .i64 0, .int .i64 0, .int .u64 0, .string ⟨#[]⟩] 45 (0, 0)) := (heap_setCell_same _ w.heap.size 3 _ _ _ s3).trans (by simp)
              have s5 : (((((w6.setCell ⟨w.heap.size, 0, none⟩ (.int .i64 a1)).setCell ⟨w.heap.size, 1, none⟩ (.string a2)).setCell ⟨w.heap.size, 2, none⟩ (.int .i64 a3)).setCell ⟨w.heap.size, 3, none⟩ (.int .i64 a4)).setCell ⟨w.heap.size, 4, none⟩ (.int .i64 a5)).heap[w.heap.size]? = some (.cells #[.int .i64 a1, .string a2, .int .i64 a3, .int .i64 a4, .int .i64 a5, .int .i64 0, .int .i64 0, .int .u64 0, .string ⟨#[]⟩] 45 (0, 0)) := (heap_setCell_same _ w.heap.size 4 _ _ _ s4).trans (by simp)
              have s6 : ((((((w6.setCell ⟨w.heap.size, 0, none⟩ (.int .i64 a1)).setCell ⟨w.heap.size, 1, none⟩ (.string a2)).setCell ⟨w.heap.size, 2, none⟩ (.int .i64 a3)).setCell ⟨w.heap.size, 3, none⟩ (.int .i64 a4)).setCell ⟨w.heap.size, 4, none⟩ (.int .i64 a5)).setCell ⟨w.heap.size, 5, none⟩ (.int .i64 a6.k)).heap[w.heap.size]? = some (.cells #[.int .i64 a1, .string a2, .int .i64 a3, .int .i64 a4, .int .i64 a5, .int .i64 a6.k, .int .i64 0, .int .u64 0, .string ⟨#[]⟩] 45 (0, 0)) := (heap_setCell_same _ w.heap.size 5 _ _ _ s5).trans (by simp)
              have s7 : (((((((w6.setCell ⟨w.heap.size, 0, none⟩ (.int .i64 a1)).setCell ⟨w.heap.size, 1, none⟩ (.string a2)).setCell ⟨w.heap.size, 2, none⟩ (.int .i64 a3)).setCell ⟨w.heap.size, 3, none⟩ (.int .i64 a4)).setCell ⟨w.heap.size, 4, none⟩ (.int .i64 a5)).setCell ⟨w.heap.size, 5, none⟩ (.int .i64 a6.k)).setCell ⟨w.heap.size, 6, none⟩ (.int .i64 a6.n)).heap[w.heap.size]? = some (.cells #[.int .i64 a1, .string a2, .int .i64 a3, .int .i64 a4, .int .i64 a5, .int .i64 a6.k, .int .i64 a6.n, .int .u64 0, .string ⟨#[]⟩] 45 (0, 0)) := (heap_setCell_same _ w.heap.size 6 _ _ _ s6).trans (by simp)
              have s8 : ((((((((w6.setCell ⟨w.heap.size, 0, none⟩ (.int .i64 a1)).setCell ⟨w.heap.size, 1, none⟩ (.string a2)).setCell ⟨w.heap.size, 2, none⟩ (.int .i64 a3)).setCell ⟨w.heap.size, 3, none⟩ (.int .i64 a4)).setCell ⟨w.heap.size, 4, none⟩ (.int .i64 a5)).setCell ⟨w.heap.size, 5, none⟩ (.int .i64 a6.k)).setCell ⟨w.heap.size, 6, none⟩ (.int .i64 a6.n)).setCell ⟨w.heap.size, 7, none⟩ (.int .u64 (a6.f : Int))).heap[w.heap.size]? = some (.cells #[.int .i64 a1, .string a2, .int .i64 a3, .int .i64 a4, .int .i64 a5, .int .i64 a6.k, .int .i64 a6.n, .int .u64 (a6.f : Int), .string ⟨#[]⟩] 45 (0, 0)) := (heap_setCell_same _ w.heap.size 7 _ _ _ s7).trans (by simp)
              have s9 : (((((((((w6.setCell ⟨w.heap.size, 0, none⟩ (.int .i64 a1)).setCell ⟨w.heap.size, 1, none⟩ (.string a2)).setCell ⟨w.heap.size, 2, none⟩ (.int .i64 a3)).setCell ⟨w.heap.size, 3, none⟩ (.int .i64 a4)).setCell ⟨w.heap.size, 4, none⟩ (.int .i64 a5)).setCell ⟨w.heap.size, 5, none⟩ (.int .i64 a6.k)).setCell ⟨w.heap.size, 6, none⟩ (.int .i64 a6.n)).setCell ⟨w.heap.size, 7, none⟩ (.int .u64 (a6.f : Int))).setCell ⟨w.heap.size, 8, none⟩ (.string a6.s)).heap[w.heap.size]? = some (.cells #[.int .i64 a1, .string a2, .int .i64 a3, .int .i64 a4, .int .i64 a5, .int .i64 a6.k, .int .i64 a6.n, .int .u64 (a6.f : Int), .string a6.s] 45 (0, 0)) := (heap_setCell_same _ w.heap.size 8 _ _ _ s8).trans (by simp)
              have hset : (((((((((w6.setCell ⟨w.heap.size, 0, none⟩ (.int .i64 a1)).setCell ⟨w.heap.size, 1, none⟩ (.string a2)).setCell ⟨w.heap.size, 2, none⟩ (.int .i64 a3)).setCell ⟨w.heap.size, 3, none⟩ (.int .i64 a4)).setCell ⟨w.heap.size, 4, none⟩ (.int .i64 a5)).setCell ⟨w.heap.size, 5, none⟩ (.int .i64 a6.k)).setCell ⟨w.heap.size, 6, none⟩ (.int .i64 a6.n)).setCell ⟨w.heap.size, 7, none⟩ (.int .u64 (a6.f : Int))).setCell ⟨w.heap.size, 8, none⟩ (.string a6.s)).heap[w.heap.size]? = some (.cells #[.int .i64 a1, .string a2, .int .i64 a3, .int .i64 a4, .int .i64 a5, .int .i64 a6.k, .int .i64 a6.n, .int .u64 (a6.f : Int), .string a6.s] 45 (0, 0)) := s9
              have gset : w6.grownBy (((((((((w6.setCell ⟨w.heap.size, 0, none⟩ (.int .i64 a1)).setCell ⟨w.heap.size, 1, none⟩ (.string a2)).setCell ⟨w.heap.size, 2, none⟩ (.int .i64 a3)).setCell ⟨w.heap.size, 3, none⟩ (.int .i64 a4)).setCell ⟨w.heap.size, 4, none⟩ (.int .i64 a5)).setCell ⟨w.heap.size, 5, none⟩ (.int .i64 a6.k)).setCell ⟨w.heap.size, 6, none⟩ (.int .i64 a6.n)).setCell ⟨w.heap.size, 7, none⟩ (.int .u64 (a6.f : Int))).setCell ⟨w.heap.size, 8, none⟩ (.string a6.s)) (some w.heap.size) := ((((((((grown_set _ w.heap.size 0 _).trans (grown_set _ w.heap.size 1 _)).trans (grown_set _ w.heap.size 2 _)).trans (grown_set _ w.heap.size 3 _)).trans (grown_set _ w.heap.size 4 _)).trans (grown_set _ w.heap.size 5 _)).trans (grown_set _ w.heap.size 6 _)).trans (grown_set _ w.heap.size 7 _)).trans (grown_set _ w.heap.size 8 _)
              have gall : w.grownBy (((((((((w6.setCell ⟨w.heap.size, 0, none⟩ (.int .i64 a1)).setCell ⟨w.heap.size, 1, none⟩ (.string a2)).setCell ⟨w.heap.size, 2, none⟩ (.int .i64 a3)).setCell ⟨w.heap.size, 3, none⟩ (.int .i64 a4)).setCell ⟨w.heap.size, 4, none⟩ (.int .i64 a5)).setCell ⟨w.heap.size, 5, none⟩ (.int .i64 a6.k)).setCell ⟨w.heap.size, 6, none⟩ (.int .i64 a6.n)).setCell ⟨w.heap.size, 7, none⟩ (.int .u64 (a6.f : Int))).setCell ⟨w.heap.size, 8, none⟩ (.string a6.s)) (some p) := grown_new (hga.trans hgA) gset (Nat.le_refl _)
              have hatF : RdAt p (((((((((w6.setCell ⟨w.heap.size, 0, none⟩ (.int .i64 a1)).setCell ⟨w.heap.size, 1, none⟩ (.string a2)).setCell ⟨w.heap.size, 2, none⟩ (.int .i64 a3)).setCell ⟨w.heap.size, 3, none⟩ (.int .i64 a4)).setCell ⟨w.heap.size, 4, none⟩ (.int .i64 a5)).setCell ⟨w.heap.size, 5, none⟩ (.int .i64 a6.k)).setCell ⟨w.heap.size, 6, none⟩ (.int .i64 a6.n)).setCell ⟨w.heap.size, 7, none⟩ (.int .u64 (a6.f : Int))).setCell ⟨w.heap.size, 8, none⟩ (.string a6.s)) y6 := grown_box gset hat6 (by omega)
              have q0 := box_cell hset 0 _ rfl
              have q1 := box_cell hset 1 _ rfl
              have q2 := box_cell hset 2 _ rfl
              have q3 := box_cell hset 3 _ rfl
              have q4 := box_cell hset 4 _ rfl
              have q5 := box_cell hset 5 _ rfl
              have q6 := box_cell hset 6 _ rfl
              have q7 := box_cell hset 7 _ rfl
              have q8 := box_cell hset 8 _ rfl
              refine bodyPost_ret (v := .agg #[.int .i64 a1, .string a2, .int .i64 a3, .int .i64 a4, .int .i64 a5, .int .i64 a6.k, .int .i64 a6.n, .int .u64 (a6.f : Int), .string a6.s]) (by simp [results, Try.results79, go_sem, q0, q1, q2, q3, q4, q5, q6, q7, q8]) rfl ⟨gall, _, y6, rfl, ⟨_, rfl, rfl⟩, hatF, hy6⟩
end Go.Proofs.Ytndppffcladalaa
