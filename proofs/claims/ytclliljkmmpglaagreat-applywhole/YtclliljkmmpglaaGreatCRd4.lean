/-
  Contracts: package cmd's reader: commands.
-/
import Derived.Test.YtclliljkmmpglaaGreatCRd3
namespace Go.Proofs.YtclliljkmmpglaaGreat
open Go.RowKit Num
set_option linter.unusedVariables false
set_option maxRecDepth 100000

set_option maxRecDepth 100000 in
set_option maxHeartbeats 4000000 in
theorem gCmd_any {p : Nat} {w : World} {x : ByteArray} (h : RdAt p w x) (hx : x.size ≤ 100000) :
    Calls Tryz.prog 68 #[.pointer (some ⟨p, 0, none⟩)] w fun e w' => Rds p w (fun B w' v (c : Cmd) => ∃ s : Cs, v = .agg #[.int .i64 c.kind, .int .i64 c.client, .int .i64 c.seq, .int .i64 c.snap, .slice s.ko c.keys.length s.kc, .slice s.ro c.rngs.length s.rc, .slice s.wo c.wrts.length s.wc, .int .i64 c.dead, .int .i64 c.aft, .int .i64 c.held, .string c.text, .int .i64 c.code, .slice s.xo c.rows.length s.xc] ∧ OwnC B w' s c) (rdCmd x.data.toList) e w' := by
  have hp := h.lt
  have hd : x.data.toList.length = x.size := rfl
  have h0 : RdAt p (w.alloc (.cells #[.int .i64 0, .int .i64 0, .int .i64 0, .int .i64 0, .slice none 0 0, .slice none 0 0, .slice none 0 0, .int .i64 0, .int .i64 0, .int .i64 0, .string ⟨#[]⟩, .int .i64 0, .slice none 0 0] 41)) x := alloc_box _ h
  have hbz := heap_new w (.cells #[.int .i64 0, .int .i64 0, .int .i64 0, .int .i64 0, .slice none 0 0, .slice none 0 0, .slice none 0 0, .int .i64 0, .int .i64 0, .int .i64 0, .string ⟨#[]⟩, .int .i64 0, .slice none 0 0] 41)
  have hsz0 : (w.alloc (.cells #[.int .i64 0, .int .i64 0, .int .i64 0, .int .i64 0, .slice none 0 0, .slice none 0 0, .slice none 0 0, .int .i64 0, .int .i64 0, .int .i64 0, .string ⟨#[]⟩, .int .i64 0, .slice none 0 0] 41)).heap.size = w.heap.size + 1 := by simp
  have hga : w.grownBy (w.alloc (.cells #[.int .i64 0, .int .i64 0, .int .i64 0, .int .i64 0, .slice none 0 0, .slice none 0 0, .slice none 0 0, .int .i64 0, .int .i64 0, .int .i64 0, .string ⟨#[]⟩, .int .i64 0, .slice none 0 0] 41)) (some p) := World.grownBy_alloc w _ _
  cases hr1 : rdInt x.data.toList with
  | none =>
    have hR : rdCmd x.data.toList = none := by simp [rdCmd, hr1]
    rw [hR]
    have hf1 := gInt_any h0 (by omega)
    rw [hr1] at hf1
    clear hR hr1
    go_enter Tryz.func68, Tryz.ntmps68
    go_wp2_with (first
        | (go_at_call 106; refine hf1.mono ?_; rintro e w1 ⟨hg1, rfl⟩))
    exact ⟨rfl, hga.trans hg1, rfl⟩
  | some qq1 =>
    obtain ⟨a1, r1⟩ := qq1
    have hl1 : r1.length ≤ x.size := rdInt_le _ _ hr1
    cases hr2 : rdInt r1 with
    | none =>
      have hR : rdCmd x.data.toList = none := by simp [rdCmd, hr1, hr2]
      rw [hR]
      have hf1 := gInt_any h0 (by omega)
      rw [hr1] at hf1
      have hf2 : ∀ w1 y1, RdAt p w1 y1 → y1.data.toList = r1 → Calls Tryz.prog 106 #[.pointer (some ⟨p, 0, none⟩)] w1 fun e w' => Rds p w1 (fun _ _ v (n : Int) => v = .int .i64 n) none e w' := fun w1 y1 hat hy => by
        have hs : y1.size = r1.length := by rw [← hy]; rfl
        have t := gInt_any hat (by omega)
        rw [hy, hr2] at t
        exact t
      clear hR hr1 hr2
      go_enter Tryz.func68, Tryz.ntmps68
      go_wp2_with (first
          | (go_at_call 106; refine hf1.mono ?_; rintro e w1 ⟨hg1, v1, y1, rfl, rfl, hat1, hy1⟩; clear hf1)
          | (go_at_call 106; refine (hf2 _ _ hat1 hy1).mono ?_; rintro e w2 ⟨hg2, rfl⟩))
      exact ⟨rfl, hga.trans (hg1.trans hg2), rfl⟩
    | some qq2 =>
      obtain ⟨a2, r2⟩ := qq2
      have hl2 : r2.length ≤ r1.length := rdInt_le _ _ hr2
      cases hr3 : rdInt r2 with
      | none =>
        have hR : rdCmd x.data.toList = none := by simp [rdCmd, hr1, hr2, hr3]
        rw [hR]
        have hf1 := gInt_any h0 (by omega)
        rw [hr1] at hf1
        have hf2 : ∀ w1 y1, RdAt p w1 y1 → y1.data.toList = r1 → Calls Tryz.prog 106 #[.pointer (some ⟨p, 0, none⟩)] w1 fun e w' => Rds p w1 (fun _ _ v (n : Int) => v = .int .i64 n) (some (a2, r2)) e w' := fun w1 y1 hat hy => by
          have hs : y1.size = r1.length := by rw [← hy]; rfl
          have t := gInt_any hat (by omega)
          rw [hy, hr2] at t
          exact t
        have hf3 : ∀ w1 y1, RdAt p w1 y1 → y1.data.toList = r2 → Calls Tryz.prog 106 #[.pointer (some ⟨p, 0, none⟩)] w1 fun e w' => Rds p w1 (fun _ _ v (n : Int) => v = .int .i64 n) none e w' := fun w1 y1 hat hy => by
          have hs : y1.size = r2.length := by rw [← hy]; rfl
          have t := gInt_any hat (by omega)
          rw [hy, hr3] at t
          exact t
        clear hR hr1 hr2 hr3
        go_enter Tryz.func68, Tryz.ntmps68
        go_wp2_with (first
            | (go_at_call 106; refine hf1.mono ?_; rintro e w1 ⟨hg1, v1, y1, rfl, rfl, hat1, hy1⟩; clear hf1)
            | (go_at_call 106; refine (hf2 _ _ hat1 hy1).mono ?_; rintro e w2 ⟨hg2, v2, y2, rfl, rfl, hat2, hy2⟩; clear hf2)
            | (go_at_call 106; refine (hf3 _ _ hat2 hy2).mono ?_; rintro e w3 ⟨hg3, rfl⟩))
        exact ⟨rfl, hga.trans ((hg1.trans hg2).trans hg3), rfl⟩
      | some qq3 =>
        obtain ⟨a3, r3⟩ := qq3
        have hl3 : r3.length ≤ r2.length := rdInt_le _ _ hr3
        cases hr4 : rdInt r3 with
        | none =>
          have hR : rdCmd x.data.toList = none := by simp [rdCmd, hr1, hr2, hr3, hr4]
          rw [hR]
          have hf1 := gInt_any h0 (by omega)
          rw [hr1] at hf1
          have hf2 : ∀ w1 y1, RdAt p w1 y1 → y1.data.toList = r1 → Calls Tryz.prog 106 #[.pointer (some ⟨p, 0, none⟩)] w1 fun e w' => Rds p w1 (fun _ _ v (n : Int) => v = .int .i64 n) (some (a2, r2)) e w' := fun w1 y1 hat hy => by
            have hs : y1.size = r1.length := by rw [← hy]; rfl
            have t := gInt_any hat (by omega)
            rw [hy, hr2] at t
            exact t
          have hf3 : ∀ w1 y1, RdAt p w1 y1 → y1.data.toList = r2 → Calls Tryz.prog 106 #[.pointer (some ⟨p, 0, none⟩)] w1 fun e w' => Rds p w1 (fun _ _ v (n : Int) => v = .int .i64 n) (some (a3, r3)) e w' := fun w1 y1 hat hy => by
            have hs : y1.size = r2.length := by rw [← hy]; rfl
            have t := gInt_any hat (by omega)
            rw [hy, hr3] at t
            exact t
          have hf4 : ∀ w1 y1, RdAt p w1 y1 → y1.data.toList = r3 → Calls Tryz.prog 106 #[.pointer (some ⟨p, 0, none⟩)] w1 fun e w' => Rds p w1 (fun _ _ v (n : Int) => v = .int .i64 n) none e w' := fun w1 y1 hat hy => by
            have hs : y1.size = r3.length := by rw [← hy]; rfl
            have t := gInt_any hat (by omega)
            rw [hy, hr4] at t
            exact t
          clear hR hr1 hr2 hr3 hr4
          go_enter Tryz.func68, Tryz.ntmps68
          go_wp2_with (first
              | (go_at_call 106; refine hf1.mono ?_; rintro e w1 ⟨hg1, v1, y1, rfl, rfl, hat1, hy1⟩; clear hf1)
              | (go_at_call 106; refine (hf2 _ _ hat1 hy1).mono ?_; rintro e w2 ⟨hg2, v2, y2, rfl, rfl, hat2, hy2⟩; clear hf2)
              | (go_at_call 106; refine (hf3 _ _ hat2 hy2).mono ?_; rintro e w3 ⟨hg3, v3, y3, rfl, rfl, hat3, hy3⟩; clear hf3)
              | (go_at_call 106; refine (hf4 _ _ hat3 hy3).mono ?_; rintro e w4 ⟨hg4, rfl⟩))
          exact ⟨rfl, hga.trans (((hg1.trans hg2).trans hg3).trans hg4), rfl⟩
        | some qq4 =>
          obtain ⟨a4, r4⟩ := qq4
          have hl4 : r4.length ≤ r3.length := rdInt_le _ _ hr4
          cases hr5 : rdLst rdTxt r4 with
          | none =>
            have hR : rdCmd x.data.toList = none := by simp [rdCmd, hr1, hr2, hr3, hr4, hr5]
            rw [hR]
            have hf1 := gInt_any h0 (by omega)
            rw [hr1] at hf1
            have hf2 : ∀ w1 y1, RdAt p w1 y1 → y1.data.toList = r1 → Calls Tryz.prog 106 #[.pointer (some ⟨p, 0, none⟩)] w1 fun e w' => Rds p w1 (fun _ _ v (n : Int) => v = .int .i64 n) (some (a2, r2)) e w' := fun w1 y1 hat hy => by
              have hs : y1.size = r1.length := by rw [← hy]; rfl
              have t := gInt_any hat (by omega)
              rw [hy, hr2] at t
              exact t
            have hf3 : ∀ w1 y1, RdAt p w1 y1 → y1.data.toList = r2 → Calls Tryz.prog 106 #[.pointer (some ⟨p, 0, none⟩)] w1 fun e w' => Rds p w1 (fun _ _ v (n : Int) => v = .int .i64 n) (some (a3, r3)) e w' := fun w1 y1 hat hy => by
              have hs : y1.size = r2.length := by rw [← hy]; rfl
              have t := gInt_any hat (by omega)
              rw [hy, hr3] at t
              exact t
            have hf4 : ∀ w1 y1, RdAt p w1 y1 → y1.data.toList = r3 → Calls Tryz.prog 106 #[.pointer (some ⟨p, 0, none⟩)] w1 fun e w' => Rds p w1 (fun _ _ v (n : Int) => v = .int .i64 n) (some (a4, r4)) e w' := fun w1 y1 hat hy => by
              have hs : y1.size = r3.length := by rw [← hy]; rfl
              have t := gInt_any hat (by omega)
              rw [hy, hr4] at t
              exact t
            have hf5 : ∀ w1 y1, RdAt p w1 y1 → y1.data.toList = r4 → Calls Tryz.prog 107 #[.pointer (some ⟨p, 0, none⟩), .func (.func 108) #[] #[]] w1 fun e w' => Rds p w1 (fun B w' v (l : List ByteArray) => RowS B w' v l) none e w' := fun w1 y1 hat hy => by
              have hs : y1.size = r4.length := by rw [← hy]; rfl
              have t := gTxts_any hat (by omega)
              rw [hy, hr5] at t
              exact t
            clear hR hr1 hr2 hr3 hr4 hr5
            go_enter Tryz.func68, Tryz.ntmps68
            go_wp2_with (first
                | (go_at_call 106; refine hf1.mono ?_; rintro e w1 ⟨hg1, v1, y1, rfl, rfl, hat1, hy1⟩; clear hf1)
                | (go_at_call 106; refine (hf2 _ _ hat1 hy1).mono ?_; rintro e w2 ⟨hg2, v2, y2, rfl, rfl, hat2, hy2⟩; clear hf2)
                | (go_at_call 106; refine (hf3 _ _ hat2 hy2).mono ?_; rintro e w3 ⟨hg3, v3, y3, rfl, rfl, hat3, hy3⟩; clear hf3)
                | (go_at_call 106; refine (hf4 _ _ hat3 hy3).mono ?_; rintro e w4 ⟨hg4, v4, y4, rfl, rfl, hat4, hy4⟩; clear hf4)
                | (go_at_call 107; refine (hf5 _ _ hat4 hy4).mono ?_; rintro e w5 ⟨hg5, rfl⟩))
            exact ⟨rfl, hga.trans ((((hg1.trans hg2).trans hg3).trans hg4).trans hg5), rfl⟩
          | some qq5 =>
            obtain ⟨a5, r5⟩ := qq5
            have hl5 : r5.length ≤ r4.length := (rdEx_le (rdLst_ex rdTxt_ex)) _ _ hr5
            cases hr6 : rdLst rdRng r5 with
            | none =>
              have hR : rdCmd x.data.toList = none := by simp [rdCmd, hr1, hr2, hr3, hr4, hr5, hr6]
              rw [hR]
              have hf1 := gInt_any h0 (by omega)
              rw [hr1] at hf1
              have hf2 : ∀ w1 y1, RdAt p w1 y1 → y1.data.toList = r1 → Calls Tryz.prog 106 #[.pointer (some ⟨p, 0, none⟩)] w1 fun e w' => Rds p w1 (fun _ _ v (n : Int) => v = .int .i64 n) (some (a2, r2)) e w' := fun w1 y1 hat hy => by
                have hs : y1.size = r1.length := by rw [← hy]; rfl
                have t := gInt_any hat (by omega)
                rw [hy, hr2] at t
                exact t
              have hf3 : ∀ w1 y1, RdAt p w1 y1 → y1.data.toList = r2 → Calls Tryz.prog 106 #[.pointer (some ⟨p, 0, none⟩)] w1 fun e w' => Rds p w1 (fun _ _ v (n : Int) => v = .int .i64 n) (some (a3, r3)) e w' := fun w1 y1 hat hy => by
                have hs : y1.size = r2.length := by rw [← hy]; rfl
                have t := gInt_any hat (by omega)
                rw [hy, hr3] at t
                exact t
              have hf4 : ∀ w1 y1, RdAt p w1 y1 → y1.data.toList = r3 → Calls Tryz.prog 106 #[.pointer (some ⟨p, 0, none⟩)] w1 fun e w' => Rds p w1 (fun _ _ v (n : Int) => v = .int .i64 n) (some (a4, r4)) e w' := fun w1 y1 hat hy => by
                have hs : y1.size = r3.length := by rw [← hy]; rfl
                have t := gInt_any hat (by omega)
                rw [hy, hr4] at t
                exact t
              have hf5 : ∀ w1 y1, RdAt p w1 y1 → y1.data.toList = r4 → Calls Tryz.prog 107 #[.pointer (some ⟨p, 0, none⟩), .func (.func 108) #[] #[]] w1 fun e w' => Rds p w1 (fun B w' v (l : List ByteArray) => RowS B w' v l) (some (a5, r5)) e w' := fun w1 y1 hat hy => by
                have hs : y1.size = r4.length := by rw [← hy]; rfl
                have t := gTxts_any hat (by omega)
                rw [hy, hr5] at t
                exact t
              have hf6 : ∀ w1 y1, RdAt p w1 y1 → y1.data.toList = r5 → Calls Tryz.prog 109 #[.pointer (some ⟨p, 0, none⟩), .func (.func 110) #[] #[]] w1 fun e w' => Rds p w1 (fun B w' v (l : List Rng) => OwnQ B w' v l) none e w' := fun w1 y1 hat hy => by
                have hs : y1.size = r5.length := by rw [← hy]; rfl
                have t := gRngs_any hat (by omega)
                rw [hy, hr6] at t
                exact t
              clear hR hr1 hr2 hr3 hr4 hr5 hr6
              go_enter Tryz.func68, Tryz.ntmps68
              go_wp2_with (first
                  | (go_at_call 106; refine hf1.mono ?_; rintro e w1 ⟨hg1, v1, y1, rfl, rfl, hat1, hy1⟩; clear hf1)
                  | (go_at_call 106; refine (hf2 _ _ hat1 hy1).mono ?_; rintro e w2 ⟨hg2, v2, y2, rfl, rfl, hat2, hy2⟩; clear hf2)
                  | (go_at_call 106; refine (hf3 _ _ hat2 hy2).mono ?_; rintro e w3 ⟨hg3, v3, y3, rfl, rfl, hat3, hy3⟩; clear hf3)
                  | (go_at_call 106; refine (hf4 _ _ hat3 hy3).mono ?_; rintro e w4 ⟨hg4, v4, y4, rfl, rfl, hat4, hy4⟩; clear hf4)
                  | (go_at_call 107; refine (hf5 _ _ hat4 hy4).mono ?_; rintro e w5 ⟨hg5, v5, y5, rfl, hV5, hat5, hy5⟩; clear hf5; obtain ⟨ao5, cap5, rfl⟩ := rowS_shape hV5)
                  | (go_at_call 109; refine (hf6 _ _ hat5 hy5).mono ?_; rintro e w6 ⟨hg6, rfl⟩))
              exact ⟨rfl, hga.trans (((((hg1.trans hg2).trans hg3).trans hg4).trans hg5).trans hg6), rfl⟩
            | some qq6 =>
              obtain ⟨a6, r6⟩ := qq6
              have hl6 : r6.length ≤ r5.length := (rdEx_le (rdLst_ex rdRng_ex)) _ _ hr6
              cases hr7 : rdLst rdWrt r6 with
              | none =>
                have hR : rdCmd x.data.toList = none := by simp [rdCmd, hr1, hr2, hr3, hr4, hr5, hr6, hr7]
                rw [hR]
                have hf1 := gInt_any h0 (by omega)
                rw [hr1] at hf1
                have hf2 : ∀ w1 y1, RdAt p w1 y1 → y1.data.toList = r1 → Calls Tryz.prog 106 #[.pointer (some ⟨p, 0, none⟩)] w1 fun e w' => Rds p w1 (fun _ _ v (n : Int) => v = .int .i64 n) (some (a2, r2)) e w' := fun w1 y1 hat hy => by
                  have hs : y1.size = r1.length := by rw [← hy]; rfl
                  have t := gInt_any hat (by omega)
                  rw [hy, hr2] at t
                  exact t
                have hf3 : ∀ w1 y1, RdAt p w1 y1 → y1.data.toList = r2 → Calls Tryz.prog 106 #[.pointer (some ⟨p, 0, none⟩)] w1 fun e w' => Rds p w1 (fun _ _ v (n : Int) => v = .int .i64 n) (some (a3, r3)) e w' := fun w1 y1 hat hy => by
                  have hs : y1.size = r2.length := by rw [← hy]; rfl
                  have t := gInt_any hat (by omega)
                  rw [hy, hr3] at t
                  exact t
                have hf4 : ∀ w1 y1, RdAt p w1 y1 → y1.data.toList = r3 → Calls Tryz.prog 106 #[.pointer (some ⟨p, 0, none⟩)] w1 fun e w' => Rds p w1 (fun _ _ v (n : Int) => v = .int .i64 n) (some (a4, r4)) e w' := fun w1 y1 hat hy => by
                  have hs : y1.size = r3.length := by rw [← hy]; rfl
                  have t := gInt_any hat (by omega)
                  rw [hy, hr4] at t
                  exact t
                have hf5 : ∀ w1 y1, RdAt p w1 y1 → y1.data.toList = r4 → Calls Tryz.prog 107 #[.pointer (some ⟨p, 0, none⟩), .func (.func 108) #[] #[]] w1 fun e w' => Rds p w1 (fun B w' v (l : List ByteArray) => RowS B w' v l) (some (a5, r5)) e w' := fun w1 y1 hat hy => by
                  have hs : y1.size = r4.length := by rw [← hy]; rfl
                  have t := gTxts_any hat (by omega)
                  rw [hy, hr5] at t
                  exact t
                have hf6 : ∀ w1 y1, RdAt p w1 y1 → y1.data.toList = r5 → Calls Tryz.prog 109 #[.pointer (some ⟨p, 0, none⟩), .func (.func 110) #[] #[]] w1 fun e w' => Rds p w1 (fun B w' v (l : List Rng) => OwnQ B w' v l) (some (a6, r6)) e w' := fun w1 y1 hat hy => by
                  have hs : y1.size = r5.length := by rw [← hy]; rfl
                  have t := gRngs_any hat (by omega)
                  rw [hy, hr6] at t
                  exact t
                have hf7 : ∀ w1 y1, RdAt p w1 y1 → y1.data.toList = r6 → Calls Tryz.prog 111 #[.pointer (some ⟨p, 0, none⟩), .func (.func 112) #[] #[]] w1 fun e w' => Rds p w1 (fun B w' v (l : List Wrt) => OwnW B w' v l) none e w' := fun w1 y1 hat hy => by
                  have hs : y1.size = r6.length := by rw [← hy]; rfl
                  have t := gWrts_any hat (by omega)
                  rw [hy, hr7] at t
                  exact t
                clear hR hr1 hr2 hr3 hr4 hr5 hr6 hr7
                go_enter Tryz.func68, Tryz.ntmps68
                go_wp2_with (first
                    | (go_at_call 106; refine hf1.mono ?_; rintro e w1 ⟨hg1, v1, y1, rfl, rfl, hat1, hy1⟩; clear hf1)
                    | (go_at_call 106; refine (hf2 _ _ hat1 hy1).mono ?_; rintro e w2 ⟨hg2, v2, y2, rfl, rfl, hat2, hy2⟩; clear hf2)
                    | (go_at_call 106; refine (hf3 _ _ hat2 hy2).mono ?_; rintro e w3 ⟨hg3, v3, y3, rfl, rfl, hat3, hy3⟩; clear hf3)
                    | (go_at_call 106; refine (hf4 _ _ hat3 hy3).mono ?_; rintro e w4 ⟨hg4, v4, y4, rfl, rfl, hat4, hy4⟩; clear hf4)
                    | (go_at_call 107; refine (hf5 _ _ hat4 hy4).mono ?_; rintro e w5 ⟨hg5, v5, y5, rfl, hV5, hat5, hy5⟩; clear hf5; obtain ⟨ao5, cap5, rfl⟩ := rowS_shape hV5)
                    | (go_at_call 109; refine (hf6 _ _ hat5 hy5).mono ?_; rintro e w6 ⟨hg6, v6, y6, rfl, hV6, hat6, hy6⟩; clear hf6; obtain ⟨ao6, cap6, rfl⟩ := OwnS.shape hV6)
                    | (go_at_call 111; refine (hf7 _ _ hat6 hy6).mono ?_; rintro e w7 ⟨hg7, rfl⟩))
                exact ⟨rfl, hga.trans ((((((hg1.trans hg2).trans hg3).trans hg4).trans hg5).trans hg6).trans hg7), rfl⟩
              | some qq7 =>
                obtain ⟨a7, r7⟩ := qq7
                have hl7 : r7.length ≤ r6.length := (rdEx_le (rdLst_ex rdWrt_ex)) _ _ hr7
                cases hr8 : rdInt r7 with
                | none =>
                  have hR : rdCmd x.data.toList = none := by simp [rdCmd, hr1, hr2, hr3, hr4, hr5, hr6, hr7, hr8]
                  rw [hR]
                  have hf1 := gInt_any h0 (by omega)
                  rw [hr1] at hf1
                  have hf2 : ∀ w1 y1, RdAt p w1 y1 → y1.data.toList = r1 → Calls Tryz.prog 106 #[.pointer (some ⟨p, 0, none⟩)] w1 fun e w' => Rds p w1 (fun _ _ v (n : Int) => v = .int .i64 n) (some (a2, r2)) e w' := fun w1 y1 hat hy => by
                    have hs : y1.size = r1.length := by rw [← hy]; rfl
                    have t := gInt_any hat (by omega)
                    rw [hy, hr2] at t
                    exact t
                  have hf3 : ∀ w1 y1, RdAt p w1 y1 → y1.data.toList = r2 → Calls Tryz.prog 106 #[.pointer (some ⟨p, 0, none⟩)] w1 fun e w' => Rds p w1 (fun _ _ v (n : Int) => v = .int .i64 n) (some (a3, r3)) e w' := fun w1 y1 hat hy => by
                    have hs : y1.size = r2.length := by rw [← hy]; rfl
                    have t := gInt_any hat (by omega)
                    rw [hy, hr3] at t
                    exact t
                  have hf4 : ∀ w1 y1, RdAt p w1 y1 → y1.data.toList = r3 → Calls Tryz.prog 106 #[.pointer (some ⟨p, 0, none⟩)] w1 fun e w' => Rds p w1 (fun _ _ v (n : Int) => v = .int .i64 n) (some (a4, r4)) e w' := fun w1 y1 hat hy => by
                    have hs : y1.size = r3.length := by rw [← hy]; rfl
                    have t := gInt_any hat (by omega)
                    rw [hy, hr4] at t
                    exact t
                  have hf5 : ∀ w1 y1, RdAt p w1 y1 → y1.data.toList = r4 → Calls Tryz.prog 107 #[.pointer (some ⟨p, 0, none⟩), .func (.func 108) #[] #[]] w1 fun e w' => Rds p w1 (fun B w' v (l : List ByteArray) => RowS B w' v l) (some (a5, r5)) e w' := fun w1 y1 hat hy => by
                    have hs : y1.size = r4.length := by rw [← hy]; rfl
                    have t := gTxts_any hat (by omega)
                    rw [hy, hr5] at t
                    exact t
                  have hf6 : ∀ w1 y1, RdAt p w1 y1 → y1.data.toList = r5 → Calls Tryz.prog 109 #[.pointer (some ⟨p, 0, none⟩), .func (.func 110) #[] #[]] w1 fun e w' => Rds p w1 (fun B w' v (l : List Rng) => OwnQ B w' v l) (some (a6, r6)) e w' := fun w1 y1 hat hy => by
                    have hs : y1.size = r5.length := by rw [← hy]; rfl
                    have t := gRngs_any hat (by omega)
                    rw [hy, hr6] at t
                    exact t
                  have hf7 : ∀ w1 y1, RdAt p w1 y1 → y1.data.toList = r6 → Calls Tryz.prog 111 #[.pointer (some ⟨p, 0, none⟩), .func (.func 112) #[] #[]] w1 fun e w' => Rds p w1 (fun B w' v (l : List Wrt) => OwnW B w' v l) (some (a7, r7)) e w' := fun w1 y1 hat hy => by
                    have hs : y1.size = r6.length := by rw [← hy]; rfl
                    have t := gWrts_any hat (by omega)
                    rw [hy, hr7] at t
                    exact t
                  have hf8 : ∀ w1 y1, RdAt p w1 y1 → y1.data.toList = r7 → Calls Tryz.prog 106 #[.pointer (some ⟨p, 0, none⟩)] w1 fun e w' => Rds p w1 (fun _ _ v (n : Int) => v = .int .i64 n) none e w' := fun w1 y1 hat hy => by
                    have hs : y1.size = r7.length := by rw [← hy]; rfl
                    have t := gInt_any hat (by omega)
                    rw [hy, hr8] at t
                    exact t
                  clear hR hr1 hr2 hr3 hr4 hr5 hr6 hr7 hr8
                  go_enter Tryz.func68, Tryz.ntmps68
                  go_wp2_with (first
                      | (go_at_call 106; refine hf1.mono ?_; rintro e w1 ⟨hg1, v1, y1, rfl, rfl, hat1, hy1⟩; clear hf1)
                      | (go_at_call 106; refine (hf2 _ _ hat1 hy1).mono ?_; rintro e w2 ⟨hg2, v2, y2, rfl, rfl, hat2, hy2⟩; clear hf2)
                      | (go_at_call 106; refine (hf3 _ _ hat2 hy2).mono ?_; rintro e w3 ⟨hg3, v3, y3, rfl, rfl, hat3, hy3⟩; clear hf3)
                      | (go_at_call 106; refine (hf4 _ _ hat3 hy3).mono ?_; rintro e w4 ⟨hg4, v4, y4, rfl, rfl, hat4, hy4⟩; clear hf4)
                      | (go_at_call 107; refine (hf5 _ _ hat4 hy4).mono ?_; rintro e w5 ⟨hg5, v5, y5, rfl, hV5, hat5, hy5⟩; clear hf5; obtain ⟨ao5, cap5, rfl⟩ := rowS_shape hV5)
                      | (go_at_call 109; refine (hf6 _ _ hat5 hy5).mono ?_; rintro e w6 ⟨hg6, v6, y6, rfl, hV6, hat6, hy6⟩; clear hf6; obtain ⟨ao6, cap6, rfl⟩ := OwnS.shape hV6)
                      | (go_at_call 111; refine (hf7 _ _ hat6 hy6).mono ?_; rintro e w7 ⟨hg7, v7, y7, rfl, hV7, hat7, hy7⟩; clear hf7; obtain ⟨ao7, cap7, rfl⟩ := OwnS.shape hV7)
                      | (go_at_call 106; refine (hf8 _ _ hat7 hy7).mono ?_; rintro e w8 ⟨hg8, rfl⟩))
                  exact ⟨rfl, hga.trans (((((((hg1.trans hg2).trans hg3).trans hg4).trans hg5).trans hg6).trans hg7).trans hg8), rfl⟩
                | some qq8 =>
                  obtain ⟨a8, r8⟩ := qq8
                  have hl8 : r8.length ≤ r7.length := rdInt_le _ _ hr8
                  cases hr9 : rdInt r8 with
                  | none =>
                    have hR : rdCmd x.data.toList = none := by simp [rdCmd, hr1, hr2, hr3, hr4, hr5, hr6, hr7, hr8, hr9]
                    rw [hR]
                    have hf1 := gInt_any h0 (by omega)
                    rw [hr1] at hf1
                    have hf2 : ∀ w1 y1, RdAt p w1 y1 → y1.data.toList = r1 → Calls Tryz.prog 106 #[.pointer (some ⟨p, 0, none⟩)] w1 fun e w' => Rds p w1 (fun _ _ v (n : Int) => v = .int .i64 n) (some (a2, r2)) e w' := fun w1 y1 hat hy => by
                      have hs : y1.size = r1.length := by rw [← hy]; rfl
                      have t := gInt_any hat (by omega)
                      rw [hy, hr2] at t
                      exact t
                    have hf3 : ∀ w1 y1, RdAt p w1 y1 → y1.data.toList = r2 → Calls Tryz.prog 106 #[.pointer (some ⟨p, 0, none⟩)] w1 fun e w' => Rds p w1 (fun _ _ v (n : Int) => v = .int .i64 n) (some (a3, r3)) e w' := fun w1 y1 hat hy => by
                      have hs : y1.size = r2.length := by rw [← hy]; rfl
                      have t := gInt_any hat (by omega)
                      rw [hy, hr3] at t
                      exact t
                    have hf4 : ∀ w1 y1, RdAt p w1 y1 → y1.data.toList = r3 → Calls Tryz.prog 106 #[.pointer (some ⟨p, 0, none⟩)] w1 fun e w' => Rds p w1 (fun _ _ v (n : Int) => v = .int .i64 n) (some (a4, r4)) e w' := fun w1 y1 hat hy => by
                      have hs : y1.size = r3.length := by rw [← hy]; rfl
                      have t := gInt_any hat (by omega)
                      rw [hy, hr4] at t
                      exact t
                    have hf5 : ∀ w1 y1, RdAt p w1 y1 → y1.data.toList = r4 → Calls Tryz.prog 107 #[.pointer (some ⟨p, 0, none⟩), .func (.func 108) #[] #[]] w1 fun e w' => Rds p w1 (fun B w' v (l : List ByteArray) => RowS B w' v l) (some (a5, r5)) e w' := fun w1 y1 hat hy => by
                      have hs : y1.size = r4.length := by rw [← hy]; rfl
                      have t := gTxts_any hat (by omega)
                      rw [hy, hr5] at t
                      exact t
                    have hf6 : ∀ w1 y1, RdAt p w1 y1 → y1.data.toList = r5 → Calls Tryz.prog 109 #[.pointer (some ⟨p, 0, none⟩), .func (.func 110) #[] #[]] w1 fun e w' => Rds p w1 (fun B w' v (l : List Rng) => OwnQ B w' v l) (some (a6, r6)) e w' := fun w1 y1 hat hy => by
                      have hs : y1.size = r5.length := by rw [← hy]; rfl
                      have t := gRngs_any hat (by omega)
                      rw [hy, hr6] at t
                      exact t
                    have hf7 : ∀ w1 y1, RdAt p w1 y1 → y1.data.toList = r6 → Calls Tryz.prog 111 #[.pointer (some ⟨p, 0, none⟩), .func (.func 112) #[] #[]] w1 fun e w' => Rds p w1 (fun B w' v (l : List Wrt) => OwnW B w' v l) (some (a7, r7)) e w' := fun w1 y1 hat hy => by
                      have hs : y1.size = r6.length := by rw [← hy]; rfl
                      have t := gWrts_any hat (by omega)
                      rw [hy, hr7] at t
                      exact t
                    have hf8 : ∀ w1 y1, RdAt p w1 y1 → y1.data.toList = r7 → Calls Tryz.prog 106 #[.pointer (some ⟨p, 0, none⟩)] w1 fun e w' => Rds p w1 (fun _ _ v (n : Int) => v = .int .i64 n) (some (a8, r8)) e w' := fun w1 y1 hat hy => by
                      have hs : y1.size = r7.length := by rw [← hy]; rfl
                      have t := gInt_any hat (by omega)
                      rw [hy, hr8] at t
                      exact t
                    have hf9 : ∀ w1 y1, RdAt p w1 y1 → y1.data.toList = r8 → Calls Tryz.prog 106 #[.pointer (some ⟨p, 0, none⟩)] w1 fun e w' => Rds p w1 (fun _ _ v (n : Int) => v = .int .i64 n) none e w' := fun w1 y1 hat hy => by
                      have hs : y1.size = r8.length := by rw [← hy]; rfl
                      have t := gInt_any hat (by omega)
                      rw [hy, hr9] at t
                      exact t
                    clear hR hr1 hr2 hr3 hr4 hr5 hr6 hr7 hr8 hr9
                    go_enter Tryz.func68, Tryz.ntmps68
                    go_wp2_with (first
                        | (go_at_call 106; refine hf1.mono ?_; rintro e w1 ⟨hg1, v1, y1, rfl, rfl, hat1, hy1⟩; clear hf1)
                        | (go_at_call 106; refine (hf2 _ _ hat1 hy1).mono ?_; rintro e w2 ⟨hg2, v2, y2, rfl, rfl, hat2, hy2⟩; clear hf2)
                        | (go_at_call 106; refine (hf3 _ _ hat2 hy2).mono ?_; rintro e w3 ⟨hg3, v3, y3, rfl, rfl, hat3, hy3⟩; clear hf3)
                        | (go_at_call 106; refine (hf4 _ _ hat3 hy3).mono ?_; rintro e w4 ⟨hg4, v4, y4, rfl, rfl, hat4, hy4⟩; clear hf4)
                        | (go_at_call 107; refine (hf5 _ _ hat4 hy4).mono ?_; rintro e w5 ⟨hg5, v5, y5, rfl, hV5, hat5, hy5⟩; clear hf5; obtain ⟨ao5, cap5, rfl⟩ := rowS_shape hV5)
                        | (go_at_call 109; refine (hf6 _ _ hat5 hy5).mono ?_; rintro e w6 ⟨hg6, v6, y6, rfl, hV6, hat6, hy6⟩; clear hf6; obtain ⟨ao6, cap6, rfl⟩ := OwnS.shape hV6)
                        | (go_at_call 111; refine (hf7 _ _ hat6 hy6).mono ?_; rintro e w7 ⟨hg7, v7, y7, rfl, hV7, hat7, hy7⟩; clear hf7; obtain ⟨ao7, cap7, rfl⟩ := OwnS.shape hV7)
                        | (go_at_call 106; refine (hf8 _ _ hat7 hy7).mono ?_; rintro e w8 ⟨hg8, v8, y8, rfl, rfl, hat8, hy8⟩; clear hf8)
                        | (go_at_call 106; refine (hf9 _ _ hat8 hy8).mono ?_; rintro e w9 ⟨hg9, rfl⟩))
                    exact ⟨rfl, hga.trans ((((((((hg1.trans hg2).trans hg3).trans hg4).trans hg5).trans hg6).trans hg7).trans hg8).trans hg9), rfl⟩
                  | some qq9 =>
                    obtain ⟨a9, r9⟩ := qq9
                    have hl9 : r9.length ≤ r8.length := rdInt_le _ _ hr9
                    cases hr10 : rdInt r9 with
                    | none =>
                      have hR : rdCmd x.data.toList = none := by simp [rdCmd, hr1, hr2, hr3, hr4, hr5, hr6, hr7, hr8, hr9, hr10]
                      rw [hR]
                      have hf1 := gInt_any h0 (by omega)
                      rw [hr1] at hf1
                      have hf2 : ∀ w1 y1, RdAt p w1 y1 → y1.data.toList = r1 → Calls Tryz.prog 106 #[.pointer (some ⟨p, 0, none⟩)] w1 fun e w' => Rds p w1 (fun _ _ v (n : Int) => v = .int .i64 n) (some (a2, r2)) e w' := fun w1 y1 hat hy => by
                        have hs : y1.size = r1.length := by rw [← hy]; rfl
                        have t := gInt_any hat (by omega)
                        rw [hy, hr2] at t
                        exact t
                      have hf3 : ∀ w1 y1, RdAt p w1 y1 → y1.data.toList = r2 → Calls Tryz.prog 106 #[.pointer (some ⟨p, 0, none⟩)] w1 fun e w' => Rds p w1 (fun _ _ v (n : Int) => v = .int .i64 n) (some (a3, r3)) e w' := fun w1 y1 hat hy => by
                        have hs : y1.size = r2.length := by rw [← hy]; rfl
                        have t := gInt_any hat (by omega)
                        rw [hy, hr3] at t
                        exact t
                      have hf4 : ∀ w1 y1, RdAt p w1 y1 → y1.data.toList = r3 → Calls Tryz.prog 106 #[.pointer (some ⟨p, 0, none⟩)] w1 fun e w' => Rds p w1 (fun _ _ v (n : Int) => v = .int .i64 n) (some (a4, r4)) e w' := fun w1 y1 hat hy => by
                        have hs : y1.size = r3.length := by rw [← hy]; rfl
                        have t := gInt_any hat (by omega)
                        rw [hy, hr4] at t
                        exact t
                      have hf5 : ∀ w1 y1, RdAt p w1 y1 → y1.data.toList = r4 → Calls Tryz.prog 107 #[.pointer (some ⟨p, 0, none⟩), .func (.func 108) #[] #[]] w1 fun e w' => Rds p w1 (fun B w' v (l : List ByteArray) => RowS B w' v l) (some (a5, r5)) e w' := fun w1 y1 hat hy => by
                        have hs : y1.size = r4.length := by rw [← hy]; rfl
                        have t := gTxts_any hat (by omega)
                        rw [hy, hr5] at t
                        exact t
                      have hf6 : ∀ w1 y1, RdAt p w1 y1 → y1.data.toList = r5 → Calls Tryz.prog 109 #[.pointer (some ⟨p, 0, none⟩), .func (.func 110) #[] #[]] w1 fun e w' => Rds p w1 (fun B w' v (l : List Rng) => OwnQ B w' v l) (some (a6, r6)) e w' := fun w1 y1 hat hy => by
                        have hs : y1.size = r5.length := by rw [← hy]; rfl
                        have t := gRngs_any hat (by omega)
                        rw [hy, hr6] at t
                        exact t
                      have hf7 : ∀ w1 y1, RdAt p w1 y1 → y1.data.toList = r6 → Calls Tryz.prog 111 #[.pointer (some ⟨p, 0, none⟩), .func (.func 112) #[] #[]] w1 fun e w' => Rds p w1 (fun B w' v (l : List Wrt) => OwnW B w' v l) (some (a7, r7)) e w' := fun w1 y1 hat hy => by
                        have hs : y1.size = r6.length := by rw [← hy]; rfl
                        have t := gWrts_any hat (by omega)
                        rw [hy, hr7] at t
                        exact t
                      have hf8 : ∀ w1 y1, RdAt p w1 y1 → y1.data.toList = r7 → Calls Tryz.prog 106 #[.pointer (some ⟨p, 0, none⟩)] w1 fun e w' => Rds p w1 (fun _ _ v (n : Int) => v = .int .i64 n) (some (a8, r8)) e w' := fun w1 y1 hat hy => by
                        have hs : y1.size = r7.length := by rw [← hy]; rfl
                        have t := gInt_any hat (by omega)
                        rw [hy, hr8] at t
                        exact t
                      have hf9 : ∀ w1 y1, RdAt p w1 y1 → y1.data.toList = r8 → Calls Tryz.prog 106 #[.pointer (some ⟨p, 0, none⟩)] w1 fun e w' => Rds p w1 (fun _ _ v (n : Int) => v = .int .i64 n) (some (a9, r9)) e w' := fun w1 y1 hat hy => by
                        have hs : y1.size = r8.length := by rw [← hy]; rfl
                        have t := gInt_any hat (by omega)
                        rw [hy, hr9] at t
                        exact t
                      have hf10 : ∀ w1 y1, RdAt p w1 y1 → y1.data.toList = r9 → Calls Tryz.prog 106 #[.pointer (some ⟨p, 0, none⟩)] w1 fun e w' => Rds p w1 (fun _ _ v (n : Int) => v = .int .i64 n) none e w' := fun w1 y1 hat hy => by
                        have hs : y1.size = r9.length := by rw [← hy]; rfl
                        have t := gInt_any hat (by omega)
                        rw [hy, hr10] at t
                        exact t
                      clear hR hr1 hr2 hr3 hr4 hr5 hr6 hr7 hr8 hr9 hr10
                      go_enter Tryz.func68, Tryz.ntmps68
                      go_wp2_with (first
                          | (go_at_call 106; refine hf1.mono ?_; rintro e w1 ⟨hg1, v1, y1, rfl, rfl, hat1, hy1⟩; clear hf1)
                          | (go_at_call 106; refine (hf2 _ _ hat1 hy1).mono ?_; rintro e w2 ⟨hg2, v2, y2, rfl, rfl, hat2, hy2⟩; clear hf2)
                          | (go_at_call 106; refine (hf3 _ _ hat2 hy2).mono ?_; rintro e w3 ⟨hg3, v3, y3, rfl, rfl, hat3, hy3⟩; clear hf3)
                          | (go_at_call 106; refine (hf4 _ _ hat3 hy3).mono ?_; rintro e w4 ⟨hg4, v4, y4, rfl, rfl, hat4, hy4⟩; clear hf4)
                          | (go_at_call 107; refine (hf5 _ _ hat4 hy4).mono ?_; rintro e w5 ⟨hg5, v5, y5, rfl, hV5, hat5, hy5⟩; clear hf5; obtain ⟨ao5, cap5, rfl⟩ := rowS_shape hV5)
                          | (go_at_call 109; refine (hf6 _ _ hat5 hy5).mono ?_; rintro e w6 ⟨hg6, v6, y6, rfl, hV6, hat6, hy6⟩; clear hf6; obtain ⟨ao6, cap6, rfl⟩ := OwnS.shape hV6)
                          | (go_at_call 111; refine (hf7 _ _ hat6 hy6).mono ?_; rintro e w7 ⟨hg7, v7, y7, rfl, hV7, hat7, hy7⟩; clear hf7; obtain ⟨ao7, cap7, rfl⟩ := OwnS.shape hV7)
                          | (go_at_call 106; refine (hf8 _ _ hat7 hy7).mono ?_; rintro e w8 ⟨hg8, v8, y8, rfl, rfl, hat8, hy8⟩; clear hf8)
                          | (go_at_call 106; refine (hf9 _ _ hat8 hy8).mono ?_; rintro e w9 ⟨hg9, v9, y9, rfl, rfl, hat9, hy9⟩; clear hf9)
                          | (go_at_call 106; refine (hf10 _ _ hat9 hy9).mono ?_; rintro e w10 ⟨hg10, rfl⟩))
                      exact ⟨rfl, hga.trans (((((((((hg1.trans hg2).trans hg3).trans hg4).trans hg5).trans hg6).trans hg7).trans hg8).trans hg9).trans hg10), rfl⟩
                    | some qq10 =>
                      obtain ⟨a10, r10⟩ := qq10
                      have hl10 : r10.length ≤ r9.length := rdInt_le _ _ hr10
                      cases hr11 : rdTxt r10 with
                      | none =>
                        have hR : rdCmd x.data.toList = none := by simp [rdCmd, hr1, hr2, hr3, hr4, hr5, hr6, hr7, hr8, hr9, hr10, hr11]
                        rw [hR]
                        have hf1 := gInt_any h0 (by omega)
                        rw [hr1] at hf1
                        have hf2 : ∀ w1 y1, RdAt p w1 y1 → y1.data.toList = r1 → Calls Tryz.prog 106 #[.pointer (some ⟨p, 0, none⟩)] w1 fun e w' => Rds p w1 (fun _ _ v (n : Int) => v = .int .i64 n) (some (a2, r2)) e w' := fun w1 y1 hat hy => by
                          have hs : y1.size = r1.length := by rw [← hy]; rfl
                          have t := gInt_any hat (by omega)
                          rw [hy, hr2] at t
                          exact t
                        have hf3 : ∀ w1 y1, RdAt p w1 y1 → y1.data.toList = r2 → Calls Tryz.prog 106 #[.pointer (some ⟨p, 0, none⟩)] w1 fun e w' => Rds p w1 (fun _ _ v (n : Int) => v = .int .i64 n) (some (a3, r3)) e w' := fun w1 y1 hat hy => by
                          have hs : y1.size = r2.length := by rw [← hy]; rfl
                          have t := gInt_any hat (by omega)
                          rw [hy, hr3] at t
                          exact t
                        have hf4 : ∀ w1 y1, RdAt p w1 y1 → y1.data.toList = r3 → Calls Tryz.prog 106 #[.pointer (some ⟨p, 0, none⟩)] w1 fun e w' => Rds p w1 (fun _ _ v (n : Int) => v = .int .i64 n) (some (a4, r4)) e w' := fun w1 y1 hat hy => by
                          have hs : y1.size = r3.length := by rw [← hy]; rfl
                          have t := gInt_any hat (by omega)
                          rw [hy, hr4] at t
                          exact t
                        have hf5 : ∀ w1 y1, RdAt p w1 y1 → y1.data.toList = r4 → Calls Tryz.prog 107 #[.pointer (some ⟨p, 0, none⟩), .func (.func 108) #[] #[]] w1 fun e w' => Rds p w1 (fun B w' v (l : List ByteArray) => RowS B w' v l) (some (a5, r5)) e w' := fun w1 y1 hat hy => by
                          have hs : y1.size = r4.length := by rw [← hy]; rfl
                          have t := gTxts_any hat (by omega)
                          rw [hy, hr5] at t
                          exact t
                        have hf6 : ∀ w1 y1, RdAt p w1 y1 → y1.data.toList = r5 → Calls Tryz.prog 109 #[.pointer (some ⟨p, 0, none⟩), .func (.func 110) #[] #[]] w1 fun e w' => Rds p w1 (fun B w' v (l : List Rng) => OwnQ B w' v l) (some (a6, r6)) e w' := fun w1 y1 hat hy => by
                          have hs : y1.size = r5.length := by rw [← hy]; rfl
                          have t := gRngs_any hat (by omega)
                          rw [hy, hr6] at t
                          exact t
                        have hf7 : ∀ w1 y1, RdAt p w1 y1 → y1.data.toList = r6 → Calls Tryz.prog 111 #[.pointer (some ⟨p, 0, none⟩), .func (.func 112) #[] #[]] w1 fun e w' => Rds p w1 (fun B w' v (l : List Wrt) => OwnW B w' v l) (some (a7, r7)) e w' := fun w1 y1 hat hy => by
                          have hs : y1.size = r6.length := by rw [← hy]; rfl
                          have t := gWrts_any hat (by omega)
                          rw [hy, hr7] at t
                          exact t
                        have hf8 : ∀ w1 y1, RdAt p w1 y1 → y1.data.toList = r7 → Calls Tryz.prog 106 #[.pointer (some ⟨p, 0, none⟩)] w1 fun e w' => Rds p w1 (fun _ _ v (n : Int) => v = .int .i64 n) (some (a8, r8)) e w' := fun w1 y1 hat hy => by
                          have hs : y1.size = r7.length := by rw [← hy]; rfl
                          have t := gInt_any hat (by omega)
                          rw [hy, hr8] at t
                          exact t
                        have hf9 : ∀ w1 y1, RdAt p w1 y1 → y1.data.toList = r8 → Calls Tryz.prog 106 #[.pointer (some ⟨p, 0, none⟩)] w1 fun e w' => Rds p w1 (fun _ _ v (n : Int) => v = .int .i64 n) (some (a9, r9)) e w' := fun w1 y1 hat hy => by
                          have hs : y1.size = r8.length := by rw [← hy]; rfl
                          have t := gInt_any hat (by omega)
                          rw [hy, hr9] at t
                          exact t
                        have hf10 : ∀ w1 y1, RdAt p w1 y1 → y1.data.toList = r9 → Calls Tryz.prog 106 #[.pointer (some ⟨p, 0, none⟩)] w1 fun e w' => Rds p w1 (fun _ _ v (n : Int) => v = .int .i64 n) (some (a10, r10)) e w' := fun w1 y1 hat hy => by
                          have hs : y1.size = r9.length := by rw [← hy]; rfl
                          have t := gInt_any hat (by omega)
                          rw [hy, hr10] at t
                          exact t
                        have hf11 : ∀ w1 y1, RdAt p w1 y1 → y1.data.toList = r10 → Calls Tryz.prog 108 #[.pointer (some ⟨p, 0, none⟩)] w1 fun e w' => Rds p w1 (fun _ _ v (s : ByteArray) => v = .string s) none e w' := fun w1 y1 hat hy => by
                          have hs : y1.size = r10.length := by rw [← hy]; rfl
                          have t := gTxt_any hat (by omega)
                          rw [hy, hr11] at t
                          exact t
                        clear hR hr1 hr2 hr3 hr4 hr5 hr6 hr7 hr8 hr9 hr10 hr11
                        go_enter Tryz.func68, Tryz.ntmps68
                        go_wp2_with (first
                            | (go_at_call 106; refine hf1.mono ?_; rintro e w1 ⟨hg1, v1, y1, rfl, rfl, hat1, hy1⟩; clear hf1)
                            | (go_at_call 106; refine (hf2 _ _ hat1 hy1).mono ?_; rintro e w2 ⟨hg2, v2, y2, rfl, rfl, hat2, hy2⟩; clear hf2)
                            | (go_at_call 106; refine (hf3 _ _ hat2 hy2).mono ?_; rintro e w3 ⟨hg3, v3, y3, rfl, rfl, hat3, hy3⟩; clear hf3)
                            | (go_at_call 106; refine (hf4 _ _ hat3 hy3).mono ?_; rintro e w4 ⟨hg4, v4, y4, rfl, rfl, hat4, hy4⟩; clear hf4)
                            | (go_at_call 107; refine (hf5 _ _ hat4 hy4).mono ?_; rintro e w5 ⟨hg5, v5, y5, rfl, hV5, hat5, hy5⟩; clear hf5; obtain ⟨ao5, cap5, rfl⟩ := rowS_shape hV5)
                            | (go_at_call 109; refine (hf6 _ _ hat5 hy5).mono ?_; rintro e w6 ⟨hg6, v6, y6, rfl, hV6, hat6, hy6⟩; clear hf6; obtain ⟨ao6, cap6, rfl⟩ := OwnS.shape hV6)
                            | (go_at_call 111; refine (hf7 _ _ hat6 hy6).mono ?_; rintro e w7 ⟨hg7, v7, y7, rfl, hV7, hat7, hy7⟩; clear hf7; obtain ⟨ao7, cap7, rfl⟩ := OwnS.shape hV7)
                            | (go_at_call 106; refine (hf8 _ _ hat7 hy7).mono ?_; rintro e w8 ⟨hg8, v8, y8, rfl, rfl, hat8, hy8⟩; clear hf8)
                            | (go_at_call 106; refine (hf9 _ _ hat8 hy8).mono ?_; rintro e w9 ⟨hg9, v9, y9, rfl, rfl, hat9, hy9⟩; clear hf9)
                            | (go_at_call 106; refine (hf10 _ _ hat9 hy9).mono ?_; rintro e w10 ⟨hg10, v10, y10, rfl, rfl, hat10, hy10⟩; clear hf10)
                            | (go_at_call 108; refine (hf11 _ _ hat10 hy10).mono ?_; rintro e w11 ⟨hg11, rfl⟩))
                        exact ⟨rfl, hga.trans ((((((((((hg1.trans hg2).trans hg3).trans hg4).trans hg5).trans hg6).trans hg7).trans hg8).trans hg9).trans hg10).trans hg11), rfl⟩
                      | some qq11 =>
                        obtain ⟨a11, r11⟩ := qq11
                        have hl11 : r11.length ≤ r10.length := rdTxt_le _ _ hr11
                        cases hr12 : rdInt r11 with
                        | none =>
                          have hR : rdCmd x.data.toList = none := by simp [rdCmd, hr1, hr2, hr3, hr4, hr5, hr6, hr7, hr8, hr9, hr10, hr11, hr12]
                          rw [hR]
                          have hf1 := gInt_any h0 (by omega)
                          rw [hr1] at hf1
                          have hf2 : ∀ w1 y1, RdAt p w1 y1 → y1.data.toList = r1 → Calls Tryz.prog 106 #[.pointer (some ⟨p, 0, none⟩)] w1 fun e w' => Rds p w1 (fun _ _ v (n : Int) => v = .int .i64 n) (some (a2, r2)) e w' := fun w1 y1 hat hy => by
                            have hs : y1.size = r1.length := by rw [← hy]; rfl
                            have t := gInt_any hat (by omega)
                            rw [hy, hr2] at t
                            exact t
                          have hf3 : ∀ w1 y1, RdAt p w1 y1 → y1.data.toList = r2 → Calls Tryz.prog 106 #[.pointer (some ⟨p, 0, none⟩)] w1 fun e w' => Rds p w1 (fun _ _ v (n : Int) => v = .int .i64 n) (some (a3, r3)) e w' := fun w1 y1 hat hy => by
                            have hs : y1.size = r2.length := by rw [← hy]; rfl
                            have t := gInt_any hat (by omega)
                            rw [hy, hr3] at t
                            exact t
                          have hf4 : ∀ w1 y1, RdAt p w1 y1 → y1.data.toList = r3 → Calls Tryz.prog 106 #[.pointer (some ⟨p, 0, none⟩)] w1 fun e w' => Rds p w1 (fun _ _ v (n : Int) => v = .int .i64 n) (some (a4, r4)) e w' := fun w1 y1 hat hy => by
                            have hs : y1.size = r3.length := by rw [← hy]; rfl
                            have t := gInt_any hat (by omega)
                            rw [hy, hr4] at t
                            exact t
                          have hf5 : ∀ w1 y1, RdAt p w1 y1 → y1.data.toList = r4 → Calls Tryz.prog 107 #[.pointer (some ⟨p, 0, none⟩), .func (.func 108) #[] #[]] w1 fun e w' => Rds p w1 (fun B w' v (l : List ByteArray) => RowS B w' v l) (some (a5, r5)) e w' := fun w1 y1 hat hy => by
                            have hs : y1.size = r4.length := by rw [← hy]; rfl
                            have t := gTxts_any hat (by omega)
                            rw [hy, hr5] at t
                            exact t
                          have hf6 : ∀ w1 y1, RdAt p w1 y1 → y1.data.toList = r5 → Calls Tryz.prog 109 #[.pointer (some ⟨p, 0, none⟩), .func (.func 110) #[] #[]] w1 fun e w' => Rds p w1 (fun B w' v (l : List Rng) => OwnQ B w' v l) (some (a6, r6)) e w' := fun w1 y1 hat hy => by
                            have hs : y1.size = r5.length := by rw [← hy]; rfl
                            have t := gRngs_any hat (by omega)
                            rw [hy, hr6] at t
                            exact t
                          have hf7 : ∀ w1 y1, RdAt p w1 y1 → y1.data.toList = r6 → Calls Tryz.prog 111 #[.pointer (some ⟨p, 0, none⟩), .func (.func 112) #[] #[]] w1 fun e w' => Rds p w1 (fun B w' v (l : List Wrt) => OwnW B w' v l) (some (a7, r7)) e w' := fun w1 y1 hat hy => by
                            have hs : y1.size = r6.length := by rw [← hy]; rfl
                            have t := gWrts_any hat (by omega)
                            rw [hy, hr7] at t
                            exact t
                          have hf8 : ∀ w1 y1, RdAt p w1 y1 → y1.data.toList = r7 → Calls Tryz.prog 106 #[.pointer (some ⟨p, 0, none⟩)] w1 fun e w' => Rds p w1 (fun _ _ v (n : Int) => v = .int .i64 n) (some (a8, r8)) e w' := fun w1 y1 hat hy => by
                            have hs : y1.size = r7.length := by rw [← hy]; rfl
                            have t := gInt_any hat (by omega)
                            rw [hy, hr8] at t
                            exact t
                          have hf9 : ∀ w1 y1, RdAt p w1 y1 → y1.data.toList = r8 → Calls Tryz.prog 106 #[.pointer (some ⟨p, 0, none⟩)] w1 fun e w' => Rds p w1 (fun _ _ v (n : Int) => v = .int .i64 n) (some (a9, r9)) e w' := fun w1 y1 hat hy => by
                            have hs : y1.size = r8.length := by rw [← hy]; rfl
                            have t := gInt_any hat (by omega)
                            rw [hy, hr9] at t
                            exact t
                          have hf10 : ∀ w1 y1, RdAt p w1 y1 → y1.data.toList = r9 → Calls Tryz.prog 106 #[.pointer (some ⟨p, 0, none⟩)] w1 fun e w' => Rds p w1 (fun _ _ v (n : Int) => v = .int .i64 n) (some (a10, r10)) e w' := fun w1 y1 hat hy => by
                            have hs : y1.size = r9.length := by rw [← hy]; rfl
                            have t := gInt_any hat (by omega)
                            rw [hy, hr10] at t
                            exact t
                          have hf11 : ∀ w1 y1, RdAt p w1 y1 → y1.data.toList = r10 → Calls Tryz.prog 108 #[.pointer (some ⟨p, 0, none⟩)] w1 fun e w' => Rds p w1 (fun _ _ v (s : ByteArray) => v = .string s) (some (a11, r11)) e w' := fun w1 y1 hat hy => by
                            have hs : y1.size = r10.length := by rw [← hy]; rfl
                            have t := gTxt_any hat (by omega)
                            rw [hy, hr11] at t
                            exact t
                          have hf12 : ∀ w1 y1, RdAt p w1 y1 → y1.data.toList = r11 → Calls Tryz.prog 106 #[.pointer (some ⟨p, 0, none⟩)] w1 fun e w' => Rds p w1 (fun _ _ v (n : Int) => v = .int .i64 n) none e w' := fun w1 y1 hat hy => by
                            have hs : y1.size = r11.length := by rw [← hy]; rfl
                            have t := gInt_any hat (by omega)
                            rw [hy, hr12] at t
                            exact t
                          clear hR hr1 hr2 hr3 hr4 hr5 hr6 hr7 hr8 hr9 hr10 hr11 hr12
                          go_enter Tryz.func68, Tryz.ntmps68
                          go_wp2_with (first
                              | (go_at_call 106; refine hf1.mono ?_; rintro e w1 ⟨hg1, v1, y1, rfl, rfl, hat1, hy1⟩; clear hf1)
                              | (go_at_call 106; refine (hf2 _ _ hat1 hy1).mono ?_; rintro e w2 ⟨hg2, v2, y2, rfl, rfl, hat2, hy2⟩; clear hf2)
                              | (go_at_call 106; refine (hf3 _ _ hat2 hy2).mono ?_; rintro e w3 ⟨hg3, v3, y3, rfl, rfl, hat3, hy3⟩; clear hf3)
                              | (go_at_call 106; refine (hf4 _ _ hat3 hy3).mono ?_; rintro e w4 ⟨hg4, v4, y4, rfl, rfl, hat4, hy4⟩; clear hf4)
                              | (go_at_call 107; refine (hf5 _ _ hat4 hy4).mono ?_; rintro e w5 ⟨hg5, v5, y5, rfl, hV5, hat5, hy5⟩; clear hf5; obtain ⟨ao5, cap5, rfl⟩ := rowS_shape hV5)
                              | (go_at_call 109; refine (hf6 _ _ hat5 hy5).mono ?_; rintro e w6 ⟨hg6, v6, y6, rfl, hV6, hat6, hy6⟩; clear hf6; obtain ⟨ao6, cap6, rfl⟩ := OwnS.shape hV6)
                              | (go_at_call 111; refine (hf7 _ _ hat6 hy6).mono ?_; rintro e w7 ⟨hg7, v7, y7, rfl, hV7, hat7, hy7⟩; clear hf7; obtain ⟨ao7, cap7, rfl⟩ := OwnS.shape hV7)
                              | (go_at_call 106; refine (hf8 _ _ hat7 hy7).mono ?_; rintro e w8 ⟨hg8, v8, y8, rfl, rfl, hat8, hy8⟩; clear hf8)
                              | (go_at_call 106; refine (hf9 _ _ hat8 hy8).mono ?_; rintro e w9 ⟨hg9, v9, y9, rfl, rfl, hat9, hy9⟩; clear hf9)
                              | (go_at_call 106; refine (hf10 _ _ hat9 hy9).mono ?_; rintro e w10 ⟨hg10, v10, y10, rfl, rfl, hat10, hy10⟩; clear hf10)
                              | (go_at_call 108; refine (hf11 _ _ hat10 hy10).mono ?_; rintro e w11 ⟨hg11, v11, y11, rfl, rfl, hat11, hy11⟩; clear hf11)
                              | (go_at_call 106; refine (hf12 _ _ hat11 hy11).mono ?_; rintro e w12 ⟨hg12, rfl⟩))
                          exact ⟨rfl, hga.trans (((((((((((hg1.trans hg2).trans hg3).trans hg4).trans hg5).trans hg6).trans hg7).trans hg8).trans hg9).trans hg10).trans hg11).trans hg12), rfl⟩
                        | some qq12 =>
                          obtain ⟨a12, r12⟩ := qq12
                          have hl12 : r12.length ≤ r11.length := rdInt_le _ _ hr12
                          cases hr13 : rdLst rdRow r12 with
                          | none =>
                            have hR : rdCmd x.data.toList = none := by simp [rdCmd, hr1, hr2, hr3, hr4, hr5, hr6, hr7, hr8, hr9, hr10, hr11, hr12, hr13]
                            rw [hR]
                            have hf1 := gInt_any h0 (by omega)
                            rw [hr1] at hf1
                            have hf2 : ∀ w1 y1, RdAt p w1 y1 → y1.data.toList = r1 → Calls Tryz.prog 106 #[.pointer (some ⟨p, 0, none⟩)] w1 fun e w' => Rds p w1 (fun _ _ v (n : Int) => v = .int .i64 n) (some (a2, r2)) e w' := fun w1 y1 hat hy => by
                              have hs : y1.size = r1.length := by rw [← hy]; rfl
                              have t := gInt_any hat (by omega)
                              rw [hy, hr2] at t
                              exact t
                            have hf3 : ∀ w1 y1, RdAt p w1 y1 → y1.data.toList = r2 → Calls Tryz.prog 106 #[.pointer (some ⟨p, 0, none⟩)] w1 fun e w' => Rds p w1 (fun _ _ v (n : Int) => v = .int .i64 n) (some (a3, r3)) e w' := fun w1 y1 hat hy => by
                              have hs : y1.size = r2.length := by rw [← hy]; rfl
                              have t := gInt_any hat (by omega)
                              rw [hy, hr3] at t
                              exact t
                            have hf4 : ∀ w1 y1, RdAt p w1 y1 → y1.data.toList = r3 → Calls Tryz.prog 106 #[.pointer (some ⟨p, 0, none⟩)] w1 fun e w' => Rds p w1 (fun _ _ v (n : Int) => v = .int .i64 n) (some (a4, r4)) e w' := fun w1 y1 hat hy => by
                              have hs : y1.size = r3.length := by rw [← hy]; rfl
                              have t := gInt_any hat (by omega)
                              rw [hy, hr4] at t
                              exact t
                            have hf5 : ∀ w1 y1, RdAt p w1 y1 → y1.data.toList = r4 → Calls Tryz.prog 107 #[.pointer (some ⟨p, 0, none⟩), .func (.func 108) #[] #[]] w1 fun e w' => Rds p w1 (fun B w' v (l : List ByteArray) => RowS B w' v l) (some (a5, r5)) e w' := fun w1 y1 hat hy => by
                              have hs : y1.size = r4.length := by rw [← hy]; rfl
                              have t := gTxts_any hat (by omega)
                              rw [hy, hr5] at t
                              exact t
                            have hf6 : ∀ w1 y1, RdAt p w1 y1 → y1.data.toList = r5 → Calls Tryz.prog 109 #[.pointer (some ⟨p, 0, none⟩), .func (.func 110) #[] #[]] w1 fun e w' => Rds p w1 (fun B w' v (l : List Rng) => OwnQ B w' v l) (some (a6, r6)) e w' := fun w1 y1 hat hy => by
                              have hs : y1.size = r5.length := by rw [← hy]; rfl
                              have t := gRngs_any hat (by omega)
                              rw [hy, hr6] at t
                              exact t
                            have hf7 : ∀ w1 y1, RdAt p w1 y1 → y1.data.toList = r6 → Calls Tryz.prog 111 #[.pointer (some ⟨p, 0, none⟩), .func (.func 112) #[] #[]] w1 fun e w' => Rds p w1 (fun B w' v (l : List Wrt) => OwnW B w' v l) (some (a7, r7)) e w' := fun w1 y1 hat hy => by
                              have hs : y1.size = r6.length := by rw [← hy]; rfl
                              have t := gWrts_any hat (by omega)
                              rw [hy, hr7] at t
                              exact t
                            have hf8 : ∀ w1 y1, RdAt p w1 y1 → y1.data.toList = r7 → Calls Tryz.prog 106 #[.pointer (some ⟨p, 0, none⟩)] w1 fun e w' => Rds p w1 (fun _ _ v (n : Int) => v = .int .i64 n) (some (a8, r8)) e w' := fun w1 y1 hat hy => by
                              have hs : y1.size = r7.length := by rw [← hy]; rfl
                              have t := gInt_any hat (by omega)
                              rw [hy, hr8] at t
                              exact t
                            have hf9 : ∀ w1 y1, RdAt p w1 y1 → y1.data.toList = r8 → Calls Tryz.prog 106 #[.pointer (some ⟨p, 0, none⟩)] w1 fun e w' => Rds p w1 (fun _ _ v (n : Int) => v = .int .i64 n) (some (a9, r9)) e w' := fun w1 y1 hat hy => by
                              have hs : y1.size = r8.length := by rw [← hy]; rfl
                              have t := gInt_any hat (by omega)
                              rw [hy, hr9] at t
                              exact t
                            have hf10 : ∀ w1 y1, RdAt p w1 y1 → y1.data.toList = r9 → Calls Tryz.prog 106 #[.pointer (some ⟨p, 0, none⟩)] w1 fun e w' => Rds p w1 (fun _ _ v (n : Int) => v = .int .i64 n) (some (a10, r10)) e w' := fun w1 y1 hat hy => by
                              have hs : y1.size = r9.length := by rw [← hy]; rfl
                              have t := gInt_any hat (by omega)
                              rw [hy, hr10] at t
                              exact t
                            have hf11 : ∀ w1 y1, RdAt p w1 y1 → y1.data.toList = r10 → Calls Tryz.prog 108 #[.pointer (some ⟨p, 0, none⟩)] w1 fun e w' => Rds p w1 (fun _ _ v (s : ByteArray) => v = .string s) (some (a11, r11)) e w' := fun w1 y1 hat hy => by
                              have hs : y1.size = r10.length := by rw [← hy]; rfl
                              have t := gTxt_any hat (by omega)
                              rw [hy, hr11] at t
                              exact t
                            have hf12 : ∀ w1 y1, RdAt p w1 y1 → y1.data.toList = r11 → Calls Tryz.prog 106 #[.pointer (some ⟨p, 0, none⟩)] w1 fun e w' => Rds p w1 (fun _ _ v (n : Int) => v = .int .i64 n) (some (a12, r12)) e w' := fun w1 y1 hat hy => by
                              have hs : y1.size = r11.length := by rw [← hy]; rfl
                              have t := gInt_any hat (by omega)
                              rw [hy, hr12] at t
                              exact t
                            have hf13 : ∀ w1 y1, RdAt p w1 y1 → y1.data.toList = r12 → Calls Tryz.prog 113 #[.pointer (some ⟨p, 0, none⟩), .func (.func 114) #[] #[]] w1 fun e w' => Rds p w1 (fun B w' v (l : List (List Val)) => OwnX B w' v l) none e w' := fun w1 y1 hat hy => by
                              have hs : y1.size = r12.length := by rw [← hy]; rfl
                              have t := gRows_any hat (by omega)
                              rw [hy, hr13] at t
                              exact t
                            clear hR hr1 hr2 hr3 hr4 hr5 hr6 hr7 hr8 hr9 hr10 hr11 hr12 hr13
                            go_enter Tryz.func68, Tryz.ntmps68
                            go_wp2_with (first
                                | (go_at_call 106; refine hf1.mono ?_; rintro e w1 ⟨hg1, v1, y1, rfl, rfl, hat1, hy1⟩; clear hf1)
                                | (go_at_call 106; refine (hf2 _ _ hat1 hy1).mono ?_; rintro e w2 ⟨hg2, v2, y2, rfl, rfl, hat2, hy2⟩; clear hf2)
                                | (go_at_call 106; refine (hf3 _ _ hat2 hy2).mono ?_; rintro e w3 ⟨hg3, v3, y3, rfl, rfl, hat3, hy3⟩; clear hf3)
                                | (go_at_call 106; refine (hf4 _ _ hat3 hy3).mono ?_; rintro e w4 ⟨hg4, v4, y4, rfl, rfl, hat4, hy4⟩; clear hf4)
                                | (go_at_call 107; refine (hf5 _ _ hat4 hy4).mono ?_; rintro e w5 ⟨hg5, v5, y5, rfl, hV5, hat5, hy5⟩; clear hf5; obtain ⟨ao5, cap5, rfl⟩ := rowS_shape hV5)
                                | (go_at_call 109; refine (hf6 _ _ hat5 hy5).mono ?_; rintro e w6 ⟨hg6, v6, y6, rfl, hV6, hat6, hy6⟩; clear hf6; obtain ⟨ao6, cap6, rfl⟩ := OwnS.shape hV6)
                                | (go_at_call 111; refine (hf7 _ _ hat6 hy6).mono ?_; rintro e w7 ⟨hg7, v7, y7, rfl, hV7, hat7, hy7⟩; clear hf7; obtain ⟨ao7, cap7, rfl⟩ := OwnS.shape hV7)
                                | (go_at_call 106; refine (hf8 _ _ hat7 hy7).mono ?_; rintro e w8 ⟨hg8, v8, y8, rfl, rfl, hat8, hy8⟩; clear hf8)
                                | (go_at_call 106; refine (hf9 _ _ hat8 hy8).mono ?_; rintro e w9 ⟨hg9, v9, y9, rfl, rfl, hat9, hy9⟩; clear hf9)
                                | (go_at_call 106; refine (hf10 _ _ hat9 hy9).mono ?_; rintro e w10 ⟨hg10, v10, y10, rfl, rfl, hat10, hy10⟩; clear hf10)
                                | (go_at_call 108; refine (hf11 _ _ hat10 hy10).mono ?_; rintro e w11 ⟨hg11, v11, y11, rfl, rfl, hat11, hy11⟩; clear hf11)
                                | (go_at_call 106; refine (hf12 _ _ hat11 hy11).mono ?_; rintro e w12 ⟨hg12, v12, y12, rfl, rfl, hat12, hy12⟩; clear hf12)
                                | (go_at_call 113; refine (hf13 _ _ hat12 hy12).mono ?_; rintro e w13 ⟨hg13, rfl⟩))
                            exact ⟨rfl, hga.trans ((((((((((((hg1.trans hg2).trans hg3).trans hg4).trans hg5).trans hg6).trans hg7).trans hg8).trans hg9).trans hg10).trans hg11).trans hg12).trans hg13), rfl⟩
                          | some qq13 =>
                            obtain ⟨a13, r13⟩ := qq13
                            have hl13 : r13.length ≤ r12.length := (rdEx_le (rdLst_ex (rdLst_ex rdVal_ex : RdEx rdRow rowB'))) _ _ hr13
                            have hR : rdCmd x.data.toList = some ((⟨a1, a2, a3, a4, a5, a6, a7, a8, a9, a10, a11, a12, a13⟩ : Cmd), r13) := by simp [rdCmd, hr1, hr2, hr3, hr4, hr5, hr6, hr7, hr8, hr9, hr10, hr11, hr12, hr13]
                            rw [hR]
                            have hf1 := gInt_any h0 (by omega)
                            rw [hr1] at hf1
                            have hf2 : ∀ w1 y1, RdAt p w1 y1 → y1.data.toList = r1 → Calls Tryz.prog 106 #[.pointer (some ⟨p, 0, none⟩)] w1 fun e w' => Rds p w1 (fun _ _ v (n : Int) => v = .int .i64 n) (some (a2, r2)) e w' := fun w1 y1 hat hy => by
                              have hs : y1.size = r1.length := by rw [← hy]; rfl
                              have t := gInt_any hat (by omega)
                              rw [hy, hr2] at t
                              exact t
                            have hf3 : ∀ w1 y1, RdAt p w1 y1 → y1.data.toList = r2 → Calls Tryz.prog 106 #[.pointer (some ⟨p, 0, none⟩)] w1 fun e w' => Rds p w1 (fun _ _ v (n : Int) => v = .int .i64 n) (some (a3, r3)) e w' := fun w1 y1 hat hy => by
                              have hs : y1.size = r2.length := by rw [← hy]; rfl
                              have t := gInt_any hat (by omega)
                              rw [hy, hr3] at t
                              exact t
                            have hf4 : ∀ w1 y1, RdAt p w1 y1 → y1.data.toList = r3 → Calls Tryz.prog 106 #[.pointer (some ⟨p, 0, none⟩)] w1 fun e w' => Rds p w1 (fun _ _ v (n : Int) => v = .int .i64 n) (some (a4, r4)) e w' := fun w1 y1 hat hy => by
                              have hs : y1.size = r3.length := by rw [← hy]; rfl
                              have t := gInt_any hat (by omega)
                              rw [hy, hr4] at t
                              exact t
                            have hf5 : ∀ w1 y1, RdAt p w1 y1 → y1.data.toList = r4 → Calls Tryz.prog 107 #[.pointer (some ⟨p, 0, none⟩), .func (.func 108) #[] #[]] w1 fun e w' => Rds p w1 (fun B w' v (l : List ByteArray) => RowS B w' v l) (some (a5, r5)) e w' := fun w1 y1 hat hy => by
                              have hs : y1.size = r4.length := by rw [← hy]; rfl
                              have t := gTxts_any hat (by omega)
                              rw [hy, hr5] at t
                              exact t
                            have hf6 : ∀ w1 y1, RdAt p w1 y1 → y1.data.toList = r5 → Calls Tryz.prog 109 #[.pointer (some ⟨p, 0, none⟩), .func (.func 110) #[] #[]] w1 fun e w' => Rds p w1 (fun B w' v (l : List Rng) => OwnQ B w' v l) (some (a6, r6)) e w' := fun w1 y1 hat hy => by
                              have hs : y1.size = r5.length := by rw [← hy]; rfl
                              have t := gRngs_any hat (by omega)
                              rw [hy, hr6] at t
                              exact t
                            have hf7 : ∀ w1 y1, RdAt p w1 y1 → y1.data.toList = r6 → Calls Tryz.prog 111 #[.pointer (some ⟨p, 0, none⟩), .func (.func 112) #[] #[]] w1 fun e w' => Rds p w1 (fun B w' v (l : List Wrt) => OwnW B w' v l) (some (a7, r7)) e w' := fun w1 y1 hat hy => by
                              have hs : y1.size = r6.length := by rw [← hy]; rfl
                              have t := gWrts_any hat (by omega)
                              rw [hy, hr7] at t
                              exact t
                            have hf8 : ∀ w1 y1, RdAt p w1 y1 → y1.data.toList = r7 → Calls Tryz.prog 106 #[.pointer (some ⟨p, 0, none⟩)] w1 fun e w' => Rds p w1 (fun _ _ v (n : Int) => v = .int .i64 n) (some (a8, r8)) e w' := fun w1 y1 hat hy => by
                              have hs : y1.size = r7.length := by rw [← hy]; rfl
                              have t := gInt_any hat (by omega)
                              rw [hy, hr8] at t
                              exact t
                            have hf9 : ∀ w1 y1, RdAt p w1 y1 → y1.data.toList = r8 → Calls Tryz.prog 106 #[.pointer (some ⟨p, 0, none⟩)] w1 fun e w' => Rds p w1 (fun _ _ v (n : Int) => v = .int .i64 n) (some (a9, r9)) e w' := fun w1 y1 hat hy => by
                              have hs : y1.size = r8.length := by rw [← hy]; rfl
                              have t := gInt_any hat (by omega)
                              rw [hy, hr9] at t
                              exact t
                            have hf10 : ∀ w1 y1, RdAt p w1 y1 → y1.data.toList = r9 → Calls Tryz.prog 106 #[.pointer (some ⟨p, 0, none⟩)] w1 fun e w' => Rds p w1 (fun _ _ v (n : Int) => v = .int .i64 n) (some (a10, r10)) e w' := fun w1 y1 hat hy => by
                              have hs : y1.size = r9.length := by rw [← hy]; rfl
                              have t := gInt_any hat (by omega)
                              rw [hy, hr10] at t
                              exact t
                            have hf11 : ∀ w1 y1, RdAt p w1 y1 → y1.data.toList = r10 → Calls Tryz.prog 108 #[.pointer (some ⟨p, 0, none⟩)] w1 fun e w' => Rds p w1 (fun _ _ v (s : ByteArray) => v = .string s) (some (a11, r11)) e w' := fun w1 y1 hat hy => by
                              have hs : y1.size = r10.length := by rw [← hy]; rfl
                              have t := gTxt_any hat (by omega)
                              rw [hy, hr11] at t
                              exact t
                            have hf12 : ∀ w1 y1, RdAt p w1 y1 → y1.data.toList = r11 → Calls Tryz.prog 106 #[.pointer (some ⟨p, 0, none⟩)] w1 fun e w' => Rds p w1 (fun _ _ v (n : Int) => v = .int .i64 n) (some (a12, r12)) e w' := fun w1 y1 hat hy => by
                              have hs : y1.size = r11.length := by rw [← hy]; rfl
                              have t := gInt_any hat (by omega)
                              rw [hy, hr12] at t
                              exact t
                            have hf13 : ∀ w1 y1, RdAt p w1 y1 → y1.data.toList = r12 → Calls Tryz.prog 113 #[.pointer (some ⟨p, 0, none⟩), .func (.func 114) #[] #[]] w1 fun e w' => Rds p w1 (fun B w' v (l : List (List Val)) => OwnX B w' v l) (some (a13, r13)) e w' := fun w1 y1 hat hy => by
                              have hs : y1.size = r12.length := by rw [← hy]; rfl
                              have t := gRows_any hat (by omega)
                              rw [hy, hr13] at t
                              exact t
                            clear hR hr1 hr2 hr3 hr4 hr5 hr6 hr7 hr8 hr9 hr10 hr11 hr12 hr13
                            go_enter Tryz.func68, Tryz.ntmps68
                            go_wp2_with (first
                                | (go_at_call 106; refine hf1.mono ?_; rintro e w1 ⟨hg1, v1, y1, rfl, rfl, hat1, hy1⟩; clear hf1)
                                | (go_at_call 106; refine (hf2 _ _ hat1 hy1).mono ?_; rintro e w2 ⟨hg2, v2, y2, rfl, rfl, hat2, hy2⟩; clear hf2)
                                | (go_at_call 106; refine (hf3 _ _ hat2 hy2).mono ?_; rintro e w3 ⟨hg3, v3, y3, rfl, rfl, hat3, hy3⟩; clear hf3)
                                | (go_at_call 106; refine (hf4 _ _ hat3 hy3).mono ?_; rintro e w4 ⟨hg4, v4, y4, rfl, rfl, hat4, hy4⟩; clear hf4)
                                | (go_at_call 107; refine (hf5 _ _ hat4 hy4).mono ?_; rintro e w5 ⟨hg5, v5, y5, rfl, hV5, hat5, hy5⟩; clear hf5; obtain ⟨ao5, cap5, rfl⟩ := rowS_shape hV5)
                                | (go_at_call 109; refine (hf6 _ _ hat5 hy5).mono ?_; rintro e w6 ⟨hg6, v6, y6, rfl, hV6, hat6, hy6⟩; clear hf6; obtain ⟨ao6, cap6, rfl⟩ := OwnS.shape hV6)
                                | (go_at_call 111; refine (hf7 _ _ hat6 hy6).mono ?_; rintro e w7 ⟨hg7, v7, y7, rfl, hV7, hat7, hy7⟩; clear hf7; obtain ⟨ao7, cap7, rfl⟩ := OwnS.shape hV7)
                                | (go_at_call 106; refine (hf8 _ _ hat7 hy7).mono ?_; rintro e w8 ⟨hg8, v8, y8, rfl, rfl, hat8, hy8⟩; clear hf8)
                                | (go_at_call 106; refine (hf9 _ _ hat8 hy8).mono ?_; rintro e w9 ⟨hg9, v9, y9, rfl, rfl, hat9, hy9⟩; clear hf9)
                                | (go_at_call 106; refine (hf10 _ _ hat9 hy9).mono ?_; rintro e w10 ⟨hg10, v10, y10, rfl, rfl, hat10, hy10⟩; clear hf10)
                                | (go_at_call 108; refine (hf11 _ _ hat10 hy10).mono ?_; rintro e w11 ⟨hg11, v11, y11, rfl, rfl, hat11, hy11⟩; clear hf11)
                                | (go_at_call 106; refine (hf12 _ _ hat11 hy11).mono ?_; rintro e w12 ⟨hg12, v12, y12, rfl, rfl, hat12, hy12⟩; clear hf12)
                                | (go_at_call 113; refine (hf13 _ _ hat12 hy12).mono ?_; rintro e w13 ⟨hg13, v13, y13, rfl, hV13, hat13, hy13⟩; clear hf13; obtain ⟨ao13, cap13, rfl⟩ := OwnS.shape hV13; have hgA := ((((((((((((hg1.trans hg2).trans hg3).trans hg4).trans hg5).trans hg6).trans hg7).trans hg8).trans hg9).trans hg10).trans hg11).trans hg12).trans hg13); have bz := grown_box hgA hbz (by omega); have z_0 := box_cell bz 0 _ rfl; have f0 := box_open bz 0; have z_1 := box_cell bz 1 _ rfl; have f1 := box_open bz 1; have z_2 := box_cell bz 2 _ rfl; have f2 := box_open bz 2; have z_3 := box_cell bz 3 _ rfl; have f3 := box_open bz 3; have z_4 := box_cell bz 4 _ rfl; have f4 := box_open bz 4; have z_5 := box_cell bz 5 _ rfl; have f5 := box_open bz 5; have z_6 := box_cell bz 6 _ rfl; have f6 := box_open bz 6; have z_7 := box_cell bz 7 _ rfl; have f7 := box_open bz 7; have z_8 := box_cell bz 8 _ rfl; have f8 := box_open bz 8; have z_9 := box_cell bz 9 _ rfl; have f9 := box_open bz 9; have z_10 := box_cell bz 10 _ rfl; have f10 := box_open bz 10; have z_11 := box_cell bz 11 _ rfl; have f11 := box_open bz 11; have z_12 := box_cell bz 12 _ rfl; have f12 := box_open bz 12))
                            have s1 : (w13.setCell ⟨w.heap.size, 0, none⟩ (.int .i64 a1)).heap[w.heap.size]? = some (.cells #[.int .i64 a1, .int .i64 0, .int .i64 0, .int .i64 0, .slice none 0 0, .slice none 0 0, .slice none 0 0, .int .i64 0, .int .i64 0, .int .i64 0, .string ⟨#[]⟩, .int .i64 0, .slice none 0 0] 41 (0, 0)) := (heap_setCell_same _ w.heap.size 0 _ _ _ bz).trans (by simp)
                            have s2 : ((w13.setCell ⟨w.heap.size, 0, none⟩ (.int .i64 a1)).setCell ⟨w.heap.size, 1, none⟩ (.int .i64 a2)).heap[w.heap.size]? = some (.cells #[.int .i64 a1, .int .i64 a2, .int .i64 0, .int .i64 0, .slice none 0 0, .slice none 0 0, .slice none 0 0, .int .i64 0, .int .i64 0, .int .i64 0, .string ⟨#[]⟩, .int .i64 0, .slice none 0 0] 41 (0, 0)) := (heap_setCell_same _ w.heap.size 1 _ _ _ s1).trans (by simp)
                            have s3 : (((w13.setCell ⟨w.heap.size, 0, none⟩ (.int .i64 a1)).setCell ⟨w.heap.size, 1, none⟩ (.int .i64 a2)).setCell ⟨w.heap.size, 2, none⟩ (.int .i64 a3)).heap[w.heap.size]? = some (.cells #[.int .i64 a1, .int .i64 a2, .int .i64 a3, .int .i64 0, .slice none 0 0, .slice none 0 0, .slice none 0 0, .int .i64 0, .int .i64 0, .int .i64 0, .string ⟨#[]⟩, .int .i64 0, .slice none 0 0] 41 (0, 0)) := (heap_setCell_same _ w.heap.size 2 _ _ _ s2).trans (by simp)
                            have s4 : ((((w13.setCell ⟨w.heap.size, 0, none⟩ (.int .i64 a1)).setCell ⟨w.heap.size, 1, none⟩ (.int .i64 a2)).setCell ⟨w.heap.size, 2, none⟩ (.int .i64 a3)).setCell ⟨w.heap.size, 3, none⟩ (.int .i64 a4)).heap[w.heap.size]? = some (.cells #[.int .i64 a1, .int .i64 a2, .int .i64 a3, .int .i64 a4, .slice none 0 0, .slice none 0 0, .slice none 0 0, .int .i64 0, .int .i64 0, .int .i64 0, .string ⟨#[]⟩, .int .i64 0, .slice none 0 0] 41 (0, 0)) := (heap_setCell_same _ w.heap.size 3 _ _ _ s3).trans (by simp)
                            have s5 : (((((w13.setCell ⟨w.heap.size, 0, none⟩ (.int .i64 a1)).setCell ⟨w.heap.size, 1, none⟩ (.int .i64 a2)).setCell ⟨w.heap.size, 2, none⟩ (.int .i64 a3)).setCell ⟨w.heap.size, 3, none⟩ (.int .i64 a4)).setCell ⟨w.heap.size, 4, none⟩ (.slice ao5 a5.length cap5)).heap[w.heap.size]? = some (.cells #[.int .i64 a1, .int .i64 a2, .int .i64 a3, .int .i64 a4, .slice ao5 a5.length cap5, .slice none 0 0, .slice none 0 0, .int .i64 0, .int .i64 0, .int .i64 0, .string ⟨#[]⟩, .int .i64 0, .slice none 0 0] 41 (0, 0)) := (heap_setCell_same _ w.heap.size 4 _ _ _ s4).trans (by simp)
                            have s6 : ((((((w13.setCell ⟨w.heap.size, 0, none⟩ (.int .i64 a1)).setCell ⟨w.heap.size, 1, none⟩ (.int .i64 a2)).setCell ⟨w.heap.size, 2, none⟩ (.int .i64 a3)).setCell ⟨w.heap.size, 3, none⟩ (.int .i64 a4)).setCell ⟨w.heap.size, 4, none⟩ (.slice ao5 a5.length cap5)).setCell ⟨w.heap.size, 5, none⟩ (.slice ao6 a6.length cap6)).heap[w.heap.size]? = some (.cells #[.int .i64 a1, .int .i64 a2, .int .i64 a3, .int .i64 a4, .slice ao5 a5.length cap5, .slice ao6 a6.length cap6, .slice none 0 0, .int .i64 0, .int .i64 0, .int .i64 0, .string ⟨#[]⟩, .int .i64 0, .slice none 0 0] 41 (0, 0)) := (heap_setCell_same _ w.heap.size 5 _ _ _ s5).trans (by simp)
                            have s7 : (((((((w13.setCell ⟨w.heap.size, 0, none⟩ (.int .i64 a1)).setCell ⟨w.heap.size, 1, none⟩ (.int .i64 a2)).setCell ⟨w.heap.size, 2, none⟩ (.int .i64 a3)).setCell ⟨w.heap.size, 3, none⟩ (.int .i64 a4)).setCell ⟨w.heap.size, 4, none⟩ (.slice ao5 a5.length cap5)).setCell ⟨w.heap.size, 5, none⟩ (.slice ao6 a6.length cap6)).setCell ⟨w.heap.size, 6, none⟩ (.slice ao7 a7.length cap7)).heap[w.heap.size]? = some (.cells #[.int .i64 a1, .int .i64 a2, .int .i64 a3, .int .i64 a4, .slice ao5 a5.length cap5, .slice ao6 a6.length cap6, .slice ao7 a7.length cap7, .int .i64 0, .int .i64 0, .int .i64 0, .string ⟨#[]⟩, .int .i64 0, .slice none 0 0] 41 (0, 0)) := (heap_setCell_same _ w.heap.size 6 _ _ _ s6).trans (by simp)
                            have s8 : ((((((((w13.setCell ⟨w.heap.size, 0, none⟩ (.int .i64 a1)).setCell ⟨w.heap.size, 1, none⟩ (.int .i64 a2)).setCell ⟨w.heap.size, 2, none⟩ (.int .i64 a3)).setCell ⟨w.heap.size, 3, none⟩ (.int .i64 a4)).setCell ⟨w.heap.size, 4, none⟩ (.slice ao5 a5.length cap5)).setCell ⟨w.heap.size, 5, none⟩ (.slice ao6 a6.length cap6)).setCell ⟨w.heap.size, 6, none⟩ (.slice ao7 a7.length cap7)).setCell ⟨w.heap.size, 7, none⟩ (.int .i64 a8)).heap[w.heap.size]? = some (.cells #[.int .i64 a1, .int .i64 a2, .int .i64 a3, .int .i64 a4, .slice ao5 a5.length cap5, .slice ao6 a6.length cap6, .slice ao7 a7.length cap7, .int .i64 a8, .int .i64 0, .int .i64 0, .string ⟨#[]⟩, .int .i64 0, .slice none 0 0] 41 (0, 0)) := (heap_setCell_same _ w.heap.size 7 _ _ _ s7).trans (by simp)
                            have s9 : (((((((((w13.setCell ⟨w.heap.size, 0, none⟩ (.int .i64 a1)).setCell ⟨w.heap.size, 1, none⟩ (.int .i64 a2)).setCell ⟨w.heap.size, 2, none⟩ (.int .i64 a3)).setCell ⟨w.heap.size, 3, none⟩ (.int .i64 a4)).setCell ⟨w.heap.size, 4, none⟩ (.slice ao5 a5.length cap5)).setCell ⟨w.heap.size, 5, none⟩ (.slice ao6 a6.length cap6)).setCell ⟨w.heap.size, 6, none⟩ (.slice ao7 a7.length cap7)).setCell ⟨w.heap.size, 7, none⟩ (.int .i64 a8)).setCell ⟨w.heap.size, 8, none⟩ (.int .i64 a9)).heap[w.heap.size]? = some (.cells #[.int .i64 a1, .int .i64 a2, .int .i64 a3, .int .i64 a4, .slice ao5 a5.length cap5, .slice ao6 a6.length cap6, .slice ao7 a7.length cap7, .int .i64 a8, .int .i64 a9, .int .i64 0, .string ⟨#[]⟩, .int .i64 0, .slice none 0 0] 41 (0, 0)) := (heap_setCell_same _ w.heap.size 8 _ _ _ s8).trans (by simp)
                            have s10 : ((((((((((w13.setCell ⟨w.heap.size, 0, none⟩ (.int .i64 a1)).setCell ⟨w.heap.size, 1, none⟩ (.int .i64 a2)).setCell ⟨w.heap.size, 2, none⟩ (.int .i64 a3)).setCell ⟨w.heap.size, 3, none⟩ (.int .i64 a4)).setCell ⟨w.heap.size, 4, none⟩ (.slice ao5 a5.length cap5)).setCell ⟨w.heap.size, 5, none⟩ (.slice ao6 a6.length cap6)).setCell ⟨w.heap.size, 6, none⟩ (.slice ao7 a7.length cap7)).setCell ⟨w.heap.size, 7, none⟩ (.int .i64 a8)).setCell ⟨w.heap.size, 8, none⟩ (.int .i64 a9)).setCell ⟨w.heap.size, 9, none⟩ (.int .i64 a10)).heap[w.heap.size]? = some (.cells #[.int .i64 a1, .int .i64 a2, .int .i64 a3, .int .i64 a4, .slice ao5 a5.length cap5, .slice ao6 a6.length cap6, .slice ao7 a7.length cap7, .int .i64 a8, .int .i64 a9, .int .i64 a10, .string ⟨#[]⟩, .int .i64 0, .slice none 0 0] 41 (0, 0)) := (heap_setCell_same _ w.heap.size 9 _ _ _ s9).trans (by simp)
                            have s11 : (((((((((((w13.setCell ⟨w.heap.size, 0, none⟩ (.int .i64 a1)).setCell ⟨w.heap.size, 1, none⟩ (.int .i64 a2)).setCell ⟨w.heap.size, 2, none⟩ (.int .i64 a3)).setCell ⟨w.heap.size, 3, none⟩ (.int .i64 a4)).setCell ⟨w.heap.size, 4, none⟩ (.slice ao5 a5.length cap5)).setCell ⟨w.heap.size, 5, none⟩ (.slice ao6 a6.length cap6)).setCell ⟨w.heap.size, 6, none⟩ (.slice ao7 a7.length cap7)).setCell ⟨w.heap.size, 7, none⟩ (.int .i64 a8)).setCell ⟨w.heap.size, 8, none⟩ (.int .i64 a9)).setCell ⟨w.heap.size, 9, none⟩ (.int .i64 a10)).setCell ⟨w.heap.size, 10, none⟩ (.string a11)).heap[w.heap.size]? = some (.cells #[.int .i64 a1, .int .i64 a2, .int .i64 a3, .int .i64 a4, .slice ao5 a5.length cap5, .slice ao6 a6.length cap6, .slice ao7 a7.length cap7, .int .i64 a8, .int .i64 a9, .int .i64 a10, .string a11, .int .i64 0, .slice none 0 0] 41 (0, 0)) := (heap_setCell_same _ w.heap.size 10 _ _ _ s10).trans (by simp)
                            have s12 : ((((((((((((w13.setCell ⟨w.heap.size, 0, none⟩ (.int .i64 a1)).setCell ⟨w.heap.size, 1, none⟩ (.int .i64 a2)).setCell ⟨w.heap.size, 2, none⟩ (.int .i64 a3)).setCell ⟨w.heap.size, 3, none⟩ (.int .i64 a4)).setCell ⟨w.heap.size, 4, none⟩ (.slice ao5 a5.length cap5)).setCell ⟨w.heap.size, 5, none⟩ (.slice ao6 a6.length cap6)).setCell ⟨w.heap.size, 6, none⟩ (.slice ao7 a7.length cap7)).setCell ⟨w.heap.size, 7, none⟩ (.int .i64 a8)).setCell ⟨w.heap.size, 8, none⟩ (.int .i64 a9)).setCell ⟨w.heap.size, 9, none⟩ (.int .i64 a10)).setCell ⟨w.heap.size, 10, none⟩ (.string a11)).setCell ⟨w.heap.size, 11, none⟩ (.int .i64 a12)).heap[w.heap.size]? = some (.cells #[.int .i64 a1, .int .i64 a2, .int .i64 a3, .int .i64 a4, .slice ao5 a5.length cap5, .slice ao6 a6.length cap6, .slice ao7 a7.length cap7, .int .i64 a8, .int .i64 a9, .int .i64 a10, .string a11, .int .i64 a12, .slice none 0 0] 41 (0, 0)) := (heap_setCell_same _ w.heap.size 11 _ _ _ s11).trans (by simp)
                            have s13 : (((((((((((((w13.setCell ⟨w.heap.size, 0, none⟩ (.int .i64 a1)).setCell ⟨w.heap.size, 1, none⟩ (.int .i64 a2)).setCell ⟨w.heap.size, 2, none⟩ (.int .i64 a3)).setCell ⟨w.heap.size, 3, none⟩ (.int .i64 a4)).setCell ⟨w.heap.size, 4, none⟩ (.slice ao5 a5.length cap5)).setCell ⟨w.heap.size, 5, none⟩ (.slice ao6 a6.length cap6)).setCell ⟨w.heap.size, 6, none⟩ (.slice ao7 a7.length cap7)).setCell ⟨w.heap.size, 7, none⟩ (.int .i64 a8)).setCell ⟨w.heap.size, 8, none⟩ (.int .i64 a9)).setCell ⟨w.heap.size, 9, none⟩ (.int .i64 a10)).setCell ⟨w.heap.size, 10, none⟩ (.string a11)).setCell ⟨w.heap.size, 11, none⟩ (.int .i64 a12)).setCell ⟨w.heap.size, 12, none⟩ (.slice ao13 a13.length cap13)).heap[w.heap.size]? = some (.cells #[.int .i64 a1, .int .i64 a2, .int .i64 a3, .int .i64 a4, .slice ao5 a5.length cap5, .slice ao6 a6.length cap6, .slice ao7 a7.length cap7, .int .i64 a8, .int .i64 a9, .int .i64 a10, .string a11, .int .i64 a12, .slice ao13 a13.length cap13] 41 (0, 0)) := (heap_setCell_same _ w.heap.size 12 _ _ _ s12).trans (by simp)
                            have gset : w13.grownBy (((((((((((((w13.setCell ⟨w.heap.size, 0, none⟩ (.int .i64 a1)).setCell ⟨w.heap.size, 1, none⟩ (.int .i64 a2)).setCell ⟨w.heap.size, 2, none⟩ (.int .i64 a3)).setCell ⟨w.heap.size, 3, none⟩ (.int .i64 a4)).setCell ⟨w.heap.size, 4, none⟩ (.slice ao5 a5.length cap5)).setCell ⟨w.heap.size, 5, none⟩ (.slice ao6 a6.length cap6)).setCell ⟨w.heap.size, 6, none⟩ (.slice ao7 a7.length cap7)).setCell ⟨w.heap.size, 7, none⟩ (.int .i64 a8)).setCell ⟨w.heap.size, 8, none⟩ (.int .i64 a9)).setCell ⟨w.heap.size, 9, none⟩ (.int .i64 a10)).setCell ⟨w.heap.size, 10, none⟩ (.string a11)).setCell ⟨w.heap.size, 11, none⟩ (.int .i64 a12)).setCell ⟨w.heap.size, 12, none⟩ (.slice ao13 a13.length cap13)) (some w.heap.size) := ((((((((((((grown_set _ w.heap.size 0 _).trans (grown_set _ w.heap.size 1 _)).trans (grown_set _ w.heap.size 2 _)).trans (grown_set _ w.heap.size 3 _)).trans (grown_set _ w.heap.size 4 _)).trans (grown_set _ w.heap.size 5 _)).trans (grown_set _ w.heap.size 6 _)).trans (grown_set _ w.heap.size 7 _)).trans (grown_set _ w.heap.size 8 _)).trans (grown_set _ w.heap.size 9 _)).trans (grown_set _ w.heap.size 10 _)).trans (grown_set _ w.heap.size 11 _)).trans (grown_set _ w.heap.size 12 _)
                            generalize hWZ : (((((((((((((w13.setCell ⟨w.heap.size, 0, none⟩ (.int .i64 a1)).setCell ⟨w.heap.size, 1, none⟩ (.int .i64 a2)).setCell ⟨w.heap.size, 2, none⟩ (.int .i64 a3)).setCell ⟨w.heap.size, 3, none⟩ (.int .i64 a4)).setCell ⟨w.heap.size, 4, none⟩ (.slice ao5 a5.length cap5)).setCell ⟨w.heap.size, 5, none⟩ (.slice ao6 a6.length cap6)).setCell ⟨w.heap.size, 6, none⟩ (.slice ao7 a7.length cap7)).setCell ⟨w.heap.size, 7, none⟩ (.int .i64 a8)).setCell ⟨w.heap.size, 8, none⟩ (.int .i64 a9)).setCell ⟨w.heap.size, 9, none⟩ (.int .i64 a10)).setCell ⟨w.heap.size, 10, none⟩ (.string a11)).setCell ⟨w.heap.size, 11, none⟩ (.int .i64 a12)).setCell ⟨w.heap.size, 12, none⟩ (.slice ao13 a13.length cap13)) = WZ at *
                            have gall : w.grownBy WZ (some p) := grown_new (hga.trans hgA) gset (Nat.le_refl _)
                            have hatF : RdAt p WZ y13 := grown_box gset hat13 (by omega)
                            have q0 := box_cell s13 0 _ rfl
                            have q1 := box_cell s13 1 _ rfl
                            have q2 := box_cell s13 2 _ rfl
                            have q3 := box_cell s13 3 _ rfl
                            have q4 := box_cell s13 4 _ rfl
                            have q5 := box_cell s13 5 _ rfl
                            have q6 := box_cell s13 6 _ rfl
                            have q7 := box_cell s13 7 _ rfl
                            have q8 := box_cell s13 8 _ rfl
                            have q9 := box_cell s13 9 _ rfl
                            have q10 := box_cell s13 10 _ rfl
                            have q11 := box_cell s13 11 _ rfl
                            have q12 := box_cell s13 12 _ rfl
                            have hB5 : w.heap.size + 1 ≤ w4.heap.size := by have := (((hg1.trans hg2).trans hg3).trans hg4).size; omega
                            have hpB5 : p < w4.heap.size := by omega
                            have hbB5 : w.heap.size < w4.heap.size := by omega
                            have hN5 : RowS w.heap.size WZ (.slice ao5 a5.length cap5) a5 := rowS_mono (rowS_hold hV5 ((((((((((HoldX.of_grown hg6 hpB5).trans (HoldX.of_grown hg7 hpB5)).trans (HoldX.of_grown hg8 hpB5)).trans (HoldX.of_grown hg9 hpB5)).trans (HoldX.of_grown hg10 hpB5)).trans (HoldX.of_grown hg11 hpB5)).trans (HoldX.of_grown hg12 hpB5)).trans (HoldX.of_grown hg13 hpB5)).trans (HoldX.of_grown gset hbB5)) : HoldX _ 152 _ _) (by decide)) (by omega)
                            have hB6 : w.heap.size + 1 ≤ w5.heap.size := by have := ((((hg1.trans hg2).trans hg3).trans hg4).trans hg5).size; omega
                            have hpB6 : p < w5.heap.size := by omega
                            have hbB6 : w.heap.size < w5.heap.size := by omega
                            have hN6 : OwnQ w.heap.size WZ (.slice ao6 a6.length cap6) a6 := ownQ_mono (ownQ_hold hV6 (((((((((HoldX.of_grown hg7 hpB6).trans (HoldX.of_grown hg8 hpB6)).trans (HoldX.of_grown hg9 hpB6)).trans (HoldX.of_grown hg10 hpB6)).trans (HoldX.of_grown hg11 hpB6)).trans (HoldX.of_grown hg12 hpB6)).trans (HoldX.of_grown hg13 hpB6)).trans (HoldX.of_grown gset hbB6)) : HoldX _ 152 _ _) (by decide)) (by omega)
                            have hB7 : w.heap.size + 1 ≤ w6.heap.size := by have := (((((hg1.trans hg2).trans hg3).trans hg4).trans hg5).trans hg6).size; omega
                            have hpB7 : p < w6.heap.size := by omega
                            have hbB7 : w.heap.size < w6.heap.size := by omega
                            have hN7 : OwnW w.heap.size WZ (.slice ao7 a7.length cap7) a7 := ownW_mono (ownW_hold hV7 ((((((((HoldX.of_grown hg8 hpB7).trans (HoldX.of_grown hg9 hpB7)).trans (HoldX.of_grown hg10 hpB7)).trans (HoldX.of_grown hg11 hpB7)).trans (HoldX.of_grown hg12 hpB7)).trans (HoldX.of_grown hg13 hpB7)).trans (HoldX.of_grown gset hbB7)) : HoldX _ 152 _ _) (by decide)) (by omega)
                            have hB13 : w.heap.size + 1 ≤ w12.heap.size := by have := (((((((((((hg1.trans hg2).trans hg3).trans hg4).trans hg5).trans hg6).trans hg7).trans hg8).trans hg9).trans hg10).trans hg11).trans hg12).size; omega
                            have hpB13 : p < w12.heap.size := by omega
                            have hbB13 : w.heap.size < w12.heap.size := by omega
                            have hN13 : OwnX w.heap.size WZ (.slice ao13 a13.length cap13) a13 := ownX_mono (ownX_hold hV13 ((HoldX.of_grown gset hbB13) : HoldX _ 152 _ _) (by decide) (by decide)) (by omega)
                            refine bodyPost_ret (v := .agg #[.int .i64 a1, .int .i64 a2, .int .i64 a3, .int .i64 a4, .slice ao5 a5.length cap5, .slice ao6 a6.length cap6, .slice ao7 a7.length cap7, .int .i64 a8, .int .i64 a9, .int .i64 a10, .string a11, .int .i64 a12, .slice ao13 a13.length cap13]) (by simp [results, Tryz.results68, go_sem, q0, q1, q2, q3, q4, q5, q6, q7, q8, q9, q10, q11, q12]) rfl ⟨gall, _, y13, rfl, ⟨⟨ao5, cap5, ao6, cap6, ao7, cap7, ao13, cap13⟩, rfl, ⟨hN5, hN6, hN7, hN13⟩⟩, hatF, hy13⟩
end Go.Proofs.YtclliljkmmpglaaGreat
