/-
  Contracts: which commands may be (13.1): of the program.
-/
import Derived.Test.YtclliljkmmpglaaGreatCMayA
namespace Go.Proofs.YtclliljkmmpglaaGreat
open Go.RowKit Num
open scoped Classical
set_option linter.unusedVariables false
set_option maxRecDepth 100000

theorem idx5_0 (a b c d e : Value) (W : World) : Sem.run Tryz.prog (Instr.index 224 (.agg #[a, b, c, d, e]) (.int .i64 0)) W = .ok a W := by kernel_rfl
theorem idx5_1 (a b c d e : Value) (W : World) : Sem.run Tryz.prog (Instr.index 224 (.agg #[a, b, c, d, e]) (.int .i64 1)) W = .ok b W := by kernel_rfl
theorem idx5_2 (a b c d e : Value) (W : World) : Sem.run Tryz.prog (Instr.index 224 (.agg #[a, b, c, d, e]) (.int .i64 2)) W = .ok c W := by kernel_rfl
theorem idx5_3 (a b c d e : Value) (W : World) : Sem.run Tryz.prog (Instr.index 224 (.agg #[a, b, c, d, e]) (.int .i64 3)) W = .ok d W := by kernel_rfl
theorem idx5_4 (a b c d e : Value) (W : World) : Sem.run Tryz.prog (Instr.index 224 (.agg #[a, b, c, d, e]) (.int .i64 4)) W = .ok e W := by kernel_rfl
set_option maxRecDepth 100000 in
set_option maxHeartbeats 2000000 in
theorem mayNums_any (c : Cmd) (s : Cs) (w : World) :
    Calls Tryz.prog 137 #[.agg #[.int .i64 c.kind, .int .i64 c.client, .int .i64 c.seq, .int .i64 c.snap, .slice s.ko c.keys.length s.kc, .slice s.ro c.rngs.length s.rc, .slice s.wo c.wrts.length s.wc, .int .i64 c.dead, .int .i64 c.aft, .int .i64 c.held, .string c.text, .int .i64 c.code, .slice s.xo c.rows.length s.xc]] w fun e w' => e = .returned (.bool (tru (NumsOk c))) ∧ Below w.heap.size w w' := by
  have hlow : Below w.heap.size w (w.alloc (.cells #[.int .i64 c.kind, .int .i64 c.client, .int .i64 c.seq, .int .i64 c.snap, .slice s.ko c.keys.length s.kc, .slice s.ro c.rngs.length s.rc, .slice s.wo c.wrts.length s.wc, .int .i64 c.dead, .int .i64 c.aft, .int .i64 c.held, .string c.text, .int .i64 c.code, .slice s.xo c.rows.length s.xc] 41)) := (Below.refl _ _).alloc (Nat.le_refl _) _
  have hif := fun n W => within_anyC n 0 1099511627776 W
  have hw1 := fun W => within_anyC c.kind 0 5 W
  have hw2 := fun W => within_anyC c.client 0 100 W
  have hw3 := fun W => within_anyC c.code 0 21 W
  have hbx := heap_new w (.cells #[.int .i64 c.kind, .int .i64 c.client, .int .i64 c.seq, .int .i64 c.snap, .slice s.ko c.keys.length s.kc, .slice s.ro c.rngs.length s.rc, .slice s.wo c.wrts.length s.wc, .int .i64 c.dead, .int .i64 c.aft, .int .i64 c.held, .string c.text, .int .i64 c.code, .slice s.xo c.rows.length s.xc] 41)
  have c0 := box_cell hbx 0 _ rfl
  have c1 := box_cell hbx 1 _ rfl
  have c11 := box_cell hbx 11 _ rfl
  go_enter Tryz.func137, Tryz.ntmps137
  go_wp2
  go_loop [16] (fun i => ∃ k : Nat, k ≤ 5 ∧ i = .int .i64 (k : Int) ∧ Hid ((1 ≤ k → TimeC c.seq) ∧ (2 ≤ k → TimeC c.snap) ∧ (3 ≤ k → TimeC c.dead) ∧ (4 ≤ k → TimeC c.aft) ∧ (5 ≤ k → TimeC c.held))) (fun i => 5 - (intOf i).toNat)
  case atStart => exact ⟨0, by omega, rfl, fun h => by omega, fun h => by omega, fun h => by omega, fun h => by omega, fun h => by omega⟩
  case round =>
    obtain ⟨k, hk, rfl, HK⟩ := hrel
    have hk6 : k = 0 ∨ k = 1 ∨ k = 2 ∨ k = 3 ∨ k = 4 ∨ k = 5 := by omega
    rcases hk6 with rfl | rfl | rfl | rfl | rfl | rfl
    · have hx := hif c.seq
      clear hw1 hw2 hw3 c0 c1 c11 hbx
      by_cases hok : TimeC c.seq
      · have hok2 : 0 ≤ c.seq ∧ c.seq ≤ 1099511627776 := hok
        rw [tru_yes hok2] at hx
        have HOK : Hid (TimeC c.seq) := hok
        clear hok hok2 hif
        have hix := fun W => idx5_0 (.int .i64 c.seq) (.int .i64 c.snap) (.int .i64 c.dead) (.int .i64 c.aft) (.int .i64 c.held) W
        go_wp2_with (first
          | (go_at_call 156; refine (hx _).mono ?_; rintro e wn ⟨rfl, hq⟩; have hq' := hq.symm; clear hq; subst hq'))
        go_round
        case rel => exact ⟨1, by omega, by go_num, fun _ => HOK.out, fun h => by omega, fun h => by omega, fun h => by omega, fun h => by omega⟩
        case measure => simp [intOf]
      · have hok2 : ¬ (0 ≤ c.seq ∧ c.seq ≤ 1099511627776) := hok
        rw [tru_no hok2] at hx
        have HE : Hid (tru (NumsOk c) = false) := tru_no (fun h => hok h.seq)
        clear hok hok2 hif
        have hix := fun W => idx5_0 (.int .i64 c.seq) (.int .i64 c.snap) (.int .i64 c.dead) (.int .i64 c.aft) (.int .i64 c.held) W
        go_wp2_with (first
          | (go_at_call 156; refine (hx _).mono ?_; rintro e wn ⟨rfl, hq⟩; have hq' := hq.symm; clear hq; subst hq'))
        go_ret
        exact ⟨by rw [HE.out]; rfl, hlow⟩
    · have hx := hif c.snap
      clear hw1 hw2 hw3 c0 c1 c11 hbx
      by_cases hok : TimeC c.snap
      · have hok2 : 0 ≤ c.snap ∧ c.snap ≤ 1099511627776 := hok
        rw [tru_yes hok2] at hx
        have HOK : Hid (TimeC c.snap) := hok
        clear hok hok2 hif
        have hix := fun W => idx5_1 (.int .i64 c.seq) (.int .i64 c.snap) (.int .i64 c.dead) (.int .i64 c.aft) (.int .i64 c.held) W
        go_wp2_with (first
          | (go_at_call 156; refine (hx _).mono ?_; rintro e wn ⟨rfl, hq⟩; have hq' := hq.symm; clear hq; subst hq'))
        go_round
        case rel => exact ⟨2, by omega, by go_num, fun _ => HK.out.1 (by omega), fun _ => HOK.out, fun h => by omega, fun h => by omega, fun h => by omega⟩
        case measure => simp [intOf]
      · have hok2 : ¬ (0 ≤ c.snap ∧ c.snap ≤ 1099511627776) := hok
        rw [tru_no hok2] at hx
        have HE : Hid (tru (NumsOk c) = false) := tru_no (fun h => hok h.snap)
        clear hok hok2 hif
        have hix := fun W => idx5_1 (.int .i64 c.seq) (.int .i64 c.snap) (.int .i64 c.dead) (.int .i64 c.aft) (.int .i64 c.held) W
        go_wp2_with (first
          | (go_at_call 156; refine (hx _).mono ?_; rintro e wn ⟨rfl, hq⟩; have hq' := hq.symm; clear hq; subst hq'))
        go_ret
        exact ⟨by rw [HE.out]; rfl, hlow⟩
    · have hx := hif c.dead
      clear hw1 hw2 hw3 c0 c1 c11 hbx
      by_cases hok : TimeC c.dead
      · have hok2 : 0 ≤ c.dead ∧ c.dead ≤ 1099511627776 := hok
        rw [tru_yes hok2] at hx
        have HOK : Hid (TimeC c.dead) := hok
        clear hok hok2 hif
        have hix := fun W => idx5_2 (.int .i64 c.seq) (.int .i64 c.snap) (.int .i64 c.dead) (.int .i64 c.aft) (.int .i64 c.held) W
        go_wp2_with (first
          | (go_at_call 156; refine (hx _).mono ?_; rintro e wn ⟨rfl, hq⟩; have hq' := hq.symm; clear hq; subst hq'))
        go_round
        case rel => exact ⟨3, by omega, by go_num, fun _ => HK.out.1 (by omega), fun _ => HK.out.2.1 (by omega), fun _ => HOK.out, fun h => by omega, fun h => by omega⟩
        case measure => simp [intOf]
      · have hok2 : ¬ (0 ≤ c.dead ∧ c.dead ≤ 1099511627776) := hok
        rw [tru_no hok2] at hx
        have HE : Hid (tru (NumsOk c) = false) := tru_no (fun h => hok h.dead)
        clear hok hok2 hif
        have hix := fun W => idx5_2 (.int .i64 c.seq) (.int .i64 c.snap) (.int .i64 c.dead) (.int .i64 c.aft) (.int .i64 c.held) W
        go_wp2_with (first
          | (go_at_call 156; refine (hx _).mono ?_; rintro e wn ⟨rfl, hq⟩; have hq' := hq.symm; clear hq; subst hq'))
        go_ret
        exact ⟨by rw [HE.out]; rfl, hlow⟩
    · have hx := hif c.aft
      clear hw1 hw2 hw3 c0 c1 c11 hbx
      by_cases hok : TimeC c.aft
      · have hok2 : 0 ≤ c.aft ∧ c.aft ≤ 1099511627776 := hok
        rw [tru_yes hok2] at hx
        have HOK : Hid (TimeC c.aft) := hok
        clear hok hok2 hif
        have hix := fun W => idx5_3 (.int .i64 c.seq) (.int .i64 c.snap) (.int .i64 c.dead) (.int .i64 c.aft) (.int .i64 c.held) W
        go_wp2_with (first
          | (go_at_call 156; refine (hx _).mono ?_; rintro e wn ⟨rfl, hq⟩; have hq' := hq.symm; clear hq; subst hq'))
        go_round
        case rel => exact ⟨4, by omega, by go_num, fun _ => HK.out.1 (by omega), fun _ => HK.out.2.1 (by omega), fun _ => HK.out.2.2.1 (by omega), fun _ => HOK.out, fun h => by omega⟩
        case measure => simp [intOf]
      · have hok2 : ¬ (0 ≤ c.aft ∧ c.aft ≤ 1099511627776) := hok
        rw [tru_no hok2] at hx
        have HE : Hid (tru (NumsOk c) = false) := tru_no (fun h => hok h.aft)
        clear hok hok2 hif
        have hix := fun W => idx5_3 (.int .i64 c.seq) (.int .i64 c.snap) (.int .i64 c.dead) (.int .i64 c.aft) (.int .i64 c.held) W
        go_wp2_with (first
          | (go_at_call 156; refine (hx _).mono ?_; rintro e wn ⟨rfl, hq⟩; have hq' := hq.symm; clear hq; subst hq'))
        go_ret
        exact ⟨by rw [HE.out]; rfl, hlow⟩
    · have hx := hif c.held
      clear hw1 hw2 hw3 c0 c1 c11 hbx
      by_cases hok : TimeC c.held
      · have hok2 : 0 ≤ c.held ∧ c.held ≤ 1099511627776 := hok
        rw [tru_yes hok2] at hx
        have HOK : Hid (TimeC c.held) := hok
        clear hok hok2 hif
        have hix := fun W => idx5_4 (.int .i64 c.seq) (.int .i64 c.snap) (.int .i64 c.dead) (.int .i64 c.aft) (.int .i64 c.held) W
        go_wp2_with (first
          | (go_at_call 156; refine (hx _).mono ?_; rintro e wn ⟨rfl, hq⟩; have hq' := hq.symm; clear hq; subst hq'))
        go_round
        case rel => exact ⟨5, by omega, by go_num, fun _ => HK.out.1 (by omega), fun _ => HK.out.2.1 (by omega), fun _ => HK.out.2.2.1 (by omega), fun _ => HK.out.2.2.2.1 (by omega), fun _ => HOK.out⟩
        case measure => simp [intOf]
      · have hok2 : ¬ (0 ≤ c.held ∧ c.held ≤ 1099511627776) := hok
        rw [tru_no hok2] at hx
        have HE : Hid (tru (NumsOk c) = false) := tru_no (fun h => hok h.held)
        clear hok hok2 hif
        have hix := fun W => idx5_4 (.int .i64 c.seq) (.int .i64 c.snap) (.int .i64 c.dead) (.int .i64 c.aft) (.int .i64 c.held) W
        go_wp2_with (first
          | (go_at_call 156; refine (hx _).mono ?_; rintro e wn ⟨rfl, hq⟩; have hq' := hq.symm; clear hq; subst hq'))
        go_ret
        exact ⟨by rw [HE.out]; rfl, hlow⟩
    · have hall : TimeC c.seq ∧ TimeC c.snap ∧ TimeC c.dead ∧ TimeC c.aft ∧ TimeC c.held := ⟨HK.out.1 (by omega), HK.out.2.1 (by omega), HK.out.2.2.1 (by omega), HK.out.2.2.2.1 (by omega), HK.out.2.2.2.2 (by omega)⟩
      clear HK hif
      by_cases p1 : 0 ≤ c.kind ∧ c.kind ≤ 5
      · rw [tru_yes p1] at hw1
        by_cases p2 : 0 ≤ c.client ∧ c.client ≤ 100
        · rw [tru_yes p2] at hw2
          have he : Hid (tru (NumsOk c) = tru (0 ≤ c.code ∧ c.code ≤ 21)) := tru_iff ⟨fun h => h.code, fun h => ⟨hall.1, hall.2.1, hall.2.2.1, hall.2.2.2.1, hall.2.2.2.2, p1, p2, h⟩⟩
          clear hall p1 p2
          generalize tru (0 ≤ c.code ∧ c.code ≤ 21) = z at *
          go_wp2_with (first
            | (go_at_call 156; refine (hw1 _).mono ?_; rintro e wn ⟨rfl, hq⟩; have hq' := hq.symm; clear hq; subst hq'; clear hw1)
            | (go_at_call 156; refine (hw2 _).mono ?_; rintro e wn ⟨rfl, hq⟩; have hq' := hq.symm; clear hq; subst hq'; clear hw2)
            | (go_at_call 156; refine (hw3 _).mono ?_; rintro e wn ⟨rfl, hq⟩; have hq' := hq.symm; clear hq; subst hq'))
          go_ret
          rw [he.out]
          exact ⟨rfl, hlow⟩
        · rw [tru_no p2] at hw2
          have he : Hid (tru (NumsOk c) = false) := tru_no (fun h => p2 h.client)
          clear hall p1 p2 hw3
          go_wp2_with (first
            | (go_at_call 156; refine (hw1 _).mono ?_; rintro e wn ⟨rfl, hq⟩; have hq' := hq.symm; clear hq; subst hq'; clear hw1)
            | (go_at_call 156; refine (hw2 _).mono ?_; rintro e wn ⟨rfl, hq⟩; have hq' := hq.symm; clear hq; subst hq'))
          go_ret
          rw [he.out]
          exact ⟨rfl, hlow⟩
      · rw [tru_no p1] at hw1
        have he : Hid (tru (NumsOk c) = false) := tru_no (fun h => p1 h.kind)
        clear hall p1 hw2 hw3
        go_wp2_with (first
          | (go_at_call 156; refine (hw1 _).mono ?_; rintro e wn ⟨rfl, hq⟩; have hq' := hq.symm; clear hq; subst hq'))
        go_ret
        rw [he.out]
        exact ⟨rfl, hlow⟩
set_option maxRecDepth 100000 in
set_option maxHeartbeats 2000000 in
/-- Which commands may be. -/
theorem may_cmd (c : Cmd) (s : Cs) (w : World) (hl : LiesC w w.heap.size s c) :
    Calls Tryz.prog 115 #[.agg #[.int .i64 c.kind, .int .i64 c.client, .int .i64 c.seq, .int .i64 c.snap, .slice s.ko c.keys.length s.kc, .slice s.ro c.rngs.length s.rc, .slice s.wo c.wrts.length s.wc, .int .i64 c.dead, .int .i64 c.aft, .int .i64 c.held, .string c.text, .int .i64 c.code, .slice s.xo c.rows.length s.xc]] w fun e w' => e = .returned (.bool (tru (CmdOk c))) ∧ Below w.heap.size w w' := by
  have hbx := heap_new w (.cells #[.int .i64 c.kind, .int .i64 c.client, .int .i64 c.seq, .int .i64 c.snap, .slice s.ko c.keys.length s.kc, .slice s.ro c.rngs.length s.rc, .slice s.wo c.wrts.length s.wc, .int .i64 c.dead, .int .i64 c.aft, .int .i64 c.held, .string c.text, .int .i64 c.code, .slice s.xo c.rows.length s.xc] 41)
  have hla := liesC_alloc hl (.cells #[.int .i64 c.kind, .int .i64 c.client, .int .i64 c.seq, .int .i64 c.snap, .slice s.ko c.keys.length s.kc, .slice s.ro c.rngs.length s.rc, .slice s.wo c.wrts.length s.wc, .int .i64 c.dead, .int .i64 c.aft, .int .i64 c.held, .string c.text, .int .i64 c.code, .slice s.xo c.rows.length s.xc] 41)
  have hn := fun w => mayNums_any c s w
  have hk := fun w h => mayKeys_any s.ko s.kc c.keys w h
  have hr := fun w h => mayRanges_any s.ro s.rc c.rngs w h
  have hw := fun w h => mayWrites_any s.wo s.wc c.wrts w h
  have hx := fun w h => mayRows_any s.xo s.xc c.rows w h
  by_cases p0 : NumsOk c
  · rw [tru_yes p0] at hn
    by_cases p1 : (c.text.size : Int) ≤ 1000
    · by_cases p2 : KeysOk' c.keys
      · rw [tru_yes p2] at hk
        by_cases p3 : RngsOk c.rngs
        · rw [tru_yes p3] at hr
          by_cases p4 : WrtsOk c.wrts
          · rw [tru_yes p4] at hw
            by_cases p5 : RowsOk c.rows
            · rw [tru_yes p5] at hx
              rw [tru_yes (show CmdOk c from ⟨p0, p1, p2, p3, p4, p5⟩)]
              clear p0 p2 p3 p4 p5
              go_enter Tryz.func115, Tryz.ntmps115
              go_wp2_with (first
      | (go_at_call 137; refine (hn _).mono ?_; rintro e w1 ⟨rfl, hb1⟩; have b1 := below_box hb1 hbx; have hl1 := liesC_next hla hb1; have hB1 := below_box0 hb1; have b1c10 := box_cell b1 10 _ rfl; have b1c4 := box_cell b1 4 _ rfl)
      | (go_at_call 138; refine (hk _ hl1.keys).mono ?_; rintro e wq ⟨rfl, hq⟩; have hq' := hq.symm; clear hq; subst hq'; have b1c5 := box_cell b1 5 _ rfl)
      | (go_at_call 139; refine (hr _ hl1.rngs).mono ?_; rintro e w3 ⟨rfl, hb3⟩; have b3 := below_box hb3 b1; have hl3 := liesC_next hl1 hb3; have hB3 := below_next hB1 (Nat.le_refl _) hb3; have b3c6 := box_cell b3 6 _ rfl)
      | (go_at_call 140; refine (hw _ hl3.wrts).mono ?_; rintro e w4 ⟨rfl, hb4⟩; have b4 := below_box hb4 b3; have hl4 := liesC_next hl3 hb4; have hB4 := below_next hB3 (Nat.le_refl _) hb4; have b4c12 := box_cell b4 12 _ rfl)
      | (go_at_call 141; refine (hx _ hl4.rows).mono ?_; rintro e w5 ⟨rfl, hb5⟩; have hB5 := below_next hB4 (Nat.le_refl _) hb5))
              go_ret
              exact ⟨rfl, hB5⟩
            · rw [tru_no p5] at hx
              rw [tru_no (show ¬ CmdOk c from fun h => p5 h.rows)]
              clear p0 p2 p3 p4 p5
              go_enter Tryz.func115, Tryz.ntmps115
              go_wp2_with (first
      | (go_at_call 137; refine (hn _).mono ?_; rintro e w1 ⟨rfl, hb1⟩; have b1 := below_box hb1 hbx; have hl1 := liesC_next hla hb1; have hB1 := below_box0 hb1; have b1c10 := box_cell b1 10 _ rfl; have b1c4 := box_cell b1 4 _ rfl)
      | (go_at_call 138; refine (hk _ hl1.keys).mono ?_; rintro e wq ⟨rfl, hq⟩; have hq' := hq.symm; clear hq; subst hq'; have b1c5 := box_cell b1 5 _ rfl)
      | (go_at_call 139; refine (hr _ hl1.rngs).mono ?_; rintro e w3 ⟨rfl, hb3⟩; have b3 := below_box hb3 b1; have hl3 := liesC_next hl1 hb3; have hB3 := below_next hB1 (Nat.le_refl _) hb3; have b3c6 := box_cell b3 6 _ rfl)
      | (go_at_call 140; refine (hw _ hl3.wrts).mono ?_; rintro e w4 ⟨rfl, hb4⟩; have b4 := below_box hb4 b3; have hl4 := liesC_next hl3 hb4; have hB4 := below_next hB3 (Nat.le_refl _) hb4; have b4c12 := box_cell b4 12 _ rfl)
      | (go_at_call 141; refine (hx _ hl4.rows).mono ?_; rintro e w5 ⟨rfl, hb5⟩; have hB5 := below_next hB4 (Nat.le_refl _) hb5))
              go_ret
              exact ⟨rfl, hB5⟩
          · rw [tru_no p4] at hw
            rw [tru_no (show ¬ CmdOk c from fun h => p4 h.wrts)]
            clear p0 p2 p3 p4
            clear hx
            go_enter Tryz.func115, Tryz.ntmps115
            go_wp2_with (first
      | (go_at_call 137; refine (hn _).mono ?_; rintro e w1 ⟨rfl, hb1⟩; have b1 := below_box hb1 hbx; have hl1 := liesC_next hla hb1; have hB1 := below_box0 hb1; have b1c10 := box_cell b1 10 _ rfl; have b1c4 := box_cell b1 4 _ rfl)
      | (go_at_call 138; refine (hk _ hl1.keys).mono ?_; rintro e wq ⟨rfl, hq⟩; have hq' := hq.symm; clear hq; subst hq'; have b1c5 := box_cell b1 5 _ rfl)
      | (go_at_call 139; refine (hr _ hl1.rngs).mono ?_; rintro e w3 ⟨rfl, hb3⟩; have b3 := below_box hb3 b1; have hl3 := liesC_next hl1 hb3; have hB3 := below_next hB1 (Nat.le_refl _) hb3; have b3c6 := box_cell b3 6 _ rfl)
      | (go_at_call 140; refine (hw _ hl3.wrts).mono ?_; rintro e w4 ⟨rfl, hb4⟩; have b4 := below_box hb4 b3; have hl4 := liesC_next hl3 hb4; have hB4 := below_next hB3 (Nat.le_refl _) hb4; have b4c12 := box_cell b4 12 _ rfl))
            go_ret
            exact ⟨rfl, hB4⟩
        · rw [tru_no p3] at hr
          rw [tru_no (show ¬ CmdOk c from fun h => p3 h.rngs)]
          clear p0 p2 p3
          clear hw hx
          go_enter Tryz.func115, Tryz.ntmps115
          go_wp2_with (first
      | (go_at_call 137; refine (hn _).mono ?_; rintro e w1 ⟨rfl, hb1⟩; have b1 := below_box hb1 hbx; have hl1 := liesC_next hla hb1; have hB1 := below_box0 hb1; have b1c10 := box_cell b1 10 _ rfl; have b1c4 := box_cell b1 4 _ rfl)
      | (go_at_call 138; refine (hk _ hl1.keys).mono ?_; rintro e wq ⟨rfl, hq⟩; have hq' := hq.symm; clear hq; subst hq'; have b1c5 := box_cell b1 5 _ rfl)
      | (go_at_call 139; refine (hr _ hl1.rngs).mono ?_; rintro e w3 ⟨rfl, hb3⟩; have b3 := below_box hb3 b1; have hl3 := liesC_next hl1 hb3; have hB3 := below_next hB1 (Nat.le_refl _) hb3; have b3c6 := box_cell b3 6 _ rfl))
          go_ret
          exact ⟨rfl, hB3⟩
      · rw [tru_no p2] at hk
        rw [tru_no (show ¬ CmdOk c from fun h => p2 h.keys)]
        clear p0 p2
        clear hr hw hx
        go_enter Tryz.func115, Tryz.ntmps115
        go_wp2_with (first
      | (go_at_call 137; refine (hn _).mono ?_; rintro e w1 ⟨rfl, hb1⟩; have b1 := below_box hb1 hbx; have hl1 := liesC_next hla hb1; have hB1 := below_box0 hb1; have b1c10 := box_cell b1 10 _ rfl; have b1c4 := box_cell b1 4 _ rfl)
      | (go_at_call 138; refine (hk _ hl1.keys).mono ?_; rintro e wq ⟨rfl, hq⟩; have hq' := hq.symm; clear hq; subst hq'; have b1c5 := box_cell b1 5 _ rfl))
        go_ret
        exact ⟨rfl, hB1⟩
    · rw [tru_no (show ¬ CmdOk c from fun h => p1 h.text)]
      clear p0
      clear hk hr hw hx
      go_enter Tryz.func115, Tryz.ntmps115
      go_wp2_with (first
      | (go_at_call 137; refine (hn _).mono ?_; rintro e w1 ⟨rfl, hb1⟩; have b1 := below_box hb1 hbx; have hl1 := liesC_next hla hb1; have hB1 := below_box0 hb1; have b1c10 := box_cell b1 10 _ rfl; have b1c4 := box_cell b1 4 _ rfl))
      go_ret
      exact ⟨rfl, hB1⟩
  · rw [tru_no p0] at hn
    rw [tru_no (show ¬ CmdOk c from fun h => p0 h.nums)]
    clear p0
    clear hk hr hw hx
    go_enter Tryz.func115, Tryz.ntmps115
    go_wp2_with (first
      | (go_at_call 137; refine (hn _).mono ?_; rintro e w1 ⟨rfl, hb1⟩; have b1 := below_box hb1 hbx; have hl1 := liesC_next hla hb1; have hB1 := below_box0 hb1; have b1c10 := box_cell b1 10 _ rfl; have b1c4 := box_cell b1 4 _ rfl))
    go_ret
    exact ⟨rfl, hB1⟩
end Go.Proofs.YtclliljkmmpglaaGreat
