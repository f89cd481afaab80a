/-
  Joined:
  Contracts: an entry is done (14.2): with no client's last one.
  Contracts: an entry is done (14.2): with a client's last one, and no writes.
-/
import Derived.Test.YtclliljkmmpglaaGreatApL
import Derived.Deep.RegionLaw
namespace Go.Proofs.YtclliljkmmpglaaGreat
open Go.RowKit Go.Maps Num
open scoped Classical
set_option linter.unusedVariables false
set_option maxRecDepth 100000
set_option maxRecDepth 100000 in
set_option maxHeartbeats 4000000 in
theorem do_2 (B g gs cap : Nat) (m : Mac) (ao : Option Addr) (lv : Value) (t : Int) (x : ByteArray) (c : Cmd) (form : Int) (hG : GetIs x c form) (P2 : Int) (hn : m.dones.length ≤ 4000) (ht : m.time ≤ t ∧ t < 1099511627776) (hP : verd m t c form = (2, P2))
    (hget : ∀ w, Calls Tryz.prog 35 #[.string x] w fun e w' => ∃ t : Cs, e = .returned (.tuple #[cmV t c, .int .i64 form]) ∧ OwnC w.heap.size w' t c ∧ Below w.heap.size w w') (w : World) (h : HoldM B w g m gs ao cap lv) :
    Calls Tryz.prog 15 #[.pointer (some ⟨g, 0, none⟩), .agg #[.int .i64 t, .string x]] w fun e w' => DoEnds B g gs m ⟨m.room, t, m.st, m.dones ++ [⟨c.client, c.seq, t, P2⟩], m.last, m.lim⟩ ao cap ⟨c.client, c.seq, t, P2⟩ w e w' := by
  have hok := getIs_ok hG
  have hb0 : Below w.heap.size w (doW0 w t x) := ((Below.refl _ w).alloc (Nat.le_refl _) _).alloc (by simp) _
  have e1 : (doW0 w t x).cell? ⟨w.heap.size, 1, none⟩ = some (.string x) := box_cell (alloc_box _ (heap_new w (enBox t x))) 1 _ rfl
  have hgw : w.heap.size ≠ g := by have := h.lt; omega
  have hB := Nat.le_trans h.lt.1 (Nat.le_of_lt h.lt.2)
  have hnew := fun b hb => own_old h (b := b) hb
  have HJ : Hid (∀ w1 (s : Cs), Below (doW0 w t x).heap.size (doW0 w t x) w1 → OwnC (doW0 w t x).heap.size w1 s c → ∀ n, (w1.alloc (cmCells s c)).heap.size = n → ∀ X, (∃ ty, X = (chkW (w1.alloc (cmCells s c)) g t s c form).alloc (.cells (chkV (w1.alloc (cmCells s c)).heap.size ((w1.alloc (cmCells s c)).heap.size + 1) ((w1.alloc (cmCells s c)).heap.size + 2) ((w1.alloc (cmCells s c)).heap.size + 3)) ty (0, 0))) → Calls Tryz.prog 36 #[.slice (some ⟨n + 4, 0, none⟩) 9 9] X fun e w' => e = .returned (.agg #[.int .i64 2, .int .i64 P2]) ∧ Below (w1.alloc (cmCells s c)).heap.size (w1.alloc (cmCells s c)) w') := by
    intro w1 s hb1 hO n hn X hX
    have := jud_n B g gs cap m ao lv t s c form hok (w1.alloc (cmCells s c)) ((h.below (below_next hb0 (Nat.le_refl _) hb1)).below ((Below.refl _ w1).alloc (Nat.le_refl _) _)) (liesC_next hO.lies ((Below.refl _ w1).alloc (Nat.le_refl _) _)) n hn X hX
    rw [hP] at this
    exact this
  have hpub : ∀ V, Below w.heap.size w V → HoldM B V g m gs ao cap lv := fun V hV => h.below hV
  clear h hP hG hok
  obtain ⟨L, HL⟩ : ∃ L, Hid (m.dones.length = L) := ⟨_, rfl⟩
  rw [HL.out] at hnew
  obtain ⟨rb, HRB⟩ : ∃ rb, Hid ((Value.slice ao L cap).ownBlock = rb) := ⟨_, rfl⟩
  rw [HRB.out] at hnew
  go_enter Tryz.func15, Tryz.ntmps15
  go_wp2_with (first
    | (go_at_call 35; refine (hget _).mono ?_; rintro e w1 ⟨s, rfl, hO, hb1⟩; have q0 : (w1.alloc (cmCells s c)).cell? ⟨w.heap.size, 0, none⟩ = some (.int .i64 t) := box_cell (alloc_box _ (below_box hb1 (alloc_box _ (heap_new w (enBox t x))))) 0 _ rfl; obtain ⟨n1, hn1⟩ : ∃ n, Hid ((w1.alloc (cmCells s c)).heap.size = n) := ⟨_, rfl⟩)
    | (go_at_call 37; refine (checks_n g t s c form _ n1 hn1.out).mono ?_; rintro e w2 ⟨rfl, hw2⟩; have hjd := HJ.out w1 s hb1 hO n1 hn1.out w2 hw2; clear hw2 HJ hn1 q0)
    | (go_at_call 36; refine hjd.mono ?_; rintro e w3 ⟨rfl, hb3⟩; clear hjd; obtain ⟨y0, y1, y2, y3⟩ := do_w3 2 P2 hb1 hb3; have hbx := do_bx (p := (2, P2)) (d := ⟨c.client, c.seq, t, P2⟩) hb1 hb3; obtain ⟨hbw, hs1, hs3⟩ := do_below (p := (2, P2)) (d := ⟨c.client, c.seq, t, P2⟩) hb1 hb3; obtain ⟨⟨v0, v1⟩, ⟨d0, d1, d2, d3⟩, ⟨r0, r1, r2, r3⟩, ⟨f0, f1, f2, f3⟩, n0, _, _, _⟩ := bx_cells hbx; have HBX : Hid _ := hbx; have HBW : Hid _ := hbw; have HB1 : Hid _ := hb1; have HB3 : Hid _ := hb3; clear hbx hbw hb1 hb3; have hM4 := hpub _ HBW.out; have m1 := (mac_cells hM4).2.1; have mf1 := box_open hM4.box 1))
  obtain ⟨hM5, hT5⟩ := hold_time hM4 t ht rb
  have hbx5 := HBX.out.turn hT5 (hnew _ (by omega)) (hnew _ (by omega))
  have hO5 := ownW_A (do_wrts 2 P2 ⟨c.client, c.seq, t, P2⟩ hO HB3.out) hT5
  have HTW : Hid (TurnA B rb w _) := (TurnA.of_below HBW.out hB).trans hT5
  have HVS : Hid (w3.heap.size + 2 ≤ (((w3.alloc (.cells #[.int .i64 2, .int .i64 P2] 96)).alloc (dnBox ⟨c.client, c.seq, t, P2⟩)).setCell ⟨g, 1, none⟩ (.int .i64 t)).heap.size) := by simp [Hid]
  clear y0 y1 y2 y3 v0 v1 d0 d1 d2 d3 r0 r1 r2 r3 f0 f1 f2 f3 n0 m1 mf1 hT5 hM4 HBX HBW
  obtain ⟨V, hV⟩ : ∃ V, ((w3.alloc (.cells #[.int .i64 2, .int .i64 P2] 96)).alloc (dnBox ⟨c.client, c.seq, t, P2⟩)).setCell ⟨g, 1, none⟩ (.int .i64 t) = V := ⟨_, rfl⟩
  rw [hV]
  rw [hV] at hM5 hbx5 HTW HVS hO5
  clear hV
  obtain ⟨g2, C2, w5, hrun, c3, cf3, hM6, hT6, hnear⟩ := hold_appN hM5 ⟨c.client, c.seq, t, P2⟩ hn V.heap.size L rfl HL.out rb HRB.out
  have k3 := (mac_cells hM5).2.2.2.1
  have k3A := box_cell (alloc_box (dnBox ⟨c.client, c.seq, t, P2⟩) hM5.box) 3 _ rfl
  simp only [HL.out] at k3 k3A
  obtain ⟨_, ⟨d50, d51, d52, d53⟩, _⟩ := bx_cells hbx5
  have hdA := alloc_box (dnBox ⟨c.client, c.seq, t, P2⟩) hbx5.bd
  have dA0 := box_cell hdA 0 _ rfl
  have dA1 := box_cell hdA 1 _ rfl
  have dA2 := box_cell hdA 2 _ rfl
  have dA3 := box_cell hdA 3 _ rfl
  have hbx6 := hbx5.turn hT6 (hnew _ (by omega)) (hnew _ (by omega))
  have HO6 : Hid _ := ownW_A hO5 hT6
  have HBX6 : Hid _ := hbx6
  have HM6 : Hid _ := hM6
  have HT6 : Hid _ := HTW.out.trans hT6
  have HNE : Hid (some (w.heap.size + 1) ≠ (Value.slice (some ⟨g2, 0, none⟩) (m.dones ++ [(⟨c.client, c.seq, t, P2⟩ : Dn)]).length C2).ownBlock) := by
    intro e
    have e2 : w.heap.size + 1 = g2 := by simpa [Value.ownBlock] using e
    rcases hnear with h9 | h9
    · exact hnew (w.heap.size + 1) (by omega) (by rw [h9, e2])
    · have := HVS.out
      omega
  have HNR : Hid (∀ b, some b = (Value.slice (some ⟨g2, 0, none⟩) (m.dones ++ [(⟨c.client, c.seq, t, P2⟩ : Dn)]).length C2).ownBlock → some b = rb ∨ w.heap.size ≤ b) := by
    intro b e
    have e2 : b = g2 := by simpa [Value.ownBlock] using e
    rcases hnear with h9 | h9
    · exact .inl (by rw [e2, h9])
    · have := HVS.out
      exact .inr (by omega)
  obtain ⟨⟨v60, v61⟩, ⟨d60, d61, d62, d63⟩, ⟨r60, r61, r62, r63⟩, ⟨f60, f61, f62, f63⟩, n60, c61, c62, c66⟩ := bx_cells hbx6
  clear hM5 hM6 hT6 hbx5 hbx6 hnear hdA HTW hO5 hO HB1 HB3
  go_region_law (refine step_app_run rfl (.tmp 47) (.tmp 49) 45 rfl (.slice ao L cap) (.slice (some ⟨V.heap.size, 0, none⟩) 1 1) (by simp [Act.eval]) (by simp [Act.eval]) hrun ?_)
  all_goals clear k3 k3A d50 d51 d52 d53 dA0 dA1 dA2 dA3 c3 cf3 hrun
  all_goals go_wp2
  all_goals
    obtain ⟨hR, hgR⟩ := res4 (HBX6.out).br ⟨c.client, c.seq, t, P2⟩
    have z0 := box_cell hR 0 _ rfl
    have z1 := box_cell hR 1 _ rfl
    have z2 := box_cell hR 2 _ rfl
    have z3 := box_cell hR 3 _ rfl
    exact bodyPost_ret (v := dnV ⟨c.client, c.seq, t, P2⟩) (by simp [results, Tryz.results15, go_sem, z0, z1, z2, z3]) rfl ⟨rfl, ⟨some ⟨g2, 0, none⟩, C2, lv, (HM6.out).res hgR (HBX6.out).br HNE.out, by rw [HL.out, HRB.out]; exact HNR.out⟩, by rw [HL.out, HRB.out]; exact (HT6.out).res hgR (by omega) hB⟩
end Go.Proofs.YtclliljkmmpglaaGreat
namespace Go.Proofs.YtclliljkmmpglaaGreat
open Go.RowKit Go.Maps Num
open scoped Classical
set_option linter.unusedVariables false
set_option maxRecDepth 100000
set_option maxRecDepth 100000 in
set_option maxHeartbeats 4000000 in
theorem do_3 (B g gs cap : Nat) (m : Mac) (ao : Option Addr) (lv : Value) (t : Int) (x : ByteArray) (c : Cmd) (form : Int) (hG : GetIs x c form) (P2 : Int) (hP2 : P2 ≠ 0) (hn : m.dones.length ≤ 4000) (hlim : m.lim ≤ 100000) (ht : m.time ≤ t ∧ t < 1099511627776) (hP : verd m t c form = (3, P2))
    (hget : ∀ w, Calls Tryz.prog 35 #[.string x] w fun e w' => ∃ t : Cs, e = .returned (.tuple #[cmV t c, .int .i64 form]) ∧ OwnC w.heap.size w' t c ∧ Below w.heap.size w w') (w : World) (h : HoldM B w g m gs ao cap lv) :
    Calls Tryz.prog 15 #[.pointer (some ⟨g, 0, none⟩), .agg #[.int .i64 t, .string x]] w fun e w' => DoEnds B g gs m ⟨m.room, t, m.st, m.dones ++ [⟨c.client, c.seq, t, P2⟩], keepL m.last c.client (c.seq, P2), m.lim + 1⟩ ao cap ⟨c.client, c.seq, t, P2⟩ w e w' := by
  have hok := getIs_ok hG
  have hb0 : Below w.heap.size w (doW0 w t x) := ((Below.refl _ w).alloc (Nat.le_refl _) _).alloc (by simp) _
  have e1 : (doW0 w t x).cell? ⟨w.heap.size, 1, none⟩ = some (.string x) := box_cell (alloc_box _ (heap_new w (enBox t x))) 1 _ rfl
  have hgw : w.heap.size ≠ g := by have := h.lt; omega
  have hB := Nat.le_trans h.lt.1 (Nat.le_of_lt h.lt.2)
  have hnew := fun b hb => own_old h (b := b) hb
  have HJ : Hid (∀ w1 (s : Cs), Below (doW0 w t x).heap.size (doW0 w t x) w1 → OwnC (doW0 w t x).heap.size w1 s c → ∀ n, (w1.alloc (cmCells s c)).heap.size = n → ∀ X, (∃ ty, X = (chkW (w1.alloc (cmCells s c)) g t s c form).alloc (.cells (chkV (w1.alloc (cmCells s c)).heap.size ((w1.alloc (cmCells s c)).heap.size + 1) ((w1.alloc (cmCells s c)).heap.size + 2) ((w1.alloc (cmCells s c)).heap.size + 3)) ty (0, 0))) → Calls Tryz.prog 36 #[.slice (some ⟨n + 4, 0, none⟩) 9 9] X fun e w' => e = .returned (.agg #[.int .i64 3, .int .i64 P2]) ∧ Below (w1.alloc (cmCells s c)).heap.size (w1.alloc (cmCells s c)) w') := by
    intro w1 s hb1 hO n hn X hX
    have := jud_n B g gs cap m ao lv t s c form hok (w1.alloc (cmCells s c)) ((h.below (below_next hb0 (Nat.le_refl _) hb1)).below ((Below.refl _ w1).alloc (Nat.le_refl _) _)) (liesC_next hO.lies ((Below.refl _ w1).alloc (Nat.le_refl _) _)) n hn X hX
    rw [hP] at this
    exact this
  have hpub : ∀ V, Below w.heap.size w V → HoldM B V g m gs ao cap lv := fun V hV => h.below hV
  have hcl := hok.nums.client
  obtain ⟨w1', w2'⟩ := wrts_bound hok.wrts
  have hq0 : (P2 == 0) = false := by simp [hP2]
  clear h hP hG hok
  obtain ⟨L, HL⟩ : ∃ L, Hid (m.dones.length = L) := ⟨_, rfl⟩
  rw [HL.out] at hnew
  obtain ⟨rb, HRB⟩ : ∃ rb, Hid ((Value.slice ao L cap).ownBlock = rb) := ⟨_, rfl⟩
  rw [HRB.out] at hnew
  go_enter Tryz.func15, Tryz.ntmps15
  go_wp2_with (first
    | (go_at_call 35; refine (hget _).mono ?_; rintro e w1 ⟨s, rfl, hO, hb1⟩; have q0 : (w1.alloc (cmCells s c)).cell? ⟨w.heap.size, 0, none⟩ = some (.int .i64 t) := box_cell (alloc_box _ (below_box hb1 (alloc_box _ (heap_new w (enBox t x))))) 0 _ rfl; obtain ⟨n1, hn1⟩ : ∃ n, Hid ((w1.alloc (cmCells s c)).heap.size = n) := ⟨_, rfl⟩)
    | (go_at_call 37; refine (checks_n g t s c form _ n1 hn1.out).mono ?_; rintro e w2 ⟨rfl, hw2⟩; have hjd := HJ.out w1 s hb1 hO n1 hn1.out w2 hw2; clear hw2 HJ hn1 q0)
    | (go_at_call 36; refine hjd.mono ?_; rintro e w3 ⟨rfl, hb3⟩; clear hjd; obtain ⟨y0, y1, y2, y3⟩ := do_w3 3 P2 hb1 hb3; have hbx := do_bx (p := (3, P2)) (d := ⟨c.client, c.seq, t, P2⟩) hb1 hb3; obtain ⟨hbw, hs1, hs3⟩ := do_below (p := (3, P2)) (d := ⟨c.client, c.seq, t, P2⟩) hb1 hb3; obtain ⟨⟨v0, v1⟩, ⟨d0, d1, d2, d3⟩, ⟨r0, r1, r2, r3⟩, ⟨f0, f1, f2, f3⟩, n0, _, _, _⟩ := bx_cells hbx; have HBX : Hid _ := hbx; have HBW : Hid _ := hbw; have HB1 : Hid _ := hb1; have HB3 : Hid _ := hb3; clear hbx hbw hb1 hb3; have hM4 := hpub _ HBW.out; have m1 := (mac_cells hM4).2.1; have mf1 := box_open hM4.box 1))
  obtain ⟨hM5, hT5⟩ := hold_time hM4 t ht rb
  have hbx5 := HBX.out.turn hT5 (hnew _ (by omega)) (hnew _ (by omega))
  have hO5 := ownW_A (do_wrts 3 P2 ⟨c.client, c.seq, t, P2⟩ hO HB3.out) hT5
  have HTW : Hid (TurnA B rb w _) := (TurnA.of_below HBW.out hB).trans hT5
  have HVS : Hid (w3.heap.size + 2 ≤ (((w3.alloc (.cells #[.int .i64 3, .int .i64 P2] 96)).alloc (dnBox ⟨c.client, c.seq, t, P2⟩)).setCell ⟨g, 1, none⟩ (.int .i64 t)).heap.size) := by simp [Hid]
  clear y0 y1 y2 y3 v0 v1 d0 d1 d2 d3 r0 r1 r2 r3 f0 f1 f2 f3 n0 m1 mf1 hT5 hM4 HBX HBW
  obtain ⟨V, hV⟩ : ∃ V, ((w3.alloc (.cells #[.int .i64 3, .int .i64 P2] 96)).alloc (dnBox ⟨c.client, c.seq, t, P2⟩)).setCell ⟨g, 1, none⟩ (.int .i64 t) = V := ⟨_, rfl⟩
  rw [hV]
  rw [hV] at hM5 hbx5 HTW HVS hO5
  clear hV
  obtain ⟨g2, C2, w5, hrun, c3, cf3, hM6, hT6, hnear⟩ := hold_appN hM5 ⟨c.client, c.seq, t, P2⟩ hn V.heap.size L rfl HL.out rb HRB.out
  have k3 := (mac_cells hM5).2.2.2.1
  have k3A := box_cell (alloc_box (dnBox ⟨c.client, c.seq, t, P2⟩) hM5.box) 3 _ rfl
  simp only [HL.out] at k3 k3A
  obtain ⟨_, ⟨d50, d51, d52, d53⟩, _⟩ := bx_cells hbx5
  have hdA := alloc_box (dnBox ⟨c.client, c.seq, t, P2⟩) hbx5.bd
  have dA0 := box_cell hdA 0 _ rfl
  have dA1 := box_cell hdA 1 _ rfl
  have dA2 := box_cell hdA 2 _ rfl
  have dA3 := box_cell hdA 3 _ rfl
  have hbx6 := hbx5.turn hT6 (hnew _ (by omega)) (hnew _ (by omega))
  have HO6 : Hid _ := ownW_A hO5 hT6
  have HBX6 : Hid _ := hbx6
  have HM6 : Hid _ := hM6
  have HT6 : Hid _ := HTW.out.trans hT6
  have HNE : Hid (some (w.heap.size + 1) ≠ (Value.slice (some ⟨g2, 0, none⟩) (m.dones ++ [(⟨c.client, c.seq, t, P2⟩ : Dn)]).length C2).ownBlock) := by
    intro e
    have e2 : w.heap.size + 1 = g2 := by simpa [Value.ownBlock] using e
    rcases hnear with h9 | h9
    · exact hnew (w.heap.size + 1) (by omega) (by rw [h9, e2])
    · have := HVS.out
      omega
  have HNR : Hid (∀ b, some b = (Value.slice (some ⟨g2, 0, none⟩) (m.dones ++ [(⟨c.client, c.seq, t, P2⟩ : Dn)]).length C2).ownBlock → some b = rb ∨ w.heap.size ≤ b) := by
    intro b e
    have e2 : b = g2 := by simpa [Value.ownBlock] using e
    rcases hnear with h9 | h9
    · exact .inl (by rw [e2, h9])
    · have := HVS.out
      exact .inr (by omega)
  obtain ⟨⟨v60, v61⟩, ⟨d60, d61, d62, d63⟩, ⟨r60, r61, r62, r63⟩, ⟨f60, f61, f62, f63⟩, n60, c61, c62, c66⟩ := bx_cells hbx6
  clear hM5 hM6 hT6 hbx5 hbx6 hnear hdA HTW hO5 hO HB1 HB3
  go_region_law (refine step_app_run rfl (.tmp 47) (.tmp 49) 45 rfl (.slice ao L cap) (.slice (some ⟨V.heap.size, 0, none⟩) 1 1) (by simp [Act.eval]) (by simp [Act.eval]) hrun ?_)
  all_goals clear k3 k3A d50 d51 d52 d53 dA0 dA1 dA2 dA3 c3 cf3 hrun
  all_goals generalize w5.setCell ⟨g, 3, none⟩ (.slice (some ⟨g2, 0, none⟩) (L + 1) C2) = V6 at *
  all_goals have hkp := keep_any B g gs C2 ⟨m.room, t, m.st, m.dones ++ [⟨c.client, c.seq, t, P2⟩], m.last, m.lim⟩ (some ⟨g2, 0, none⟩) lv c.client (c.seq, P2) hcl hlim rb V6 HM6.out
  all_goals go_wp2_with (first | (go_at_call 39; refine hkp.mono ?_; rintro e w8 ⟨rfl, ⟨lv8, hM8⟩, hT8⟩; have HBX8 : Hid _ := HBX6.out.turn hT8 (hnew _ (by omega)) (hnew _ (by omega)); have HM8 : Hid _ := hM8; have HT8 : Hid _ := hT8; clear hM8 hT8; obtain ⟨⟨v80, v81⟩, ⟨d80, d81, d82, d83⟩, ⟨r80, r81, r82, r83⟩, ⟨f80, f81, f82, f83⟩, n80, c81, c82, c86⟩ := bx_cells HBX8.out))
  all_goals
    obtain ⟨hR, hgR⟩ := res4 (HBX8.out).br ⟨c.client, c.seq, t, P2⟩
    have z0 := box_cell hR 0 _ rfl
    have z1 := box_cell hR 1 _ rfl
    have z2 := box_cell hR 2 _ rfl
    have z3 := box_cell hR 3 _ rfl
    exact bodyPost_ret (v := dnV ⟨c.client, c.seq, t, P2⟩) (by simp [results, Tryz.results15, go_sem, z0, z1, z2, z3]) rfl ⟨rfl, ⟨some ⟨g2, 0, none⟩, C2, lv8, (HM8.out).res hgR (HBX8.out).br HNE.out, by rw [HL.out, HRB.out]; exact HNR.out⟩, by rw [HL.out, HRB.out]; exact (HT6.out.trans HT8.out).res hgR (by omega) hB⟩
end Go.Proofs.YtclliljkmmpglaaGreat
