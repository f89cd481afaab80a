import Derived.Test.YtiajlhjjmlakmaaGreatDoorSqYm
namespace Go.Proofs.YtiajlhjjmlakmaaGreatDoor
open Go.RowKit Num
set_option maxHeartbeats 2000000
set_option linter.unusedSimpArgs false
set_option linter.unusedVariables false
set_option maxRecDepth 100000
theorem dparse_w2 (s : ByteArray) (hs : s.size ≤ 400) (l : List Tok) (q : Nat) (hl : lexAt s 0 = (some l, q)) (hE : EndK l) (hne : 0 < l.length) (hlen : l.length ≤ 401) (hbc : isD l ⟨#[99, 114, 101, 97, 116, 101]⟩ ⟨0, false, 0, false⟩ = true) (hbs : isD l ⟨#[59]⟩ (createD l ⟨0, false, 0, false⟩).2 = false) (w : World) :
  Calls Tryz.prog 5 #[.string s] w fun e w' => ParseEnd w.heap.size (tellD (parseD l ⟨0, false, 0, false⟩)) e w' ∧ Below w.heap.size w w' := by
 go_enter Tryz.func5, Tryz.ntmps5
 rcases er : createD l ⟨0, false, 0, false⟩ with ⟨x, S5⟩
 rw [er] at hbs
 have hst : stmtD l ⟨0, false, 0, false⟩ = (x, S5) := by simp only [stmtD, optD, hbc, if_true, er]
 have hpd : Hid (parseD l ⟨0, false, 0, false⟩ = (x, (closeD l S5).2)) := by
  unfold Hid
  simp only [parseD, bndD, hst, semiD, optD, hbs, Bool.false_eq_true, if_false, retD]
 clear hst
 go_wp2_with (first
  | (go_at_call 16; have hz := kk5; clear hz; go_loud (skip; refine (dis_at hbs _ (DAt.sets hP5 bx5 (by decide) (by omega) 0 (lX x t))).mono ?_; rintro e w6 ⟨rfl, hk6, hP6⟩; have kk6 := (kp_sets (kk1.trans kk5) (by simp) 0 (lX x t)).trans hk6; have bx6 : Bx w6 (w1.heap.size + 1) 28 #[.int .i64 x.kind, .string x.table, .string x.name, .slice t.co x.cols.length t.cc, .slice t.vo x.vals.length t.vc, .slice t.so x.sets.length t.sc, .slice t.qo x.conds.length t.qc, .bool x.uniq, .int .i64 x.type, .slice t.yo x.types.length t.yc] := Bx.kp (box10 bx5 (.int .i64 x.kind) (.string x.table) (.string x.name) (.slice t.co x.cols.length t.cc) (.slice t.vo x.vals.length t.vc) (.slice t.so x.sets.length t.sc) (.slice t.qo x.conds.length t.qc) (.bool x.uniq) (.int .i64 x.type) (.slice t.yo x.types.length t.yc)) hk6 (by omega); have br6 : Bx w6 w.heap.size 28 z10 := Bx.kp (br5.others (c := w1.heap.size + 1) (by omega) 0 (lX x t)) hk6 (by omega); have ho6 : OwnS _ w6 t x := (ho5.setsS bx5 0 (lX x t)).kp hk6 hP2.g_lt; have lx6 := bx6.lt; have lr6 := br6.lt; obtain ⟨cx6_0, cx6_1, cx6_2, cx6_3, cx6_4, cx6_5, cx6_6, cx6_7, cx6_8, cx6_9⟩ := bx6.ten; obtain ⟨fx6_0, fx6_1, fx6_2, fx6_3, fx6_4, fx6_5, fx6_6, fx6_7, fx6_8, fx6_9⟩ := bx6.tenO; obtain ⟨cr6_0, cr6_1, cr6_2, cr6_3, cr6_4, cr6_5, cr6_6, cr6_7, cr6_8, cr6_9⟩ := br6.ten; obtain ⟨fr6_0, fr6_1, fr6_2, fr6_3, fr6_4, fr6_5, fr6_6, fr6_7, fr6_8, fr6_9⟩ := br6.tenO; clear hbs))
  | (go_at_call 17; refine (dcreate_any hE _ hP2).mono ?_; intro e w5 hT5; obtain ⟨u5, rfl, hk5, hj5, hP5, ⟨t, rfl, ho5⟩⟩ := dtells hT5 er; have kk5 := kk2.trans hk5; have bx5 := Bx.kp bx0 kk5 (by omega); have br5 := Bx.kp br0 kk5 (by omega); have lx5 := bx5.lt; have lr5 := br5.lt; obtain ⟨cx5_0, cx5_1, cx5_2, cx5_3, cx5_4, cx5_5, cx5_6, cx5_7, cx5_8, cx5_9⟩ := bx5.ten; obtain ⟨fx5_0, fx5_1, fx5_2, fx5_3, fx5_4, fx5_5, fx5_6, fx5_7, fx5_8, fx5_9⟩ := bx5.tenO; clear er)
  | (go_at_call 16; refine (dis_at hbc _ hP0).mono ?_; rintro e w2 ⟨rfl, hk2, hP2⟩; have kk2 := hk2; clear hbc)
  | ((go_at_call 15; refine (refLex_any s hs _).mono ?_; rintro e w1 ⟨hE1, hb1⟩; rw [hl] at hE1; obtain ⟨v, rfl, ho1⟩ := hE1; obtain ⟨v_o, v_c, rfl⟩ := own_formQ ho1; have hP0 : DAt w1.heap.size (.slice v_o l.length v_c) l ⟨0, false, 0, false⟩ ((w1.alloc (.cells #[.slice v_o l.length v_c, .int .i64 0, .bool false, .int .i64 0, .bool false] 58)).alloc (.cells #[.int .i64 0, .string ⟨#[]⟩, .string ⟨#[]⟩, .slice none 0 0, .slice none 0 0, .slice none 0 0, .slice none 0 0, .bool false, .int .i64 0, .slice none 0 0] 28)) := ⟨(Bx.newB rfl).alloc _, ⟨_, (ho1.alloc _).alloc _⟩, hne, by omega⟩; have br0 : Bx ((w1.alloc (.cells #[.slice v_o l.length v_c, .int .i64 0, .bool false, .int .i64 0, .bool false] 58)).alloc (.cells #[.int .i64 0, .string ⟨#[]⟩, .string ⟨#[]⟩, .slice none 0 0, .slice none 0 0, .slice none 0 0, .slice none 0 0, .bool false, .int .i64 0, .slice none 0 0] 28)) w.heap.size 28 #[.int .i64 0, .string ⟨#[]⟩, .string ⟨#[]⟩, .slice none 0 0, .slice none 0 0, .slice none 0 0, .slice none 0 0, .bool false, .int .i64 0, .slice none 0 0] := Bx.alloc (Bx.alloc ((hb1.block _ (by simp)).trans (Bx.newB (by simp) : Bx _ (w.heap.size) 28 z10)) _) _; have bx0 : Bx ((w1.alloc (.cells #[.slice v_o l.length v_c, .int .i64 0, .bool false, .int .i64 0, .bool false] 58)).alloc (.cells #[.int .i64 0, .string ⟨#[]⟩, .string ⟨#[]⟩, .slice none 0 0, .slice none 0 0, .slice none 0 0, .slice none 0 0, .bool false, .int .i64 0, .slice none 0 0] 28)) (w1.heap.size + 1) 28 #[.int .i64 0, .string ⟨#[]⟩, .string ⟨#[]⟩, .slice none 0 0, .slice none 0 0, .slice none 0 0, .slice none 0 0, .bool false, .int .i64 0, .slice none 0 0] := Bx.newB (by simp); have lw1 : w.heap.size < w1.heap.size := Nat.lt_of_lt_of_le (by simp) hb1.size; have hgW := hP0.g_lt; have kk1 := kp_alloc (World.grownBy.refl (w1.alloc (.cells #[.slice v_o l.length v_c, .int .i64 0, .bool false, .int .i64 0, .bool false] 58)) (some w1.heap.size)) (.cells #[.int .i64 0, .string ⟨#[]⟩, .string ⟨#[]⟩, .slice none 0 0, .slice none 0 0, .slice none 0 0, .slice none 0 0, .bool false, .int .i64 0, .slice none 0 0] 28))))
 obtain ⟨gt, cap, hv, hgt, hne2, ⟨p0, p1, p2, p3, p4⟩, d0, d1, d2, d3, d4, d5, d6⟩ := dat_cells hP6
 have hi := hP6.lt
 have hPg := hP6.g_lt
 have hsm := hP6.sm
 rcases hbad : S5.bad with _ | _
 ·rw [hbad] at p2
  have hB6 : Below w.heap.size w w6 := bel_kp ((below_next ((Below.refl _ w).alloc (Nat.le_refl _) _) (Nat.le_refl _) hb1).alloc (by omega) _) kk6 (by omega) (by simp; omega)
  by_cases hk0 : (tokAt l S5.i).k = 0
  ·rw [hk0] at d0
   have hcl : closeD l S5 = ((), S5) := by
    unfold closeD
    rw [if_neg (fun h => h.2 hk0)]
   rcases hlong : S5.long with _ | _
   ·rw [hlong] at p4
    have ht : tellD (parseD l ⟨0, false, 0, false⟩) = (some x, 0, 0) := by
     rw [hpd.out, hcl]
     unfold tellD
     rw [if_neg (by rw [hbad]; decide), if_neg (by rw [hlong]; decide)]
    go_region
    all_goals go_wp2
    all_goals
     rw [ht]
     refine bodyPost_ret (v := .tuple #[.agg #[.int .i64 x.kind, .string x.table, .string x.name, .slice t.co x.cols.length t.cc, .slice t.vo x.vals.length t.vc, .slice t.so x.sets.length t.sc, .slice t.qo x.conds.length t.qc, .bool x.uniq, .int .i64 x.type, .slice t.yo x.types.length t.yc], .int .i64 0, .int .i64 0]) (by simp [results, Tryz.results5, go_sem, cr6_0, cr6_1, cr6_2, cr6_3, cr6_4, cr6_5, cr6_6, cr6_7, cr6_8, cr6_9, lr6]) rfl ?_
     exact ⟨⟨t, rfl, ((ho6.setsS br6 0 (lX x t)).kp (kp_drew (World.grownBy.refl _ (some w1.heap.size))) hP2.g_lt).mono (by have := hP2.g_lt; omega)⟩, (bel_sets (Nat.le_refl w.heap.size) hB6 0 (lX x t)).drew⟩
   ·rw [hlong] at p4
    have ht : tellD (parseD l ⟨0, false, 0, false⟩) = (none, 0, 2) := by
     rw [hpd.out, hcl]
     unfold tellD
     rw [if_neg (by rw [hbad]; decide), if_pos hlong]
    go_region
    all_goals go_wp2
    all_goals
     rw [ht]
     refine bodyPost_ret (v := .tuple #[.agg #[.int .i64 0, .string ⟨#[]⟩, .string ⟨#[]⟩, .slice none 0 0, .slice none 0 0, .slice none 0 0, .slice none 0 0, .bool false, .int .i64 0, .slice none 0 0], .int .i64 0, .int .i64 2]) (by simp [results, Tryz.results5, go_sem, cr6_0, cr6_1, cr6_2, cr6_3, cr6_4, cr6_5, cr6_6, cr6_7, cr6_8, cr6_9, lr6]) rfl ?_
     exact ⟨rfl, (bel_sets (Nat.le_refl w.heap.size) hB6 0 [iZ, sZ, sZ, nZ, nZ, nZ, nZ, .bool false, iZ, nZ]).drew⟩
  ·have hkb : ((tokAt l S5.i).k != 0) = true := by simpa using hk0
   have hf : S5.fail l = { S5 with bad := true, p := (tokAt l S5.i).p } := by
    unfold DS.fail
    rw [if_neg (by rw [hbad]; decide)]
   have hcl : closeD l S5 = ((), S5.fail l) := by
    unfold closeD
    rw [if_pos ⟨hbad, hk0⟩]
   have ht : tellD (parseD l ⟨0, false, 0, false⟩) = (none, (tokAt l S5.i).p, 3) := by
    rw [hpd.out, hcl, hf]
    rfl
   go_region
   all_goals
    go_wp2_with (go_at_call 22; refine (dfail_any _ hP6.drew).mono ?_; intro e w7 hT7; obtain ⟨_, rfl, hk7, hj7, hP7, rfl⟩ := dtells hT7 rfl; rw [hf] at hP7; have hB7 : Below w.heap.size w w7 := bel_kp hB6.drew hk7 (by omega) (by simp; omega); have br7 : Bx w7 w.heap.size 28 z10 := Bx.kp br6.drew hk7 (by omega); have lr7 := br7.lt; obtain ⟨cr7_0, cr7_1, cr7_2, cr7_3, cr7_4, cr7_5, cr7_6, cr7_7, cr7_8, cr7_9⟩ := br7.ten; obtain ⟨fr7_0, fr7_1, fr7_2, fr7_3, fr7_4, fr7_5, fr7_6, fr7_7, fr7_8, fr7_9⟩ := br7.tenO; have q2 : w7.cell? ⟨w1.heap.size, 2, none⟩ = some (.bool true) := hP7.box.cell 2 _ rfl; have q3 : w7.cell? ⟨w1.heap.size, 3, none⟩ = some (.int .i64 ((tokAt l S5.i).p : Int)) := hP7.box.cell 3 _ rfl)
   all_goals go_region
   all_goals go_wp2
   all_goals
    rw [ht]
    refine bodyPost_ret (v := .tuple #[.agg #[.int .i64 0, .string ⟨#[]⟩, .string ⟨#[]⟩, .slice none 0 0, .slice none 0 0, .slice none 0 0, .slice none 0 0, .bool false, .int .i64 0, .slice none 0 0], .int .i64 ((tokAt l S5.i).p : Int), .int .i64 3]) (by simp [results, Tryz.results5, go_sem, cr7_0, cr7_1, cr7_2, cr7_3, cr7_4, cr7_5, cr7_6, cr7_7, cr7_8, cr7_9, lr7]) rfl ?_
    exact ⟨rfl, (bel_sets (Nat.le_refl w.heap.size) hB7 0 [iZ, sZ, sZ, nZ, nZ, nZ, nZ, .bool false, iZ, nZ]).drew⟩
 ·rw [hbad] at p2
  go_region
  all_goals go_wp2
  all_goals go_region
  all_goals go_wp2
  have ht : tellD (parseD l ⟨0, false, 0, false⟩) = (none, S5.p, 3) := by
   rw [hpd.out]
   unfold closeD
   rw [if_neg (fun h => by rw [hbad] at h; exact absurd h.1 (by decide))]
   unfold tellD
   rw [if_pos hbad]
  rw [ht]
  have hB6 : Below w.heap.size w w6 := bel_kp ((below_next ((Below.refl _ w).alloc (Nat.le_refl _) _) (Nat.le_refl _) hb1).alloc (by omega) _) kk6 (by omega) (by simp; omega)
  all_goals
   refine bodyPost_ret (v := .tuple #[.agg #[.int .i64 0, .string ⟨#[]⟩, .string ⟨#[]⟩, .slice none 0 0, .slice none 0 0, .slice none 0 0, .slice none 0 0, .bool false, .int .i64 0, .slice none 0 0], .int .i64 (S5.p : Int), .int .i64 3]) (by simp [results, Tryz.results5, go_sem, cr6_0, cr6_1, cr6_2, cr6_3, cr6_4, cr6_5, cr6_6, cr6_7, cr6_8, cr6_9, lr6]) rfl ?_
   exact ⟨rfl, (bel_sets (Nat.le_refl w.heap.size) hB6 0 [iZ, sZ, sZ, nZ, nZ, nZ, nZ, .bool false, iZ, nZ]).drew.drew⟩
theorem dparse_w3 (s : ByteArray) (hs : s.size ≤ 400) (l : List Tok) (q : Nat) (hl : lexAt s 0 = (some l, q)) (hE : EndK l) (hne : 0 < l.length) (hlen : l.length ≤ 401) (hbc : isD l ⟨#[99, 114, 101, 97, 116, 101]⟩ ⟨0, false, 0, false⟩ = true) (hbs : isD l ⟨#[59]⟩ (createD l ⟨0, false, 0, false⟩).2 = true) (w : World) :
  Calls Tryz.prog 5 #[.string s] w fun e w' => ParseEnd w.heap.size (tellD (parseD l ⟨0, false, 0, false⟩)) e w' ∧ Below w.heap.size w w' := by
 go_enter Tryz.func5, Tryz.ntmps5
 rcases er : createD l ⟨0, false, 0, false⟩ with ⟨x, S5⟩
 rw [er] at hbs
 have hst : stmtD l ⟨0, false, 0, false⟩ = (x, S5) := by simp only [stmtD, optD, hbc, if_true, er]
 rcases he6 : eatD l ⟨#[59]⟩ S5 with ⟨⟨⟩, S6⟩
 have hpd : Hid (parseD l ⟨0, false, 0, false⟩ = (x, (closeD l S6).2)) := by
  unfold Hid
  simp only [parseD, bndD, hst, semiD, optD, hbs, if_true, retD, he6]
 clear hst
 go_wp2_with (first
  | (go_at_call 18; refine (deat_any hE ⟨#[59]⟩ _ hPi).mono ?_; intro e w6 hT6; obtain ⟨_, rfl, hk6, hj6, hP6, rfl⟩ := dtells hT6 he6; have kk6 := kki.trans hk6; have bx6 := Bx.kp bxi hk6 (by omega); have br6 := Bx.kp bri hk6 (by omega); have ho6 : OwnS _ w6 t x := hoi.kp hk6 hP2.g_lt; have lx6 := bx6.lt; have lr6 := br6.lt; obtain ⟨cx6_0, cx6_1, cx6_2, cx6_3, cx6_4, cx6_5, cx6_6, cx6_7, cx6_8, cx6_9⟩ := bx6.ten; obtain ⟨fx6_0, fx6_1, fx6_2, fx6_3, fx6_4, fx6_5, fx6_6, fx6_7, fx6_8, fx6_9⟩ := bx6.tenO; obtain ⟨cr6_0, cr6_1, cr6_2, cr6_3, cr6_4, cr6_5, cr6_6, cr6_7, cr6_8, cr6_9⟩ := br6.ten; obtain ⟨fr6_0, fr6_1, fr6_2, fr6_3, fr6_4, fr6_5, fr6_6, fr6_7, fr6_8, fr6_9⟩ := br6.tenO; clear he6)
  | (go_at_call 16; have hz := kk5; clear hz; go_loud (skip; refine (dis_at hbs _ (DAt.sets hP5 bx5 (by decide) (by omega) 0 (lX x t))).mono ?_; rintro e wi ⟨rfl, hki, hPi⟩; have kki := (kp_sets (kk1.trans kk5) (by simp) 0 (lX x t)).trans hki; have bxi : Bx wi (w1.heap.size + 1) 28 #[.int .i64 x.kind, .string x.table, .string x.name, .slice t.co x.cols.length t.cc, .slice t.vo x.vals.length t.vc, .slice t.so x.sets.length t.sc, .slice t.qo x.conds.length t.qc, .bool x.uniq, .int .i64 x.type, .slice t.yo x.types.length t.yc] := Bx.kp (box10 bx5 (.int .i64 x.kind) (.string x.table) (.string x.name) (.slice t.co x.cols.length t.cc) (.slice t.vo x.vals.length t.vc) (.slice t.so x.sets.length t.sc) (.slice t.qo x.conds.length t.qc) (.bool x.uniq) (.int .i64 x.type) (.slice t.yo x.types.length t.yc)) hki (by omega); have bri : Bx wi w.heap.size 28 z10 := Bx.kp (br5.others (c := w1.heap.size + 1) (by omega) 0 (lX x t)) hki (by omega); have hoi : OwnS _ wi t x := (ho5.setsS bx5 0 (lX x t)).kp hki hP2.g_lt; have lxi := bxi.lt; have lri := bri.lt; obtain ⟨cxi_0, cxi_1, cxi_2, cxi_3, cxi_4, cxi_5, cxi_6, cxi_7, cxi_8, cxi_9⟩ := bxi.ten; obtain ⟨fxi_0, fxi_1, fxi_2, fxi_3, fxi_4, fxi_5, fxi_6, fxi_7, fxi_8, fxi_9⟩ := bxi.tenO; obtain ⟨cri_0, cri_1, cri_2, cri_3, cri_4, cri_5, cri_6, cri_7, cri_8, cri_9⟩ := bri.ten; obtain ⟨fri_0, fri_1, fri_2, fri_3, fri_4, fri_5, fri_6, fri_7, fri_8, fri_9⟩ := bri.tenO; clear hbs))
  | (go_at_call 17; refine (dcreate_any hE _ hP2).mono ?_; intro e w5 hT5; obtain ⟨u5, rfl, hk5, hj5, hP5, ⟨t, rfl, ho5⟩⟩ := dtells hT5 er; have kk5 := kk2.trans hk5; have bx5 := Bx.kp bx0 kk5 (by omega); have br5 := Bx.kp br0 kk5 (by omega); have lx5 := bx5.lt; have lr5 := br5.lt; obtain ⟨cx5_0, cx5_1, cx5_2, cx5_3, cx5_4, cx5_5, cx5_6, cx5_7, cx5_8, cx5_9⟩ := bx5.ten; obtain ⟨fx5_0, fx5_1, fx5_2, fx5_3, fx5_4, fx5_5, fx5_6, fx5_7, fx5_8, fx5_9⟩ := bx5.tenO; clear er)
  | (go_at_call 16; refine (dis_at hbc _ hP0).mono ?_; rintro e w2 ⟨rfl, hk2, hP2⟩; have kk2 := hk2; clear hbc)
  | ((go_at_call 15; refine (refLex_any s hs _).mono ?_; rintro e w1 ⟨hE1, hb1⟩; rw [hl] at hE1; obtain ⟨v, rfl, ho1⟩ := hE1; obtain ⟨v_o, v_c, rfl⟩ := own_formQ ho1; have hP0 : DAt w1.heap.size (.slice v_o l.length v_c) l ⟨0, false, 0, false⟩ ((w1.alloc (.cells #[.slice v_o l.length v_c, .int .i64 0, .bool false, .int .i64 0, .bool false] 58)).alloc (.cells #[.int .i64 0, .string ⟨#[]⟩, .string ⟨#[]⟩, .slice none 0 0, .slice none 0 0, .slice none 0 0, .slice none 0 0, .bool false, .int .i64 0, .slice none 0 0] 28)) := ⟨(Bx.newB rfl).alloc _, ⟨_, (ho1.alloc _).alloc _⟩, hne, by omega⟩; have br0 : Bx ((w1.alloc (.cells #[.slice v_o l.length v_c, .int .i64 0, .bool false, .int .i64 0, .bool false] 58)).alloc (.cells #[.int .i64 0, .string ⟨#[]⟩, .string ⟨#[]⟩, .slice none 0 0, .slice none 0 0, .slice none 0 0, .slice none 0 0, .bool false, .int .i64 0, .slice none 0 0] 28)) w.heap.size 28 #[.int .i64 0, .string ⟨#[]⟩, .string ⟨#[]⟩, .slice none 0 0, .slice none 0 0, .slice none 0 0, .slice none 0 0, .bool false, .int .i64 0, .slice none 0 0] := Bx.alloc (Bx.alloc ((hb1.block _ (by simp)).trans (Bx.newB (by simp) : Bx _ (w.heap.size) 28 z10)) _) _; have bx0 : Bx ((w1.alloc (.cells #[.slice v_o l.length v_c, .int .i64 0, .bool false, .int .i64 0, .bool false] 58)).alloc (.cells #[.int .i64 0, .string ⟨#[]⟩, .string ⟨#[]⟩, .slice none 0 0, .slice none 0 0, .slice none 0 0, .slice none 0 0, .bool false, .int .i64 0, .slice none 0 0] 28)) (w1.heap.size + 1) 28 #[.int .i64 0, .string ⟨#[]⟩, .string ⟨#[]⟩, .slice none 0 0, .slice none 0 0, .slice none 0 0, .slice none 0 0, .bool false, .int .i64 0, .slice none 0 0] := Bx.newB (by simp); have lw1 : w.heap.size < w1.heap.size := Nat.lt_of_lt_of_le (by simp) hb1.size; have hgW := hP0.g_lt; have kk1 := kp_alloc (World.grownBy.refl (w1.alloc (.cells #[.slice v_o l.length v_c, .int .i64 0, .bool false, .int .i64 0, .bool false] 58)) (some w1.heap.size)) (.cells #[.int .i64 0, .string ⟨#[]⟩, .string ⟨#[]⟩, .slice none 0 0, .slice none 0 0, .slice none 0 0, .slice none 0 0, .bool false, .int .i64 0, .slice none 0 0] 28))))
 obtain ⟨gt, cap, hv, hgt, hne2, ⟨p0, p1, p2, p3, p4⟩, d0, d1, d2, d3, d4, d5, d6⟩ := dat_cells hP6
 have hi := hP6.lt
 have hPg := hP6.g_lt
 have hsm := hP6.sm
 rcases hbad : S6.bad with _ | _
 ·rw [hbad] at p2
  have hB6 : Below w.heap.size w w6 := bel_kp ((below_next ((Below.refl _ w).alloc (Nat.le_refl _) _) (Nat.le_refl _) hb1).alloc (by omega) _) kk6 (by omega) (by simp; omega)
  by_cases hk0 : (tokAt l S6.i).k = 0
  ·rw [hk0] at d0
   have hcl : closeD l S6 = ((), S6) := by
    unfold closeD
    rw [if_neg (fun h => h.2 hk0)]
   rcases hlong : S6.long with _ | _
   ·rw [hlong] at p4
    have ht : tellD (parseD l ⟨0, false, 0, false⟩) = (some x, 0, 0) := by
     rw [hpd.out, hcl]
     unfold tellD
     rw [if_neg (by rw [hbad]; decide), if_neg (by rw [hlong]; decide)]
    go_region
    all_goals go_wp2
    all_goals
     rw [ht]
     refine bodyPost_ret (v := .tuple #[.agg #[.int .i64 x.kind, .string x.table, .string x.name, .slice t.co x.cols.length t.cc, .slice t.vo x.vals.length t.vc, .slice t.so x.sets.length t.sc, .slice t.qo x.conds.length t.qc, .bool x.uniq, .int .i64 x.type, .slice t.yo x.types.length t.yc], .int .i64 0, .int .i64 0]) (by simp [results, Tryz.results5, go_sem, cr6_0, cr6_1, cr6_2, cr6_3, cr6_4, cr6_5, cr6_6, cr6_7, cr6_8, cr6_9, lr6]) rfl ?_
     exact ⟨⟨t, rfl, ((ho6.setsS br6 0 (lX x t)).kp (kp_drew (World.grownBy.refl _ (some w1.heap.size))) hP2.g_lt).mono (by have := hP2.g_lt; omega)⟩, (bel_sets (Nat.le_refl w.heap.size) hB6 0 (lX x t)).drew⟩
   ·rw [hlong] at p4
    have ht : tellD (parseD l ⟨0, false, 0, false⟩) = (none, 0, 2) := by
     rw [hpd.out, hcl]
     unfold tellD
     rw [if_neg (by rw [hbad]; decide), if_pos hlong]
    go_region
    all_goals go_wp2
    all_goals
     rw [ht]
     refine bodyPost_ret (v := .tuple #[.agg #[.int .i64 0, .string ⟨#[]⟩, .string ⟨#[]⟩, .slice none 0 0, .slice none 0 0, .slice none 0 0, .slice none 0 0, .bool false, .int .i64 0, .slice none 0 0], .int .i64 0, .int .i64 2]) (by simp [results, Tryz.results5, go_sem, cr6_0, cr6_1, cr6_2, cr6_3, cr6_4, cr6_5, cr6_6, cr6_7, cr6_8, cr6_9, lr6]) rfl ?_
     exact ⟨rfl, (bel_sets (Nat.le_refl w.heap.size) hB6 0 [iZ, sZ, sZ, nZ, nZ, nZ, nZ, .bool false, iZ, nZ]).drew⟩
  ·have hkb : ((tokAt l S6.i).k != 0) = true := by simpa using hk0
   have hf : S6.fail l = { S6 with bad := true, p := (tokAt l S6.i).p } := by
    unfold DS.fail
    rw [if_neg (by rw [hbad]; decide)]
   have hcl : closeD l S6 = ((), S6.fail l) := by
    unfold closeD
    rw [if_pos ⟨hbad, hk0⟩]
   have ht : tellD (parseD l ⟨0, false, 0, false⟩) = (none, (tokAt l S6.i).p, 3) := by
    rw [hpd.out, hcl, hf]
    rfl
   go_region
   all_goals
    go_wp2_with (go_at_call 22; refine (dfail_any _ hP6.drew).mono ?_; intro e w7 hT7; obtain ⟨_, rfl, hk7, hj7, hP7, rfl⟩ := dtells hT7 rfl; rw [hf] at hP7; have hB7 : Below w.heap.size w w7 := bel_kp hB6.drew hk7 (by omega) (by simp; omega); have br7 : Bx w7 w.heap.size 28 z10 := Bx.kp br6.drew hk7 (by omega); have lr7 := br7.lt; obtain ⟨cr7_0, cr7_1, cr7_2, cr7_3, cr7_4, cr7_5, cr7_6, cr7_7, cr7_8, cr7_9⟩ := br7.ten; obtain ⟨fr7_0, fr7_1, fr7_2, fr7_3, fr7_4, fr7_5, fr7_6, fr7_7, fr7_8, fr7_9⟩ := br7.tenO; have q2 : w7.cell? ⟨w1.heap.size, 2, none⟩ = some (.bool true) := hP7.box.cell 2 _ rfl; have q3 : w7.cell? ⟨w1.heap.size, 3, none⟩ = some (.int .i64 ((tokAt l S6.i).p : Int)) := hP7.box.cell 3 _ rfl)
   all_goals go_region
   all_goals go_wp2
   all_goals
    rw [ht]
    refine bodyPost_ret (v := .tuple #[.agg #[.int .i64 0, .string ⟨#[]⟩, .string ⟨#[]⟩, .slice none 0 0, .slice none 0 0, .slice none 0 0, .slice none 0 0, .bool false, .int .i64 0, .slice none 0 0], .int .i64 ((tokAt l S6.i).p : Int), .int .i64 3]) (by simp [results, Tryz.results5, go_sem, cr7_0, cr7_1, cr7_2, cr7_3, cr7_4, cr7_5, cr7_6, cr7_7, cr7_8, cr7_9, lr7]) rfl ?_
    exact ⟨rfl, (bel_sets (Nat.le_refl w.heap.size) hB7 0 [iZ, sZ, sZ, nZ, nZ, nZ, nZ, .bool false, iZ, nZ]).drew⟩
 ·rw [hbad] at p2
  go_region
  all_goals go_wp2
  all_goals go_region
  all_goals go_wp2
  have ht : tellD (parseD l ⟨0, false, 0, false⟩) = (none, S6.p, 3) := by
   rw [hpd.out]
   unfold closeD
   rw [if_neg (fun h => by rw [hbad] at h; exact absurd h.1 (by decide))]
   unfold tellD
   rw [if_pos hbad]
  rw [ht]
  have hB6 : Below w.heap.size w w6 := bel_kp ((below_next ((Below.refl _ w).alloc (Nat.le_refl _) _) (Nat.le_refl _) hb1).alloc (by omega) _) kk6 (by omega) (by simp; omega)
  all_goals
   refine bodyPost_ret (v := .tuple #[.agg #[.int .i64 0, .string ⟨#[]⟩, .string ⟨#[]⟩, .slice none 0 0, .slice none 0 0, .slice none 0 0, .slice none 0 0, .bool false, .int .i64 0, .slice none 0 0], .int .i64 (S6.p : Int), .int .i64 3]) (by simp [results, Tryz.results5, go_sem, cr6_0, cr6_1, cr6_2, cr6_3, cr6_4, cr6_5, cr6_6, cr6_7, cr6_8, cr6_9, lr6]) rfl ?_
   exact ⟨rfl, (bel_sets (Nat.le_refl w.heap.size) hB6 0 [iZ, sZ, sZ, nZ, nZ, nZ, nZ, .bool false, iZ, nZ]).drew.drew⟩
end Go.Proofs.YtiajlhjjmlakmaaGreatDoor
