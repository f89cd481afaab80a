/-
  The document's Parse, where Lex tells tokens: drop index. (Written by mksqr.py.)
-/
import Derived.Test.YtiajlhjjmlakmaaGreatDoorSqYm
namespace Go.Proofs.YtiajlhjjmlakmaaGreatDoor
open Go.RowKit Num
set_option linter.unusedSimpArgs false
set_option linter.unusedVariables false
set_option linter.unusedVariables false
set_option maxRecDepth 100000
set_option maxHeartbeats 2000000 in
theorem dparse_w6 (s : ByteArray) (hs : s.size ≤ 400) (l : List Tok) (q : Nat) (hl : lexAt s 0 = (some l, q)) (hE : EndK l) (hne : 0 < l.length) (hlen : l.length ≤ 401) (hbc : isD l ⟨#[99, 114, 101, 97, 116, 101]⟩ ⟨0, false, 0, false⟩ = false) (hbd : isD l ⟨#[100, 114, 111, 112]⟩ ⟨0, false, 0, false⟩ = true) (hbs : isD l ⟨#[59]⟩ (dropD l ⟨0, false, 0, false⟩).2 = false) (w : World) :
    Calls Tryz.prog 5 #[.string s] w fun e w' => ParseEnd w.heap.size (tellD (parseD l ⟨0, false, 0, false⟩)) e w' ∧ Below w.heap.size w w' := by
  go_enter Tryz.func5, Tryz.ntmps5
  rcases ea : eatD l ⟨#[100, 114, 111, 112]⟩ ⟨0, false, 0, false⟩ with ⟨⟨⟩, Sa⟩
  rcases eb : eatD l ⟨#[105, 110, 100, 101, 120]⟩ Sa with ⟨⟨⟩, Sb⟩
  rcases ec : nameD l Sb with ⟨n, Sc⟩
  rcases ed : eatD l ⟨#[111, 110]⟩ Sc with ⟨⟨⟩, Sd⟩
  rcases ee : nameD l Sd with ⟨tb, S5⟩
  obtain ⟨x, hx⟩ : ∃ x : Stm, Hid (x = { Stm.zero with kind := 7, name := n, table := tb }) := ⟨_, rfl⟩
  obtain ⟨t, ht0⟩ : ∃ t : SS, Hid (t = SS.nil) := ⟨_, rfl⟩
  have er : dropD l ⟨0, false, 0, false⟩ = (x, S5) := by
    rw [hx.out]
    simp only [dropD, bndD, ea, eb, ec, ed, ee, retD]
  rw [er] at hbs
  have hst : stmtD l ⟨0, false, 0, false⟩ = (x, S5) := by simp only [stmtD, optD, hbc, Bool.false_eq_true, if_false, hbd, if_true, er]
  have hpd : Hid (parseD l ⟨0, false, 0, false⟩ = (x, (closeD l S5).2)) := by
    unfold Hid
    simp only [parseD, bndD, hst, semiD, optD, hbs, Bool.false_eq_true, if_false, retD]
  clear hst er
  go_wp2_with (first
    | (go_at_call 16; have hz := kk5; clear hz; ( refine (dis_at hbs _ (DAt.set hP5 bx5 (by decide) (by omega) 1 (.string tb))).mono ?_; rintro e w6 ⟨rfl, hk6, hP6⟩; have kk6 := (kp_set kk5 (by simp) 1 (.string tb)).trans hk6; have bx6 : Bx w6 (w1.heap.size + 1) 28 #[.int .i64 x.kind, .string x.table, .string x.name, .slice t.co x.cols.length t.cc, .slice t.vo x.vals.length t.vc, .slice t.so x.sets.length t.sc, .slice t.qo x.conds.length t.qc, .bool x.uniq, .int .i64 x.type, .slice t.yo x.types.length t.yc] := (by rw [hx.out, ht0.out]; exact Bx.kp (bx5.set 1 (.string tb)) hk6 (by omega)); have br6 : Bx w6 w.heap.size 28 #[.int .i64 0, .string ⟨#[]⟩, .string ⟨#[]⟩, .slice none 0 0, .slice none 0 0, .slice none 0 0, .slice none 0 0, .bool false, .int .i64 0, .slice none 0 0] := Bx.kp brW kk6 (by omega); have ho6 : OwnS (w1.heap.size + 1) w6 t x := (by rw [hx.out, ht0.out]; exact ⟨World.ownsRow_nil .., World.ownsRow_nil .., World.ownsRow_nil .., World.ownsRow_nil .., World.ownsRow_nil ..⟩); have lx6 := bx6.lt; have lr6 := br6.lt; have cx6_0 : w6.cell? ⟨w1.heap.size + 1, 0, none⟩ = some (.int .i64 x.kind) := bx6.cell 0 _ rfl; have fx6_0 := bx6.open 0; have cx6_1 : w6.cell? ⟨w1.heap.size + 1, 1, none⟩ = some (.string x.table) := bx6.cell 1 _ rfl; have fx6_1 := bx6.open 1; have cx6_2 : w6.cell? ⟨w1.heap.size + 1, 2, none⟩ = some (.string x.name) := bx6.cell 2 _ rfl; have fx6_2 := bx6.open 2; have cx6_3 : w6.cell? ⟨w1.heap.size + 1, 3, none⟩ = some (.slice t.co x.cols.length t.cc) := bx6.cell 3 _ rfl; have fx6_3 := bx6.open 3; have cx6_4 : w6.cell? ⟨w1.heap.size + 1, 4, none⟩ = some (.slice t.vo x.vals.length t.vc) := bx6.cell 4 _ rfl; have fx6_4 := bx6.open 4; have cx6_5 : w6.cell? ⟨w1.heap.size + 1, 5, none⟩ = some (.slice t.so x.sets.length t.sc) := bx6.cell 5 _ rfl; have fx6_5 := bx6.open 5; have cx6_6 : w6.cell? ⟨w1.heap.size + 1, 6, none⟩ = some (.slice t.qo x.conds.length t.qc) := bx6.cell 6 _ rfl; have fx6_6 := bx6.open 6; have cx6_7 : w6.cell? ⟨w1.heap.size + 1, 7, none⟩ = some (.bool x.uniq) := bx6.cell 7 _ rfl; have fx6_7 := bx6.open 7; have cx6_8 : w6.cell? ⟨w1.heap.size + 1, 8, none⟩ = some (.int .i64 x.type) := bx6.cell 8 _ rfl; have fx6_8 := bx6.open 8; have cx6_9 : w6.cell? ⟨w1.heap.size + 1, 9, none⟩ = some (.slice t.yo x.types.length t.yc) := bx6.cell 9 _ rfl; have fx6_9 := bx6.open 9; have cr6_0 : w6.cell? ⟨w.heap.size, 0, none⟩ = some (.int .i64 0) := br6.cell 0 _ rfl; have fr6_0 := br6.open 0; have cr6_1 : w6.cell? ⟨w.heap.size, 1, none⟩ = some (.string ⟨#[]⟩) := br6.cell 1 _ rfl; have fr6_1 := br6.open 1; have cr6_2 : w6.cell? ⟨w.heap.size, 2, none⟩ = some (.string ⟨#[]⟩) := br6.cell 2 _ rfl; have fr6_2 := br6.open 2; have cr6_3 : w6.cell? ⟨w.heap.size, 3, none⟩ = some (.slice none 0 0) := br6.cell 3 _ rfl; have fr6_3 := br6.open 3; have cr6_4 : w6.cell? ⟨w.heap.size, 4, none⟩ = some (.slice none 0 0) := br6.cell 4 _ rfl; have fr6_4 := br6.open 4; have cr6_5 : w6.cell? ⟨w.heap.size, 5, none⟩ = some (.slice none 0 0) := br6.cell 5 _ rfl; have fr6_5 := br6.open 5; have cr6_6 : w6.cell? ⟨w.heap.size, 6, none⟩ = some (.slice none 0 0) := br6.cell 6 _ rfl; have fr6_6 := br6.open 6; have cr6_7 : w6.cell? ⟨w.heap.size, 7, none⟩ = some (.bool false) := br6.cell 7 _ rfl; have fr6_7 := br6.open 7; have cr6_8 : w6.cell? ⟨w.heap.size, 8, none⟩ = some (.int .i64 0) := br6.cell 8 _ rfl; have fr6_8 := br6.open 8; have cr6_9 : w6.cell? ⟨w.heap.size, 9, none⟩ = some (.slice none 0 0) := br6.cell 9 _ rfl; have fr6_9 := br6.open 9; clear hbs))
    | (go_at_call 19; have hz := kkd; clear hz; refine (dname_any hE _ hPd).mono ?_; intro e w5 hT5; obtain ⟨u5, rfl, hk5, hj5, hP5, hV5⟩ := dtells hT5 ee; obtain rfl : u5 = .string tb := hV5; have kk5 := kkd.trans hk5; have bx5 : Bx w5 (w1.heap.size + 1) 28 #[.int .i64 7, .string ⟨#[]⟩, .string n, .slice none 0 0, .slice none 0 0, .slice none 0 0, .slice none 0 0, .bool false, .int .i64 0, .slice none 0 0] := Bx.kp bxd hk5 (by omega); have lx5 := bx5.lt; have fx5_1 := bx5.open 1; have cx5_1 : w5.cell? ⟨w1.heap.size + 1, 1, none⟩ = some (.string ⟨#[]⟩) := bx5.cell 1 _ rfl; clear ee)
    | (go_at_call 18; have hz := kkc; clear hz; refine (deat_any hE ⟨#[111, 110]⟩ _ (DAt.set hPc bxc (by decide) (by omega) 2 (.string n))).mono ?_; intro e wd hTd; obtain ⟨ud, rfl, hkd, hjd, hPd, hVd⟩ := dtells hTd ed; obtain rfl : ud = .tuple #[] := hVd; have kkd := (kp_set kkc (by simp) 2 (.string n)).trans hkd; have bxd : Bx wd (w1.heap.size + 1) 28 #[.int .i64 7, .string ⟨#[]⟩, .string n, .slice none 0 0, .slice none 0 0, .slice none 0 0, .slice none 0 0, .bool false, .int .i64 0, .slice none 0 0] := Bx.kp (bxc.set 2 (.string n)) hkd (by omega); have lxd := bxd.lt; clear ed)
    | (go_at_call 19; have hz := kkb; clear hz; refine (dname_any hE _ hPb).mono ?_; intro e wc hTc; obtain ⟨uc, rfl, hkc, hjc, hPc, hVc⟩ := dtells hTc ec; obtain rfl : uc = .string n := hVc; have kkc := kkb.trans hkc; have bxc : Bx wc (w1.heap.size + 1) 28 #[.int .i64 7, .string ⟨#[]⟩, .string ⟨#[]⟩, .slice none 0 0, .slice none 0 0, .slice none 0 0, .slice none 0 0, .bool false, .int .i64 0, .slice none 0 0] := Bx.kp bxb hkc (by omega); have lxc := bxc.lt; have fxc_2 := bxc.open 2; have cxc_2 : wc.cell? ⟨w1.heap.size + 1, 2, none⟩ = some (.string ⟨#[]⟩) := bxc.cell 2 _ rfl; clear ec)
    | (go_at_call 18; have hz := kka; clear hz; refine (deat_any hE ⟨#[105, 110, 100, 101, 120]⟩ _ hPa).mono ?_; intro e wb hTb; obtain ⟨ub, rfl, hkb, hjb, hPb, hVb⟩ := dtells hTb eb; obtain rfl : ub = .tuple #[] := hVb; have kkb := kka.trans hkb; have bxb : Bx wb (w1.heap.size + 1) 28 #[.int .i64 7, .string ⟨#[]⟩, .string ⟨#[]⟩, .slice none 0 0, .slice none 0 0, .slice none 0 0, .slice none 0 0, .bool false, .int .i64 0, .slice none 0 0] := Bx.kp bxa hkb (by omega); have lxb := bxb.lt; clear eb)
    | (go_at_call 18; have hz := kk3; clear hz; refine (deat_any hE ⟨#[100, 114, 111, 112]⟩ _ (DAt.set hP3 bx3 (by decide) (by omega) 0 (.int .i64 7))).mono ?_; intro e wa hTa; obtain ⟨ua, rfl, hka, hja, hPa, hVa⟩ := dtells hTa ea; obtain rfl : ua = .tuple #[] := hVa; have kka := (kp_set (kk1.trans kk3) (by simp) 0 (.int .i64 7)).trans hka; have bxa : Bx wa (w1.heap.size + 1) 28 #[.int .i64 7, .string ⟨#[]⟩, .string ⟨#[]⟩, .slice none 0 0, .slice none 0 0, .slice none 0 0, .slice none 0 0, .bool false, .int .i64 0, .slice none 0 0] := Bx.kp (bx3.set 0 (.int .i64 7)) hka (by omega); have lxa := bxa.lt; clear ea)
    | (go_at_call 16; have hz := kk2; clear hz; refine (dis_at hbd _ hP2).mono ?_; rintro e w3 ⟨rfl, hk3, hP3⟩; have kk3 := kk2.trans hk3; have bx3 : Bx w3 (w1.heap.size + 1) 28 #[.int .i64 0, .string ⟨#[]⟩, .string ⟨#[]⟩, .slice none 0 0, .slice none 0 0, .slice none 0 0, .slice none 0 0, .bool false, .int .i64 0, .slice none 0 0] := Bx.kp bx0 kk3 (by omega); have lx3 := bx3.lt; have fx3_0 := bx3.open 0; have cx3_0 : w3.cell? ⟨w1.heap.size + 1, 0, none⟩ = some (.int .i64 0) := bx3.cell 0 _ rfl; clear hbd)
    | (go_at_call 16; refine (dis_at hbc _ hP0).mono ?_; rintro e w2 ⟨rfl, hk2, hP2⟩; have kk2 := hk2; clear hbc)
    | ((go_at_call 15; refine (refLex_any s hs _).mono ?_; rintro e w1 ⟨hE1, hb1⟩; rw [hl] at hE1; obtain ⟨v, rfl, ho1⟩ := hE1; obtain ⟨v_o, v_c, rfl⟩ := own_formQ ho1; have hP0 : DAt w1.heap.size (.slice v_o l.length v_c) l ⟨0, false, 0, false⟩ ((w1.alloc (.cells #[.slice v_o l.length v_c, .int .i64 0, .bool false, .int .i64 0, .bool false] 58)).alloc (.cells #[.int .i64 0, .string ⟨#[]⟩, .string ⟨#[]⟩, .slice none 0 0, .slice none 0 0, .slice none 0 0, .slice none 0 0, .bool false, .int .i64 0, .slice none 0 0] 28)) := ⟨(Bx.newB rfl).alloc _, ⟨_, (ho1.alloc _).alloc _⟩, hne, by omega⟩; have brW : Bx (w1.alloc (.cells #[.slice v_o l.length v_c, .int .i64 0, .bool false, .int .i64 0, .bool false] 58)) w.heap.size 28 #[.int .i64 0, .string ⟨#[]⟩, .string ⟨#[]⟩, .slice none 0 0, .slice none 0 0, .slice none 0 0, .slice none 0 0, .bool false, .int .i64 0, .slice none 0 0] := Bx.alloc ((hb1.block _ (by simp)).trans (Bx.newB (by simp) : Bx _ (w.heap.size) 28 #[.int .i64 0, .string ⟨#[]⟩, .string ⟨#[]⟩, .slice none 0 0, .slice none 0 0, .slice none 0 0, .slice none 0 0, .bool false, .int .i64 0, .slice none 0 0])) _; have br0 : Bx ((w1.alloc (.cells #[.slice v_o l.length v_c, .int .i64 0, .bool false, .int .i64 0, .bool false] 58)).alloc (.cells #[.int .i64 0, .string ⟨#[]⟩, .string ⟨#[]⟩, .slice none 0 0, .slice none 0 0, .slice none 0 0, .slice none 0 0, .bool false, .int .i64 0, .slice none 0 0] 28)) w.heap.size 28 #[.int .i64 0, .string ⟨#[]⟩, .string ⟨#[]⟩, .slice none 0 0, .slice none 0 0, .slice none 0 0, .slice none 0 0, .bool false, .int .i64 0, .slice none 0 0] := Bx.alloc (Bx.alloc ((hb1.block _ (by simp)).trans (Bx.newB (by simp) : Bx _ (w.heap.size) 28 #[.int .i64 0, .string ⟨#[]⟩, .string ⟨#[]⟩, .slice none 0 0, .slice none 0 0, .slice none 0 0, .slice none 0 0, .bool false, .int .i64 0, .slice none 0 0])) _) _; have bx0 : Bx ((w1.alloc (.cells #[.slice v_o l.length v_c, .int .i64 0, .bool false, .int .i64 0, .bool false] 58)).alloc (.cells #[.int .i64 0, .string ⟨#[]⟩, .string ⟨#[]⟩, .slice none 0 0, .slice none 0 0, .slice none 0 0, .slice none 0 0, .bool false, .int .i64 0, .slice none 0 0] 28)) (w1.heap.size + 1) 28 #[.int .i64 0, .string ⟨#[]⟩, .string ⟨#[]⟩, .slice none 0 0, .slice none 0 0, .slice none 0 0, .slice none 0 0, .bool false, .int .i64 0, .slice none 0 0] := Bx.newB (by simp); have lw1 : w.heap.size < w1.heap.size := Nat.lt_of_lt_of_le (by simp) hb1.size; have hgW := hP0.g_lt; have kk1 := kp_alloc (World.grownBy.refl (w1.alloc (.cells #[.slice v_o l.length v_c, .int .i64 0, .bool false, .int .i64 0, .bool false] 58)) (some w1.heap.size)) (.cells #[.int .i64 0, .string ⟨#[]⟩, .string ⟨#[]⟩, .slice none 0 0, .slice none 0 0, .slice none 0 0, .slice none 0 0, .bool false, .int .i64 0, .slice none 0 0] 28))))
  obtain ⟨gt, cap, hv, hgt, hne2, ⟨p0, p1, p2, p3, p4⟩, d0, d1, d2, d3, d4, d5, d6⟩ := dat_cells hP6
  have hi := hP6.lt
  have hPg := hP6.g_lt
  have hsm := hP6.sm
  rcases hbad : S5.bad with _ | _
  · rw [hbad] at p2
    have hB6 : Below w.heap.size w w6 := bel_kp ((below_next ((Below.refl _ w).alloc (Nat.le_refl _) _) (Nat.le_refl _) hb1).alloc (by omega) _) kk6 (by omega) (by simp; omega)
    by_cases hk0 : (tokAt l S5.i).k = 0
    · rw [hk0] at d0
      have hcl : closeD l S5 = ((), S5) := by
        unfold closeD
        rw [if_neg (fun h => h.2 hk0)]
      rcases hlong : S5.long with _ | _
      · rw [hlong] at p4
        have ht : tellD (parseD l ⟨0, false, 0, false⟩) = (some x, 0, 0) := by
          rw [hpd.out, hcl]
          unfold tellD
          rw [if_neg (by rw [hbad]; decide), if_neg (by rw [hlong]; decide)]
        go_region
        all_goals go_wp2
        all_goals
          rw [ht]
          refine bodyPost_ret (v := .tuple #[.agg #[.int .i64 x.kind, .string x.table, .string x.name, .slice t.co x.cols.length t.cc, .slice t.vo x.vals.length t.vc, .slice t.so x.sets.length t.sc, .slice t.qo x.conds.length t.qc, .bool x.uniq, .int .i64 x.type, .slice t.yo x.types.length t.yc], .int .i64 0, .int .i64 0]) (by simp [results, Tryz.results5, go_sem, cr6_0, cr6_1, cr6_2, cr6_3, cr6_4, cr6_5, cr6_6, cr6_7, cr6_8, cr6_9, lr6]) rfl ?_
          exact ⟨⟨t, rfl, ((ho6.setsS br6 0 [.int .i64 x.kind, .string x.table, .string x.name, .slice t.co x.cols.length t.cc, .slice t.vo x.vals.length t.vc, .slice t.so x.sets.length t.sc, .slice t.qo x.conds.length t.qc, .bool x.uniq, .int .i64 x.type, .slice t.yo x.types.length t.yc]).kp (kp_drew (World.grownBy.refl _ (some w1.heap.size))) (Nat.lt_succ_self w1.heap.size)).mono (by omega)⟩, (bel_sets (Nat.le_refl w.heap.size) hB6 0 [.int .i64 x.kind, .string x.table, .string x.name, .slice t.co x.cols.length t.cc, .slice t.vo x.vals.length t.vc, .slice t.so x.sets.length t.sc, .slice t.qo x.conds.length t.qc, .bool x.uniq, .int .i64 x.type, .slice t.yo x.types.length t.yc]).drew⟩
      · rw [hlong] at p4
        have ht : tellD (parseD l ⟨0, false, 0, false⟩) = (none, 0, 2) := by
          rw [hpd.out, hcl]
          unfold tellD
          rw [if_neg (by rw [hbad]; decide), if_pos hlong]
        go_region
        all_goals go_wp2
        all_goals
          rw [ht]
          refine bodyPost_ret (v := .tuple #[.agg #[.int .i64 0, .string ⟨#[]⟩, .string ⟨#[]⟩, .slice none 0 0, .slice none 0 0, .slice none 0 0, .slice none 0 0, .bool false, .int .i64 0, .slice none 0 0], .int .i64 0, .int .i64 2]) (by simp [results, Tryz.results5, go_sem, cr6_0, cr6_1, cr6_2, cr6_3, cr6_4, cr6_5, cr6_6, cr6_7, cr6_8, cr6_9, lr6]) rfl ?_
          exact ⟨rfl, (bel_sets (Nat.le_refl w.heap.size) hB6 0 [.int .i64 0, .string ⟨#[]⟩, .string ⟨#[]⟩, .slice none 0 0, .slice none 0 0, .slice none 0 0, .slice none 0 0, .bool false, .int .i64 0, .slice none 0 0]).drew⟩
    · have hkb : ((tokAt l S5.i).k != 0) = true := by simpa using hk0
      have hf : S5.fail l = { S5 with bad := true, p := (tokAt l S5.i).p } := by
        unfold DS.fail
        rw [if_neg (by rw [hbad]; decide)]
      have hcl : closeD l S5 = ((), S5.fail l) := by
        unfold closeD
        rw [if_pos ⟨hbad, hk0⟩]
      have ht : tellD (parseD l ⟨0, false, 0, false⟩) = (none, (tokAt l S5.i).p, 3) := by
        rw [hpd.out, hcl, hf]
        rfl
      go_region
      all_goals
        go_wp2_with (go_at_call 22; refine (dfail_any _ hP6.drew).mono ?_; intro e w7 hT7; obtain ⟨u7, rfl, hk7, hj7, hP7, hV7⟩ := dtells hT7 rfl; obtain rfl : u7 = .tuple #[] := hV7; rw [hf] at hP7; have hB7 : Below w.heap.size w w7 := bel_kp hB6.drew hk7 (by omega) (by simp; omega); have br7 : Bx w7 w.heap.size 28 #[.int .i64 0, .string ⟨#[]⟩, .string ⟨#[]⟩, .slice none 0 0, .slice none 0 0, .slice none 0 0, .slice none 0 0, .bool false, .int .i64 0, .slice none 0 0] := Bx.kp br6.drew hk7 (by omega); have lr7 := br7.lt; have cr7_0 : w7.cell? ⟨w.heap.size, 0, none⟩ = some (.int .i64 0) := br7.cell 0 _ rfl; have fr7_0 := br7.open 0; have cr7_1 : w7.cell? ⟨w.heap.size, 1, none⟩ = some (.string ⟨#[]⟩) := br7.cell 1 _ rfl; have fr7_1 := br7.open 1; have cr7_2 : w7.cell? ⟨w.heap.size, 2, none⟩ = some (.string ⟨#[]⟩) := br7.cell 2 _ rfl; have fr7_2 := br7.open 2; have cr7_3 : w7.cell? ⟨w.heap.size, 3, none⟩ = some (.slice none 0 0) := br7.cell 3 _ rfl; have fr7_3 := br7.open 3; have cr7_4 : w7.cell? ⟨w.heap.size, 4, none⟩ = some (.slice none 0 0) := br7.cell 4 _ rfl; have fr7_4 := br7.open 4; have cr7_5 : w7.cell? ⟨w.heap.size, 5, none⟩ = some (.slice none 0 0) := br7.cell 5 _ rfl; have fr7_5 := br7.open 5; have cr7_6 : w7.cell? ⟨w.heap.size, 6, none⟩ = some (.slice none 0 0) := br7.cell 6 _ rfl; have fr7_6 := br7.open 6; have cr7_7 : w7.cell? ⟨w.heap.size, 7, none⟩ = some (.bool false) := br7.cell 7 _ rfl; have fr7_7 := br7.open 7; have cr7_8 : w7.cell? ⟨w.heap.size, 8, none⟩ = some (.int .i64 0) := br7.cell 8 _ rfl; have fr7_8 := br7.open 8; have cr7_9 : w7.cell? ⟨w.heap.size, 9, none⟩ = some (.slice none 0 0) := br7.cell 9 _ rfl; have fr7_9 := br7.open 9; have q2 : w7.cell? ⟨w1.heap.size, 2, none⟩ = some (.bool true) := hP7.box.cell 2 _ rfl; have q3 : w7.cell? ⟨w1.heap.size, 3, none⟩ = some (.int .i64 ((tokAt l S5.i).p : Int)) := hP7.box.cell 3 _ rfl)
      all_goals go_region
      all_goals go_wp2
      all_goals
        rw [ht]
        refine bodyPost_ret (v := .tuple #[.agg #[.int .i64 0, .string ⟨#[]⟩, .string ⟨#[]⟩, .slice none 0 0, .slice none 0 0, .slice none 0 0, .slice none 0 0, .bool false, .int .i64 0, .slice none 0 0], .int .i64 ((tokAt l S5.i).p : Int), .int .i64 3]) (by simp [results, Tryz.results5, go_sem, cr7_0, cr7_1, cr7_2, cr7_3, cr7_4, cr7_5, cr7_6, cr7_7, cr7_8, cr7_9, lr7]) rfl ?_
        exact ⟨rfl, (bel_sets (Nat.le_refl w.heap.size) hB7 0 [.int .i64 0, .string ⟨#[]⟩, .string ⟨#[]⟩, .slice none 0 0, .slice none 0 0, .slice none 0 0, .slice none 0 0, .bool false, .int .i64 0, .slice none 0 0]).drew⟩
  · rw [hbad] at p2
    go_region
    all_goals go_wp2
    all_goals go_region
    all_goals go_wp2
    have ht : tellD (parseD l ⟨0, false, 0, false⟩) = (none, S5.p, 3) := by
      rw [hpd.out]
      unfold closeD
      rw [if_neg (fun h => by rw [hbad] at h; exact absurd h.1 (by decide))]
      unfold tellD
      rw [if_pos hbad]
    rw [ht]
    have hB6 : Below w.heap.size w w6 := bel_kp ((below_next ((Below.refl _ w).alloc (Nat.le_refl _) _) (Nat.le_refl _) hb1).alloc (by omega) _) kk6 (by omega) (by simp; omega)
    all_goals
      refine bodyPost_ret (v := .tuple #[.agg #[.int .i64 0, .string ⟨#[]⟩, .string ⟨#[]⟩, .slice none 0 0, .slice none 0 0, .slice none 0 0, .slice none 0 0, .bool false, .int .i64 0, .slice none 0 0], .int .i64 (S5.p : Int), .int .i64 3]) (by simp [results, Tryz.results5, go_sem, cr6_0, cr6_1, cr6_2, cr6_3, cr6_4, cr6_5, cr6_6, cr6_7, cr6_8, cr6_9, lr6]) rfl ?_
      exact ⟨rfl, (bel_sets (Nat.le_refl w.heap.size) hB6 0 [.int .i64 0, .string ⟨#[]⟩, .string ⟨#[]⟩, .slice none 0 0, .slice none 0 0, .slice none 0 0, .slice none 0 0, .bool false, .int .i64 0, .slice none 0 0]).drew.drew⟩
set_option maxHeartbeats 2000000 in
theorem dparse_w7 (s : ByteArray) (hs : s.size ≤ 400) (l : List Tok) (q : Nat) (hl : lexAt s 0 = (some l, q)) (hE : EndK l) (hne : 0 < l.length) (hlen : l.length ≤ 401) (hbc : isD l ⟨#[99, 114, 101, 97, 116, 101]⟩ ⟨0, false, 0, false⟩ = false) (hbd : isD l ⟨#[100, 114, 111, 112]⟩ ⟨0, false, 0, false⟩ = true) (hbs : isD l ⟨#[59]⟩ (dropD l ⟨0, false, 0, false⟩).2 = true) (w : World) :
    Calls Tryz.prog 5 #[.string s] w fun e w' => ParseEnd w.heap.size (tellD (parseD l ⟨0, false, 0, false⟩)) e w' ∧ Below w.heap.size w w' := by
  go_enter Tryz.func5, Tryz.ntmps5
  rcases ea : eatD l ⟨#[100, 114, 111, 112]⟩ ⟨0, false, 0, false⟩ with ⟨⟨⟩, Sa⟩
  rcases eb : eatD l ⟨#[105, 110, 100, 101, 120]⟩ Sa with ⟨⟨⟩, Sb⟩
  rcases ec : nameD l Sb with ⟨n, Sc⟩
  rcases ed : eatD l ⟨#[111, 110]⟩ Sc with ⟨⟨⟩, Sd⟩
  rcases ee : nameD l Sd with ⟨tb, S5⟩
  obtain ⟨x, hx⟩ : ∃ x : Stm, Hid (x = { Stm.zero with kind := 7, name := n, table := tb }) := ⟨_, rfl⟩
  obtain ⟨t, ht0⟩ : ∃ t : SS, Hid (t = SS.nil) := ⟨_, rfl⟩
  have er : dropD l ⟨0, false, 0, false⟩ = (x, S5) := by
    rw [hx.out]
    simp only [dropD, bndD, ea, eb, ec, ed, ee, retD]
  rw [er] at hbs
  have hst : stmtD l ⟨0, false, 0, false⟩ = (x, S5) := by simp only [stmtD, optD, hbc, Bool.false_eq_true, if_false, hbd, if_true, er]
  rcases he6 : eatD l ⟨#[59]⟩ S5 with ⟨⟨⟩, S6⟩
  have hpd : Hid (parseD l ⟨0, false, 0, false⟩ = (x, (closeD l S6).2)) := by
    unfold Hid
    simp only [parseD, bndD, hst, semiD, optD, hbs, if_true, retD, he6]
  clear hst er
  go_wp2_with (first
    | (go_at_call 18; have hz := kki; clear hz; refine (deat_any hE ⟨#[59]⟩ _ hPi).mono ?_; intro e w6 hT6; obtain ⟨u6, rfl, hk6, hj6, hP6, hV6⟩ := dtells hT6 he6; obtain rfl : u6 = .tuple #[] := hV6; have kk6 := kki.trans hk6; have bx6 : Bx w6 (w1.heap.size + 1) 28 #[.int .i64 x.kind, .string x.table, .string x.name, .slice t.co x.cols.length t.cc, .slice t.vo x.vals.length t.vc, .slice t.so x.sets.length t.sc, .slice t.qo x.conds.length t.qc, .bool x.uniq, .int .i64 x.type, .slice t.yo x.types.length t.yc] := Bx.kp bxi hk6 (by omega); have br6 : Bx w6 w.heap.size 28 #[.int .i64 0, .string ⟨#[]⟩, .string ⟨#[]⟩, .slice none 0 0, .slice none 0 0, .slice none 0 0, .slice none 0 0, .bool false, .int .i64 0, .slice none 0 0] := Bx.kp bri hk6 (by omega); have ho6 : OwnS _ w6 t x := hoi.kp hk6 (Nat.lt_succ_self w1.heap.size); have lx6 := bx6.lt; have lr6 := br6.lt; have cx6_0 : w6.cell? ⟨w1.heap.size + 1, 0, none⟩ = some (.int .i64 x.kind) := bx6.cell 0 _ rfl; have fx6_0 := bx6.open 0; have cx6_1 : w6.cell? ⟨w1.heap.size + 1, 1, none⟩ = some (.string x.table) := bx6.cell 1 _ rfl; have fx6_1 := bx6.open 1; have cx6_2 : w6.cell? ⟨w1.heap.size + 1, 2, none⟩ = some (.string x.name) := bx6.cell 2 _ rfl; have fx6_2 := bx6.open 2; have cx6_3 : w6.cell? ⟨w1.heap.size + 1, 3, none⟩ = some (.slice t.co x.cols.length t.cc) := bx6.cell 3 _ rfl; have fx6_3 := bx6.open 3; have cx6_4 : w6.cell? ⟨w1.heap.size + 1, 4, none⟩ = some (.slice t.vo x.vals.length t.vc) := bx6.cell 4 _ rfl; have fx6_4 := bx6.open 4; have cx6_5 : w6.cell? ⟨w1.heap.size + 1, 5, none⟩ = some (.slice t.so x.sets.length t.sc) := bx6.cell 5 _ rfl; have fx6_5 := bx6.open 5; have cx6_6 : w6.cell? ⟨w1.heap.size + 1, 6, none⟩ = some (.slice t.qo x.conds.length t.qc) := bx6.cell 6 _ rfl; have fx6_6 := bx6.open 6; have cx6_7 : w6.cell? ⟨w1.heap.size + 1, 7, none⟩ = some (.bool x.uniq) := bx6.cell 7 _ rfl; have fx6_7 := bx6.open 7; have cx6_8 : w6.cell? ⟨w1.heap.size + 1, 8, none⟩ = some (.int .i64 x.type) := bx6.cell 8 _ rfl; have fx6_8 := bx6.open 8; have cx6_9 : w6.cell? ⟨w1.heap.size + 1, 9, none⟩ = some (.slice t.yo x.types.length t.yc) := bx6.cell 9 _ rfl; have fx6_9 := bx6.open 9; have cr6_0 : w6.cell? ⟨w.heap.size, 0, none⟩ = some (.int .i64 0) := br6.cell 0 _ rfl; have fr6_0 := br6.open 0; have cr6_1 : w6.cell? ⟨w.heap.size, 1, none⟩ = some (.string ⟨#[]⟩) := br6.cell 1 _ rfl; have fr6_1 := br6.open 1; have cr6_2 : w6.cell? ⟨w.heap.size, 2, none⟩ = some (.string ⟨#[]⟩) := br6.cell 2 _ rfl; have fr6_2 := br6.open 2; have cr6_3 : w6.cell? ⟨w.heap.size, 3, none⟩ = some (.slice none 0 0) := br6.cell 3 _ rfl; have fr6_3 := br6.open 3; have cr6_4 : w6.cell? ⟨w.heap.size, 4, none⟩ = some (.slice none 0 0) := br6.cell 4 _ rfl; have fr6_4 := br6.open 4; have cr6_5 : w6.cell? ⟨w.heap.size, 5, none⟩ = some (.slice none 0 0) := br6.cell 5 _ rfl; have fr6_5 := br6.open 5; have cr6_6 : w6.cell? ⟨w.heap.size, 6, none⟩ = some (.slice none 0 0) := br6.cell 6 _ rfl; have fr6_6 := br6.open 6; have cr6_7 : w6.cell? ⟨w.heap.size, 7, none⟩ = some (.bool false) := br6.cell 7 _ rfl; have fr6_7 := br6.open 7; have cr6_8 : w6.cell? ⟨w.heap.size, 8, none⟩ = some (.int .i64 0) := br6.cell 8 _ rfl; have fr6_8 := br6.open 8; have cr6_9 : w6.cell? ⟨w.heap.size, 9, none⟩ = some (.slice none 0 0) := br6.cell 9 _ rfl; have fr6_9 := br6.open 9; clear he6)
    | (go_at_call 16; have hz := kk5; clear hz; ( refine (dis_at hbs _ (DAt.set hP5 bx5 (by decide) (by omega) 1 (.string tb))).mono ?_; rintro e wi ⟨rfl, hki, hPi⟩; have kki := (kp_set kk5 (by simp) 1 (.string tb)).trans hki; have bxi : Bx wi (w1.heap.size + 1) 28 #[.int .i64 x.kind, .string x.table, .string x.name, .slice t.co x.cols.length t.cc, .slice t.vo x.vals.length t.vc, .slice t.so x.sets.length t.sc, .slice t.qo x.conds.length t.qc, .bool x.uniq, .int .i64 x.type, .slice t.yo x.types.length t.yc] := (by rw [hx.out, ht0.out]; exact Bx.kp (bx5.set 1 (.string tb)) hki (by omega)); have bri : Bx wi w.heap.size 28 #[.int .i64 0, .string ⟨#[]⟩, .string ⟨#[]⟩, .slice none 0 0, .slice none 0 0, .slice none 0 0, .slice none 0 0, .bool false, .int .i64 0, .slice none 0 0] := Bx.kp brW kki (by omega); have hoi : OwnS (w1.heap.size + 1) wi t x := (by rw [hx.out, ht0.out]; exact ⟨World.ownsRow_nil .., World.ownsRow_nil .., World.ownsRow_nil .., World.ownsRow_nil .., World.ownsRow_nil ..⟩); have lxi := bxi.lt; have lri := bri.lt; have cxi_0 : wi.cell? ⟨w1.heap.size + 1, 0, none⟩ = some (.int .i64 x.kind) := bxi.cell 0 _ rfl; have fxi_0 := bxi.open 0; have cxi_1 : wi.cell? ⟨w1.heap.size + 1, 1, none⟩ = some (.string x.table) := bxi.cell 1 _ rfl; have fxi_1 := bxi.open 1; have cxi_2 : wi.cell? ⟨w1.heap.size + 1, 2, none⟩ = some (.string x.name) := bxi.cell 2 _ rfl; have fxi_2 := bxi.open 2; have cxi_3 : wi.cell? ⟨w1.heap.size + 1, 3, none⟩ = some (.slice t.co x.cols.length t.cc) := bxi.cell 3 _ rfl; have fxi_3 := bxi.open 3; have cxi_4 : wi.cell? ⟨w1.heap.size + 1, 4, none⟩ = some (.slice t.vo x.vals.length t.vc) := bxi.cell 4 _ rfl; have fxi_4 := bxi.open 4; have cxi_5 : wi.cell? ⟨w1.heap.size + 1, 5, none⟩ = some (.slice t.so x.sets.length t.sc) := bxi.cell 5 _ rfl; have fxi_5 := bxi.open 5; have cxi_6 : wi.cell? ⟨w1.heap.size + 1, 6, none⟩ = some (.slice t.qo x.conds.length t.qc) := bxi.cell 6 _ rfl; have fxi_6 := bxi.open 6; have cxi_7 : wi.cell? ⟨w1.heap.size + 1, 7, none⟩ = some (.bool x.uniq) := bxi.cell 7 _ rfl; have fxi_7 := bxi.open 7; have cxi_8 : wi.cell? ⟨w1.heap.size + 1, 8, none⟩ = some (.int .i64 x.type) := bxi.cell 8 _ rfl; have fxi_8 := bxi.open 8; have cxi_9 : wi.cell? ⟨w1.heap.size + 1, 9, none⟩ = some (.slice t.yo x.types.length t.yc) := bxi.cell 9 _ rfl; have fxi_9 := bxi.open 9; have cri_0 : wi.cell? ⟨w.heap.size, 0, none⟩ = some (.int .i64 0) := bri.cell 0 _ rfl; have fri_0 := bri.open 0; have cri_1 : wi.cell? ⟨w.heap.size, 1, none⟩ = some (.string ⟨#[]⟩) := bri.cell 1 _ rfl; have fri_1 := bri.open 1; have cri_2 : wi.cell? ⟨w.heap.size, 2, none⟩ = some (.string ⟨#[]⟩) := bri.cell 2 _ rfl; have fri_2 := bri.open 2; have cri_3 : wi.cell? ⟨w.heap.size, 3, none⟩ = some (.slice none 0 0) := bri.cell 3 _ rfl; have fri_3 := bri.open 3; have cri_4 : wi.cell? ⟨w.heap.size, 4, none⟩ = some (.slice none 0 0) := bri.cell 4 _ rfl; have fri_4 := bri.open 4; have cri_5 : wi.cell? ⟨w.heap.size, 5, none⟩ = some (.slice none 0 0) := bri.cell 5 _ rfl; have fri_5 := bri.open 5; have cri_6 : wi.cell? ⟨w.heap.size, 6, none⟩ = some (.slice none 0 0) := bri.cell 6 _ rfl; have fri_6 := bri.open 6; have cri_7 : wi.cell? ⟨w.heap.size, 7, none⟩ = some (.bool false) := bri.cell 7 _ rfl; have fri_7 := bri.open 7; have cri_8 : wi.cell? ⟨w.heap.size, 8, none⟩ = some (.int .i64 0) := bri.cell 8 _ rfl; have fri_8 := bri.open 8; have cri_9 : wi.cell? ⟨w.heap.size, 9, none⟩ = some (.slice none 0 0) := bri.cell 9 _ rfl; have fri_9 := bri.open 9; clear hbs))
    | (go_at_call 19; have hz := kkd; clear hz; refine (dname_any hE _ hPd).mono ?_; intro e w5 hT5; obtain ⟨u5, rfl, hk5, hj5, hP5, hV5⟩ := dtells hT5 ee; obtain rfl : u5 = .string tb := hV5; have kk5 := kkd.trans hk5; have bx5 : Bx w5 (w1.heap.size + 1) 28 #[.int .i64 7, .string ⟨#[]⟩, .string n, .slice none 0 0, .slice none 0 0, .slice none 0 0, .slice none 0 0, .bool false, .int .i64 0, .slice none 0 0] := Bx.kp bxd hk5 (by omega); have lx5 := bx5.lt; have fx5_1 := bx5.open 1; have cx5_1 : w5.cell? ⟨w1.heap.size + 1, 1, none⟩ = some (.string ⟨#[]⟩) := bx5.cell 1 _ rfl; clear ee)
    | (go_at_call 18; have hz := kkc; clear hz; refine (deat_any hE ⟨#[111, 110]⟩ _ (DAt.set hPc bxc (by decide) (by omega) 2 (.string n))).mono ?_; intro e wd hTd; obtain ⟨ud, rfl, hkd, hjd, hPd, hVd⟩ := dtells hTd ed; obtain rfl : ud = .tuple #[] := hVd; have kkd := (kp_set kkc (by simp) 2 (.string n)).trans hkd; have bxd : Bx wd (w1.heap.size + 1) 28 #[.int .i64 7, .string ⟨#[]⟩, .string n, .slice none 0 0, .slice none 0 0, .slice none 0 0, .slice none 0 0, .bool false, .int .i64 0, .slice none 0 0] := Bx.kp (bxc.set 2 (.string n)) hkd (by omega); have lxd := bxd.lt; clear ed)
    | (go_at_call 19; have hz := kkb; clear hz; refine (dname_any hE _ hPb).mono ?_; intro e wc hTc; obtain ⟨uc, rfl, hkc, hjc, hPc, hVc⟩ := dtells hTc ec; obtain rfl : uc = .string n := hVc; have kkc := kkb.trans hkc; have bxc : Bx wc (w1.heap.size + 1) 28 #[.int .i64 7, .string ⟨#[]⟩, .string ⟨#[]⟩, .slice none 0 0, .slice none 0 0, .slice none 0 0, .slice none 0 0, .bool false, .int .i64 0, .slice none 0 0] := Bx.kp bxb hkc (by omega); have lxc := bxc.lt; have fxc_2 := bxc.open 2; have cxc_2 : wc.cell? ⟨w1.heap.size + 1, 2, none⟩ = some (.string ⟨#[]⟩) := bxc.cell 2 _ rfl; clear ec)
    | (go_at_call 18; have hz := kka; clear hz; refine (deat_any hE ⟨#[105, 110, 100, 101, 120]⟩ _ hPa).mono ?_; intro e wb hTb; obtain ⟨ub, rfl, hkb, hjb, hPb, hVb⟩ := dtells hTb eb; obtain rfl : ub = .tuple #[] := hVb; have kkb := kka.trans hkb; have bxb : Bx wb (w1.heap.size + 1) 28 #[.int .i64 7, .string ⟨#[]⟩, .string ⟨#[]⟩, .slice none 0 0, .slice none 0 0, .slice none 0 0, .slice none 0 0, .bool false, .int .i64 0, .slice none 0 0] := Bx.kp bxa hkb (by omega); have lxb := bxb.lt; clear eb)
    | (go_at_call 18; have hz := kk3; clear hz; refine (deat_any hE ⟨#[100, 114, 111, 112]⟩ _ (DAt.set hP3 bx3 (by decide) (by omega) 0 (.int .i64 7))).mono ?_; intro e wa hTa; obtain ⟨ua, rfl, hka, hja, hPa, hVa⟩ := dtells hTa ea; obtain rfl : ua = .tuple #[] := hVa; have kka := (kp_set (kk1.trans kk3) (by simp) 0 (.int .i64 7)).trans hka; have bxa : Bx wa (w1.heap.size + 1) 28 #[.int .i64 7, .string ⟨#[]⟩, .string ⟨#[]⟩, .slice none 0 0, .slice none 0 0, .slice none 0 0, .slice none 0 0, .bool false, .int .i64 0, .slice none 0 0] := Bx.kp (bx3.set 0 (.int .i64 7)) hka (by omega); have lxa := bxa.lt; clear ea)
    | (go_at_call 16; have hz := kk2; clear hz; refine (dis_at hbd _ hP2).mono ?_; rintro e w3 ⟨rfl, hk3, hP3⟩; have kk3 := kk2.trans hk3; have bx3 : Bx w3 (w1.heap.size + 1) 28 #[.int .i64 0, .string ⟨#[]⟩, .string ⟨#[]⟩, .slice none 0 0, .slice none 0 0, .slice none 0 0, .slice none 0 0, .bool false, .int .i64 0, .slice none 0 0] := Bx.kp bx0 kk3 (by omega); have lx3 := bx3.lt; have fx3_0 := bx3.open 0; have cx3_0 : w3.cell? ⟨w1.heap.size + 1, 0, none⟩ = some (.int .i64 0) := bx3.cell 0 _ rfl; clear hbd)
    | (go_at_call 16; refine (dis_at hbc _ hP0).mono ?_; rintro e w2 ⟨rfl, hk2, hP2⟩; have kk2 := hk2; clear hbc)
    | ((go_at_call 15; refine (refLex_any s hs _).mono ?_; rintro e w1 ⟨hE1, hb1⟩; rw [hl] at hE1; obtain ⟨v, rfl, ho1⟩ := hE1; obtain ⟨v_o, v_c, rfl⟩ := own_formQ ho1; have hP0 : DAt w1.heap.size (.slice v_o l.length v_c) l ⟨0, false, 0, false⟩ ((w1.alloc (.cells #[.slice v_o l.length v_c, .int .i64 0, .bool false, .int .i64 0, .bool false] 58)).alloc (.cells #[.int .i64 0, .string ⟨#[]⟩, .string ⟨#[]⟩, .slice none 0 0, .slice none 0 0, .slice none 0 0, .slice none 0 0, .bool false, .int .i64 0, .slice none 0 0] 28)) := ⟨(Bx.newB rfl).alloc _, ⟨_, (ho1.alloc _).alloc _⟩, hne, by omega⟩; have brW : Bx (w1.alloc (.cells #[.slice v_o l.length v_c, .int .i64 0, .bool false, .int .i64 0, .bool false] 58)) w.heap.size 28 #[.int .i64 0, .string ⟨#[]⟩, .string ⟨#[]⟩, .slice none 0 0, .slice none 0 0, .slice none 0 0, .slice none 0 0, .bool false, .int .i64 0, .slice none 0 0] := Bx.alloc ((hb1.block _ (by simp)).trans (Bx.newB (by simp) : Bx _ (w.heap.size) 28 #[.int .i64 0, .string ⟨#[]⟩, .string ⟨#[]⟩, .slice none 0 0, .slice none 0 0, .slice none 0 0, .slice none 0 0, .bool false, .int .i64 0, .slice none 0 0])) _; have br0 : Bx ((w1.alloc (.cells #[.slice v_o l.length v_c, .int .i64 0, .bool false, .int .i64 0, .bool false] 58)).alloc (.cells #[.int .i64 0, .string ⟨#[]⟩, .string ⟨#[]⟩, .slice none 0 0, .slice none 0 0, .slice none 0 0, .slice none 0 0, .bool false, .int .i64 0, .slice none 0 0] 28)) w.heap.size 28 #[.int .i64 0, .string ⟨#[]⟩, .string ⟨#[]⟩, .slice none 0 0, .slice none 0 0, .slice none 0 0, .slice none 0 0, .bool false, .int .i64 0, .slice none 0 0] := Bx.alloc (Bx.alloc ((hb1.block _ (by simp)).trans (Bx.newB (by simp) : Bx _ (w.heap.size) 28 #[.int .i64 0, .string ⟨#[]⟩, .string ⟨#[]⟩, .slice none 0 0, .slice none 0 0, .slice none 0 0, .slice none 0 0, .bool false, .int .i64 0, .slice none 0 0])) _) _; have bx0 : Bx ((w1.alloc (.cells #[.slice v_o l.length v_c, .int .i64 0, .bool false, .int .i64 0, .bool false] 58)).alloc (.cells #[.int .i64 0, .string ⟨#[]⟩, .string ⟨#[]⟩, .slice none 0 0, .slice none 0 0, .slice none 0 0, .slice none 0 0, .bool false, .int .i64 0, .slice none 0 0] 28)) (w1.heap.size + 1) 28 #[.int .i64 0, .string ⟨#[]⟩, .string ⟨#[]⟩, .slice none 0 0, .slice none 0 0, .slice none 0 0, .slice none 0 0, .bool false, .int .i64 0, .slice none 0 0] := Bx.newB (by simp); have lw1 : w.heap.size < w1.heap.size := Nat.lt_of_lt_of_le (by simp) hb1.size; have hgW := hP0.g_lt; have kk1 := kp_alloc (World.grownBy.refl (w1.alloc (.cells #[.slice v_o l.length v_c, .int .i64 0, .bool false, .int .i64 0, .bool false] 58)) (some w1.heap.size)) (.cells #[.int .i64 0, .string ⟨#[]⟩, .string ⟨#[]⟩, .slice none 0 0, .slice none 0 0, .slice none 0 0, .slice none 0 0, .bool false, .int .i64 0, .slice none 0 0] 28))))
  obtain ⟨gt, cap, hv, hgt, hne2, ⟨p0, p1, p2, p3, p4⟩, d0, d1, d2, d3, d4, d5, d6⟩ := dat_cells hP6
  have hi := hP6.lt
  have hPg := hP6.g_lt
  have hsm := hP6.sm
  rcases hbad : S6.bad with _ | _
  · rw [hbad] at p2
    have hB6 : Below w.heap.size w w6 := bel_kp ((below_next ((Below.refl _ w).alloc (Nat.le_refl _) _) (Nat.le_refl _) hb1).alloc (by omega) _) kk6 (by omega) (by simp; omega)
    by_cases hk0 : (tokAt l S6.i).k = 0
    · rw [hk0] at d0
      have hcl : closeD l S6 = ((), S6) := by
        unfold closeD
        rw [if_neg (fun h => h.2 hk0)]
      rcases hlong : S6.long with _ | _
      · rw [hlong] at p4
        have ht : tellD (parseD l ⟨0, false, 0, false⟩) = (some x, 0, 0) := by
          rw [hpd.out, hcl]
          unfold tellD
          rw [if_neg (by rw [hbad]; decide), if_neg (by rw [hlong]; decide)]
        go_region
        all_goals go_wp2
        all_goals
          rw [ht]
          refine bodyPost_ret (v := .tuple #[.agg #[.int .i64 x.kind, .string x.table, .string x.name, .slice t.co x.cols.length t.cc, .slice t.vo x.vals.length t.vc, .slice t.so x.sets.length t.sc, .slice t.qo x.conds.length t.qc, .bool x.uniq, .int .i64 x.type, .slice t.yo x.types.length t.yc], .int .i64 0, .int .i64 0]) (by simp [results, Tryz.results5, go_sem, cr6_0, cr6_1, cr6_2, cr6_3, cr6_4, cr6_5, cr6_6, cr6_7, cr6_8, cr6_9, lr6]) rfl ?_
          exact ⟨⟨t, rfl, ((ho6.setsS br6 0 [.int .i64 x.kind, .string x.table, .string x.name, .slice t.co x.cols.length t.cc, .slice t.vo x.vals.length t.vc, .slice t.so x.sets.length t.sc, .slice t.qo x.conds.length t.qc, .bool x.uniq, .int .i64 x.type, .slice t.yo x.types.length t.yc]).kp (kp_drew (World.grownBy.refl _ (some w1.heap.size))) (Nat.lt_succ_self w1.heap.size)).mono (by omega)⟩, (bel_sets (Nat.le_refl w.heap.size) hB6 0 [.int .i64 x.kind, .string x.table, .string x.name, .slice t.co x.cols.length t.cc, .slice t.vo x.vals.length t.vc, .slice t.so x.sets.length t.sc, .slice t.qo x.conds.length t.qc, .bool x.uniq, .int .i64 x.type, .slice t.yo x.types.length t.yc]).drew⟩
      · rw [hlong] at p4
        have ht : tellD (parseD l ⟨0, false, 0, false⟩) = (none, 0, 2) := by
          rw [hpd.out, hcl]
          unfold tellD
          rw [if_neg (by rw [hbad]; decide), if_pos hlong]
        go_region
        all_goals go_wp2
        all_goals
          rw [ht]
          refine bodyPost_ret (v := .tuple #[.agg #[.int .i64 0, .string ⟨#[]⟩, .string ⟨#[]⟩, .slice none 0 0, .slice none 0 0, .slice none 0 0, .slice none 0 0, .bool false, .int .i64 0, .slice none 0 0], .int .i64 0, .int .i64 2]) (by simp [results, Tryz.results5, go_sem, cr6_0, cr6_1, cr6_2, cr6_3, cr6_4, cr6_5, cr6_6, cr6_7, cr6_8, cr6_9, lr6]) rfl ?_
          exact ⟨rfl, (bel_sets (Nat.le_refl w.heap.size) hB6 0 [.int .i64 0, .string ⟨#[]⟩, .string ⟨#[]⟩, .slice none 0 0, .slice none 0 0, .slice none 0 0, .slice none 0 0, .bool false, .int .i64 0, .slice none 0 0]).drew⟩
    · have hkb : ((tokAt l S6.i).k != 0) = true := by simpa using hk0
      have hf : S6.fail l = { S6 with bad := true, p := (tokAt l S6.i).p } := by
        unfold DS.fail
        rw [if_neg (by rw [hbad]; decide)]
      have hcl : closeD l S6 = ((), S6.fail l) := by
        unfold closeD
        rw [if_pos ⟨hbad, hk0⟩]
      have ht : tellD (parseD l ⟨0, false, 0, false⟩) = (none, (tokAt l S6.i).p, 3) := by
        rw [hpd.out, hcl, hf]
        rfl
      go_region
      all_goals
        go_wp2_with (go_at_call 22; refine (dfail_any _ hP6.drew).mono ?_; intro e w7 hT7; obtain ⟨u7, rfl, hk7, hj7, hP7, hV7⟩ := dtells hT7 rfl; obtain rfl : u7 = .tuple #[] := hV7; rw [hf] at hP7; have hB7 : Below w.heap.size w w7 := bel_kp hB6.drew hk7 (by omega) (by simp; omega); have br7 : Bx w7 w.heap.size 28 #[.int .i64 0, .string ⟨#[]⟩, .string ⟨#[]⟩, .slice none 0 0, .slice none 0 0, .slice none 0 0, .slice none 0 0, .bool false, .int .i64 0, .slice none 0 0] := Bx.kp br6.drew hk7 (by omega); have lr7 := br7.lt; have cr7_0 : w7.cell? ⟨w.heap.size, 0, none⟩ = some (.int .i64 0) := br7.cell 0 _ rfl; have fr7_0 := br7.open 0; have cr7_1 : w7.cell? ⟨w.heap.size, 1, none⟩ = some (.string ⟨#[]⟩) := br7.cell 1 _ rfl; have fr7_1 := br7.open 1; have cr7_2 : w7.cell? ⟨w.heap.size, 2, none⟩ = some (.string ⟨#[]⟩) := br7.cell 2 _ rfl; have fr7_2 := br7.open 2; have cr7_3 : w7.cell? ⟨w.heap.size, 3, none⟩ = some (.slice none 0 0) := br7.cell 3 _ rfl; have fr7_3 := br7.open 3; have cr7_4 : w7.cell? ⟨w.heap.size, 4, none⟩ = some (.slice none 0 0) := br7.cell 4 _ rfl; have fr7_4 := br7.open 4; have cr7_5 : w7.cell? ⟨w.heap.size, 5, none⟩ = some (.slice none 0 0) := br7.cell 5 _ rfl; have fr7_5 := br7.open 5; have cr7_6 : w7.cell? ⟨w.heap.size, 6, none⟩ = some (.slice none 0 0) := br7.cell 6 _ rfl; have fr7_6 := br7.open 6; have cr7_7 : w7.cell? ⟨w.heap.size, 7, none⟩ = some (.bool false) := br7.cell 7 _ rfl; have fr7_7 := br7.open 7; have cr7_8 : w7.cell? ⟨w.heap.size, 8, none⟩ = some (.int .i64 0) := br7.cell 8 _ rfl; have fr7_8 := br7.open 8; have cr7_9 : w7.cell? ⟨w.heap.size, 9, none⟩ = some (.slice none 0 0) := br7.cell 9 _ rfl; have fr7_9 := br7.open 9; have q2 : w7.cell? ⟨w1.heap.size, 2, none⟩ = some (.bool true) := hP7.box.cell 2 _ rfl; have q3 : w7.cell? ⟨w1.heap.size, 3, none⟩ = some (.int .i64 ((tokAt l S6.i).p : Int)) := hP7.box.cell 3 _ rfl)
      all_goals go_region
      all_goals go_wp2
      all_goals
        rw [ht]
        refine bodyPost_ret (v := .tuple #[.agg #[.int .i64 0, .string ⟨#[]⟩, .string ⟨#[]⟩, .slice none 0 0, .slice none 0 0, .slice none 0 0, .slice none 0 0, .bool false, .int .i64 0, .slice none 0 0], .int .i64 ((tokAt l S6.i).p : Int), .int .i64 3]) (by simp [results, Tryz.results5, go_sem, cr7_0, cr7_1, cr7_2, cr7_3, cr7_4, cr7_5, cr7_6, cr7_7, cr7_8, cr7_9, lr7]) rfl ?_
        exact ⟨rfl, (bel_sets (Nat.le_refl w.heap.size) hB7 0 [.int .i64 0, .string ⟨#[]⟩, .string ⟨#[]⟩, .slice none 0 0, .slice none 0 0, .slice none 0 0, .slice none 0 0, .bool false, .int .i64 0, .slice none 0 0]).drew⟩
  · rw [hbad] at p2
    go_region
    all_goals go_wp2
    all_goals go_region
    all_goals go_wp2
    have ht : tellD (parseD l ⟨0, false, 0, false⟩) = (none, S6.p, 3) := by
      rw [hpd.out]
      unfold closeD
      rw [if_neg (fun h => by rw [hbad] at h; exact absurd h.1 (by decide))]
      unfold tellD
      rw [if_pos hbad]
    rw [ht]
    have hB6 : Below w.heap.size w w6 := bel_kp ((below_next ((Below.refl _ w).alloc (Nat.le_refl _) _) (Nat.le_refl _) hb1).alloc (by omega) _) kk6 (by omega) (by simp; omega)
    all_goals
      refine bodyPost_ret (v := .tuple #[.agg #[.int .i64 0, .string ⟨#[]⟩, .string ⟨#[]⟩, .slice none 0 0, .slice none 0 0, .slice none 0 0, .slice none 0 0, .bool false, .int .i64 0, .slice none 0 0], .int .i64 (S6.p : Int), .int .i64 3]) (by simp [results, Tryz.results5, go_sem, cr6_0, cr6_1, cr6_2, cr6_3, cr6_4, cr6_5, cr6_6, cr6_7, cr6_8, cr6_9, lr6]) rfl ?_
      exact ⟨rfl, (bel_sets (Nat.le_refl w.heap.size) hB6 0 [.int .i64 0, .string ⟨#[]⟩, .string ⟨#[]⟩, .slice none 0 0, .slice none 0 0, .slice none 0 0, .slice none 0 0, .bool false, .int .i64 0, .slice none 0 0]).drew.drew⟩
end Go.Proofs.YtiajlhjjmlakmaaGreatDoor
