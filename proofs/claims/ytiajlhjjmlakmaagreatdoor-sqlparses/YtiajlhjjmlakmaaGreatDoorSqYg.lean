import Derived.Test.YtiajlhjjmlakmaaGreatDoorSqYf
namespace Go.Proofs.YtiajlhjjmlakmaaGreatDoor
open Go.RowKit Num
set_option linter.unusedSimpArgs false
set_option linter.unusedVariables false
set_option maxRecDepth 100000

set_option maxHeartbeats 2000000 in
theorem dinsert_w0 {g : Nat} {v : Value} {l : List Tok} (hE : EndK l) {S S2 S3 : DS} {t : ByteArray} {S4 : DS} {cs : List (ByteArray)} {S5 S6 S7 : DS} {vk vn : Int} {vf : Nat} {vs : ByteArray} {S8 : DS} {ns : List (Val)} {SL S42 S43 : DS} (hb1 : isD l ⟨#[105, 110, 115, 101, 114, 116]⟩ S = true) (e2 : eatD l ⟨#[105, 110, 115, 101, 114, 116]⟩ S = ((), S2)) (e3 : eatD l ⟨#[105, 110, 116, 111]⟩ S2 = ((), S3)) (e4 : nameD l S3 = (t, S4)) (e5 : namesD l S4 = (cs, S5)) (e6 : eatD l ⟨#[118, 97, 108, 117, 101, 115]⟩ S5 = ((), S6)) (e7 : eatD l ⟨#[40]⟩ S6 = ((), S7)) (e8 : valueD l S7 = (⟨vk, vn, vf, vs⟩, S8)) (eL : moreD l ⟨#[44]⟩ (valueD l) l.length ([⟨vk, vn, vf, vs⟩] : List (Val)) S8 = (ns, SL)) (e42 : eatD l ⟨#[41]⟩ SL = ((), S42)) (e43 : mostD ns.length S42 = ((), S43)) (w : World) (hP : DAt g v l S w) :
    Calls Tryz.prog 21 #[.pointer (some ⟨g, 0, none⟩)] w (DTells g v l S w VX (rowsD l S)) := by
  have hg0 := hP.g_lt
  have hsm := hP.sm
  have HO : Hid (rowsD l S = ({ Stm.zero with kind := 1, table := t, cols := cs, vals := ns }, S43)) := by
    unfold Hid
    simp only [rowsD, insertD, bndD, optD, retD, incD, hb1, if_true, e2, e3, e4, e5, e6, e7, e8, eL, e42, e43]
  go_enter Tryz.func21, Tryz.ntmps21
  go_wp2_with (first
    | (go_at_call 18; refine (deat_any hE ⟨#[40]⟩ _ hP6).mono ?_; intro e w7 hT7; obtain ⟨_, rfl, hk7, hj7, hP7, rfl⟩ := dtells hT7 e7; have kk7 := kk6.trans hk7; have hs7 := kk7.size; have br7 := Bx.kp br6 hk7 (by omega); have lr7 := br7.lt; have bx7 := Bx.kp bx6 hk7 (by omega); have lx7 := bx7.lt; have ocs7 := row_kp ocs6 hk7 hg0; have cx7_4 := bx7.t4; have ngr7 : ¬ g = w.heap.size := (by omega); have ngx7 : ¬ g = w.heap.size + 1 := (by omega); have gnr7 : ¬ w.heap.size = g := (by omega); have gnx7 : ¬ w.heap.size + 1 = g := (by omega))
    | (go_at_call 18; refine (deat_any hE ⟨#[118, 97, 108, 117, 101, 115]⟩ _ (hP5.set bx5 (by decide) (by omega) 3 (.slice cs_o cs.length cs_c))).mono ?_; intro e w6 hT6; obtain ⟨_, rfl, hk6, hj6, hP6, rfl⟩ := dtells hT6 e6; have kk6 := (kp_set kk5 (by omega) 3 (.slice cs_o cs.length cs_c)).trans hk6; have hs6 := kk6.size; have br6 : Bx w6 (w.heap.size) 28 z10 := Bx.kp (br5.other (by omega) 3 (.slice cs_o cs.length cs_c)) hk6 (by omega); have lr6 := br6.lt; have bx6 : Bx w6 (w.heap.size + 1) 28 #[.int .i64 1, .string t, sZ, .slice cs_o cs.length cs_c, nZ, nZ, nZ, .bool false, iZ, nZ] := Bx.kp (bx5.set 3 (.slice cs_o cs.length cs_c)) hk6 (by omega); have lx6 := bx6.lt; have ocs6 := row_kp (row_set oo5 bx5 (by decide) 3 (.slice cs_o cs.length cs_c)) hk6 hg0; have ngr6 : ¬ g = w.heap.size := (by omega); have ngx6 : ¬ g = w.heap.size + 1 := (by omega); have gnr6 : ¬ w.heap.size = g := (by omega); have gnx6 : ¬ w.heap.size + 1 = g := (by omega))
    | (go_at_call 40; refine (dnames_any hE _ (hP4.set bx4 (by decide) (by omega) 1 (.string t))).mono ?_; intro e w5 hT5; obtain ⟨u5, rfl, hk5, hj5, hP5, hV5⟩ := dtells hT5 e5; obtain ⟨cs_o, cs_c, rfl, ho5⟩ := hV5; have oo5 := row_mono ho5 (kp_set kk4 (by omega) 1 (.string t)).size; have kk5 := (kp_set kk4 (by omega) 1 (.string t)).trans hk5; have hs5 := kk5.size; have br5 : Bx w5 (w.heap.size) 28 z10 := Bx.kp (br4.other (by omega) 1 (.string t)) hk5 (by omega); have lr5 := br5.lt; have bx5 : Bx w5 (w.heap.size + 1) 28 #[.int .i64 1, .string t, sZ, nZ, nZ, nZ, nZ, .bool false, iZ, nZ] := Bx.kp (bx4.set 1 (.string t)) hk5 (by omega); have lx5 := bx5.lt; have cx5_3 := bx5.t3; have fx5_3 := bx5.open 3; have ngr5 : ¬ g = w.heap.size := (by omega); have ngx5 : ¬ g = w.heap.size + 1 := (by omega); have gnr5 : ¬ w.heap.size = g := (by omega); have gnx5 : ¬ w.heap.size + 1 = g := (by omega))
    | (go_at_call 19; refine (dname_any hE _ hP3).mono ?_; intro e w4 hT4; obtain ⟨_, rfl, hk4, hj4, hP4, rfl⟩ := dtells hT4 e4; have kk4 := kk3.trans hk4; have hs4 := kk4.size; have br4 := Bx.kp br3 hk4 (by omega); have lr4 := br4.lt; have bx4 := Bx.kp bx3 hk4 (by omega); have lx4 := bx4.lt; have cx4_1 := bx4.t1; have fx4_1 := bx4.open 1; have ngr4 : ¬ g = w.heap.size := (by omega); have ngx4 : ¬ g = w.heap.size + 1 := (by omega); have gnr4 : ¬ w.heap.size = g := (by omega); have gnx4 : ¬ w.heap.size + 1 = g := (by omega))
    | (go_at_call 18; refine (deat_any hE ⟨#[105, 110, 116, 111]⟩ _ hP2).mono ?_; intro e w3 hT3; obtain ⟨_, rfl, hk3, hj3, hP3, rfl⟩ := dtells hT3 e3; have kk3 := kk2.trans hk3; have hs3 := kk3.size; have br3 := Bx.kp br2 hk3 (by omega); have lr3 := br3.lt; have bx3 := Bx.kp bx2 hk3 (by omega); have lx3 := bx3.lt; have ngr3 : ¬ g = w.heap.size := (by omega); have ngx3 : ¬ g = w.heap.size + 1 := (by omega); have gnr3 : ¬ w.heap.size = g := (by omega); have gnx3 : ¬ w.heap.size + 1 = g := (by omega))
    | (go_at_call 18; refine (deat_any hE ⟨#[105, 110, 115, 101, 114, 116]⟩ _ (hP1.set bx1 (by decide) (by omega) 0 (.int .i64 1))).mono ?_; intro e w2 hT2; obtain ⟨_, rfl, hk2, hj2, hP2, rfl⟩ := dtells hT2 e2; have kk2 := (kp_set kk1 (by omega) 0 (.int .i64 1)).trans hk2; have hs2 := kk2.size; have br2 : Bx w2 (w.heap.size) 28 z10 := Bx.kp (br1.other (by omega) 0 (.int .i64 1)) hk2 (by omega); have lr2 := br2.lt; have bx2 : Bx w2 (w.heap.size + 1) 28 #[.int .i64 1, sZ, sZ, nZ, nZ, nZ, nZ, .bool false, iZ, nZ] := Bx.kp (bx1.set 0 (.int .i64 1)) hk2 (by omega); have lx2 := bx2.lt; have ngr2 : ¬ g = w.heap.size := (by omega); have ngx2 : ¬ g = w.heap.size + 1 := (by omega); have gnr2 : ¬ w.heap.size = g := (by omega); have gnx2 : ¬ w.heap.size + 1 = g := (by omega))
    | (go_at_call 16; refine (dis_at hb1 _ ((hP.alloc _).alloc _)).mono ?_; rintro e w1 ⟨rfl, hk1, hP1⟩; have kk1 := (kp_alloc (kp_alloc (gr w g) _) _).trans hk1; have hs1 := kk1.size; have br1 : Bx w1 (w.heap.size) 28 z10 := Bx.kp ((Bx.newB (by simp) : Bx _ (w.heap.size) 28 z10).alloc _) hk1 (by omega); have lr1 := br1.lt; have bx1 : Bx w1 (w.heap.size + 1) 28 z10 := Bx.kp (Bx.newB (by simp) : Bx _ (w.heap.size + 1) 28 z10) hk1 (by omega); have lx1 := bx1.lt; have cx1_0 := bx1.t0; have fx1_0 := bx1.open 0; have ngr1 : ¬ g = w.heap.size := (by omega); have ngx1 : ¬ g = w.heap.size + 1 := (by omega); have gnr1 : ¬ w.heap.size = g := (by omega); have gnx1 : ¬ w.heap.size + 1 = g := (by omega); clear hb1))
  go_region_law (first
    | (go_simp; go_at_call 41; refine (dvalue_any hE _ (hP7.drew)).mono ?_
       intro e w8 hT8
       obtain ⟨u8, rfl, hk8, hj8, hP8, hV8⟩ := dtells hT8 e8
       obtain rfl : u8 = .agg #[.int .i64 vk, .int .i64 vn, .int .u64 (vf : Int), .string vs] := hV8
       have kk8 := (kp_drew kk7).trans hk8
       have hs8 := kk8.size
       have br8 : Bx w8 (w.heap.size) 28 z10 := Bx.kp (br7.drew) hk8 (by omega)
       have lr8 := br8.lt
       have bx8 : Bx w8 (w.heap.size + 1) 28 #[.int .i64 1, .string t, sZ, .slice cs_o cs.length cs_c, nZ, nZ, nZ, .bool false, iZ, nZ] := Bx.kp (bx7.drew) hk8 (by omega)
       have lx8 := bx8.lt
       have ocs8 := row_kp (ocs7.drew) hk8 hg0
       have ngr8 : ¬ g = w.heap.size := (by omega)
       have ngx8 : ¬ g = w.heap.size + 1 := (by omega)
       have gnr8 : ¬ w.heap.size = g := (by omega)
       have gnx8 : ¬ w.heap.size + 1 = g := (by omega)
       have cq8 := bx8.t4
       have fq8 := bx8.open 4
       obtain ⟨v9, w9, hrun9, hown9, hbel9, hgr9⟩ := runB_val w8 w.heap.size _ ([] : List Val) (World.ownsRow_nil _ _ _ _) ⟨vk, vn, vf, vs⟩ (by first | omega | simp) (by omega)
       obtain ⟨vl_o, vl_c, rfl⟩ := own_formQ hown9
       have kk9 := kp_belowB kk8 hbel9 (Nat.le_refl _)
       have hs9 := kk9.size
       have hP9 : DAt g v l S8 w9 := hP.of_kp kk9 ((hbel9.block g hg0).trans hP8.box) hP8.lt
       have br9 : Bx w9 (w.heap.size) 28 z10 := bx_grow (br8.alloc _) hgr9
       have lr9 := br9.lt
       have bx9 : Bx w9 (w.heap.size + 1) 28 #[.int .i64 1, .string t, sZ, .slice cs_o cs.length cs_c, nZ, nZ, nZ, .bool false, iZ, nZ] := bx_grow (bx8.alloc _) hgr9
       have lx9 := bx9.lt
       have ocs9 := row_grow (ocs8.alloc _) hgr9
       have cz9 := bx9.t4
       have fz9 := bx9.open 4)
    | (refine step_app_run rfl _ _ 23 rfl _ _ (by simp [Act.eval]) (by simp [Act.eval]) hrun9 ?_))
  all_goals
    go_wp2
    go_loopw [] (fun wr => ∃ (acc : List (Val)) (T : DS) (n : Nat) (acc_o : Option Addr) (acc_c : Nat), Hid (DAt g v l T wr) ∧ Hid (w.grownBy wr (some g)) ∧ Hid (moreD l ⟨#[44]⟩ (valueD l) n acc T = (ns, SL)) ∧ Hid (l.length ≤ T.i + n) ∧ Hid (acc.length ≤ T.i + 1) ∧ Hid (S.i ≤ T.i) ∧ Hid (Bx wr (w.heap.size) 28 z10) ∧ Hid (Bx wr (w.heap.size + 1) 28 #[.int .i64 1, .string t, sZ, .slice cs_o cs.length cs_c, .slice acc_o acc.length acc_c, nZ, nZ, .bool false, iZ, nZ]) ∧ Hid (wr.ownsRow w.heap.size 9 1 (.slice cs_o cs.length cs_c) cs.length (cs.flatMap cS)) ∧ wr.ownsRow w.heap.size 46 4 (.slice acc_o acc.length acc_c) acc.length (acc.flatMap cV)) (fun wr => l.length - (intOf ((wr.cell? ⟨g, 1, none⟩).getD (.int .i64 0))).toNat)
    case atStart => exact ⟨([⟨vk, vn, vf, vs⟩] : List (Val)), S8, l.length, vl_o, vl_c, (hP9.set bx9 (by decide) (by omega) 4 (.slice vl_o (([] : List Val) ++ [(⟨vk, vn, vf, vs⟩ : Val)]).length vl_c)), (kp_set kk9 (by omega) 4 (.slice vl_o (([] : List Val) ++ [(⟨vk, vn, vf, vs⟩ : Val)]).length vl_c)), eL, by unfold Hid; omega, by unfold Hid; simp, (Nat.le_trans (Nat.le_trans (Nat.le_trans (Nat.le_trans (Nat.le_trans (Nat.le_trans (Nat.le_trans (Nat.le_refl S.i) hj2) hj3) hj4) hj5) hj6) hj7) hj8), (br9.other (by omega) 4 (.slice vl_o (([] : List Val) ++ [(⟨vk, vn, vf, vs⟩ : Val)]).length vl_c)), (bx9.set 4 (.slice vl_o (([] : List Val) ++ [(⟨vk, vn, vf, vs⟩ : Val)]).length vl_c)), (row_set ocs9 bx9 (by decide) 4 (.slice vl_o (([] : List Val) ++ [(⟨vk, vn, vf, vs⟩ : Val)]).length vl_c)), (row_set hown9 bx9 (by decide) 4 (.slice vl_o (([] : List Val) ++ [(⟨vk, vn, vf, vs⟩ : Val)]).length vl_c))⟩
    case round =>
      obtain ⟨acc, T, n, acc_o, acc_c, HP, HK, HL, Hn, Ha, Hi, HBr, HBx, Qcs, hown⟩ := hrel
      have BBr := HBr.out
      have lBr := BBr.lt
      have BBx := HBx.out
      have lBx := BBx.lt
      have Rcs := Qcs.out
      have hTl := HP.out.lt
      have hsr : w.heap.size ≤ wr.heap.size := HK.out.size
      rcases Bool.eq_false_or_eq_true (isD l ⟨#[44]⟩ T) with hb | hb
      · have hj1l := isD_lt (fun i x h => (hE i x h).1) hTl hb
        obtain ⟨m, rfl⟩ : ∃ m, n = m + 1 := ⟨n - 1, by have := Hn.out; omega⟩
        have e22 := eatD_yes hb
        rcases e23 : valueD l T.inc with ⟨⟨bk, bn, bf, bs⟩, S23⟩
        have HN : Hid (moreD l ⟨#[44]⟩ (valueD l) m (acc ++ [⟨bk, bn, bf, bs⟩]) S23 = (ns, SL)) := by
          unfold Hid
          rw [← moreD_more hb m acc e23]
          exact HL.out
        have hal : acc.length ≤ 1001 := by have := Ha.out; omega
        clear HL eL e2 e3 e4 e5 e6 e7 e8
        go_wp2_with (first
          | (go_at_call 18; refine (deat_any hE ⟨#[44]⟩ _ hP21).mono ?_; intro e w22 hT22; obtain ⟨_, rfl, hk22, hj22, hP22, rfl⟩ := dtells hT22 e22; have kk22 := kk21.trans hk22; have hs22 := kk22.size; have br22 := Bx.kp br21 hk22 (by omega); have lr22 := br22.lt; have bx22 := Bx.kp bx21 hk22 (by omega); have lx22 := bx22.lt; have ocs22 := row_kp ocs21 hk22 hg0; have oacc22 := row_kp oacc21 hk22 hg0; have cx22_4 := bx22.t4; have ngr22 : ¬ g = w.heap.size := (by omega); have ngx22 : ¬ g = w.heap.size + 1 := (by omega); have gnr22 : ¬ w.heap.size = g := (by omega); have gnx22 : ¬ w.heap.size + 1 = g := (by omega))
          | (go_at_call 16; refine (dis_at hb _ HP.out).mono ?_; rintro e w21 ⟨rfl, hk21, hP21⟩; have kk21 := HK.out.trans hk21; have hs21 := kk21.size; have br21 := Bx.kp BBr hk21 (by omega); have lr21 := br21.lt; have bx21 := Bx.kp BBx hk21 (by omega); have lx21 := bx21.lt; have ocs21 := row_kp Rcs hk21 hg0; have oacc21 := row_kp hown hk21 hg0; have ngr21 : ¬ g = w.heap.size := (by omega); have ngx21 : ¬ g = w.heap.size + 1 := (by omega); have gnr21 : ¬ w.heap.size = g := (by omega); have gnx21 : ¬ w.heap.size + 1 = g := (by omega)))
        go_region_law (first
          | (go_simp; go_at_call 41; refine (dvalue_any hE _ (hP22.drew)).mono ?_
             intro e w23 hT23
             obtain ⟨u23, rfl, hk23, hj23, hP23, hV23⟩ := dtells hT23 e23
             obtain rfl : u23 = .agg #[.int .i64 bk, .int .i64 bn, .int .u64 (bf : Int), .string bs] := hV23
             have kk23 := (kp_drew kk22).trans hk23
             have hs23 := kk23.size
             have br23 : Bx w23 (w.heap.size) 28 z10 := Bx.kp (br22.drew) hk23 (by omega)
             have lr23 := br23.lt
             have bx23 : Bx w23 (w.heap.size + 1) 28 #[.int .i64 1, .string t, sZ, .slice cs_o cs.length cs_c, .slice acc_o acc.length acc_c, nZ, nZ, .bool false, iZ, nZ] := Bx.kp (bx22.drew) hk23 (by omega)
             have lx23 := bx23.lt
             have ocs23 := row_kp (ocs22.drew) hk23 hg0
             have oacc23 := row_kp (oacc22.drew) hk23 hg0
             have ngr23 : ¬ g = w.heap.size := (by omega)
             have ngx23 : ¬ g = w.heap.size + 1 := (by omega)
             have gnr23 : ¬ w.heap.size = g := (by omega)
             have gnx23 : ¬ w.heap.size + 1 = g := (by omega)
             have cq23 := bx23.t4
             have fq23 := bx23.open 4
             obtain ⟨v24, w24, hrun24, hown24, hbel24, hgr24⟩ := runB_val w23 w.heap.size _ (acc) (oacc23) ⟨bk, bn, bf, bs⟩ (by first | omega | simp) (by omega)
             obtain ⟨nac_o, nac_c, rfl⟩ := own_formQ hown24
             have kk24 := kp_belowB kk23 hbel24 (Nat.le_refl _)
             have hs24 := kk24.size
             have hP24 : DAt g v l S23 w24 := hP.of_kp kk24 ((hbel24.block g hg0).trans hP23.box) hP23.lt
             have br24 : Bx w24 (w.heap.size) 28 z10 := (br23.alloc _).row (oacc23.alloc _) hgr24 (by decide)
             have lr24 := br24.lt
             have bx24 : Bx w24 (w.heap.size + 1) 28 #[.int .i64 1, .string t, sZ, .slice cs_o cs.length cs_c, .slice acc_o acc.length acc_c, nZ, nZ, .bool false, iZ, nZ] := (bx23.alloc _).row (oacc23.alloc _) hgr24 (by decide)
             have lx24 := bx24.lt
             have ocs24 := row_row (ocs23.alloc _) (oacc23.alloc _) hgr24 (by decide)
             have cz24 := bx24.t4
             have fz24 := bx24.open 4)
          | (refine step_app_run rfl _ _ 23 rfl _ _ (by simp [Act.eval]) (by simp [Act.eval]) hrun24 ?_))
        all_goals
          go_wp2
          have hLen : (acc ++ [(⟨bk, bn, bf, bs⟩ : Val)]).length = acc.length + 1 := by simp
          rw [← hLen]
          have hT2i : T.i + 1 ≤ S23.i := hj23
          have hPz := (hP24.set bx24 (by decide) (by omega) 4 (.slice nac_o (acc ++ [(⟨bk, bn, bf, bs⟩ : Val)]).length nac_c))
          go_roundw
          case rel => exact ⟨_, S23, m, nac_o, nac_c, hPz, (kp_set kk24 (by omega) 4 (.slice nac_o (acc ++ [(⟨bk, bn, bf, bs⟩ : Val)]).length nac_c)), HN, by unfold Hid; have := Hn.out; omega, by unfold Hid; have := Ha.out; simp; omega, by unfold Hid; have := Hi.out; omega, (br24.other (by omega) 4 (.slice nac_o (acc ++ [(⟨bk, bn, bf, bs⟩ : Val)]).length nac_c)), (bx24.set 4 (.slice nac_o (acc ++ [(⟨bk, bn, bf, bs⟩ : Val)]).length nac_c)), (row_set ocs24 bx24 (by decide) 4 (.slice nac_o (acc ++ [(⟨bk, bn, bf, bs⟩ : Val)]).length nac_c)), (row_set hown24 bx24 (by decide) 4 (.slice nac_o (acc ++ [(⟨bk, bn, bf, bs⟩ : Val)]).length nac_c))⟩
          case measure =>
            have c1 : wr.cell? ⟨g, 1, none⟩ = some (.int .i64 (T.i : Int)) := HP.out.box.cell 1 _ rfl
            have c2 := hPz.box.cell 1 _ rfl
            rw [c1, c2]
            simp [intOf]
            omega
      · have HL2 : Hid (acc = ns ∧ T = SL) := by
          have h := HL.out
          rw [moreD_stop hb] at h
          exact ⟨(Prod.mk.inj h).1, (Prod.mk.inj h).2⟩
        obtain ⟨rfl, rfl⟩ := HL2.out
        clear HL HL2 eL e2 e3 e4 e5 e6 e7 e8
        go_wp2_with (first
          | (go_at_call 39; refine (dmost_any acc.length _ hP42).mono ?_; intro e w43 hT43; obtain ⟨_, rfl, hk43, hj43, hP43, rfl⟩ := dtells hT43 e43; have kk43 := kk42.trans hk43; have hs43 := kk43.size; have br43 := Bx.kp br42 hk43 (by omega); have lr43 := br43.lt; have bx43 := Bx.kp bx42 hk43 (by omega); have lx43 := bx43.lt; have ocs43 := row_kp ocs42 hk43 hg0; have oacc43 := row_kp oacc42 hk43 hg0; obtain ⟨cx43_0, cx43_1, cx43_2, cx43_3, cx43_4, cx43_5, cx43_6, cx43_7, cx43_8, cx43_9⟩ := bx43.ten; obtain ⟨cr43_0, cr43_1, cr43_2, cr43_3, cr43_4, cr43_5, cr43_6, cr43_7, cr43_8, cr43_9⟩ := br43.ten; obtain ⟨fr43_0, fr43_1, fr43_2, fr43_3, fr43_4, fr43_5, fr43_6, fr43_7, fr43_8, fr43_9⟩ := br43.tenO; have ngr43 : ¬ g = w.heap.size := (by omega); have ngx43 : ¬ g = w.heap.size + 1 := (by omega); have gnr43 : ¬ w.heap.size = g := (by omega); have gnx43 : ¬ w.heap.size + 1 = g := (by omega))
          | (go_at_call 18; refine (deat_any hE ⟨#[41]⟩ _ hP41).mono ?_; intro e w42 hT42; obtain ⟨_, rfl, hk42, hj42, hP42, rfl⟩ := dtells hT42 e42; have kk42 := kk41.trans hk42; have hs42 := kk42.size; have br42 := Bx.kp br41 hk42 (by omega); have lr42 := br42.lt; have bx42 := Bx.kp bx41 hk42 (by omega); have lx42 := bx42.lt; have ocs42 := row_kp ocs41 hk42 hg0; have oacc42 := row_kp oacc41 hk42 hg0; obtain ⟨cx42_0, cx42_1, cx42_2, cx42_3, cx42_4, cx42_5, cx42_6, cx42_7, cx42_8, cx42_9⟩ := bx42.ten; have ngr42 : ¬ g = w.heap.size := (by omega); have ngx42 : ¬ g = w.heap.size + 1 := (by omega); have gnr42 : ¬ w.heap.size = g := (by omega); have gnx42 : ¬ w.heap.size + 1 = g := (by omega))
          | (go_at_call 16; refine (dis_at hb _ HP.out).mono ?_; rintro e w41 ⟨rfl, hk41, hP41⟩; have kk41 := HK.out.trans hk41; have hs41 := kk41.size; have br41 := Bx.kp BBr hk41 (by omega); have lr41 := br41.lt; have bx41 := Bx.kp BBx hk41 (by omega); have lx41 := bx41.lt; have ocs41 := row_kp Rcs hk41 hg0; have oacc41 := row_kp hown hk41 hg0; have ngr41 : ¬ g = w.heap.size := (by omega); have ngx41 : ¬ g = w.heap.size + 1 := (by omega); have gnr41 : ¬ w.heap.size = g := (by omega); have gnx41 : ¬ w.heap.size + 1 = g := (by omega)))
        refine bodyPost_ret (v := .agg #[.int .i64 1, .string t, .string ⟨#[]⟩, .slice cs_o cs.length cs_c, .slice acc_o acc.length acc_c, .slice none 0 0, .slice none 0 0, .bool false, .int .i64 0, .slice none 0 0]) (by simp [results, Tryz.results21, go_sem, cr43_0, cr43_1, cr43_2, cr43_3, cr43_4, cr43_5, cr43_6, cr43_7, cr43_8, cr43_9, lr43, ngr43, gnr43]) rfl ?_
        rw [HO.out]
        exact ⟨(kp_sets kk43 (by omega) 0 [.int .i64 1, .string t, .string ⟨#[]⟩, .slice cs_o cs.length cs_c, .slice acc_o acc.length acc_c, .slice none 0 0, .slice none 0 0, .bool false, .int .i64 0, .slice none 0 0]), (Nat.le_trans (Nat.le_trans Hi.out hj42) hj43), (DAt.sets hP43 br43 (by decide) (by omega) 0 [.int .i64 1, .string t, .string ⟨#[]⟩, .slice cs_o cs.length cs_c, .slice acc_o acc.length acc_c, .slice none 0 0, .slice none 0 0, .bool false, .int .i64 0, .slice none 0 0]), _, rfl, ⟨⟨cs_o, cs_c, acc_o, acc_c, none, 0, none, 0, none, 0⟩, rfl, ⟨(row_sets ocs43 br43 (by decide) 0 [.int .i64 1, .string t, .string ⟨#[]⟩, .slice cs_o cs.length cs_c, .slice acc_o acc.length acc_c, .slice none 0 0, .slice none 0 0, .bool false, .int .i64 0, .slice none 0 0]), (row_sets oacc43 br43 (by decide) 0 [.int .i64 1, .string t, .string ⟨#[]⟩, .slice cs_o cs.length cs_c, .slice acc_o acc.length acc_c, .slice none 0 0, .slice none 0 0, .bool false, .int .i64 0, .slice none 0 0]), World.ownsRow_nil _ _ _ _, World.ownsRow_nil _ _ _ _, World.ownsRow_nil _ _ _ _⟩⟩⟩
end Go.Proofs.YtiajlhjjmlakmaaGreatDoor
