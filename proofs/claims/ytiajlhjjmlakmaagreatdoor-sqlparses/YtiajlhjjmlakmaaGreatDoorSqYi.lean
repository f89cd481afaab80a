import Derived.Test.YtiajlhjjmlakmaaGreatDoorSqYf
namespace Go.Proofs.YtiajlhjjmlakmaaGreatDoor
open Go.RowKit Num
set_option linter.unusedSimpArgs false
set_option linter.unusedVariables false
set_option maxRecDepth 100000

set_option maxHeartbeats 2000000 in
theorem dselect_w0 {g : Nat} {v : Value} {l : List Tok} (hE : EndK l) {S S4 : DS} {a : ByteArray} {S6 : DS} {ns : List (ByteArray)} {SL S42 S43 : DS} {t : ByteArray} {S44 : DS} {cs : List (Cnd)} {S45 : DS} (hb1 : isD l ⟨#[105, 110, 115, 101, 114, 116]⟩ S = false) (hb2 : isD l ⟨#[117, 112, 100, 97, 116, 101]⟩ S = false) (hb3 : isD l ⟨#[100, 101, 108, 101, 116, 101]⟩ S = false) (e4 : eatD l ⟨#[115, 101, 108, 101, 99, 116]⟩ S = ((), S4)) (hb5 : isD l ⟨#[42]⟩ S4 = false) (e6 : nameD l S4 = (a, S6)) (eL : moreD l ⟨#[44]⟩ (nameD l) l.length ([a] : List (ByteArray)) S6 = (ns, SL)) (e42 : mostD ns.length SL = ((), S42)) (e43 : eatD l ⟨#[102, 114, 111, 109]⟩ S42 = ((), S43)) (e44 : nameD l S43 = (t, S44)) (e45 : whereD l S44 = (cs, S45)) (w : World) (hP : DAt g v l S w) :
    Calls Tryz.prog 21 #[.pointer (some ⟨g, 0, none⟩)] w (DTells g v l S w VX (rowsD l S)) := by
  have hg0 := hP.g_lt
  have hsm := hP.sm
  have HO : Hid (rowsD l S = ({ Stm.zero with kind := 4, table := t, cols := ns, conds := cs }, S45)) := by
    unfold Hid
    simp only [rowsD, updateD, deleteD, selectD, bndD, optD, retD, incD, hb1, Bool.false_eq_true, if_false, hb2, hb3, e4, hb5, e6, eL, e42, e43, e44, e45]
  go_enter Tryz.func21, Tryz.ntmps21
  go_wp2_with (first
    | (go_at_call 16; refine (dis_at hb5 _ hP4).mono ?_; rintro e w5 ⟨rfl, hk5, hP5⟩; have kk5 := kk4.trans hk5; have hs5 := kk5.size; have br5 := Bx.kp br4 hk5 (by omega); have lr5 := br5.lt; have bx5 := Bx.kp bx4 hk5 (by omega); have lx5 := bx5.lt; have cx5_3 := bx5.t3; have ngr5 : ¬ g = w.heap.size := (by omega); have ngx5 : ¬ g = w.heap.size + 1 := (by omega); have gnr5 : ¬ w.heap.size = g := (by omega); have gnx5 : ¬ w.heap.size + 1 = g := (by omega); clear hb5)
    | (go_at_call 18; refine (deat_any hE ⟨#[115, 101, 108, 101, 99, 116]⟩ _ (hP3.set bx3 (by decide) (by omega) 0 (.int .i64 4))).mono ?_; intro e w4 hT4; obtain ⟨_, rfl, hk4, hj4, hP4, rfl⟩ := dtells hT4 e4; have kk4 := (kp_set kk3 (by omega) 0 (.int .i64 4)).trans hk4; have hs4 := kk4.size; have br4 : Bx w4 (w.heap.size) 28 z10 := Bx.kp (br3.other (by omega) 0 (.int .i64 4)) hk4 (by omega); have lr4 := br4.lt; have bx4 : Bx w4 (w.heap.size + 1) 28 #[.int .i64 4, sZ, sZ, nZ, nZ, nZ, nZ, .bool false, iZ, nZ] := Bx.kp (bx3.set 0 (.int .i64 4)) hk4 (by omega); have lx4 := bx4.lt; have ngr4 : ¬ g = w.heap.size := (by omega); have ngx4 : ¬ g = w.heap.size + 1 := (by omega); have gnr4 : ¬ w.heap.size = g := (by omega); have gnx4 : ¬ w.heap.size + 1 = g := (by omega))
    | (go_at_call 16; refine (dis_at hb3 _ hP2).mono ?_; rintro e w3 ⟨rfl, hk3, hP3⟩; have kk3 := kk2.trans hk3; have hs3 := kk3.size; have br3 := Bx.kp br2 hk3 (by omega); have lr3 := br3.lt; have bx3 := Bx.kp bx2 hk3 (by omega); have lx3 := bx3.lt; have cx3_0 := bx3.t0; have fx3_0 := bx3.open 0; have ngr3 : ¬ g = w.heap.size := (by omega); have ngx3 : ¬ g = w.heap.size + 1 := (by omega); have gnr3 : ¬ w.heap.size = g := (by omega); have gnx3 : ¬ w.heap.size + 1 = g := (by omega); clear hb3)
    | (go_at_call 16; refine (dis_at hb2 _ hP1).mono ?_; rintro e w2 ⟨rfl, hk2, hP2⟩; have kk2 := kk1.trans hk2; have hs2 := kk2.size; have br2 := Bx.kp br1 hk2 (by omega); have lr2 := br2.lt; have bx2 := Bx.kp bx1 hk2 (by omega); have lx2 := bx2.lt; have ngr2 : ¬ g = w.heap.size := (by omega); have ngx2 : ¬ g = w.heap.size + 1 := (by omega); have gnr2 : ¬ w.heap.size = g := (by omega); have gnx2 : ¬ w.heap.size + 1 = g := (by omega); clear hb2)
    | (go_at_call 16; refine (dis_at hb1 _ ((hP.alloc _).alloc _)).mono ?_; rintro e w1 ⟨rfl, hk1, hP1⟩; have kk1 := (kp_alloc (kp_alloc (gr w g) _) _).trans hk1; have hs1 := kk1.size; have br1 : Bx w1 (w.heap.size) 28 z10 := Bx.kp ((Bx.newB (by simp) : Bx _ (w.heap.size) 28 z10).alloc _) hk1 (by omega); have lr1 := br1.lt; have bx1 : Bx w1 (w.heap.size + 1) 28 z10 := Bx.kp (Bx.newB (by simp) : Bx _ (w.heap.size + 1) 28 z10) hk1 (by omega); have lx1 := bx1.lt; have ngr1 : ¬ g = w.heap.size := (by omega); have ngx1 : ¬ g = w.heap.size + 1 := (by omega); have gnr1 : ¬ w.heap.size = g := (by omega); have gnx1 : ¬ w.heap.size + 1 = g := (by omega); clear hb1))
  go_region_law (first
    | (go_simp; go_at_call 19; refine (dname_any hE _ (hP5.drew)).mono ?_
       intro e w6 hT6
       obtain ⟨u6, rfl, hk6, hj6, hP6, hV6⟩ := dtells hT6 e6
       obtain rfl : u6 = .string a := hV6
       have kk6 := (kp_drew kk5).trans hk6
       have hs6 := kk6.size
       have br6 : Bx w6 (w.heap.size) 28 z10 := Bx.kp (br5.drew) hk6 (by omega)
       have lr6 := br6.lt
       have bx6 : Bx w6 (w.heap.size + 1) 28 #[.int .i64 4, sZ, sZ, nZ, nZ, nZ, nZ, .bool false, iZ, nZ] := Bx.kp (bx5.drew) hk6 (by omega)
       have lx6 := bx6.lt
       have ngr6 : ¬ g = w.heap.size := (by omega)
       have ngx6 : ¬ g = w.heap.size + 1 := (by omega)
       have gnr6 : ¬ w.heap.size = g := (by omega)
       have gnx6 : ¬ w.heap.size + 1 = g := (by omega)
       have cq6 := bx6.t3
       have fq6 := bx6.open 3
       obtain ⟨v7, w7, hrun7, hown7, hbel7, hgr7⟩ := runB_str w6 w.heap.size _ ([] : List ByteArray) (World.ownsRow_nil _ _ _ _) a (by first | omega | simp) (by omega)
       obtain ⟨nl_o, nl_c, rfl⟩ := own_formQ hown7
       have kk7 := kp_belowB kk6 hbel7 (Nat.le_refl _)
       have hs7 := kk7.size
       have hP7 : DAt g v l S6 w7 := hP.of_kp kk7 ((hbel7.block g hg0).trans hP6.box) hP6.lt
       have br7 : Bx w7 (w.heap.size) 28 z10 := bx_grow (br6.alloc _) hgr7
       have lr7 := br7.lt
       have bx7 : Bx w7 (w.heap.size + 1) 28 #[.int .i64 4, sZ, sZ, nZ, nZ, nZ, nZ, .bool false, iZ, nZ] := bx_grow (bx6.alloc _) hgr7
       have lx7 := bx7.lt
       have cz7 := bx7.t3
       have fz7 := bx7.open 3)
    | (refine step_app_run rfl _ _ 22 rfl _ _ (by simp [Act.eval]) (by simp [Act.eval]) hrun7 ?_))
  all_goals
    go_wp2
    go_loopw [] (fun wr => ∃ (acc : List (ByteArray)) (T : DS) (n : Nat) (acc_o : Option Addr) (acc_c : Nat), Hid (DAt g v l T wr) ∧ Hid (w.grownBy wr (some g)) ∧ Hid (moreD l ⟨#[44]⟩ (nameD l) n acc T = (ns, SL)) ∧ Hid (l.length ≤ T.i + n) ∧ Hid (acc.length ≤ T.i + 1) ∧ Hid (S.i ≤ T.i) ∧ Hid (Bx wr (w.heap.size) 28 z10) ∧ Hid (Bx wr (w.heap.size + 1) 28 #[.int .i64 4, sZ, sZ, .slice acc_o acc.length acc_c, nZ, nZ, nZ, .bool false, iZ, nZ]) ∧ wr.ownsRow w.heap.size 9 1 (.slice acc_o acc.length acc_c) acc.length (acc.flatMap cS)) (fun wr => l.length - (intOf ((wr.cell? ⟨g, 1, none⟩).getD (.int .i64 0))).toNat)
    case atStart => exact ⟨([a] : List (ByteArray)), S6, l.length, nl_o, nl_c, (hP7.set bx7 (by decide) (by omega) 3 (.slice nl_o (([] : List ByteArray) ++ [a]).length nl_c)), (kp_set kk7 (by omega) 3 (.slice nl_o (([] : List ByteArray) ++ [a]).length nl_c)), eL, by unfold Hid; omega, by unfold Hid; simp, (Nat.le_trans (Nat.le_trans (Nat.le_refl S.i) hj4) hj6), (br7.other (by omega) 3 (.slice nl_o (([] : List ByteArray) ++ [a]).length nl_c)), (bx7.set 3 (.slice nl_o (([] : List ByteArray) ++ [a]).length nl_c)), (row_set hown7 bx7 (by decide) 3 (.slice nl_o (([] : List ByteArray) ++ [a]).length nl_c))⟩
    case round =>
      obtain ⟨acc, T, n, acc_o, acc_c, HP, HK, HL, Hn, Ha, Hi, HBr, HBx, hown⟩ := hrel
      have BBr := HBr.out
      have lBr := BBr.lt
      have BBx := HBx.out
      have lBx := BBx.lt
      have hTl := HP.out.lt
      have hsr : w.heap.size ≤ wr.heap.size := HK.out.size
      rcases Bool.eq_false_or_eq_true (isD l ⟨#[44]⟩ T) with hb | hb
      · have hj1l := isD_lt (fun i x h => (hE i x h).1) hTl hb
        obtain ⟨m, rfl⟩ : ∃ m, n = m + 1 := ⟨n - 1, by have := Hn.out; omega⟩
        have e22 := eatD_yes hb
        rcases e23 : nameD l T.inc with ⟨b, S23⟩
        have HN : Hid (moreD l ⟨#[44]⟩ (nameD l) m (acc ++ [b]) S23 = (ns, SL)) := by
          unfold Hid
          rw [← moreD_more hb m acc e23]
          exact HL.out
        have hal : acc.length ≤ 1001 := by have := Ha.out; omega
        clear HL eL e4 e6
        go_wp2_with (first
          | (go_at_call 18; refine (deat_any hE ⟨#[44]⟩ _ hP21).mono ?_; intro e w22 hT22; obtain ⟨_, rfl, hk22, hj22, hP22, rfl⟩ := dtells hT22 e22; have kk22 := kk21.trans hk22; have hs22 := kk22.size; have br22 := Bx.kp br21 hk22 (by omega); have lr22 := br22.lt; have bx22 := Bx.kp bx21 hk22 (by omega); have lx22 := bx22.lt; have oacc22 := row_kp oacc21 hk22 hg0; have cx22_3 := bx22.t3; have ngr22 : ¬ g = w.heap.size := (by omega); have ngx22 : ¬ g = w.heap.size + 1 := (by omega); have gnr22 : ¬ w.heap.size = g := (by omega); have gnx22 : ¬ w.heap.size + 1 = g := (by omega))
          | (go_at_call 16; refine (dis_at hb _ HP.out).mono ?_; rintro e w21 ⟨rfl, hk21, hP21⟩; have kk21 := HK.out.trans hk21; have hs21 := kk21.size; have br21 := Bx.kp BBr hk21 (by omega); have lr21 := br21.lt; have bx21 := Bx.kp BBx hk21 (by omega); have lx21 := bx21.lt; have oacc21 := row_kp hown hk21 hg0; have ngr21 : ¬ g = w.heap.size := (by omega); have ngx21 : ¬ g = w.heap.size + 1 := (by omega); have gnr21 : ¬ w.heap.size = g := (by omega); have gnx21 : ¬ w.heap.size + 1 = g := (by omega)))
        go_region_law (first
          | (go_simp; go_at_call 19; refine (dname_any hE _ (hP22.drew)).mono ?_
             intro e w23 hT23
             obtain ⟨u23, rfl, hk23, hj23, hP23, hV23⟩ := dtells hT23 e23
             obtain rfl : u23 = .string b := hV23
             have kk23 := (kp_drew kk22).trans hk23
             have hs23 := kk23.size
             have br23 : Bx w23 (w.heap.size) 28 z10 := Bx.kp (br22.drew) hk23 (by omega)
             have lr23 := br23.lt
             have bx23 : Bx w23 (w.heap.size + 1) 28 #[.int .i64 4, sZ, sZ, .slice acc_o acc.length acc_c, nZ, nZ, nZ, .bool false, iZ, nZ] := Bx.kp (bx22.drew) hk23 (by omega)
             have lx23 := bx23.lt
             have oacc23 := row_kp (oacc22.drew) hk23 hg0
             have ngr23 : ¬ g = w.heap.size := (by omega)
             have ngx23 : ¬ g = w.heap.size + 1 := (by omega)
             have gnr23 : ¬ w.heap.size = g := (by omega)
             have gnx23 : ¬ w.heap.size + 1 = g := (by omega)
             have cq23 := bx23.t3
             have fq23 := bx23.open 3
             obtain ⟨v24, w24, hrun24, hown24, hbel24, hgr24⟩ := runB_str w23 w.heap.size _ (acc) (oacc23) b (by first | omega | simp) (by omega)
             obtain ⟨nac_o, nac_c, rfl⟩ := own_formQ hown24
             have kk24 := kp_belowB kk23 hbel24 (Nat.le_refl _)
             have hs24 := kk24.size
             have hP24 : DAt g v l S23 w24 := hP.of_kp kk24 ((hbel24.block g hg0).trans hP23.box) hP23.lt
             have br24 : Bx w24 (w.heap.size) 28 z10 := (br23.alloc _).row (oacc23.alloc _) hgr24 (by decide)
             have lr24 := br24.lt
             have bx24 : Bx w24 (w.heap.size + 1) 28 #[.int .i64 4, sZ, sZ, .slice acc_o acc.length acc_c, nZ, nZ, nZ, .bool false, iZ, nZ] := (bx23.alloc _).row (oacc23.alloc _) hgr24 (by decide)
             have lx24 := bx24.lt
             have cz24 := bx24.t3
             have fz24 := bx24.open 3)
          | (refine step_app_run rfl _ _ 22 rfl _ _ (by simp [Act.eval]) (by simp [Act.eval]) hrun24 ?_))
        all_goals
          go_wp2
          have hLen : (acc ++ [(b : ByteArray)]).length = acc.length + 1 := by simp
          rw [← hLen]
          have hT2i : T.i + 1 ≤ S23.i := hj23
          have hPz := (hP24.set bx24 (by decide) (by omega) 3 (.slice nac_o (acc ++ [(b : ByteArray)]).length nac_c))
          go_roundw
          case rel => exact ⟨_, S23, m, nac_o, nac_c, hPz, (kp_set kk24 (by omega) 3 (.slice nac_o (acc ++ [(b : ByteArray)]).length nac_c)), HN, by unfold Hid; have := Hn.out; omega, by unfold Hid; have := Ha.out; simp; omega, by unfold Hid; have := Hi.out; omega, (br24.other (by omega) 3 (.slice nac_o (acc ++ [(b : ByteArray)]).length nac_c)), (bx24.set 3 (.slice nac_o (acc ++ [(b : ByteArray)]).length nac_c)), (row_set hown24 bx24 (by decide) 3 (.slice nac_o (acc ++ [(b : ByteArray)]).length nac_c))⟩
          case measure =>
            have c1 : wr.cell? ⟨g, 1, none⟩ = some (.int .i64 (T.i : Int)) := HP.out.box.cell 1 _ rfl
            have c2 := hPz.box.cell 1 _ rfl
            rw [c1, c2]
            simp [intOf]
            omega
      · have HL2 : Hid (acc = ns ∧ T = SL) := by
          have h := HL.out
          rw [moreD_stop hb] at h
          exact ⟨(Prod.mk.inj h).1, (Prod.mk.inj h).2⟩
        obtain ⟨rfl, rfl⟩ := HL2.out
        clear HL HL2 eL e4 e6
        go_wp2_with (first
          | (go_at_call 43; refine (dconds_any hE _ (hP44.set bx44 (by decide) (by omega) 1 (.string t))).mono ?_; intro e w45 hT45; obtain ⟨u45, rfl, hk45, hj45, hP45, hV45⟩ := dtells hT45 e45; obtain ⟨cs_o, cs_c, rfl, ho45⟩ := hV45; have oo45 := row_mono ho45 (kp_set kk44 (by omega) 1 (.string t)).size; have kk45 := (kp_set kk44 (by omega) 1 (.string t)).trans hk45; have hs45 := kk45.size; have br45 : Bx w45 (w.heap.size) 28 z10 := Bx.kp (br44.other (by omega) 1 (.string t)) hk45 (by omega); have lr45 := br45.lt; have bx45 : Bx w45 (w.heap.size + 1) 28 #[.int .i64 4, .string t, sZ, .slice acc_o acc.length acc_c, nZ, nZ, nZ, .bool false, iZ, nZ] := Bx.kp (bx44.set 1 (.string t)) hk45 (by omega); have lx45 := bx45.lt; have oacc45 := row_kp (row_set oacc44 bx44 (by decide) 1 (.string t)) hk45 hg0; have cx45_6 := bx45.t6; have fx45_6 := bx45.open 6; have cx45_0 := bx45.t0; have cx45_1 := bx45.t1; have cx45_2 := bx45.t2; have cx45_3 := bx45.t3; have cx45_4 := bx45.t4; have cx45_5 := bx45.t5; have cx45_7 := bx45.t7; have cx45_8 := bx45.t8; have cx45_9 := bx45.t9; obtain ⟨cr45_0, cr45_1, cr45_2, cr45_3, cr45_4, cr45_5, cr45_6, cr45_7, cr45_8, cr45_9⟩ := br45.ten; obtain ⟨fr45_0, fr45_1, fr45_2, fr45_3, fr45_4, fr45_5, fr45_6, fr45_7, fr45_8, fr45_9⟩ := br45.tenO; have ngr45 : ¬ g = w.heap.size := (by omega); have ngx45 : ¬ g = w.heap.size + 1 := (by omega); have gnr45 : ¬ w.heap.size = g := (by omega); have gnx45 : ¬ w.heap.size + 1 = g := (by omega))
          | (go_at_call 19; refine (dname_any hE _ hP43).mono ?_; intro e w44 hT44; obtain ⟨_, rfl, hk44, hj44, hP44, rfl⟩ := dtells hT44 e44; have kk44 := kk43.trans hk44; have hs44 := kk44.size; have br44 := Bx.kp br43 hk44 (by omega); have lr44 := br44.lt; have bx44 := Bx.kp bx43 hk44 (by omega); have lx44 := bx44.lt; have oacc44 := row_kp oacc43 hk44 hg0; have cx44_1 := bx44.t1; have fx44_1 := bx44.open 1; have ngr44 : ¬ g = w.heap.size := (by omega); have ngx44 : ¬ g = w.heap.size + 1 := (by omega); have gnr44 : ¬ w.heap.size = g := (by omega); have gnx44 : ¬ w.heap.size + 1 = g := (by omega))
          | (go_at_call 18; refine (deat_any hE ⟨#[102, 114, 111, 109]⟩ _ hP42).mono ?_; intro e w43 hT43; obtain ⟨_, rfl, hk43, hj43, hP43, rfl⟩ := dtells hT43 e43; have kk43 := kk42.trans hk43; have hs43 := kk43.size; have br43 := Bx.kp br42 hk43 (by omega); have lr43 := br43.lt; have bx43 := Bx.kp bx42 hk43 (by omega); have lx43 := bx43.lt; have oacc43 := row_kp oacc42 hk43 hg0; have ngr43 : ¬ g = w.heap.size := (by omega); have ngx43 : ¬ g = w.heap.size + 1 := (by omega); have gnr43 : ¬ w.heap.size = g := (by omega); have gnx43 : ¬ w.heap.size + 1 = g := (by omega))
          | (go_at_call 39; refine (dmost_any acc.length _ hP41).mono ?_; intro e w42 hT42; obtain ⟨_, rfl, hk42, hj42, hP42, rfl⟩ := dtells hT42 e42; have kk42 := kk41.trans hk42; have hs42 := kk42.size; have br42 := Bx.kp br41 hk42 (by omega); have lr42 := br42.lt; have bx42 := Bx.kp bx41 hk42 (by omega); have lx42 := bx42.lt; have oacc42 := row_kp oacc41 hk42 hg0; have ngr42 : ¬ g = w.heap.size := (by omega); have ngx42 : ¬ g = w.heap.size + 1 := (by omega); have gnr42 : ¬ w.heap.size = g := (by omega); have gnx42 : ¬ w.heap.size + 1 = g := (by omega))
          | (go_at_call 16; refine (dis_at hb _ HP.out).mono ?_; rintro e w41 ⟨rfl, hk41, hP41⟩; have kk41 := HK.out.trans hk41; have hs41 := kk41.size; have br41 := Bx.kp BBr hk41 (by omega); have lr41 := br41.lt; have bx41 := Bx.kp BBx hk41 (by omega); have lx41 := bx41.lt; have oacc41 := row_kp hown hk41 hg0; obtain ⟨cx41_0, cx41_1, cx41_2, cx41_3, cx41_4, cx41_5, cx41_6, cx41_7, cx41_8, cx41_9⟩ := bx41.ten; have ngr41 : ¬ g = w.heap.size := (by omega); have ngx41 : ¬ g = w.heap.size + 1 := (by omega); have gnr41 : ¬ w.heap.size = g := (by omega); have gnx41 : ¬ w.heap.size + 1 = g := (by omega)))
        refine bodyPost_ret (v := .agg #[.int .i64 4, .string t, .string ⟨#[]⟩, .slice acc_o acc.length acc_c, .slice none 0 0, .slice none 0 0, .slice cs_o cs.length cs_c, .bool false, .int .i64 0, .slice none 0 0]) (by simp [results, Tryz.results21, go_sem, cr45_0, cr45_1, cr45_2, cr45_3, cr45_4, cr45_5, cr45_6, cr45_7, cr45_8, cr45_9, lr45, ngr45, gnr45]) rfl ?_
        rw [HO.out]
        exact ⟨(kp_sets (kp_set kk45 (by omega) 6 (.slice cs_o cs.length cs_c)) (by omega) 0 [.int .i64 4, .string t, .string ⟨#[]⟩, .slice acc_o acc.length acc_c, .slice none 0 0, .slice none 0 0, .slice cs_o cs.length cs_c, .bool false, .int .i64 0, .slice none 0 0]), (Nat.le_trans (Nat.le_trans (Nat.le_trans (Nat.le_trans Hi.out hj42) hj43) hj44) hj45), (DAt.sets (hP45.set bx45 (by decide) (by omega) 6 (.slice cs_o cs.length cs_c)) (br45.other (by omega) 6 (.slice cs_o cs.length cs_c)) (by decide) (by omega) 0 [.int .i64 4, .string t, .string ⟨#[]⟩, .slice acc_o acc.length acc_c, .slice none 0 0, .slice none 0 0, .slice cs_o cs.length cs_c, .bool false, .int .i64 0, .slice none 0 0]), _, rfl, ⟨⟨acc_o, acc_c, none, 0, none, 0, cs_o, cs_c, none, 0⟩, rfl, ⟨(row_sets (row_set oacc45 bx45 (by decide) 6 (.slice cs_o cs.length cs_c)) (br45.other (by omega) 6 (.slice cs_o cs.length cs_c)) (by decide) 0 [.int .i64 4, .string t, .string ⟨#[]⟩, .slice acc_o acc.length acc_c, .slice none 0 0, .slice none 0 0, .slice cs_o cs.length cs_c, .bool false, .int .i64 0, .slice none 0 0]), World.ownsRow_nil _ _ _ _, World.ownsRow_nil _ _ _ _, (row_sets (row_set oo45 bx45 (by decide) 6 (.slice cs_o cs.length cs_c)) (br45.other (by omega) 6 (.slice cs_o cs.length cs_c)) (by decide) 0 [.int .i64 4, .string t, .string ⟨#[]⟩, .slice acc_o acc.length acc_c, .slice none 0 0, .slice none 0 0, .slice cs_o cs.length cs_c, .bool false, .int .i64 0, .slice none 0 0]), World.ownsRow_nil _ _ _ _⟩⟩⟩
end Go.Proofs.YtiajlhjjmlakmaaGreatDoor
