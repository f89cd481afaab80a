import Derived.Test.YtiajlhjjmlakmaaGreatDoorSqYf
import Derived.Deep.CutBlock
namespace Go.Proofs.YtiajlhjjmlakmaaGreatDoor
open Go.RowKit Num
set_option linter.unusedSimpArgs false
set_option linter.unusedVariables false
set_option maxRecDepth 100000

def Num.nextT (l : List Tok) (n : Nat) (acc : List (ByteArray × Int)) : Dr (List (ByteArray × Int)) := bndD (columnD l) fun c => if acc = [] then (bndD (eatD l ⟨#[112, 114, 105, 109, 97, 114, 121]⟩) fun _ => bndD (eatD l ⟨#[107, 101, 121]⟩) fun _ => moreD l ⟨#[44]⟩ (columnD l) n (acc ++ [c])) else moreD l ⟨#[44]⟩ (columnD l) n (acc ++ [c])
theorem nextT_ne {l : List Tok} {n : Nat} {acc : List (ByteArray × Int)} (h : acc ≠ []) : nextT l n acc = bndD (columnD l) fun c => moreD l ⟨#[44]⟩ (columnD l) n (acc ++ [c]) := by
 unfold nextT
 congr 1
 funext c
 rw [if_neg h]
set_option maxHeartbeats 2000000 in
theorem dtable_w0 {g : Nat} {v : Value} {l : List Tok} (hE : EndK l) {S S1 S2 S3 S4 SL S5 : DS} {t : ByteArray} {ns : List (ByteArray × Int)} (e1 : eatD l ⟨#[99, 114, 101, 97, 116, 101]⟩ S = ((), S1)) (hb0 : isD l ⟨#[116, 97, 98, 108, 101]⟩ S1 = true) (e2 : eatD l ⟨#[116, 97, 98, 108, 101]⟩ S1 = ((), S2)) (e3 : nameD l S2 = (t, S3)) (e4 : eatD l ⟨#[40]⟩ S3 = ((), S4)) (eL : nextT l l.length [] S4 = (ns, SL)) (e5 : eatD l ⟨#[41]⟩ SL = ((), S5)) (w : World) (hP : DAt g v l S w) :
  Calls Tryz.prog 17 #[.pointer (some ⟨g, 0, none⟩)] w (DTells g v l S w VX (createD l S)) := by
 have hg0 := hP.g_lt
 have hsm := hP.sm
 have HO : Hid (createD l S = ({ Stm.zero with kind := 5, table := t, cols := ns.map (·.1), types := ns.map (·.2) }, (mostD ns.length S5).2)) := by
  unfold Hid
  have h : (bndD (columnD l) fun c => bndD (eatD l ⟨#[112, 114, 105, 109, 97, 114, 121]⟩) fun _ => bndD (eatD l ⟨#[107, 101, 121]⟩) fun _ => bndD (moreD l ⟨#[44]⟩ (columnD l) l.length [c]) fun cs => bndD (eatD l ⟨#[41]⟩) fun _ => bndD (mostD cs.length) fun _ => retD { Stm.zero with kind := 5, table := t, cols := cs.map (fun x : ByteArray × Int => x.1), types := cs.map (fun x : ByteArray × Int => x.2) }) S4 = ({ Stm.zero with kind := 5, table := t, cols := (nextT l l.length [] S4).1.map (fun x : ByteArray × Int => x.1), types := (nextT l l.length [] S4).1.map (fun x : ByteArray × Int => x.2) }, (mostD (nextT l l.length [] S4).1.length (eatD l ⟨#[41]⟩ (nextT l l.length [] S4).2).2).2) := rfl
  simp only [createD, tableD, bndD, optD, e1, hb0, if_true, e2, e3, e4]
  simp only [bndD] at h
  rw [h, eL, e5]
 go_enter Tryz.func17, Tryz.ntmps17
 go_wp2_with (first
  | (go_at_call 18; refine (deat_any hE ⟨#[40]⟩ _ (hP4.alloc _)).mono ?_; intro e w5 hT5; obtain ⟨_, rfl, hk5, hj5, hP5, rfl⟩ := dtells hT5 e4; have kk5 := (kp_alloc kk4 _).trans hk5; have hs5 := kk5.size; have br5 : Bx w5 (w.heap.size) 28 z10 := Bx.kp (br4.alloc _) hk5 (by omega); have lr5 := br5.lt; have bx5 : Bx w5 (w4.heap.size) 28 #[.int .i64 5, .string t, sZ, nZ, nZ, nZ, nZ, .bool false, iZ, nZ] := Bx.kp (Bx.newB (by simp) : Bx _ (w4.heap.size) 28 #[.int .i64 5, .string t, sZ, nZ, nZ, nZ, nZ, .bool false, iZ, nZ]) hk5 (by omega); have lx5 := bx5.lt; have nrx5 : ¬ w.heap.size = w4.heap.size := (by omega); have nxr5 := Ne.symm nrx5; have ngr5 : ¬ g = w.heap.size := (by omega); have ngx5 : ¬ g = w4.heap.size := (by omega); have gnr5 : ¬ w.heap.size = g := (by omega); have gnx5 : ¬ w4.heap.size = g := (by omega))
  | (go_at_call 19; refine (dname_any hE _ hP3).mono ?_; intro e w4 hT4; obtain ⟨_, rfl, hk4, hj4, hP4, rfl⟩ := dtells hT4 e3; have kk4 := kk3.trans hk4; have hs4 := kk4.size; have br4 := Bx.kp br3 hk4 (by omega); have lr4 := br4.lt; have ngr4 : ¬ g = w.heap.size := (by omega); have gnr4 := Ne.symm ngr4)
  | (go_at_call 18; refine (deat_any hE ⟨#[116, 97, 98, 108, 101]⟩ _ hP2).mono ?_; intro e w3 hT3; obtain ⟨_, rfl, hk3, hj3, hP3, rfl⟩ := dtells hT3 e2; have kk3 := kk2.trans hk3; have hs3 := kk3.size; have br3 := Bx.kp br2 hk3 (by omega); have lr3 := br3.lt; have ngr3 : ¬ g = w.heap.size := (by omega); have gnr3 := Ne.symm ngr3)
  | (go_at_call 16; refine (dis_at hb0 _ hP1).mono ?_; rintro e w2 ⟨rfl, hk2, hP2⟩; have kk2 := kk1.trans hk2; have hs2 := kk2.size; have br2 := Bx.kp br1 hk2 (by omega); have lr2 := br2.lt; have ngr2 : ¬ g = w.heap.size := (by omega); have gnr2 := Ne.symm ngr2; skip)
  | (go_at_call 18; refine (deat_any hE ⟨#[99, 114, 101, 97, 116, 101]⟩ _ (hP.alloc _)).mono ?_; intro e w1 hT1; obtain ⟨_, rfl, hk1, hj1, hP1, rfl⟩ := dtells hT1 e1; have kk1 := (kp_alloc (gr w g) _).trans hk1; have hs1 := kk1.size; have br1 : Bx w1 (w.heap.size) 28 z10 := Bx.kp (Bx.newB (by simp) : Bx _ (w.heap.size) 28 z10) hk1 (by omega); have lr1 := br1.lt; have ngr1 : ¬ g = w.heap.size := (by omega); have gnr1 := Ne.symm ngr1))
 go_loopw [] (fun wr => ∃ (cs : List ByteArray) (ts : List Int) (acc : List (ByteArray × Int)) (T : DS) (n : Nat) (c_o y_o : Option Addr) (c_c y_c : Nat), Hid (nextT l n acc T = (ns, SL)) ∧ Hid (acc.map (·.1) = cs ∧ acc.map (·.2) = ts) ∧ Hid (l.length ≤ T.i + n) ∧ Hid (acc.length ≤ T.i) ∧ Hid (S.i ≤ T.i) ∧ Hid (DAt g v l T wr) ∧ Hid (w.grownBy wr (some g)) ∧ Hid (Bx wr (w.heap.size) 28 z10) ∧ Hid (Bx wr (w4.heap.size) 28 #[.int .i64 5, .string t, sZ, .slice c_o (cs).length c_c, nZ, nZ, nZ, .bool false, iZ, .slice y_o (ts).length y_c]) ∧ Hid (wr.ownsRow w.heap.size 9 1 (.slice c_o (cs).length c_c) (cs).length ((cs).flatMap cS)) ∧ Hid (wr.ownsRow w.heap.size 3 1 (.slice y_o (ts).length y_c) (ts).length ((ts).flatMap cI))) (fun wr => l.length - (intOf ((wr.cell? ⟨g, 1, none⟩).getD (.int .i64 0))).toNat)
 case atStart => exact ⟨[], [], [], S4, l.length, none, none, 0, 0, eL, ⟨rfl, rfl⟩, by unfold Hid; omega, by unfold Hid; simp, (Nat.le_trans (Nat.le_trans (Nat.le_trans (Nat.le_trans (Nat.le_refl S.i) hj1) hj3) hj4) hj5), hP5, kk5, br5, bx5, World.ownsRow_nil _ _ _ _, World.ownsRow_nil _ _ _ _⟩
 case round =>
  obtain ⟨cs, ts, acc, T, n, c_o, y_o, c_c, y_c, HL, HA, Hn, Ha, Hi, HP, HK, HR, HX, HC, HT⟩ := hrel
  have hwr1 : Hid (wr.cell? ⟨g, 1, none⟩ = some (.int .i64 (T.i : Int))) := HP.out.box.cell 1 _ rfl
  have hTl := HP.out.lt
  have hal : acc.length ≤ 1000 := by have := Ha.out; omega
  have hcl : Hid (cs.length = acc.length ∧ ts.length = acc.length) := ⟨by rw [← HA.out.1, List.length_map], by rw [← HA.out.2, List.length_map]⟩
  have hcs : cs.length ≤ 1000 := by have := hcl.out; omega
  have hts : ts.length ≤ 1000 := by have := hcl.out; omega
  have hsr : w.heap.size ≤ wr.heap.size := HK.out.size
  rcases e6 : nameD l T with ⟨c, T1⟩
  rcases e7 : kindD l T1 with ⟨k, T2⟩
  have hx3 := HX.out.cell 3 _ rfl
  have hx9 := HX.out.cell 9 _ rfl
  have hxl := HX.out.lt
  clear e1 e2 e3 e4 eL
  go_wp2_with fail
  go_cut [] from 16 to 22 (fun wx => ∃ (n_o : Option Addr) (n_c : Nat), T.i ≤ T1.i ∧ Hid (DAt g v l T1 wx) ∧ Hid (w.grownBy wx (some g)) ∧ Hid (Bx wx (w.heap.size) 28 z10) ∧ Hid (Bx wx (w4.heap.size) 28 #[.int .i64 5, .string t, .string ⟨#[]⟩, .slice n_o (cs ++ [c]).length n_c, .slice none 0 0, .slice none 0 0, .slice none 0 0, .bool false, .int .i64 0, .slice y_o (ts).length y_c]) ∧ Hid (wx.ownsRow w.heap.size 9 1 (.slice n_o (cs ++ [c]).length n_c) (cs ++ [c]).length ((cs ++ [c]).flatMap cS)) ∧ Hid (wx.ownsRow w.heap.size 3 1 (.slice y_o (ts).length y_c) (ts).length ((ts).flatMap cI)))
  case first =>
   go_region_law (first
    | (go_simp; go_at_call 19; refine (dname_any hE _ (HP.out.drew)).mono ?_; intro e w7 hT7; obtain ⟨_, rfl, hk7, hj7, hP7, rfl⟩ := dtells hT7 e6; have kk7 := (kp_drew HK.out).trans hk7; have hs7 := kk7.size; have br7 : Bx w7 (w.heap.size) 28 z10 := Bx.kp (HR.out.drew) hk7 (by omega); have bx7 : Bx w7 (w4.heap.size) 28 #[.int .i64 5, .string t, sZ, .slice c_o cs.length c_c, nZ, nZ, nZ, .bool false, iZ, .slice y_o ts.length y_c] := Bx.kp (HX.out.drew) hk7 (by omega); have lx7 := bx7.lt; have cq7 := bx7.cell 3 _ rfl; have fq7 := bx7.open 3; have oa7 := row_kp (HC.out.drew) hk7 hg0; have ob7 := row_kp (HT.out.drew) hk7 hg0; obtain ⟨v8, w8, hrun8, hown8, hbel8, hgr8⟩ := runB_str w7 w.heap.size _ cs oa7 c (by omega) (by omega); obtain ⟨nw_o, nw_c, rfl⟩ := own_formQ hown8; have kk8 := kp_belowB kk7 hbel8 (Nat.le_refl _); have hP8 : DAt g v l T1 w8 := hP.of_kp kk8 ((hbel8.block g hg0).trans hP7.box) hP7.lt; have br8 := (br7.alloc _).row (oa7.alloc _) hgr8 (by decide); have bx8 := (bx7.alloc _).row (oa7.alloc _) hgr8 (by decide); have ob8 := row_row (ob7.alloc _) (oa7.alloc _) hgr8 (by decide); have hs8 := kk8.size; have lx8 := bx8.lt; have cz8 := bx8.cell 3 _ rfl; have fz8 := bx8.open 3)
    | (refine step_app_run rfl _ _ 22 rfl _ _ (by simp [Act.eval]) (by simp [Act.eval]) hrun8 ?_))
   all_goals
    go_wp2_with fail
    have hLen : (cs ++ [c]).length = cs.length + 1 := by simp
    rw [← hLen]
    go_meet
    case rel => exact ⟨nw_o, nw_c, hj7, (hP8.set bx8 (by decide) (by omega) 3 (.slice nw_o (cs ++ [c]).length nw_c)), kp_set kk8 (by omega) 3 (.slice nw_o (cs ++ [c]).length nw_c), br8.other (by omega) 3 (.slice nw_o (cs ++ [c]).length nw_c), bx8.set 3 (.slice nw_o (cs ++ [c]).length nw_c), row_set hown8 bx8 (by decide) 3 (.slice nw_o (cs ++ [c]).length nw_c), row_set ob8 bx8 (by decide) 3 (.slice nw_o (cs ++ [c]).length nw_c)⟩
  case rest =>
   obtain ⟨n_o, n_c, hj6, HP6, HK6, HR6, HX6, HC6, HT6⟩ := hcut
   have hs6 : w.heap.size ≤ wc.heap.size := HK6.out.size
   have hy9 := HX6.out.cell 9 _ rfl
   have hyl := HX6.out.lt
   clear HP HK HR HX HC HT hx3 hx9 hxl
   go_wp2_with fail
   go_cut [] from 23 to 29 (fun wx => ∃ (z_o : Option Addr) (z_c : Nat), T1.i ≤ T2.i ∧ Hid (DAt g v l T2 wx) ∧ Hid (w.grownBy wx (some g)) ∧ Hid (Bx wx (w.heap.size) 28 z10) ∧ Hid (Bx wx (w4.heap.size) 28 #[.int .i64 5, .string t, .string ⟨#[]⟩, .slice n_o (cs ++ [c]).length n_c, .slice none 0 0, .slice none 0 0, .slice none 0 0, .bool false, .int .i64 0, .slice z_o (ts ++ [k]).length z_c]) ∧ Hid (wx.ownsRow w.heap.size 9 1 (.slice n_o (cs ++ [c]).length n_c) (cs ++ [c]).length ((cs ++ [c]).flatMap cS)) ∧ Hid (wx.ownsRow w.heap.size 3 1 (.slice z_o (ts ++ [k]).length z_c) (ts ++ [k]).length ((ts ++ [k]).flatMap cI)))
   case first =>
    go_region_law (first
     | (go_simp; go_at_call 38; refine (dkind_any hE _ (HP6.out.drew)).mono ?_; intro e w7 hT7; obtain ⟨_, rfl, hk7, hj7, hP7, rfl⟩ := dtells hT7 e7; have kk7 := (kp_drew HK6.out).trans hk7; have hs7 := kk7.size; have br7 : Bx w7 (w.heap.size) 28 z10 := Bx.kp (HR6.out.drew) hk7 (by omega); have bx7 : Bx w7 (w4.heap.size) 28 #[.int .i64 5, .string t, .string ⟨#[]⟩, .slice n_o (cs ++ [c]).length n_c, .slice none 0 0, .slice none 0 0, .slice none 0 0, .bool false, .int .i64 0, .slice y_o ts.length y_c] := Bx.kp (HX6.out.drew) hk7 (by omega); have lx7 := bx7.lt; have cq7 := bx7.cell 9 _ rfl; have fq7 := bx7.open 9; have oa7 := row_kp (HT6.out.drew) hk7 hg0; have ob7 := row_kp (HC6.out.drew) hk7 hg0; obtain ⟨v8, w8, hrun8, hown8, hbel8, hgr8⟩ := runB_int w7 w.heap.size _ ts oa7 k (by omega) (by omega); obtain ⟨nw_o, nw_c, rfl⟩ := own_formQ hown8; have kk8 := kp_belowB kk7 hbel8 (Nat.le_refl _); have hP8 : DAt g v l T2 w8 := hP.of_kp kk8 ((hbel8.block g hg0).trans hP7.box) hP7.lt; have br8 := (br7.alloc _).row (oa7.alloc _) hgr8 (by decide); have bx8 := (bx7.alloc _).row (oa7.alloc _) hgr8 (by decide); have ob8 := row_row (ob7.alloc _) (oa7.alloc _) hgr8 (by decide); have hs8 := kk8.size; have lx8 := bx8.lt; have cz8 := bx8.cell 9 _ rfl; have fz8 := bx8.open 9)
     | (refine step_app_run rfl _ _ 26 rfl _ _ (by simp [Act.eval]) (by simp [Act.eval]) hrun8 ?_))
    all_goals
     go_wp2_with fail
     have hLen : (ts ++ [k]).length = ts.length + 1 := by simp
     rw [← hLen]
     go_meet
     case rel => exact ⟨nw_o, nw_c, hj7, (hP8.set bx8 (by decide) (by omega) 9 (.slice nw_o (ts ++ [k]).length nw_c)), kp_set kk8 (by omega) 9 (.slice nw_o (ts ++ [k]).length nw_c), br8.other (by omega) 9 (.slice nw_o (ts ++ [k]).length nw_c), bx8.set 9 (.slice nw_o (ts ++ [k]).length nw_c), row_set ob8 bx8 (by decide) 9 (.slice nw_o (ts ++ [k]).length nw_c), row_set hown8 bx8 (by decide) 9 (.slice nw_o (ts ++ [k]).length nw_c)⟩
   case rest =>
    obtain ⟨z_o, z_c, hj7, HP7, HK7, HR7, HX7, HC7, HT7⟩ := hcut
    have hs7 : w.heap.size ≤ wc.heap.size := HK7.out.size
    have BBr := HR7.out
    have BBx := HX7.out
    have RRc := HC7.out
    have RRt := HT7.out
    have hz3 : wc.cell? ⟨w4.heap.size, 3, none⟩ = some (.slice n_o (cs ++ [c]).length n_c) := HX7.out.cell 3 _ rfl
    have hzl := HX7.out.lt
    have hzr := HR7.out.lt
    have hcol : columnD l T = ((c, k), T2) := by simp only [columnD, bndD, retD, e6, e7]
    have hm1 : (acc ++ [(c, k)]).map (fun x : ByteArray × Int => x.1) = cs ++ [c] := by rw [List.map_append, HA.out.1]; rfl
    have hm2 : (acc ++ [(c, k)]).map (fun x : ByteArray × Int => x.2) = ts ++ [k] := by rw [List.map_append, HA.out.2]; rfl
    have hLn : (acc ++ [(c, k)]).length = cs.length + 1 := by have := hcl.out; simp; omega
    clear HP6 HK6 HR6 HX6 HC6 HT6 hy9 hyl HR7 HX7 HC7 HT7
    by_cases hacc : acc = []
    ·have hcn : cs = [] := List.eq_nil_of_length_eq_zero (by have := hcl.out; rw [this.1, hacc]; rfl)
     have htn : ts = [] := List.eq_nil_of_length_eq_zero (by have := hcl.out; rw [this.2, hacc]; rfl)
     subst hcn htn
     rcases e31 : eatD l ⟨#[112, 114, 105, 109, 97, 114, 121]⟩ T2 with ⟨⟨⟩, S31⟩
     rcases e32 : eatD l ⟨#[107, 101, 121]⟩ S31 with ⟨⟨⟩, S32⟩
     have HN : Hid (moreD l ⟨#[44]⟩ (columnD l) n (acc ++ [(c, k)]) S32 = (ns, SL)) := by
      have h := HL.out
      unfold nextT at h
      simp only [bndD, hcol, hacc, if_true, e31, e32] at h
      rw [hacc]
      exact h
     clear HL e6 e7
     rcases Bool.eq_false_or_eq_true (isD l ⟨#[44]⟩ S32) with hb | hb
     ·have e34 := eatD_yes hb
      obtain ⟨m, hm⟩ : ∃ m, n = m + 1 ∨ n = 0 := ⟨n - 1, by omega⟩
      go_wp2_with (first
       | (go_at_call 18; refine (deat_any hE ⟨#[44]⟩ _ hP33).mono ?_; intro e w34 hT34; obtain ⟨_, rfl, hk34, hj34, hP34, rfl⟩ := dtells hT34 e34; have kk34 := kk33.trans hk34; have hs34 := kk34.size; have br34 := Bx.kp br33 hk34 (by omega); have lr34 := br34.lt; have bx34 : Bx w34 (w4.heap.size) 28 #[.int .i64 5, .string t, .string ⟨#[]⟩, .slice n_o (([] : List ByteArray) ++ [c]).length n_c, .slice none 0 0, .slice none 0 0, .slice none 0 0, .bool false, .int .i64 0, .slice z_o (([] : List Int) ++ [k]).length z_c] := Bx.kp bx33 hk34 (by omega); have lx34 := bx34.lt; have ocs34 := row_kp ocs33 hk34 hg0; have ots34 := row_kp ots33 hk34 hg0; have nrx34 : ¬ w.heap.size = w4.heap.size := (by omega); have nxr34 := Ne.symm nrx34; have ngr34 : ¬ g = w.heap.size := (by omega); have ngx34 : ¬ g = w4.heap.size := (by omega); have gnr34 : ¬ w.heap.size = g := (by omega); have gnx34 : ¬ w4.heap.size = g := (by omega))
       | (go_at_call 16; refine (dis_at hb _ hP32).mono ?_; rintro e w33 ⟨rfl, hk33, hP33⟩; have kk33 := kk32.trans hk33; have hs33 := kk33.size; have br33 := Bx.kp br32 hk33 (by omega); have lr33 := br33.lt; have bx33 : Bx w33 (w4.heap.size) 28 #[.int .i64 5, .string t, .string ⟨#[]⟩, .slice n_o (([] : List ByteArray) ++ [c]).length n_c, .slice none 0 0, .slice none 0 0, .slice none 0 0, .bool false, .int .i64 0, .slice z_o (([] : List Int) ++ [k]).length z_c] := Bx.kp bx32 hk33 (by omega); have lx33 := bx33.lt; have ocs33 := row_kp ocs32 hk33 hg0; have ots33 := row_kp ots32 hk33 hg0; have nrx33 : ¬ w.heap.size = w4.heap.size := (by omega); have nxr33 := Ne.symm nrx33; have ngr33 : ¬ g = w.heap.size := (by omega); have ngx33 : ¬ g = w4.heap.size := (by omega); have gnr33 : ¬ w.heap.size = g := (by omega); have gnx33 : ¬ w4.heap.size = g := (by omega))
       | (go_at_call 18; refine (deat_any hE ⟨#[107, 101, 121]⟩ _ hP31).mono ?_; intro e w32 hT32; obtain ⟨_, rfl, hk32, hj32, hP32, rfl⟩ := dtells hT32 e32; have kk32 := kk31.trans hk32; have hs32 := kk32.size; have br32 := Bx.kp br31 hk32 (by omega); have lr32 := br32.lt; have bx32 : Bx w32 (w4.heap.size) 28 #[.int .i64 5, .string t, .string ⟨#[]⟩, .slice n_o (([] : List ByteArray) ++ [c]).length n_c, .slice none 0 0, .slice none 0 0, .slice none 0 0, .bool false, .int .i64 0, .slice z_o (([] : List Int) ++ [k]).length z_c] := Bx.kp bx31 hk32 (by omega); have lx32 := bx32.lt; have ocs32 := row_kp ocs31 hk32 hg0; have ots32 := row_kp ots31 hk32 hg0; have nrx32 : ¬ w.heap.size = w4.heap.size := (by omega); have nxr32 := Ne.symm nrx32; have ngr32 : ¬ g = w.heap.size := (by omega); have ngx32 : ¬ g = w4.heap.size := (by omega); have gnr32 : ¬ w.heap.size = g := (by omega); have gnx32 : ¬ w4.heap.size = g := (by omega))
       | (go_at_call 18; refine (deat_any hE ⟨#[112, 114, 105, 109, 97, 114, 121]⟩ _ HP7.out).mono ?_; intro e w31 hT31; obtain ⟨_, rfl, hk31, hj31, hP31, rfl⟩ := dtells hT31 e31; have kk31 := HK7.out.trans hk31; have hs31 := kk31.size; have br31 := Bx.kp BBr hk31 (by omega); have lr31 := br31.lt; have bx31 : Bx w31 (w4.heap.size) 28 #[.int .i64 5, .string t, .string ⟨#[]⟩, .slice n_o (([] : List ByteArray) ++ [c]).length n_c, .slice none 0 0, .slice none 0 0, .slice none 0 0, .bool false, .int .i64 0, .slice z_o (([] : List Int) ++ [k]).length z_c] := Bx.kp BBx hk31 (by omega); have lx31 := bx31.lt; have ocs31 := row_kp RRc hk31 hg0; have ots31 := row_kp RRt hk31 hg0; have nrx31 : ¬ w.heap.size = w4.heap.size := (by omega); have nxr31 := Ne.symm nrx31; have ngr31 : ¬ g = w.heap.size := (by omega); have ngx31 : ¬ g = w4.heap.size := (by omega); have gnr31 : ¬ w.heap.size = g := (by omega); have gnx31 : ¬ w4.heap.size = g := (by omega)))
      have hTT : T.i + 1 ≤ S32.i + 1 := Nat.succ_le_succ (Nat.le_trans (Nat.le_trans (Nat.le_trans hj6 hj7) hj31) hj32)
      have hPz := hP34
      have hj9 : S32.i < l.length := by have h := hPz.lt; have h2 : S32.i + 1 < l.length := h; omega
      have hnm : n = m + 1 := by
       rcases hm with h | h
       ·exact h
       ·exfalso
        have := Hn.out
        omega
      have HN2 : Hid (nextT l m (acc ++ [(c, k)]) S32.inc = (ns, SL)) := by
       have h := HN.out
       rw [hnm] at h
       have h2 : moreD l ⟨#[44]⟩ (columnD l) (m + 1) (acc ++ [(c, k)]) S32 = nextT l m (acc ++ [(c, k)]) S32.inc := by
        show optD _ _ _ _ _ = _
        unfold optD
        rw [hb, if_pos rfl]
        show (bndD (columnD l) fun a => moreD l ⟨#[44]⟩ (columnD l) m (acc ++ [(c, k)] ++ [a])) (eatD l ⟨#[44]⟩ S32).2 = _
        rw [e34, nextT_ne (by simp)]
       rw [← h2]
       exact h
      go_roundw
      case rel => exact ⟨([] : List ByteArray) ++ [c], ([] : List Int) ++ [k], acc ++ [(c, k)], S32.inc, m, n_o, z_o, n_c, z_c, HN2, ⟨hm1, hm2⟩, by unfold Hid; have := Hn.out; show _ ≤ S32.i + 1 + m; omega, by unfold Hid; have := Ha.out; show _ ≤ S32.i + 1; simp; omega, by unfold Hid; have := Hi.out; show _ ≤ S32.i + 1; omega, hPz, kk34, br34, bx34, ocs34, ots34⟩
      case measure =>
       have c1 : wr.cell? ⟨g, 1, none⟩ = some (.int .i64 (T.i : Int)) := hwr1.out
       have c2 := hPz.box.cell 1 _ rfl
       rw [c1, c2]
       show _ < _
       have hq : (S32.inc).i = S32.i + 1 := rfl
       simp [intOf, hq]
       omega
     ·have HL2 : Hid (acc ++ [(c, k)] = ns ∧ S32 = SL) := by
       have h := HN.out
       rw [moreD_stop hb] at h
       exact ⟨(Prod.mk.inj h).1, (Prod.mk.inj h).2⟩
      obtain ⟨h1, h2⟩ := HL2.out
      have e34 : eatD l ⟨#[41]⟩ S32 = ((), S5) := by rw [h2]; exact e5
      rcases e35 : mostD (([] : List ByteArray).length + 1) S5 with ⟨⟨⟩, S35⟩
      have HO2 : Hid (createD l S = ({ Stm.zero with kind := 5, table := t, cols := ([] : List ByteArray) ++ [c], types := ([] : List Int) ++ [k] }, S35)) := by
       unfold Hid
       rw [HO.out, ← h1, hm1, hm2, hLn, e35]
      have hmost : ∀ z : Int, z = (([] : List ByteArray).length : Int) + 1 → ∀ W, DAt g v l S5 W → Calls Tryz.prog 39 #[.pointer (some ⟨g, 0, none⟩), .int .i64 z] W (DTells g v l S5 W VU (mostD (([] : List ByteArray).length + 1) S5)) := fun z hz W h => by
       have h2 := dmost_any (([] : List ByteArray).length + 1) W h
       rw [show ((([] : List ByteArray).length + 1 : Nat) : Int) = z by omega] at h2
       exact h2
      clear HN HL2 h1 h2 HO e5
      go_wp2_with (first
       | (go_at_call 39; refine (hmost _ (by first | rfl | omega) _ hP34).mono ?_; intro e w35 hT35; obtain ⟨_, rfl, hk35, hj35, hP35, rfl⟩ := dtells hT35 e35; have kk35 := kk34.trans hk35; have hs35 := kk35.size; have br35 := Bx.kp br34 hk35 (by omega); have lr35 := br35.lt; have bx35 : Bx w35 (w4.heap.size) 28 #[.int .i64 5, .string t, .string ⟨#[]⟩, .slice n_o (([] : List ByteArray) ++ [c]).length n_c, .slice none 0 0, .slice none 0 0, .slice none 0 0, .bool false, .int .i64 0, .slice z_o (([] : List Int) ++ [k]).length z_c] := Bx.kp bx34 hk35 (by omega); have lx35 := bx35.lt; have ocs35 := row_kp ocs34 hk35 hg0; have ots35 := row_kp ots34 hk35 hg0; have nrx35 : ¬ w.heap.size = w4.heap.size := (by omega); have nxr35 := Ne.symm nrx35; obtain ⟨cx35_0, cx35_1, cx35_2, cx35_3, cx35_4, cx35_5, cx35_6, cx35_7, cx35_8, cx35_9⟩ := bx35.ten; obtain ⟨cr35_0, cr35_1, cr35_2, cr35_3, cr35_4, cr35_5, cr35_6, cr35_7, cr35_8, cr35_9⟩ := br35.ten; obtain ⟨fr35_0, fr35_1, fr35_2, fr35_3, fr35_4, fr35_5, fr35_6, fr35_7, fr35_8, fr35_9⟩ := br35.tenO; have ngr35 : ¬ g = w.heap.size := (by omega); have ngx35 : ¬ g = w4.heap.size := (by omega); have gnr35 : ¬ w.heap.size = g := (by omega); have gnx35 : ¬ w4.heap.size = g := (by omega))
       | (go_at_call 18; refine (deat_any hE ⟨#[41]⟩ _ hP33).mono ?_; intro e w34 hT34; obtain ⟨_, rfl, hk34, hj34, hP34, rfl⟩ := dtells hT34 e34; have kk34 := kk33.trans hk34; have hs34 := kk34.size; have br34 := Bx.kp br33 hk34 (by omega); have lr34 := br34.lt; have bx34 : Bx w34 (w4.heap.size) 28 #[.int .i64 5, .string t, .string ⟨#[]⟩, .slice n_o (([] : List ByteArray) ++ [c]).length n_c, .slice none 0 0, .slice none 0 0, .slice none 0 0, .bool false, .int .i64 0, .slice z_o (([] : List Int) ++ [k]).length z_c] := Bx.kp bx33 hk34 (by omega); have lx34 := bx34.lt; have ocs34 := row_kp ocs33 hk34 hg0; have ots34 := row_kp ots33 hk34 hg0; have nrx34 : ¬ w.heap.size = w4.heap.size := (by omega); have nxr34 := Ne.symm nrx34; obtain ⟨cx34_0, cx34_1, cx34_2, cx34_3, cx34_4, cx34_5, cx34_6, cx34_7, cx34_8, cx34_9⟩ := bx34.ten; have ngr34 : ¬ g = w.heap.size := (by omega); have ngx34 : ¬ g = w4.heap.size := (by omega); have gnr34 : ¬ w.heap.size = g := (by omega); have gnx34 : ¬ w4.heap.size = g := (by omega))
       | (go_at_call 16; refine (dis_at hb _ hP32).mono ?_; rintro e w33 ⟨rfl, hk33, hP33⟩; have kk33 := kk32.trans hk33; have hs33 := kk33.size; have br33 := Bx.kp br32 hk33 (by omega); have lr33 := br33.lt; have bx33 : Bx w33 (w4.heap.size) 28 #[.int .i64 5, .string t, .string ⟨#[]⟩, .slice n_o (([] : List ByteArray) ++ [c]).length n_c, .slice none 0 0, .slice none 0 0, .slice none 0 0, .bool false, .int .i64 0, .slice z_o (([] : List Int) ++ [k]).length z_c] := Bx.kp bx32 hk33 (by omega); have lx33 := bx33.lt; have ocs33 := row_kp ocs32 hk33 hg0; have ots33 := row_kp ots32 hk33 hg0; have nrx33 : ¬ w.heap.size = w4.heap.size := (by omega); have nxr33 := Ne.symm nrx33; have ngr33 : ¬ g = w.heap.size := (by omega); have ngx33 : ¬ g = w4.heap.size := (by omega); have gnr33 : ¬ w.heap.size = g := (by omega); have gnx33 : ¬ w4.heap.size = g := (by omega))
       | (go_at_call 18; refine (deat_any hE ⟨#[107, 101, 121]⟩ _ hP31).mono ?_; intro e w32 hT32; obtain ⟨_, rfl, hk32, hj32, hP32, rfl⟩ := dtells hT32 e32; have kk32 := kk31.trans hk32; have hs32 := kk32.size; have br32 := Bx.kp br31 hk32 (by omega); have lr32 := br32.lt; have bx32 : Bx w32 (w4.heap.size) 28 #[.int .i64 5, .string t, .string ⟨#[]⟩, .slice n_o (([] : List ByteArray) ++ [c]).length n_c, .slice none 0 0, .slice none 0 0, .slice none 0 0, .bool false, .int .i64 0, .slice z_o (([] : List Int) ++ [k]).length z_c] := Bx.kp bx31 hk32 (by omega); have lx32 := bx32.lt; have ocs32 := row_kp ocs31 hk32 hg0; have ots32 := row_kp ots31 hk32 hg0; have nrx32 : ¬ w.heap.size = w4.heap.size := (by omega); have nxr32 := Ne.symm nrx32; have ngr32 : ¬ g = w.heap.size := (by omega); have ngx32 : ¬ g = w4.heap.size := (by omega); have gnr32 : ¬ w.heap.size = g := (by omega); have gnx32 : ¬ w4.heap.size = g := (by omega))
       | (go_at_call 18; refine (deat_any hE ⟨#[112, 114, 105, 109, 97, 114, 121]⟩ _ HP7.out).mono ?_; intro e w31 hT31; obtain ⟨_, rfl, hk31, hj31, hP31, rfl⟩ := dtells hT31 e31; have kk31 := HK7.out.trans hk31; have hs31 := kk31.size; have br31 := Bx.kp BBr hk31 (by omega); have lr31 := br31.lt; have bx31 : Bx w31 (w4.heap.size) 28 #[.int .i64 5, .string t, .string ⟨#[]⟩, .slice n_o (([] : List ByteArray) ++ [c]).length n_c, .slice none 0 0, .slice none 0 0, .slice none 0 0, .bool false, .int .i64 0, .slice z_o (([] : List Int) ++ [k]).length z_c] := Bx.kp BBx hk31 (by omega); have lx31 := bx31.lt; have ocs31 := row_kp RRc hk31 hg0; have ots31 := row_kp RRt hk31 hg0; have nrx31 : ¬ w.heap.size = w4.heap.size := (by omega); have nxr31 := Ne.symm nrx31; have ngr31 : ¬ g = w.heap.size := (by omega); have ngx31 : ¬ g = w4.heap.size := (by omega); have gnr31 : ¬ w.heap.size = g := (by omega); have gnx31 : ¬ w4.heap.size = g := (by omega)))
      refine bodyPost_ret (v := .agg #[.int .i64 5, .string t, .string ⟨#[]⟩, .slice n_o (([] : List ByteArray) ++ [c]).length n_c, .slice none 0 0, .slice none 0 0, .slice none 0 0, .bool false, .int .i64 0, .slice z_o (([] : List Int) ++ [k]).length z_c]) (by simp [results, Tryz.results17, go_sem, cr35_0, cr35_1, cr35_2, cr35_3, cr35_4, cr35_5, cr35_6, cr35_7, cr35_8, cr35_9, lr35, ngr35, gnr35]) rfl ?_
      rw [HO2.out]
      exact ⟨(kp_sets kk35 (by omega) 0 [.int .i64 5, .string t, .string ⟨#[]⟩, .slice n_o (([] : List ByteArray) ++ [c]).length n_c, .slice none 0 0, .slice none 0 0, .slice none 0 0, .bool false, .int .i64 0, .slice z_o (([] : List Int) ++ [k]).length z_c]), (Nat.le_trans (Nat.le_trans (Nat.le_trans (Nat.le_trans (Nat.le_trans Hi.out (Nat.le_trans hj6 hj7)) hj31) hj32) hj34) hj35), (DAt.sets hP35 br35 (by decide) (by omega) 0 [.int .i64 5, .string t, .string ⟨#[]⟩, .slice n_o (([] : List ByteArray) ++ [c]).length n_c, .slice none 0 0, .slice none 0 0, .slice none 0 0, .bool false, .int .i64 0, .slice z_o (([] : List Int) ++ [k]).length z_c]), _, rfl, ⟨⟨n_o, n_c, none, 0, none, 0, none, 0, z_o, z_c⟩, rfl, ⟨(row_sets ocs35 br35 (by decide) 0 [.int .i64 5, .string t, .string ⟨#[]⟩, .slice n_o (([] : List ByteArray) ++ [c]).length n_c, .slice none 0 0, .slice none 0 0, .slice none 0 0, .bool false, .int .i64 0, .slice z_o (([] : List Int) ++ [k]).length z_c]), World.ownsRow_nil _ _ _ _, World.ownsRow_nil _ _ _ _, World.ownsRow_nil _ _ _ _, (row_sets ots35 br35 (by decide) 0 [.int .i64 5, .string t, .string ⟨#[]⟩, .slice n_o (([] : List ByteArray) ++ [c]).length n_c, .slice none 0 0, .slice none 0 0, .slice none 0 0, .bool false, .int .i64 0, .slice z_o (([] : List Int) ++ [k]).length z_c])⟩⟩⟩
    ·have HN : Hid (moreD l ⟨#[44]⟩ (columnD l) n (acc ++ [(c, k)]) T2 = (ns, SL)) := by
      have h := HL.out
      unfold nextT at h
      simp only [bndD, hcol, hacc, if_false] at h
      exact h
     obtain ⟨CS, hCS⟩ : ∃ CS, CS = cs ++ [c] := ⟨_, rfl⟩
     obtain ⟨TS, hTS⟩ : ∃ TS, TS = ts ++ [k] := ⟨_, rfl⟩
     have hCL : CS.length = cs.length + 1 := by rw [hCS]; simp
     rw [← hCS] at BBx RRc hz3 hm1
     rw [← hTS] at BBx RRt hm2
     rw [← hCL] at hLn
     have hgd : ((CS.length : Int) == 1) = false := by have := hcl.out; rw [beq_eq_false_iff_ne]; intro h; exact hacc (List.eq_nil_of_length_eq_zero (by omega))
     have hc0 : ¬ (CS.length : Int) = 1 := by have := hcl.out; intro h; exact hacc (List.eq_nil_of_length_eq_zero (by omega))
     clear HL e6 e7
     clear hCS hTS
     rcases Bool.eq_false_or_eq_true (isD l ⟨#[44]⟩ T2) with hb | hb
     ·have e32 := eatD_yes hb
      obtain ⟨m, hm⟩ : ∃ m, n = m + 1 ∨ n = 0 := ⟨n - 1, by omega⟩
      go_wp2_with (first
       | (go_at_call 18; refine (deat_any hE ⟨#[44]⟩ _ hP31).mono ?_; intro e w32 hT32; obtain ⟨_, rfl, hk32, hj32, hP32, rfl⟩ := dtells hT32 e32; have kk32 := kk31.trans hk32; have hs32 := kk32.size; have br32 := Bx.kp br31 hk32 (by omega); have lr32 := br32.lt; have bx32 := Bx.kp bx31 hk32 (by omega); have lx32 := bx32.lt; have ocs32 := row_kp ocs31 hk32 hg0; have ots32 := row_kp ots31 hk32 hg0; have nrx32 : ¬ w.heap.size = w4.heap.size := (by omega); have nxr32 := Ne.symm nrx32; have ngr32 : ¬ g = w.heap.size := (by omega); have ngx32 : ¬ g = w4.heap.size := (by omega); have gnr32 : ¬ w.heap.size = g := (by omega); have gnx32 : ¬ w4.heap.size = g := (by omega))
       | (go_at_call 16; refine (dis_at hb _ HP7.out).mono ?_; rintro e w31 ⟨rfl, hk31, hP31⟩; have kk31 := HK7.out.trans hk31; have hs31 := kk31.size; have br31 := Bx.kp BBr hk31 (by omega); have lr31 := br31.lt; have bx31 := Bx.kp BBx hk31 (by omega); have lx31 := bx31.lt; have ocs31 := row_kp RRc hk31 hg0; have ots31 := row_kp RRt hk31 hg0; have nrx31 : ¬ w.heap.size = w4.heap.size := (by omega); have nxr31 := Ne.symm nrx31; have ngr31 : ¬ g = w.heap.size := (by omega); have ngx31 : ¬ g = w4.heap.size := (by omega); have gnr31 : ¬ w.heap.size = g := (by omega); have gnx31 : ¬ w4.heap.size = g := (by omega)))
      have hTT : T.i + 1 ≤ T2.i + 1 := Nat.succ_le_succ (Nat.le_trans hj6 hj7)
      have hPz := hP32
      have hj9 : T2.i < l.length := by have h := hPz.lt; have h2 : T2.i + 1 < l.length := h; omega
      have hnm : n = m + 1 := by
       rcases hm with h | h
       ·exact h
       ·exfalso
        have := Hn.out
        omega
      have HN2 : Hid (nextT l m (acc ++ [(c, k)]) T2.inc = (ns, SL)) := by
       have h := HN.out
       rw [hnm] at h
       have h2 : moreD l ⟨#[44]⟩ (columnD l) (m + 1) (acc ++ [(c, k)]) T2 = nextT l m (acc ++ [(c, k)]) T2.inc := by
        show optD _ _ _ _ _ = _
        unfold optD
        rw [hb, if_pos rfl]
        show (bndD (columnD l) fun a => moreD l ⟨#[44]⟩ (columnD l) m (acc ++ [(c, k)] ++ [a])) (eatD l ⟨#[44]⟩ T2).2 = _
        rw [e32, nextT_ne (by simp)]
       rw [← h2]
       exact h
      go_roundw
      case rel => exact ⟨CS, TS, acc ++ [(c, k)], T2.inc, m, n_o, z_o, n_c, z_c, HN2, ⟨hm1, hm2⟩, by unfold Hid; have := Hn.out; show _ ≤ T2.i + 1 + m; omega, by unfold Hid; have := Ha.out; show _ ≤ T2.i + 1; simp; omega, by unfold Hid; have := Hi.out; show _ ≤ T2.i + 1; omega, hPz, kk32, br32, bx32, ocs32, ots32⟩
      case measure =>
       have c1 : wr.cell? ⟨g, 1, none⟩ = some (.int .i64 (T.i : Int)) := hwr1.out
       have c2 := hPz.box.cell 1 _ rfl
       rw [c1, c2]
       show _ < _
       have hq : (T2.inc).i = T2.i + 1 := rfl
       simp [intOf, hq]
       omega
     ·have HL2 : Hid (acc ++ [(c, k)] = ns ∧ T2 = SL) := by
       have h := HN.out
       rw [moreD_stop hb] at h
       exact ⟨(Prod.mk.inj h).1, (Prod.mk.inj h).2⟩
      obtain ⟨h1, h2⟩ := HL2.out
      have e32 : eatD l ⟨#[41]⟩ T2 = ((), S5) := by rw [h2]; exact e5
      rcases e33 : mostD CS.length S5 with ⟨⟨⟩, S33⟩
      have HO2 : Hid (createD l S = ({ Stm.zero with kind := 5, table := t, cols := CS, types := TS }, S33)) := by
       unfold Hid
       rw [HO.out, ← h1, hm1, hm2, hLn, e33]
      have hmost : ∀ z : Int, z = (CS.length : Int) → ∀ W, DAt g v l S5 W → Calls Tryz.prog 39 #[.pointer (some ⟨g, 0, none⟩), .int .i64 z] W (DTells g v l S5 W VU (mostD CS.length S5)) := fun z hz W h => by
       have h2 := dmost_any CS.length W h
       rw [show ((CS.length : Nat) : Int) = z by omega] at h2
       exact h2
      clear HN HL2 h1 h2 HO e5
      go_wp2_with (first
       | (go_at_call 39; refine (hmost _ (by first | rfl | omega) _ hP32).mono ?_; intro e w33 hT33; obtain ⟨_, rfl, hk33, hj33, hP33, rfl⟩ := dtells hT33 e33; have kk33 := kk32.trans hk33; have hs33 := kk33.size; have br33 := Bx.kp br32 hk33 (by omega); have lr33 := br33.lt; have bx33 := Bx.kp bx32 hk33 (by omega); have lx33 := bx33.lt; have ocs33 := row_kp ocs32 hk33 hg0; have ots33 := row_kp ots32 hk33 hg0; have nrx33 : ¬ w.heap.size = w4.heap.size := (by omega); have nxr33 := Ne.symm nrx33; obtain ⟨cx33_0, cx33_1, cx33_2, cx33_3, cx33_4, cx33_5, cx33_6, cx33_7, cx33_8, cx33_9⟩ := bx33.ten; obtain ⟨cr33_0, cr33_1, cr33_2, cr33_3, cr33_4, cr33_5, cr33_6, cr33_7, cr33_8, cr33_9⟩ := br33.ten; obtain ⟨fr33_0, fr33_1, fr33_2, fr33_3, fr33_4, fr33_5, fr33_6, fr33_7, fr33_8, fr33_9⟩ := br33.tenO; have ngr33 : ¬ g = w.heap.size := (by omega); have ngx33 : ¬ g = w4.heap.size := (by omega); have gnr33 : ¬ w.heap.size = g := (by omega); have gnx33 : ¬ w4.heap.size = g := (by omega))
       | (go_at_call 18; refine (deat_any hE ⟨#[41]⟩ _ hP31).mono ?_; intro e w32 hT32; obtain ⟨_, rfl, hk32, hj32, hP32, rfl⟩ := dtells hT32 e32; have kk32 := kk31.trans hk32; have hs32 := kk32.size; have br32 := Bx.kp br31 hk32 (by omega); have lr32 := br32.lt; have bx32 := Bx.kp bx31 hk32 (by omega); have lx32 := bx32.lt; have ocs32 := row_kp ocs31 hk32 hg0; have ots32 := row_kp ots31 hk32 hg0; have nrx32 : ¬ w.heap.size = w4.heap.size := (by omega); have nxr32 := Ne.symm nrx32; obtain ⟨cx32_0, cx32_1, cx32_2, cx32_3, cx32_4, cx32_5, cx32_6, cx32_7, cx32_8, cx32_9⟩ := bx32.ten; have ngr32 : ¬ g = w.heap.size := (by omega); have ngx32 : ¬ g = w4.heap.size := (by omega); have gnr32 : ¬ w.heap.size = g := (by omega); have gnx32 : ¬ w4.heap.size = g := (by omega))
       | (go_at_call 16; refine (dis_at hb _ HP7.out).mono ?_; rintro e w31 ⟨rfl, hk31, hP31⟩; have kk31 := HK7.out.trans hk31; have hs31 := kk31.size; have br31 := Bx.kp BBr hk31 (by omega); have lr31 := br31.lt; have bx31 := Bx.kp BBx hk31 (by omega); have lx31 := bx31.lt; have ocs31 := row_kp RRc hk31 hg0; have ots31 := row_kp RRt hk31 hg0; have nrx31 : ¬ w.heap.size = w4.heap.size := (by omega); have nxr31 := Ne.symm nrx31; have ngr31 : ¬ g = w.heap.size := (by omega); have ngx31 : ¬ g = w4.heap.size := (by omega); have gnr31 : ¬ w.heap.size = g := (by omega); have gnx31 : ¬ w4.heap.size = g := (by omega)))
      rw [← hCL]
      refine bodyPost_ret (v := .agg #[.int .i64 5, .string t, .string ⟨#[]⟩, .slice n_o CS.length n_c, .slice none 0 0, .slice none 0 0, .slice none 0 0, .bool false, .int .i64 0, .slice z_o TS.length z_c]) (by simp [results, Tryz.results17, go_sem, cr33_0, cr33_1, cr33_2, cr33_3, cr33_4, cr33_5, cr33_6, cr33_7, cr33_8, cr33_9, lr33, ngr33, gnr33]) rfl ?_
      rw [HO2.out]
      exact ⟨(kp_sets kk33 (by omega) 0 [.int .i64 5, .string t, .string ⟨#[]⟩, .slice n_o CS.length n_c, .slice none 0 0, .slice none 0 0, .slice none 0 0, .bool false, .int .i64 0, .slice z_o TS.length z_c]), (Nat.le_trans (Nat.le_trans (Nat.le_trans Hi.out (Nat.le_trans hj6 hj7)) hj32) hj33), (DAt.sets hP33 br33 (by decide) (by omega) 0 [.int .i64 5, .string t, .string ⟨#[]⟩, .slice n_o CS.length n_c, .slice none 0 0, .slice none 0 0, .slice none 0 0, .bool false, .int .i64 0, .slice z_o TS.length z_c]), _, rfl, ⟨⟨n_o, n_c, none, 0, none, 0, none, 0, z_o, z_c⟩, rfl, ⟨(row_sets ocs33 br33 (by decide) 0 [.int .i64 5, .string t, .string ⟨#[]⟩, .slice n_o CS.length n_c, .slice none 0 0, .slice none 0 0, .slice none 0 0, .bool false, .int .i64 0, .slice z_o TS.length z_c]), World.ownsRow_nil _ _ _ _, World.ownsRow_nil _ _ _ _, World.ownsRow_nil _ _ _ _, (row_sets ots33 br33 (by decide) 0 [.int .i64 5, .string t, .string ⟨#[]⟩, .slice n_o CS.length n_c, .slice none 0 0, .slice none 0 0, .slice none 0 0, .bool false, .int .i64 0, .slice z_o TS.length z_c])⟩⟩⟩
end Go.Proofs.YtiajlhjjmlakmaaGreatDoor
