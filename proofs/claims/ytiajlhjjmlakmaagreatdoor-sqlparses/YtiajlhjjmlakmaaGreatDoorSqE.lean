import Derived.Test.YtiajlhjjmlakmaaGreatDoorSqD
namespace Go.Proofs.YtiajlhjjmlakmaaGreatDoor
open Go.RowKit Num
set_option maxHeartbeats 1000000
set_option linter.unusedSimpArgs false
set_option linter.unusedVariables false
set_option maxRecDepth 100000

structure Num.SS where
 co : Option Addr
 cc : Nat
 vo : Option Addr
 vc : Nat
 so : Option Addr
 sc : Nat
 qo : Option Addr
 qc : Nat
 yo : Option Addr
 yc : Nat
abbrev aX (x : Stm) (t : SS) : Array Value := #[.int .i64 x.kind, .string x.table, .string x.name, .slice t.co x.cols.length t.cc, .slice t.vo x.vals.length t.vc, .slice t.so x.sets.length t.sc, .slice t.qo x.conds.length t.qc, .bool x.uniq, .int .i64 x.type, .slice t.yo x.types.length t.yc]
abbrev lX (x : Stm) (t : SS) : List Value := [.int .i64 x.kind, .string x.table, .string x.name, .slice t.co x.cols.length t.cc, .slice t.vo x.vals.length t.vc, .slice t.so x.sets.length t.sc, .slice t.qo x.conds.length t.qc, .bool x.uniq, .int .i64 x.type, .slice t.yo x.types.length t.yc]
def Num.SS.nil : SS := ⟨none, 0, none, 0, none, 0, none, 0, none, 0⟩
def Num.cI (n : Int) : List Value := [.int .i64 n]
structure Num.OwnS (B : Nat) (w : World) (t : SS) (x : Stm) : Prop where
 cols : w.ownsRow B 9 1 (.slice t.co x.cols.length t.cc) x.cols.length (x.cols.flatMap cS)
 vals : w.ownsRow B 46 4 (.slice t.vo x.vals.length t.vc) x.vals.length (x.vals.flatMap cV)
 sets : w.ownsRow B 65 6 (.slice t.so x.sets.length t.sc) x.sets.length (x.sets.flatMap cT)
 conds : w.ownsRow B 67 6 (.slice t.qo x.conds.length t.qc) x.conds.length (x.conds.flatMap cC)
 types : w.ownsRow B 3 1 (.slice t.yo x.types.length t.yc) x.types.length (x.types.flatMap cI)
theorem Num.OwnS.mono {B B' : Nat} {w : World} {t : SS} {x : Stm} (h : OwnS B w t x) (hb : B' ≤ B) : OwnS B' w t x := ⟨row_mono h.cols hb, row_mono h.vals hb, row_mono h.sets hb, row_mono h.conds hb, row_mono h.types hb⟩
theorem Num.OwnS.kp {B g : Nat} {w w' : World} {t : SS} {x : Stm} (h : OwnS B w t x) (hk : w.grownBy w' (some g)) (hg : g < B) : OwnS B w' t x := ⟨row_kp h.cols hk hg, row_kp h.vals hk hg, row_kp h.sets hk hg, row_kp h.conds hk hg, row_kp h.types hk hg⟩
theorem Num.OwnS.setsS {B b : Nat} {w : World} {t : SS} {x : Stm} {cs : Array Value} (h : OwnS B w t x) (hb : Bx w b 28 cs) (k : Nat) (us : List Value) : OwnS B (setsW w b k us) t x :=
 ⟨row_sets h.cols hb (by decide) k us, row_sets h.vals hb (by decide) k us, row_sets h.sets hb (by decide) k us, row_sets h.conds hb (by decide) k us, row_sets h.types hb (by decide) k us⟩
theorem Num.OwnS.alloc {B : Nat} {w : World} {t : SS} {x : Stm} (h : OwnS B w t x) (o : Obj) : OwnS B (w.alloc o) t x := ⟨h.cols.alloc o, h.vals.alloc o, h.sets.alloc o, h.conds.alloc o, h.types.alloc o⟩
def Num.VX : Nat → World → Value → Stm → Prop := fun B w u x => ∃ t : SS, u = .agg #[.int .i64 x.kind, .string x.table, .string x.name, .slice t.co x.cols.length t.cc, .slice t.vo x.vals.length t.vc, .slice t.so x.sets.length t.sc, .slice t.qo x.conds.length t.qc, .bool x.uniq, .int .i64 x.type, .slice t.yo x.types.length t.yc] ∧ OwnS B w t x
def Num.VIx : Nat → World → Value → ByteArray × ByteArray → Prop := fun _ _ u x => u = .agg #[.int .i64 0, .string x.2, .string x.1, .slice none 0 0, .slice none 0 0, .slice none 0 0, .slice none 0 0, .bool false, .int .i64 0, .slice none 0 0]
theorem sqreadDelete_w0 {g : Nat} {v : Value} {l : List Tok} (hE : EndK l) {i : Nat}  {q1 : List TkC} (e1 : takeR ⟨#[102, 114, 111, 109]⟩ (rem l i) = (none, q1)) (w : World) (hP : PAt g v l i w) :
  Calls Tryz.prog 30 #[.pointer (some ⟨g, 0, none⟩)] w (Tells g v l i w VX (deleteR (rem l i))) := by
 have hg0 := hP.g_lt
 have HO : Hid (deleteR (rem l i) = (none, q1)) := by
  unfold Hid
  simp only [deleteR, bnd, opt, ret, e1]
 go_enter Tryz.func30, Tryz.ntmps30
 go_wp2_with (first
  | (go_at_call 34; refine (take_1 hE (by decide) _ (((hP.alloc _).alloc _).alloc _) (Bx.newB (by simp)) (by omega)).mono ?_; intro e w1 hT1; obtain ⟨j1, rfl, hk1, hj1, hP1, hr1⟩ := tells_no hT1 rfl e1))
 refine ⟨rfl, ?_⟩
 rw [HO.out]
 exact ⟨(kp_alloc (kp_alloc (kp_alloc (gr w g) _) _) _).trans hk1, j1, (by omega), hP1, hr1, rfl⟩
theorem sqreadDelete_w1 {g : Nat} {v : Value} {l : List Tok} (hE : EndK l) {i : Nat}  {q1 q2 : List TkC} (e1 : takeR ⟨#[102, 114, 111, 109]⟩ (rem l i) = (some (), q1)) (e2 : nameR q1 = (none, q2)) (w : World) (hP : PAt g v l i w) :
  Calls Tryz.prog 30 #[.pointer (some ⟨g, 0, none⟩)] w (Tells g v l i w VX (deleteR (rem l i))) := by
 have hg0 := hP.g_lt
 have HO : Hid (deleteR (rem l i) = (none, q2)) := by
  unfold Hid
  simp only [deleteR, bnd, opt, ret, e1, e2]
 go_enter Tryz.func30, Tryz.ntmps30
 go_wp2_with (first
  | (go_at_call 55; refine (sqreadName_any hE _ hP1).mono ?_; intro e w2 hT2; obtain ⟨j2, rfl, hk2, hj2, hP2, hr2⟩ := tells_no hT2 hr1 e2)
  | (go_at_call 34; refine (take_1 hE (by decide) _ (((hP.alloc _).alloc _).alloc _) (Bx.newB (by simp)) (by omega)).mono ?_; intro e w1 hT1; obtain ⟨_, j1, rfl, hk1, hj1, hP1, hr1, rfl⟩ := tells_yes hT1 rfl e1; have kk1 := (kp_alloc (kp_alloc (kp_alloc (gr w g) _) _) _).trans hk1; have hs1 := kk1.size; have br1 : Bx w1 (w.heap.size) 28 z10 := Bx.kp (((Bx.newB (by simp) : Bx _ (w.heap.size) 28 z10).alloc _).alloc _) hk1 (by omega); have lr1 := br1.lt; have bx1 : Bx w1 (w.heap.size + 1) 28 #[.int .i64 3, sZ, sZ, nZ, nZ, nZ, nZ, .bool false, iZ, nZ] := Bx.kp ((Bx.newB (by simp) : Bx _ (w.heap.size + 1) 28 #[.int .i64 3, sZ, sZ, nZ, nZ, nZ, nZ, .bool false, iZ, nZ]).alloc _) hk1 (by omega); have lx1 := bx1.lt))
 refine ⟨rfl, ?_⟩
 rw [HO.out]
 exact ⟨kk1.trans hk2, j2, (by omega), hP2, hr2, rfl⟩
theorem sqreadDelete_w2 {g : Nat} {v : Value} {l : List Tok} (hE : EndK l) {i : Nat}  {q1 : List TkC} {t : ByteArray} {q2 q3 : List TkC} (e1 : takeR ⟨#[102, 114, 111, 109]⟩ (rem l i) = (some (), q1)) (e2 : nameR q1 = (some t, q2)) (e3 : whereR q2 = (none, q3)) (w : World) (hP : PAt g v l i w) :
  Calls Tryz.prog 30 #[.pointer (some ⟨g, 0, none⟩)] w (Tells g v l i w VX (deleteR (rem l i))) := by
 have hg0 := hP.g_lt
 have HO : Hid (deleteR (rem l i) = (none, q3)) := by
  unfold Hid
  simp only [deleteR, bnd, opt, ret, e1, e2, e3]
 go_enter Tryz.func30, Tryz.ntmps30
 go_wp2_with (first
  | (go_at_call 61; refine (sqreadWhere_any hE _ (hP2.set bx2 (by decide) (by omega) 1 (.string t))).mono ?_; intro e w3 hT3; obtain ⟨j3, rfl, hk3, hj3, hP3, hr3⟩ := tells_no hT3 hr2 e3)
  | (go_at_call 55; refine (sqreadName_any hE _ hP1).mono ?_; intro e w2 hT2; obtain ⟨_, j2, rfl, hk2, hj2, hP2, hr2, rfl⟩ := tells_yes hT2 hr1 e2; have kk2 := kk1.trans hk2; have hs2 := kk2.size; have br2 := Bx.kp br1 hk2 (by omega); have lr2 := br2.lt; have bx2 := Bx.kp bx1 hk2 (by omega); have lx2 := bx2.lt; have cx2_1 := bx2.t1; have fx2_1 := bx2.open 1)
  | (go_at_call 34; refine (take_1 hE (by decide) _ (((hP.alloc _).alloc _).alloc _) (Bx.newB (by simp)) (by omega)).mono ?_; intro e w1 hT1; obtain ⟨_, j1, rfl, hk1, hj1, hP1, hr1, rfl⟩ := tells_yes hT1 rfl e1; have kk1 := (kp_alloc (kp_alloc (kp_alloc (gr w g) _) _) _).trans hk1; have hs1 := kk1.size; have br1 : Bx w1 (w.heap.size) 28 z10 := Bx.kp (((Bx.newB (by simp) : Bx _ (w.heap.size) 28 z10).alloc _).alloc _) hk1 (by omega); have lr1 := br1.lt; have bx1 : Bx w1 (w.heap.size + 1) 28 #[.int .i64 3, sZ, sZ, nZ, nZ, nZ, nZ, .bool false, iZ, nZ] := Bx.kp ((Bx.newB (by simp) : Bx _ (w.heap.size + 1) 28 #[.int .i64 3, sZ, sZ, nZ, nZ, nZ, nZ, .bool false, iZ, nZ]).alloc _) hk1 (by omega); have lx1 := bx1.lt))
 refine ⟨rfl, ?_⟩
 rw [HO.out]
 exact ⟨(kp_set kk2 (by omega) 1 (.string t)).trans hk3, j3, (by omega), hP3, hr3, rfl⟩
theorem sqreadDelete_w3 {g : Nat} {v : Value} {l : List Tok} (hE : EndK l) {i : Nat}  {q1 : List TkC} {t : ByteArray} {q2 : List TkC} {cs : List (Cnd)} {q3 : List TkC} (e1 : takeR ⟨#[102, 114, 111, 109]⟩ (rem l i) = (some (), q1)) (e2 : nameR q1 = (some t, q2)) (e3 : whereR q2 = (some cs, q3)) (w : World) (hP : PAt g v l i w) :
  Calls Tryz.prog 30 #[.pointer (some ⟨g, 0, none⟩)] w (Tells g v l i w VX (deleteR (rem l i))) := by
 have hg0 := hP.g_lt
 have HO : Hid (deleteR (rem l i) = (some { Stm.zero with kind := 3, table := t, conds := cs }, q3)) := by
  unfold Hid
  simp only [deleteR, bnd, opt, ret, e1, e2, e3]
 go_enter Tryz.func30, Tryz.ntmps30
 go_wp2_with (first
  | (go_at_call 61; refine (sqreadWhere_any hE _ (hP2.set bx2 (by decide) (by omega) 1 (.string t))).mono ?_; intro e w3 hT3; obtain ⟨u3, j3, rfl, hk3, hj3, hP3, hr3, hV3⟩ := tells_yes hT3 hr2 e3; obtain ⟨cs_o, cs_c, rfl, ho3⟩ := hV3; have oo3 := row_mono ho3 (kp_set kk2 (by omega) 1 (.string t)).size; have kk3 := (kp_set kk2 (by omega) 1 (.string t)).trans hk3; have hs3 := kk3.size; have br3 : Bx w3 (w.heap.size) 28 z10 := Bx.kp (br2.other (by omega) 1 (.string t)) hk3 (by omega); have lr3 := br3.lt; have bx3 : Bx w3 (w.heap.size + 1) 28 #[.int .i64 3, .string t, sZ, nZ, nZ, nZ, nZ, .bool false, iZ, nZ] := Bx.kp (bx2.set 1 (.string t)) hk3 (by omega); have lx3 := bx3.lt; have cx3_6 := bx3.t6; have fx3_6 := bx3.open 6; have cx3_0 := bx3.t0; have cx3_1 := bx3.t1; have cx3_2 := bx3.t2; have cx3_3 := bx3.t3; have cx3_4 := bx3.t4; have cx3_5 := bx3.t5; have cx3_7 := bx3.t7; have cx3_8 := bx3.t8; have cx3_9 := bx3.t9; obtain ⟨cr3_0, cr3_1, cr3_2, cr3_3, cr3_4, cr3_5, cr3_6, cr3_7, cr3_8, cr3_9⟩ := br3.ten; obtain ⟨fr3_0, fr3_1, fr3_2, fr3_3, fr3_4, fr3_5, fr3_6, fr3_7, fr3_8, fr3_9⟩ := br3.tenO)
  | (go_at_call 55; refine (sqreadName_any hE _ hP1).mono ?_; intro e w2 hT2; obtain ⟨_, j2, rfl, hk2, hj2, hP2, hr2, rfl⟩ := tells_yes hT2 hr1 e2; have kk2 := kk1.trans hk2; have hs2 := kk2.size; have br2 := Bx.kp br1 hk2 (by omega); have lr2 := br2.lt; have bx2 := Bx.kp bx1 hk2 (by omega); have lx2 := bx2.lt; have cx2_1 := bx2.t1; have fx2_1 := bx2.open 1)
  | (go_at_call 34; refine (take_1 hE (by decide) _ (((hP.alloc _).alloc _).alloc _) (Bx.newB (by simp)) (by omega)).mono ?_; intro e w1 hT1; obtain ⟨_, j1, rfl, hk1, hj1, hP1, hr1, rfl⟩ := tells_yes hT1 rfl e1; have kk1 := (kp_alloc (kp_alloc (kp_alloc (gr w g) _) _) _).trans hk1; have hs1 := kk1.size; have br1 : Bx w1 (w.heap.size) 28 z10 := Bx.kp (((Bx.newB (by simp) : Bx _ (w.heap.size) 28 z10).alloc _).alloc _) hk1 (by omega); have lr1 := br1.lt; have bx1 : Bx w1 (w.heap.size + 1) 28 #[.int .i64 3, sZ, sZ, nZ, nZ, nZ, nZ, .bool false, iZ, nZ] := Bx.kp ((Bx.newB (by simp) : Bx _ (w.heap.size + 1) 28 #[.int .i64 3, sZ, sZ, nZ, nZ, nZ, nZ, .bool false, iZ, nZ]).alloc _) hk1 (by omega); have lx1 := bx1.lt))
 refine bodyPost_ret (v := .agg #[.int .i64 3, .string t, .string ⟨#[]⟩, .slice none 0 0, .slice none 0 0, .slice none 0 0, .slice cs_o cs.length cs_c, .bool false, .int .i64 0, .slice none 0 0]) (by simp [results, Tryz.results30, go_sem, cr3_0, cr3_1, cr3_2, cr3_3, cr3_4, cr3_5, cr3_6, cr3_7, cr3_8, cr3_9]) rfl ?_
 rw [HO.out]
 exact ⟨(kp_sets (kp_set kk3 (by omega) 6 (.slice cs_o cs.length cs_c)) (by omega) 0 [.int .i64 3, .string t, .string ⟨#[]⟩, .slice none 0 0, .slice none 0 0, .slice none 0 0, .slice cs_o cs.length cs_c, .bool false, .int .i64 0, .slice none 0 0]), j3, (by omega), (PAt.sets (hP3.set bx3 (by decide) (by omega) 6 (.slice cs_o cs.length cs_c)) (br3.other (by omega) 6 (.slice cs_o cs.length cs_c)) (by decide) (by omega) 0 [.int .i64 3, .string t, .string ⟨#[]⟩, .slice none 0 0, .slice none 0 0, .slice none 0 0, .slice cs_o cs.length cs_c, .bool false, .int .i64 0, .slice none 0 0]), hr3, _, rfl, ⟨⟨none, 0, none, 0, none, 0, cs_o, cs_c, none, 0⟩, rfl, ⟨World.ownsRow_nil _ _ _ _, World.ownsRow_nil _ _ _ _, World.ownsRow_nil _ _ _ _, (row_sets (row_set oo3 bx3 (by decide) 6 (.slice cs_o cs.length cs_c)) (br3.other (by omega) 6 (.slice cs_o cs.length cs_c)) (by decide) 0 [.int .i64 3, .string t, .string ⟨#[]⟩, .slice none 0 0, .slice none 0 0, .slice none 0 0, .slice cs_o cs.length cs_c, .bool false, .int .i64 0, .slice none 0 0]), World.ownsRow_nil _ _ _ _⟩⟩⟩
theorem sqreadDelete_any {g : Nat} {v : Value} {l : List Tok} (hE : EndK l) {i : Nat}  (w : World) (hP : PAt g v l i w) :
  Calls Tryz.prog 30 #[.pointer (some ⟨g, 0, none⟩)] w (Tells g v l i w VX (deleteR (rem l i))) := by
 rcases e1 : takeR ⟨#[102, 114, 111, 109]⟩ (rem l i) with ⟨o1, q1⟩
 cases o1 with
 | none =>
  exact sqreadDelete_w0 hE e1 w hP
 | some a1 =>
  cases a1
  rcases e2 : nameR q1 with ⟨o2, q2⟩
  cases o2 with
  | none =>
   exact sqreadDelete_w1 hE e1 e2 w hP
  | some t =>
   rcases e3 : whereR q2 with ⟨o3, q3⟩
   cases o3 with
   | none =>
    exact sqreadDelete_w2 hE e1 e2 e3 w hP
   | some cs =>
    exact sqreadDelete_w3 hE e1 e2 e3 w hP
theorem sqreadUpdate_w0 {g : Nat} {v : Value} {l : List Tok} (hE : EndK l) {i : Nat}  {q1 : List TkC} (e1 : nameR (rem l i) = (none, q1)) (w : World) (hP : PAt g v l i w) :
  Calls Tryz.prog 29 #[.pointer (some ⟨g, 0, none⟩)] w (Tells g v l i w VX (updateR (rem l i))) := by
 have hg0 := hP.g_lt
 have HO : Hid (updateR (rem l i) = (none, q1)) := by
  unfold Hid
  simp only [updateR, bnd, opt, ret, e1]
 go_enter Tryz.func29, Tryz.ntmps29
 go_wp2_with (first
  | (go_at_call 55; refine (sqreadName_any hE _ ((hP.alloc _).alloc _)).mono ?_; intro e w1 hT1; obtain ⟨j1, rfl, hk1, hj1, hP1, hr1⟩ := tells_no hT1 rfl e1))
 refine ⟨rfl, ?_⟩
 rw [HO.out]
 exact ⟨(kp_alloc (kp_alloc (gr w g) _) _).trans hk1, j1, (by omega), hP1, hr1, rfl⟩
theorem sqreadUpdate_w1 {g : Nat} {v : Value} {l : List Tok} (hE : EndK l) {i : Nat}  {t : ByteArray} {q1 q2 : List TkC} (e1 : nameR (rem l i) = (some t, q1)) (e2 : takeR ⟨#[115, 101, 116]⟩ q1 = (none, q2)) (w : World) (hP : PAt g v l i w) :
  Calls Tryz.prog 29 #[.pointer (some ⟨g, 0, none⟩)] w (Tells g v l i w VX (updateR (rem l i))) := by
 have hg0 := hP.g_lt
 have HO : Hid (updateR (rem l i) = (none, q2)) := by
  unfold Hid
  simp only [updateR, bnd, opt, ret, e1, e2]
 go_enter Tryz.func29, Tryz.ntmps29
 go_wp2_with (first
  | (go_at_call 34; refine (take_1 hE (by decide) _ ((hP1.set bx1 (by decide) (by omega) 1 (.string t)).alloc _) (Bx.newB (by simp)) (by omega)).mono ?_; intro e w2 hT2; obtain ⟨j2, rfl, hk2, hj2, hP2, hr2⟩ := tells_no hT2 hr1 e2)
  | (go_at_call 55; refine (sqreadName_any hE _ ((hP.alloc _).alloc _)).mono ?_; intro e w1 hT1; obtain ⟨_, j1, rfl, hk1, hj1, hP1, hr1, rfl⟩ := tells_yes hT1 rfl e1; have kk1 := (kp_alloc (kp_alloc (gr w g) _) _).trans hk1; have hs1 := kk1.size; have br1 : Bx w1 (w.heap.size) 28 z10 := Bx.kp ((Bx.newB (by simp) : Bx _ (w.heap.size) 28 z10).alloc _) hk1 (by omega); have lr1 := br1.lt; have bx1 : Bx w1 (w.heap.size + 1) 28 #[.int .i64 2, sZ, sZ, nZ, nZ, nZ, nZ, .bool false, iZ, nZ] := Bx.kp (Bx.newB (by simp) : Bx _ (w.heap.size + 1) 28 #[.int .i64 2, sZ, sZ, nZ, nZ, nZ, nZ, .bool false, iZ, nZ]) hk1 (by omega); have lx1 := bx1.lt; have cx1_1 := bx1.t1; have fx1_1 := bx1.open 1))
 refine ⟨rfl, ?_⟩
 rw [HO.out]
 exact ⟨(kp_alloc (kp_set kk1 (by omega) 1 (.string t)) _).trans hk2, j2, (by omega), hP2, hr2, rfl⟩
theorem sqreadUpdate_w2 {g : Nat} {v : Value} {l : List Tok} (hE : EndK l) {i : Nat}  {t : ByteArray} {q1 q2 q3 : List TkC} (e1 : nameR (rem l i) = (some t, q1)) (e2 : takeR ⟨#[115, 101, 116]⟩ q1 = (some (), q2)) (e3 : listR ⟨#[44]⟩ setR q2 = (none, q3)) (w : World) (hP : PAt g v l i w) :
  Calls Tryz.prog 29 #[.pointer (some ⟨g, 0, none⟩)] w (Tells g v l i w VX (updateR (rem l i))) := by
 have hg0 := hP.g_lt
 have HO : Hid (updateR (rem l i) = (none, q3)) := by
  unfold Hid
  simp only [updateR, bnd, opt, ret, e1, e2, e3]
 go_enter Tryz.func29, Tryz.ntmps29
 go_wp2_with (first
  | (go_at_call 59; refine (sqreadList_set_any hE ⟨#[44]⟩ (by decide) _ hP2).mono ?_; intro e w3 hT3; obtain ⟨j3, rfl, hk3, hj3, hP3, hr3⟩ := tells_no hT3 hr2 e3)
  | (go_at_call 34; refine (take_1 hE (by decide) _ ((hP1.set bx1 (by decide) (by omega) 1 (.string t)).alloc _) (Bx.newB (by simp)) (by omega)).mono ?_; intro e w2 hT2; obtain ⟨_, j2, rfl, hk2, hj2, hP2, hr2, rfl⟩ := tells_yes hT2 hr1 e2; have kk2 := (kp_alloc (kp_set kk1 (by omega) 1 (.string t)) _).trans hk2; have hs2 := kk2.size; have br2 : Bx w2 (w.heap.size) 28 z10 := Bx.kp ((br1.other (by omega) 1 (.string t)).alloc _) hk2 (by omega); have lr2 := br2.lt; have bx2 : Bx w2 (w.heap.size + 1) 28 #[.int .i64 2, .string t, sZ, nZ, nZ, nZ, nZ, .bool false, iZ, nZ] := Bx.kp ((bx1.set 1 (.string t)).alloc _) hk2 (by omega); have lx2 := bx2.lt)
  | (go_at_call 55; refine (sqreadName_any hE _ ((hP.alloc _).alloc _)).mono ?_; intro e w1 hT1; obtain ⟨_, j1, rfl, hk1, hj1, hP1, hr1, rfl⟩ := tells_yes hT1 rfl e1; have kk1 := (kp_alloc (kp_alloc (gr w g) _) _).trans hk1; have hs1 := kk1.size; have br1 : Bx w1 (w.heap.size) 28 z10 := Bx.kp ((Bx.newB (by simp) : Bx _ (w.heap.size) 28 z10).alloc _) hk1 (by omega); have lr1 := br1.lt; have bx1 : Bx w1 (w.heap.size + 1) 28 #[.int .i64 2, sZ, sZ, nZ, nZ, nZ, nZ, .bool false, iZ, nZ] := Bx.kp (Bx.newB (by simp) : Bx _ (w.heap.size + 1) 28 #[.int .i64 2, sZ, sZ, nZ, nZ, nZ, nZ, .bool false, iZ, nZ]) hk1 (by omega); have lx1 := bx1.lt; have cx1_1 := bx1.t1; have fx1_1 := bx1.open 1))
 refine ⟨rfl, ?_⟩
 rw [HO.out]
 exact ⟨kk2.trans hk3, j3, (by omega), hP3, hr3, rfl⟩
theorem sqreadUpdate_w3 {g : Nat} {v : Value} {l : List Tok} (hE : EndK l) {i : Nat}  {t : ByteArray} {q1 q2 : List TkC} {ss : List (Sett)} {q3 q4 : List TkC} (e1 : nameR (rem l i) = (some t, q1)) (e2 : takeR ⟨#[115, 101, 116]⟩ q1 = (some (), q2)) (e3 : listR ⟨#[44]⟩ setR q2 = (some ss, q3)) (e4 : whereR q3 = (none, q4)) (w : World) (hP : PAt g v l i w) :
  Calls Tryz.prog 29 #[.pointer (some ⟨g, 0, none⟩)] w (Tells g v l i w VX (updateR (rem l i))) := by
 have hg0 := hP.g_lt
 have HO : Hid (updateR (rem l i) = (none, q4)) := by
  unfold Hid
  simp only [updateR, bnd, opt, ret, e1, e2, e3, e4]
 go_enter Tryz.func29, Tryz.ntmps29
 go_wp2_with (first
  | (go_at_call 61; refine (sqreadWhere_any hE _ (hP3.set bx3 (by decide) (by omega) 5 (.slice ss_o ss.length ss_c))).mono ?_; intro e w4 hT4; obtain ⟨j4, rfl, hk4, hj4, hP4, hr4⟩ := tells_no hT4 hr3 e4)
  | (go_at_call 59; refine (sqreadList_set_any hE ⟨#[44]⟩ (by decide) _ hP2).mono ?_; intro e w3 hT3; obtain ⟨u3, j3, rfl, hk3, hj3, hP3, hr3, hV3⟩ := tells_yes hT3 hr2 e3; obtain ⟨ss_o, ss_c, rfl, ho3⟩ := hV3; have oo3 := row_mono ho3 kk2.size; have kk3 := kk2.trans hk3; have hs3 := kk3.size; have br3 := Bx.kp br2 hk3 (by omega); have lr3 := br3.lt; have bx3 := Bx.kp bx2 hk3 (by omega); have lx3 := bx3.lt; have cx3_5 := bx3.t5; have fx3_5 := bx3.open 5)
  | (go_at_call 34; refine (take_1 hE (by decide) _ ((hP1.set bx1 (by decide) (by omega) 1 (.string t)).alloc _) (Bx.newB (by simp)) (by omega)).mono ?_; intro e w2 hT2; obtain ⟨_, j2, rfl, hk2, hj2, hP2, hr2, rfl⟩ := tells_yes hT2 hr1 e2; have kk2 := (kp_alloc (kp_set kk1 (by omega) 1 (.string t)) _).trans hk2; have hs2 := kk2.size; have br2 : Bx w2 (w.heap.size) 28 z10 := Bx.kp ((br1.other (by omega) 1 (.string t)).alloc _) hk2 (by omega); have lr2 := br2.lt; have bx2 : Bx w2 (w.heap.size + 1) 28 #[.int .i64 2, .string t, sZ, nZ, nZ, nZ, nZ, .bool false, iZ, nZ] := Bx.kp ((bx1.set 1 (.string t)).alloc _) hk2 (by omega); have lx2 := bx2.lt)
  | (go_at_call 55; refine (sqreadName_any hE _ ((hP.alloc _).alloc _)).mono ?_; intro e w1 hT1; obtain ⟨_, j1, rfl, hk1, hj1, hP1, hr1, rfl⟩ := tells_yes hT1 rfl e1; have kk1 := (kp_alloc (kp_alloc (gr w g) _) _).trans hk1; have hs1 := kk1.size; have br1 : Bx w1 (w.heap.size) 28 z10 := Bx.kp ((Bx.newB (by simp) : Bx _ (w.heap.size) 28 z10).alloc _) hk1 (by omega); have lr1 := br1.lt; have bx1 : Bx w1 (w.heap.size + 1) 28 #[.int .i64 2, sZ, sZ, nZ, nZ, nZ, nZ, .bool false, iZ, nZ] := Bx.kp (Bx.newB (by simp) : Bx _ (w.heap.size + 1) 28 #[.int .i64 2, sZ, sZ, nZ, nZ, nZ, nZ, .bool false, iZ, nZ]) hk1 (by omega); have lx1 := bx1.lt; have cx1_1 := bx1.t1; have fx1_1 := bx1.open 1))
 refine ⟨rfl, ?_⟩
 rw [HO.out]
 exact ⟨(kp_set kk3 (by omega) 5 (.slice ss_o ss.length ss_c)).trans hk4, j4, (by omega), hP4, hr4, rfl⟩
theorem sqreadUpdate_w4 {g : Nat} {v : Value} {l : List Tok} (hE : EndK l) {i : Nat}  {t : ByteArray} {q1 q2 : List TkC} {ss : List (Sett)} {q3 : List TkC} {cs : List (Cnd)} {q4 : List TkC} (e1 : nameR (rem l i) = (some t, q1)) (e2 : takeR ⟨#[115, 101, 116]⟩ q1 = (some (), q2)) (e3 : listR ⟨#[44]⟩ setR q2 = (some ss, q3)) (e4 : whereR q3 = (some cs, q4)) (w : World) (hP : PAt g v l i w) :
  Calls Tryz.prog 29 #[.pointer (some ⟨g, 0, none⟩)] w (Tells g v l i w VX (updateR (rem l i))) := by
 have hg0 := hP.g_lt
 have HO : Hid (updateR (rem l i) = (some { Stm.zero with kind := 2, table := t, sets := ss, conds := cs }, q4)) := by
  unfold Hid
  simp only [updateR, bnd, opt, ret, e1, e2, e3, e4]
 go_enter Tryz.func29, Tryz.ntmps29
 go_wp2_with (first
  | (go_at_call 61; refine (sqreadWhere_any hE _ (hP3.set bx3 (by decide) (by omega) 5 (.slice ss_o ss.length ss_c))).mono ?_; intro e w4 hT4; obtain ⟨u4, j4, rfl, hk4, hj4, hP4, hr4, hV4⟩ := tells_yes hT4 hr3 e4; obtain ⟨cs_o, cs_c, rfl, ho4⟩ := hV4; have oo4 := row_mono ho4 (kp_set kk3 (by omega) 5 (.slice ss_o ss.length ss_c)).size; have kk4 := (kp_set kk3 (by omega) 5 (.slice ss_o ss.length ss_c)).trans hk4; have hs4 := kk4.size; have br4 : Bx w4 (w.heap.size) 28 z10 := Bx.kp (br3.other (by omega) 5 (.slice ss_o ss.length ss_c)) hk4 (by omega); have lr4 := br4.lt; have bx4 : Bx w4 (w.heap.size + 1) 28 #[.int .i64 2, .string t, sZ, nZ, nZ, .slice ss_o ss.length ss_c, nZ, .bool false, iZ, nZ] := Bx.kp (bx3.set 5 (.slice ss_o ss.length ss_c)) hk4 (by omega); have lx4 := bx4.lt; have oss4 := row_kp (row_set oo3 bx3 (by decide) 5 (.slice ss_o ss.length ss_c)) hk4 hg0; have cx4_6 := bx4.t6; have fx4_6 := bx4.open 6; have cx4_0 := bx4.t0; have cx4_1 := bx4.t1; have cx4_2 := bx4.t2; have cx4_3 := bx4.t3; have cx4_4 := bx4.t4; have cx4_5 := bx4.t5; have cx4_7 := bx4.t7; have cx4_8 := bx4.t8; have cx4_9 := bx4.t9; obtain ⟨cr4_0, cr4_1, cr4_2, cr4_3, cr4_4, cr4_5, cr4_6, cr4_7, cr4_8, cr4_9⟩ := br4.ten; obtain ⟨fr4_0, fr4_1, fr4_2, fr4_3, fr4_4, fr4_5, fr4_6, fr4_7, fr4_8, fr4_9⟩ := br4.tenO)
  | (go_at_call 59; refine (sqreadList_set_any hE ⟨#[44]⟩ (by decide) _ hP2).mono ?_; intro e w3 hT3; obtain ⟨u3, j3, rfl, hk3, hj3, hP3, hr3, hV3⟩ := tells_yes hT3 hr2 e3; obtain ⟨ss_o, ss_c, rfl, ho3⟩ := hV3; have oo3 := row_mono ho3 kk2.size; have kk3 := kk2.trans hk3; have hs3 := kk3.size; have br3 := Bx.kp br2 hk3 (by omega); have lr3 := br3.lt; have bx3 := Bx.kp bx2 hk3 (by omega); have lx3 := bx3.lt; have cx3_5 := bx3.t5; have fx3_5 := bx3.open 5)
  | (go_at_call 34; refine (take_1 hE (by decide) _ ((hP1.set bx1 (by decide) (by omega) 1 (.string t)).alloc _) (Bx.newB (by simp)) (by omega)).mono ?_; intro e w2 hT2; obtain ⟨_, j2, rfl, hk2, hj2, hP2, hr2, rfl⟩ := tells_yes hT2 hr1 e2; have kk2 := (kp_alloc (kp_set kk1 (by omega) 1 (.string t)) _).trans hk2; have hs2 := kk2.size; have br2 : Bx w2 (w.heap.size) 28 z10 := Bx.kp ((br1.other (by omega) 1 (.string t)).alloc _) hk2 (by omega); have lr2 := br2.lt; have bx2 : Bx w2 (w.heap.size + 1) 28 #[.int .i64 2, .string t, sZ, nZ, nZ, nZ, nZ, .bool false, iZ, nZ] := Bx.kp ((bx1.set 1 (.string t)).alloc _) hk2 (by omega); have lx2 := bx2.lt)
  | (go_at_call 55; refine (sqreadName_any hE _ ((hP.alloc _).alloc _)).mono ?_; intro e w1 hT1; obtain ⟨_, j1, rfl, hk1, hj1, hP1, hr1, rfl⟩ := tells_yes hT1 rfl e1; have kk1 := (kp_alloc (kp_alloc (gr w g) _) _).trans hk1; have hs1 := kk1.size; have br1 : Bx w1 (w.heap.size) 28 z10 := Bx.kp ((Bx.newB (by simp) : Bx _ (w.heap.size) 28 z10).alloc _) hk1 (by omega); have lr1 := br1.lt; have bx1 : Bx w1 (w.heap.size + 1) 28 #[.int .i64 2, sZ, sZ, nZ, nZ, nZ, nZ, .bool false, iZ, nZ] := Bx.kp (Bx.newB (by simp) : Bx _ (w.heap.size + 1) 28 #[.int .i64 2, sZ, sZ, nZ, nZ, nZ, nZ, .bool false, iZ, nZ]) hk1 (by omega); have lx1 := bx1.lt; have cx1_1 := bx1.t1; have fx1_1 := bx1.open 1))
 refine bodyPost_ret (v := .agg #[.int .i64 2, .string t, .string ⟨#[]⟩, .slice none 0 0, .slice none 0 0, .slice ss_o ss.length ss_c, .slice cs_o cs.length cs_c, .bool false, .int .i64 0, .slice none 0 0]) (by simp [results, Tryz.results29, go_sem, cr4_0, cr4_1, cr4_2, cr4_3, cr4_4, cr4_5, cr4_6, cr4_7, cr4_8, cr4_9]) rfl ?_
 rw [HO.out]
 exact ⟨(kp_sets (kp_set kk4 (by omega) 6 (.slice cs_o cs.length cs_c)) (by omega) 0 [.int .i64 2, .string t, .string ⟨#[]⟩, .slice none 0 0, .slice none 0 0, .slice ss_o ss.length ss_c, .slice cs_o cs.length cs_c, .bool false, .int .i64 0, .slice none 0 0]), j4, (by omega), (PAt.sets (hP4.set bx4 (by decide) (by omega) 6 (.slice cs_o cs.length cs_c)) (br4.other (by omega) 6 (.slice cs_o cs.length cs_c)) (by decide) (by omega) 0 [.int .i64 2, .string t, .string ⟨#[]⟩, .slice none 0 0, .slice none 0 0, .slice ss_o ss.length ss_c, .slice cs_o cs.length cs_c, .bool false, .int .i64 0, .slice none 0 0]), hr4, _, rfl, ⟨⟨none, 0, none, 0, ss_o, ss_c, cs_o, cs_c, none, 0⟩, rfl, ⟨World.ownsRow_nil _ _ _ _, World.ownsRow_nil _ _ _ _, (row_sets (row_set oss4 bx4 (by decide) 6 (.slice cs_o cs.length cs_c)) (br4.other (by omega) 6 (.slice cs_o cs.length cs_c)) (by decide) 0 [.int .i64 2, .string t, .string ⟨#[]⟩, .slice none 0 0, .slice none 0 0, .slice ss_o ss.length ss_c, .slice cs_o cs.length cs_c, .bool false, .int .i64 0, .slice none 0 0]), (row_sets (row_set oo4 bx4 (by decide) 6 (.slice cs_o cs.length cs_c)) (br4.other (by omega) 6 (.slice cs_o cs.length cs_c)) (by decide) 0 [.int .i64 2, .string t, .string ⟨#[]⟩, .slice none 0 0, .slice none 0 0, .slice ss_o ss.length ss_c, .slice cs_o cs.length cs_c, .bool false, .int .i64 0, .slice none 0 0]), World.ownsRow_nil _ _ _ _⟩⟩⟩
theorem sqreadUpdate_any {g : Nat} {v : Value} {l : List Tok} (hE : EndK l) {i : Nat}  (w : World) (hP : PAt g v l i w) :
  Calls Tryz.prog 29 #[.pointer (some ⟨g, 0, none⟩)] w (Tells g v l i w VX (updateR (rem l i))) := by
 rcases e1 : nameR (rem l i) with ⟨o1, q1⟩
 cases o1 with
 | none =>
  exact sqreadUpdate_w0 hE e1 w hP
 | some t =>
  rcases e2 : takeR ⟨#[115, 101, 116]⟩ q1 with ⟨o2, q2⟩
  cases o2 with
  | none =>
   exact sqreadUpdate_w1 hE e1 e2 w hP
  | some a2 =>
   cases a2
   rcases e3 : listR ⟨#[44]⟩ setR q2 with ⟨o3, q3⟩
   cases o3 with
   | none =>
    exact sqreadUpdate_w2 hE e1 e2 e3 w hP
   | some ss =>
    rcases e4 : whereR q3 with ⟨o4, q4⟩
    cases o4 with
    | none =>
     exact sqreadUpdate_w3 hE e1 e2 e3 e4 w hP
    | some cs =>
     exact sqreadUpdate_w4 hE e1 e2 e3 e4 w hP
theorem sqreadSelect_w0 {g : Nat} {v : Value} {l : List Tok} (hE : EndK l) {i : Nat}  {q2 : List TkC} (hb1 : isT ⟨#[42]⟩ (rem l i) = true) (e2 : takeR ⟨#[102, 114, 111, 109]⟩ (rem l i).tail = (none, q2)) (w : World) (hP : PAt g v l i w) :
  Calls Tryz.prog 31 #[.pointer (some ⟨g, 0, none⟩)] w (Tells g v l i w VX (selectR (rem l i))) := by
 have hg0 := hP.g_lt
 have HO : Hid (selectR (rem l i) = (none, q2)) := by
  unfold Hid
  simp only [selectR, bnd, opt, ret, hb1, if_true, e2]
 go_enter Tryz.func31, Tryz.ntmps31
 go_wp2_with (first
  | (go_at_call 34; refine (take_1 hE (by decide) _ (hP1.alloc _) (Bx.newB (by simp)) (by omega)).mono ?_; intro e w2 hT2; obtain ⟨j2, rfl, hk2, hj2, hP2, hr2⟩ := tells_no hT2 hr1 e2)
  | (go_at_call 27; refine (took_yes hE (by decide) hb1 _ ((hP.alloc _).alloc _) rfl).mono ?_; rintro e w1 ⟨rfl, hk1, hP1, hr1⟩; have kk1 := (kp_alloc (kp_alloc (gr w g) _) _).trans hk1; have hs1 := kk1.size; have br1 : Bx w1 (w.heap.size) 28 z10 := Bx.kp ((Bx.newB (by simp) : Bx _ (w.heap.size) 28 z10).alloc _) hk1 (by omega); have lr1 := br1.lt; have bx1 : Bx w1 (w.heap.size + 1) 28 #[.int .i64 4, sZ, sZ, nZ, nZ, nZ, nZ, .bool false, iZ, nZ] := Bx.kp (Bx.newB (by simp) : Bx _ (w.heap.size + 1) 28 #[.int .i64 4, sZ, sZ, nZ, nZ, nZ, nZ, .bool false, iZ, nZ]) hk1 (by omega); have lx1 := bx1.lt))
 refine ⟨rfl, ?_⟩
 rw [HO.out]
 exact ⟨(kp_alloc kk1 _).trans hk2, j2, (by omega), hP2, hr2, rfl⟩
theorem sqreadSelect_w1 {g : Nat} {v : Value} {l : List Tok} (hE : EndK l) {i : Nat}  {q2 q3 : List TkC} (hb1 : isT ⟨#[42]⟩ (rem l i) = true) (e2 : takeR ⟨#[102, 114, 111, 109]⟩ (rem l i).tail = (some (), q2)) (e3 : nameR q2 = (none, q3)) (w : World) (hP : PAt g v l i w) :
  Calls Tryz.prog 31 #[.pointer (some ⟨g, 0, none⟩)] w (Tells g v l i w VX (selectR (rem l i))) := by
 have hg0 := hP.g_lt
 have HO : Hid (selectR (rem l i) = (none, q3)) := by
  unfold Hid
  simp only [selectR, bnd, opt, ret, hb1, if_true, e2, e3]
 go_enter Tryz.func31, Tryz.ntmps31
 go_wp2_with (first
  | (go_at_call 55; refine (sqreadName_any hE _ hP2).mono ?_; intro e w3 hT3; obtain ⟨j3, rfl, hk3, hj3, hP3, hr3⟩ := tells_no hT3 hr2 e3)
  | (go_at_call 34; refine (take_1 hE (by decide) _ (hP1.alloc _) (Bx.newB (by simp)) (by omega)).mono ?_; intro e w2 hT2; obtain ⟨_, j2, rfl, hk2, hj2, hP2, hr2, rfl⟩ := tells_yes hT2 hr1 e2; have kk2 := (kp_alloc kk1 _).trans hk2; have hs2 := kk2.size; have br2 : Bx w2 (w.heap.size) 28 z10 := Bx.kp (br1.alloc _) hk2 (by omega); have lr2 := br2.lt; have bx2 : Bx w2 (w.heap.size + 1) 28 #[.int .i64 4, sZ, sZ, nZ, nZ, nZ, nZ, .bool false, iZ, nZ] := Bx.kp (bx1.alloc _) hk2 (by omega); have lx2 := bx2.lt)
  | (go_at_call 27; refine (took_yes hE (by decide) hb1 _ ((hP.alloc _).alloc _) rfl).mono ?_; rintro e w1 ⟨rfl, hk1, hP1, hr1⟩; have kk1 := (kp_alloc (kp_alloc (gr w g) _) _).trans hk1; have hs1 := kk1.size; have br1 : Bx w1 (w.heap.size) 28 z10 := Bx.kp ((Bx.newB (by simp) : Bx _ (w.heap.size) 28 z10).alloc _) hk1 (by omega); have lr1 := br1.lt; have bx1 : Bx w1 (w.heap.size + 1) 28 #[.int .i64 4, sZ, sZ, nZ, nZ, nZ, nZ, .bool false, iZ, nZ] := Bx.kp (Bx.newB (by simp) : Bx _ (w.heap.size + 1) 28 #[.int .i64 4, sZ, sZ, nZ, nZ, nZ, nZ, .bool false, iZ, nZ]) hk1 (by omega); have lx1 := bx1.lt))
 refine ⟨rfl, ?_⟩
 rw [HO.out]
 exact ⟨kk2.trans hk3, j3, (by omega), hP3, hr3, rfl⟩
theorem sqreadSelect_w2 {g : Nat} {v : Value} {l : List Tok} (hE : EndK l) {i : Nat}  {q2 : List TkC} {t : ByteArray} {q3 q4 : List TkC} (hb1 : isT ⟨#[42]⟩ (rem l i) = true) (e2 : takeR ⟨#[102, 114, 111, 109]⟩ (rem l i).tail = (some (), q2)) (e3 : nameR q2 = (some t, q3)) (e4 : whereR q3 = (none, q4)) (w : World) (hP : PAt g v l i w) :
  Calls Tryz.prog 31 #[.pointer (some ⟨g, 0, none⟩)] w (Tells g v l i w VX (selectR (rem l i))) := by
 have hg0 := hP.g_lt
 have HO : Hid (selectR (rem l i) = (none, q4)) := by
  unfold Hid
  simp only [selectR, bnd, opt, ret, hb1, if_true, e2, e3, e4]
 go_enter Tryz.func31, Tryz.ntmps31
 go_wp2_with (first
  | (go_at_call 61; refine (sqreadWhere_any hE _ (hP3.set bx3 (by decide) (by omega) 1 (.string t))).mono ?_; intro e w4 hT4; obtain ⟨j4, rfl, hk4, hj4, hP4, hr4⟩ := tells_no hT4 hr3 e4)
  | (go_at_call 55; refine (sqreadName_any hE _ hP2).mono ?_; intro e w3 hT3; obtain ⟨_, j3, rfl, hk3, hj3, hP3, hr3, rfl⟩ := tells_yes hT3 hr2 e3; have kk3 := kk2.trans hk3; have hs3 := kk3.size; have br3 := Bx.kp br2 hk3 (by omega); have lr3 := br3.lt; have bx3 := Bx.kp bx2 hk3 (by omega); have lx3 := bx3.lt; have cx3_1 := bx3.t1; have fx3_1 := bx3.open 1)
  | (go_at_call 34; refine (take_1 hE (by decide) _ (hP1.alloc _) (Bx.newB (by simp)) (by omega)).mono ?_; intro e w2 hT2; obtain ⟨_, j2, rfl, hk2, hj2, hP2, hr2, rfl⟩ := tells_yes hT2 hr1 e2; have kk2 := (kp_alloc kk1 _).trans hk2; have hs2 := kk2.size; have br2 : Bx w2 (w.heap.size) 28 z10 := Bx.kp (br1.alloc _) hk2 (by omega); have lr2 := br2.lt; have bx2 : Bx w2 (w.heap.size + 1) 28 #[.int .i64 4, sZ, sZ, nZ, nZ, nZ, nZ, .bool false, iZ, nZ] := Bx.kp (bx1.alloc _) hk2 (by omega); have lx2 := bx2.lt)
  | (go_at_call 27; refine (took_yes hE (by decide) hb1 _ ((hP.alloc _).alloc _) rfl).mono ?_; rintro e w1 ⟨rfl, hk1, hP1, hr1⟩; have kk1 := (kp_alloc (kp_alloc (gr w g) _) _).trans hk1; have hs1 := kk1.size; have br1 : Bx w1 (w.heap.size) 28 z10 := Bx.kp ((Bx.newB (by simp) : Bx _ (w.heap.size) 28 z10).alloc _) hk1 (by omega); have lr1 := br1.lt; have bx1 : Bx w1 (w.heap.size + 1) 28 #[.int .i64 4, sZ, sZ, nZ, nZ, nZ, nZ, .bool false, iZ, nZ] := Bx.kp (Bx.newB (by simp) : Bx _ (w.heap.size + 1) 28 #[.int .i64 4, sZ, sZ, nZ, nZ, nZ, nZ, .bool false, iZ, nZ]) hk1 (by omega); have lx1 := bx1.lt))
 refine ⟨rfl, ?_⟩
 rw [HO.out]
 exact ⟨(kp_set kk3 (by omega) 1 (.string t)).trans hk4, j4, (by omega), hP4, hr4, rfl⟩
theorem sqreadSelect_w3 {g : Nat} {v : Value} {l : List Tok} (hE : EndK l) {i : Nat}  {q2 : List TkC} {t : ByteArray} {q3 : List TkC} {cs : List (Cnd)} {q4 : List TkC} (hb1 : isT ⟨#[42]⟩ (rem l i) = true) (e2 : takeR ⟨#[102, 114, 111, 109]⟩ (rem l i).tail = (some (), q2)) (e3 : nameR q2 = (some t, q3)) (e4 : whereR q3 = (some cs, q4)) (w : World) (hP : PAt g v l i w) :
  Calls Tryz.prog 31 #[.pointer (some ⟨g, 0, none⟩)] w (Tells g v l i w VX (selectR (rem l i))) := by
 have hg0 := hP.g_lt
 have HO : Hid (selectR (rem l i) = (some { Stm.zero with kind := 4, table := t, cols := [], conds := cs }, q4)) := by
  unfold Hid
  simp only [selectR, bnd, opt, ret, hb1, if_true, e2, e3, e4]
 go_enter Tryz.func31, Tryz.ntmps31
 go_wp2_with (first
  | (go_at_call 61; refine (sqreadWhere_any hE _ (hP3.set bx3 (by decide) (by omega) 1 (.string t))).mono ?_; intro e w4 hT4; obtain ⟨u4, j4, rfl, hk4, hj4, hP4, hr4, hV4⟩ := tells_yes hT4 hr3 e4; obtain ⟨cs_o, cs_c, rfl, ho4⟩ := hV4; have oo4 := row_mono ho4 (kp_set kk3 (by omega) 1 (.string t)).size; have kk4 := (kp_set kk3 (by omega) 1 (.string t)).trans hk4; have hs4 := kk4.size; have br4 : Bx w4 (w.heap.size) 28 z10 := Bx.kp (br3.other (by omega) 1 (.string t)) hk4 (by omega); have lr4 := br4.lt; have bx4 : Bx w4 (w.heap.size + 1) 28 #[.int .i64 4, .string t, sZ, nZ, nZ, nZ, nZ, .bool false, iZ, nZ] := Bx.kp (bx3.set 1 (.string t)) hk4 (by omega); have lx4 := bx4.lt; have cx4_6 := bx4.t6; have fx4_6 := bx4.open 6; have cx4_0 := bx4.t0; have cx4_1 := bx4.t1; have cx4_2 := bx4.t2; have cx4_3 := bx4.t3; have cx4_4 := bx4.t4; have cx4_5 := bx4.t5; have cx4_7 := bx4.t7; have cx4_8 := bx4.t8; have cx4_9 := bx4.t9; obtain ⟨cr4_0, cr4_1, cr4_2, cr4_3, cr4_4, cr4_5, cr4_6, cr4_7, cr4_8, cr4_9⟩ := br4.ten; obtain ⟨fr4_0, fr4_1, fr4_2, fr4_3, fr4_4, fr4_5, fr4_6, fr4_7, fr4_8, fr4_9⟩ := br4.tenO)
  | (go_at_call 55; refine (sqreadName_any hE _ hP2).mono ?_; intro e w3 hT3; obtain ⟨_, j3, rfl, hk3, hj3, hP3, hr3, rfl⟩ := tells_yes hT3 hr2 e3; have kk3 := kk2.trans hk3; have hs3 := kk3.size; have br3 := Bx.kp br2 hk3 (by omega); have lr3 := br3.lt; have bx3 := Bx.kp bx2 hk3 (by omega); have lx3 := bx3.lt; have cx3_1 := bx3.t1; have fx3_1 := bx3.open 1)
  | (go_at_call 34; refine (take_1 hE (by decide) _ (hP1.alloc _) (Bx.newB (by simp)) (by omega)).mono ?_; intro e w2 hT2; obtain ⟨_, j2, rfl, hk2, hj2, hP2, hr2, rfl⟩ := tells_yes hT2 hr1 e2; have kk2 := (kp_alloc kk1 _).trans hk2; have hs2 := kk2.size; have br2 : Bx w2 (w.heap.size) 28 z10 := Bx.kp (br1.alloc _) hk2 (by omega); have lr2 := br2.lt; have bx2 : Bx w2 (w.heap.size + 1) 28 #[.int .i64 4, sZ, sZ, nZ, nZ, nZ, nZ, .bool false, iZ, nZ] := Bx.kp (bx1.alloc _) hk2 (by omega); have lx2 := bx2.lt)
  | (go_at_call 27; refine (took_yes hE (by decide) hb1 _ ((hP.alloc _).alloc _) rfl).mono ?_; rintro e w1 ⟨rfl, hk1, hP1, hr1⟩; have kk1 := (kp_alloc (kp_alloc (gr w g) _) _).trans hk1; have hs1 := kk1.size; have br1 : Bx w1 (w.heap.size) 28 z10 := Bx.kp ((Bx.newB (by simp) : Bx _ (w.heap.size) 28 z10).alloc _) hk1 (by omega); have lr1 := br1.lt; have bx1 : Bx w1 (w.heap.size + 1) 28 #[.int .i64 4, sZ, sZ, nZ, nZ, nZ, nZ, .bool false, iZ, nZ] := Bx.kp (Bx.newB (by simp) : Bx _ (w.heap.size + 1) 28 #[.int .i64 4, sZ, sZ, nZ, nZ, nZ, nZ, .bool false, iZ, nZ]) hk1 (by omega); have lx1 := bx1.lt))
 refine bodyPost_ret (v := .agg #[.int .i64 4, .string t, .string ⟨#[]⟩, .slice none 0 0, .slice none 0 0, .slice none 0 0, .slice cs_o cs.length cs_c, .bool false, .int .i64 0, .slice none 0 0]) (by simp [results, Tryz.results31, go_sem, cr4_0, cr4_1, cr4_2, cr4_3, cr4_4, cr4_5, cr4_6, cr4_7, cr4_8, cr4_9]) rfl ?_
 rw [HO.out]
 exact ⟨(kp_sets (kp_set kk4 (by omega) 6 (.slice cs_o cs.length cs_c)) (by omega) 0 [.int .i64 4, .string t, .string ⟨#[]⟩, .slice none 0 0, .slice none 0 0, .slice none 0 0, .slice cs_o cs.length cs_c, .bool false, .int .i64 0, .slice none 0 0]), j4, (by omega), (PAt.sets (hP4.set bx4 (by decide) (by omega) 6 (.slice cs_o cs.length cs_c)) (br4.other (by omega) 6 (.slice cs_o cs.length cs_c)) (by decide) (by omega) 0 [.int .i64 4, .string t, .string ⟨#[]⟩, .slice none 0 0, .slice none 0 0, .slice none 0 0, .slice cs_o cs.length cs_c, .bool false, .int .i64 0, .slice none 0 0]), hr4, _, rfl, ⟨⟨none, 0, none, 0, none, 0, cs_o, cs_c, none, 0⟩, rfl, ⟨World.ownsRow_nil _ _ _ _, World.ownsRow_nil _ _ _ _, World.ownsRow_nil _ _ _ _, (row_sets (row_set oo4 bx4 (by decide) 6 (.slice cs_o cs.length cs_c)) (br4.other (by omega) 6 (.slice cs_o cs.length cs_c)) (by decide) 0 [.int .i64 4, .string t, .string ⟨#[]⟩, .slice none 0 0, .slice none 0 0, .slice none 0 0, .slice cs_o cs.length cs_c, .bool false, .int .i64 0, .slice none 0 0]), World.ownsRow_nil _ _ _ _⟩⟩⟩
theorem sqreadSelect_w4 {g : Nat} {v : Value} {l : List Tok} (hE : EndK l) {i : Nat}  {q2 : List TkC} (hb1 : isT ⟨#[42]⟩ (rem l i) = false) (e2 : listR ⟨#[44]⟩ nameR (rem l i) = (none, q2)) (w : World) (hP : PAt g v l i w) :
  Calls Tryz.prog 31 #[.pointer (some ⟨g, 0, none⟩)] w (Tells g v l i w VX (selectR (rem l i))) := by
 have hg0 := hP.g_lt
 have HO : Hid (selectR (rem l i) = (none, q2)) := by
  unfold Hid
  simp only [selectR, bnd, opt, ret, hb1, Bool.false_eq_true, if_false, e2]
 go_enter Tryz.func31, Tryz.ntmps31
 go_wp2_with (first
  | (go_at_call 62; refine (sqreadList_str_any hE ⟨#[44]⟩ (by decide) _ hP1).mono ?_; intro e w2 hT2; obtain ⟨j2, rfl, hk2, hj2, hP2, hr2⟩ := tells_no hT2 rfl e2)
  | (go_at_call 27; refine (took_no hb1 _ ((hP.alloc _).alloc _) rfl).mono ?_; rintro e w1 ⟨rfl, hk1, hP1⟩; have kk1 := (kp_alloc (kp_alloc (gr w g) _) _).trans hk1; have hs1 := kk1.size; have br1 : Bx w1 (w.heap.size) 28 z10 := Bx.kp ((Bx.newB (by simp) : Bx _ (w.heap.size) 28 z10).alloc _) hk1 (by omega); have lr1 := br1.lt; have bx1 : Bx w1 (w.heap.size + 1) 28 #[.int .i64 4, sZ, sZ, nZ, nZ, nZ, nZ, .bool false, iZ, nZ] := Bx.kp (Bx.newB (by simp) : Bx _ (w.heap.size + 1) 28 #[.int .i64 4, sZ, sZ, nZ, nZ, nZ, nZ, .bool false, iZ, nZ]) hk1 (by omega); have lx1 := bx1.lt))
 refine ⟨rfl, ?_⟩
 rw [HO.out]
 exact ⟨kk1.trans hk2, j2, (by omega), hP2, hr2, rfl⟩
theorem sqreadSelect_w5 {g : Nat} {v : Value} {l : List Tok} (hE : EndK l) {i : Nat}  {ns : List (ByteArray)} {q2 q3 : List TkC} (hb1 : isT ⟨#[42]⟩ (rem l i) = false) (e2 : listR ⟨#[44]⟩ nameR (rem l i) = (some ns, q2)) (e3 : takeR ⟨#[102, 114, 111, 109]⟩ q2 = (none, q3)) (w : World) (hP : PAt g v l i w) :
  Calls Tryz.prog 31 #[.pointer (some ⟨g, 0, none⟩)] w (Tells g v l i w VX (selectR (rem l i))) := by
 have hg0 := hP.g_lt
 have HO : Hid (selectR (rem l i) = (none, q3)) := by
  unfold Hid
  simp only [selectR, bnd, opt, ret, hb1, Bool.false_eq_true, if_false, e2, e3]
 go_enter Tryz.func31, Tryz.ntmps31
 go_wp2_with (first
  | (go_at_call 34; refine (take_1 hE (by decide) _ ((hP2.set bx2 (by decide) (by omega) 3 (.slice ns_o ns.length ns_c)).alloc _) (Bx.newB (by simp)) (by omega)).mono ?_; intro e w3 hT3; obtain ⟨j3, rfl, hk3, hj3, hP3, hr3⟩ := tells_no hT3 hr2 e3)
  | (go_at_call 62; refine (sqreadList_str_any hE ⟨#[44]⟩ (by decide) _ hP1).mono ?_; intro e w2 hT2; obtain ⟨u2, j2, rfl, hk2, hj2, hP2, hr2, hV2⟩ := tells_yes hT2 rfl e2; obtain ⟨ns_o, ns_c, rfl, ho2⟩ := hV2; have oo2 := row_mono ho2 kk1.size; have kk2 := kk1.trans hk2; have hs2 := kk2.size; have br2 := Bx.kp br1 hk2 (by omega); have lr2 := br2.lt; have bx2 := Bx.kp bx1 hk2 (by omega); have lx2 := bx2.lt; have cx2_3 := bx2.t3; have fx2_3 := bx2.open 3)
  | (go_at_call 27; refine (took_no hb1 _ ((hP.alloc _).alloc _) rfl).mono ?_; rintro e w1 ⟨rfl, hk1, hP1⟩; have kk1 := (kp_alloc (kp_alloc (gr w g) _) _).trans hk1; have hs1 := kk1.size; have br1 : Bx w1 (w.heap.size) 28 z10 := Bx.kp ((Bx.newB (by simp) : Bx _ (w.heap.size) 28 z10).alloc _) hk1 (by omega); have lr1 := br1.lt; have bx1 : Bx w1 (w.heap.size + 1) 28 #[.int .i64 4, sZ, sZ, nZ, nZ, nZ, nZ, .bool false, iZ, nZ] := Bx.kp (Bx.newB (by simp) : Bx _ (w.heap.size + 1) 28 #[.int .i64 4, sZ, sZ, nZ, nZ, nZ, nZ, .bool false, iZ, nZ]) hk1 (by omega); have lx1 := bx1.lt))
 refine ⟨rfl, ?_⟩
 rw [HO.out]
 exact ⟨(kp_alloc (kp_set kk2 (by omega) 3 (.slice ns_o ns.length ns_c)) _).trans hk3, j3, (by omega), hP3, hr3, rfl⟩
theorem sqreadSelect_w6 {g : Nat} {v : Value} {l : List Tok} (hE : EndK l) {i : Nat}  {ns : List (ByteArray)} {q2 q3 q4 : List TkC} (hb1 : isT ⟨#[42]⟩ (rem l i) = false) (e2 : listR ⟨#[44]⟩ nameR (rem l i) = (some ns, q2)) (e3 : takeR ⟨#[102, 114, 111, 109]⟩ q2 = (some (), q3)) (e4 : nameR q3 = (none, q4)) (w : World) (hP : PAt g v l i w) :
  Calls Tryz.prog 31 #[.pointer (some ⟨g, 0, none⟩)] w (Tells g v l i w VX (selectR (rem l i))) := by
 have hg0 := hP.g_lt
 have HO : Hid (selectR (rem l i) = (none, q4)) := by
  unfold Hid
  simp only [selectR, bnd, opt, ret, hb1, Bool.false_eq_true, if_false, e2, e3, e4]
 go_enter Tryz.func31, Tryz.ntmps31
 go_wp2_with (first
  | (go_at_call 55; refine (sqreadName_any hE _ hP3).mono ?_; intro e w4 hT4; obtain ⟨j4, rfl, hk4, hj4, hP4, hr4⟩ := tells_no hT4 hr3 e4)
  | (go_at_call 34; refine (take_1 hE (by decide) _ ((hP2.set bx2 (by decide) (by omega) 3 (.slice ns_o ns.length ns_c)).alloc _) (Bx.newB (by simp)) (by omega)).mono ?_; intro e w3 hT3; obtain ⟨_, j3, rfl, hk3, hj3, hP3, hr3, rfl⟩ := tells_yes hT3 hr2 e3; have kk3 := (kp_alloc (kp_set kk2 (by omega) 3 (.slice ns_o ns.length ns_c)) _).trans hk3; have hs3 := kk3.size; have br3 : Bx w3 (w.heap.size) 28 z10 := Bx.kp ((br2.other (by omega) 3 (.slice ns_o ns.length ns_c)).alloc _) hk3 (by omega); have lr3 := br3.lt; have bx3 : Bx w3 (w.heap.size + 1) 28 #[.int .i64 4, sZ, sZ, .slice ns_o ns.length ns_c, nZ, nZ, nZ, .bool false, iZ, nZ] := Bx.kp ((bx2.set 3 (.slice ns_o ns.length ns_c)).alloc _) hk3 (by omega); have lx3 := bx3.lt; have ons3 := row_kp ((row_set oo2 bx2 (by decide) 3 (.slice ns_o ns.length ns_c)).alloc _) hk3 hg0)
  | (go_at_call 62; refine (sqreadList_str_any hE ⟨#[44]⟩ (by decide) _ hP1).mono ?_; intro e w2 hT2; obtain ⟨u2, j2, rfl, hk2, hj2, hP2, hr2, hV2⟩ := tells_yes hT2 rfl e2; obtain ⟨ns_o, ns_c, rfl, ho2⟩ := hV2; have oo2 := row_mono ho2 kk1.size; have kk2 := kk1.trans hk2; have hs2 := kk2.size; have br2 := Bx.kp br1 hk2 (by omega); have lr2 := br2.lt; have bx2 := Bx.kp bx1 hk2 (by omega); have lx2 := bx2.lt; have cx2_3 := bx2.t3; have fx2_3 := bx2.open 3)
  | (go_at_call 27; refine (took_no hb1 _ ((hP.alloc _).alloc _) rfl).mono ?_; rintro e w1 ⟨rfl, hk1, hP1⟩; have kk1 := (kp_alloc (kp_alloc (gr w g) _) _).trans hk1; have hs1 := kk1.size; have br1 : Bx w1 (w.heap.size) 28 z10 := Bx.kp ((Bx.newB (by simp) : Bx _ (w.heap.size) 28 z10).alloc _) hk1 (by omega); have lr1 := br1.lt; have bx1 : Bx w1 (w.heap.size + 1) 28 #[.int .i64 4, sZ, sZ, nZ, nZ, nZ, nZ, .bool false, iZ, nZ] := Bx.kp (Bx.newB (by simp) : Bx _ (w.heap.size + 1) 28 #[.int .i64 4, sZ, sZ, nZ, nZ, nZ, nZ, .bool false, iZ, nZ]) hk1 (by omega); have lx1 := bx1.lt))
 refine ⟨rfl, ?_⟩
 rw [HO.out]
 exact ⟨kk3.trans hk4, j4, (by omega), hP4, hr4, rfl⟩
theorem sqreadSelect_w7 {g : Nat} {v : Value} {l : List Tok} (hE : EndK l) {i : Nat}  {ns : List (ByteArray)} {q2 q3 : List TkC} {t : ByteArray} {q4 q5 : List TkC} (hb1 : isT ⟨#[42]⟩ (rem l i) = false) (e2 : listR ⟨#[44]⟩ nameR (rem l i) = (some ns, q2)) (e3 : takeR ⟨#[102, 114, 111, 109]⟩ q2 = (some (), q3)) (e4 : nameR q3 = (some t, q4)) (e5 : whereR q4 = (none, q5)) (w : World) (hP : PAt g v l i w) :
  Calls Tryz.prog 31 #[.pointer (some ⟨g, 0, none⟩)] w (Tells g v l i w VX (selectR (rem l i))) := by
 have hg0 := hP.g_lt
 have HO : Hid (selectR (rem l i) = (none, q5)) := by
  unfold Hid
  simp only [selectR, bnd, opt, ret, hb1, Bool.false_eq_true, if_false, e2, e3, e4, e5]
 go_enter Tryz.func31, Tryz.ntmps31
 go_wp2_with (first
  | (go_at_call 61; refine (sqreadWhere_any hE _ (hP4.set bx4 (by decide) (by omega) 1 (.string t))).mono ?_; intro e w5 hT5; obtain ⟨j5, rfl, hk5, hj5, hP5, hr5⟩ := tells_no hT5 hr4 e5)
  | (go_at_call 55; refine (sqreadName_any hE _ hP3).mono ?_; intro e w4 hT4; obtain ⟨_, j4, rfl, hk4, hj4, hP4, hr4, rfl⟩ := tells_yes hT4 hr3 e4; have kk4 := kk3.trans hk4; have hs4 := kk4.size; have br4 := Bx.kp br3 hk4 (by omega); have lr4 := br4.lt; have bx4 := Bx.kp bx3 hk4 (by omega); have lx4 := bx4.lt; have ons4 := row_kp ons3 hk4 hg0; have cx4_1 := bx4.t1; have fx4_1 := bx4.open 1)
  | (go_at_call 34; refine (take_1 hE (by decide) _ ((hP2.set bx2 (by decide) (by omega) 3 (.slice ns_o ns.length ns_c)).alloc _) (Bx.newB (by simp)) (by omega)).mono ?_; intro e w3 hT3; obtain ⟨_, j3, rfl, hk3, hj3, hP3, hr3, rfl⟩ := tells_yes hT3 hr2 e3; have kk3 := (kp_alloc (kp_set kk2 (by omega) 3 (.slice ns_o ns.length ns_c)) _).trans hk3; have hs3 := kk3.size; have br3 : Bx w3 (w.heap.size) 28 z10 := Bx.kp ((br2.other (by omega) 3 (.slice ns_o ns.length ns_c)).alloc _) hk3 (by omega); have lr3 := br3.lt; have bx3 : Bx w3 (w.heap.size + 1) 28 #[.int .i64 4, sZ, sZ, .slice ns_o ns.length ns_c, nZ, nZ, nZ, .bool false, iZ, nZ] := Bx.kp ((bx2.set 3 (.slice ns_o ns.length ns_c)).alloc _) hk3 (by omega); have lx3 := bx3.lt; have ons3 := row_kp ((row_set oo2 bx2 (by decide) 3 (.slice ns_o ns.length ns_c)).alloc _) hk3 hg0)
  | (go_at_call 62; refine (sqreadList_str_any hE ⟨#[44]⟩ (by decide) _ hP1).mono ?_; intro e w2 hT2; obtain ⟨u2, j2, rfl, hk2, hj2, hP2, hr2, hV2⟩ := tells_yes hT2 rfl e2; obtain ⟨ns_o, ns_c, rfl, ho2⟩ := hV2; have oo2 := row_mono ho2 kk1.size; have kk2 := kk1.trans hk2; have hs2 := kk2.size; have br2 := Bx.kp br1 hk2 (by omega); have lr2 := br2.lt; have bx2 := Bx.kp bx1 hk2 (by omega); have lx2 := bx2.lt; have cx2_3 := bx2.t3; have fx2_3 := bx2.open 3)
  | (go_at_call 27; refine (took_no hb1 _ ((hP.alloc _).alloc _) rfl).mono ?_; rintro e w1 ⟨rfl, hk1, hP1⟩; have kk1 := (kp_alloc (kp_alloc (gr w g) _) _).trans hk1; have hs1 := kk1.size; have br1 : Bx w1 (w.heap.size) 28 z10 := Bx.kp ((Bx.newB (by simp) : Bx _ (w.heap.size) 28 z10).alloc _) hk1 (by omega); have lr1 := br1.lt; have bx1 : Bx w1 (w.heap.size + 1) 28 #[.int .i64 4, sZ, sZ, nZ, nZ, nZ, nZ, .bool false, iZ, nZ] := Bx.kp (Bx.newB (by simp) : Bx _ (w.heap.size + 1) 28 #[.int .i64 4, sZ, sZ, nZ, nZ, nZ, nZ, .bool false, iZ, nZ]) hk1 (by omega); have lx1 := bx1.lt))
 refine ⟨rfl, ?_⟩
 rw [HO.out]
 exact ⟨(kp_set kk4 (by omega) 1 (.string t)).trans hk5, j5, (by omega), hP5, hr5, rfl⟩
theorem sqreadSelect_w8 {g : Nat} {v : Value} {l : List Tok} (hE : EndK l) {i : Nat}  {ns : List (ByteArray)} {q2 q3 : List TkC} {t : ByteArray} {q4 : List TkC} {cs : List (Cnd)} {q5 : List TkC} (hb1 : isT ⟨#[42]⟩ (rem l i) = false) (e2 : listR ⟨#[44]⟩ nameR (rem l i) = (some ns, q2)) (e3 : takeR ⟨#[102, 114, 111, 109]⟩ q2 = (some (), q3)) (e4 : nameR q3 = (some t, q4)) (e5 : whereR q4 = (some cs, q5)) (w : World) (hP : PAt g v l i w) :
  Calls Tryz.prog 31 #[.pointer (some ⟨g, 0, none⟩)] w (Tells g v l i w VX (selectR (rem l i))) := by
 have hg0 := hP.g_lt
 have HO : Hid (selectR (rem l i) = (some { Stm.zero with kind := 4, table := t, cols := ns, conds := cs }, q5)) := by
  unfold Hid
  simp only [selectR, bnd, opt, ret, hb1, Bool.false_eq_true, if_false, e2, e3, e4, e5]
 go_enter Tryz.func31, Tryz.ntmps31
 go_wp2_with (first
  | (go_at_call 61; refine (sqreadWhere_any hE _ (hP4.set bx4 (by decide) (by omega) 1 (.string t))).mono ?_; intro e w5 hT5; obtain ⟨u5, j5, rfl, hk5, hj5, hP5, hr5, hV5⟩ := tells_yes hT5 hr4 e5; obtain ⟨cs_o, cs_c, rfl, ho5⟩ := hV5; have oo5 := row_mono ho5 (kp_set kk4 (by omega) 1 (.string t)).size; have kk5 := (kp_set kk4 (by omega) 1 (.string t)).trans hk5; have hs5 := kk5.size; have br5 : Bx w5 (w.heap.size) 28 z10 := Bx.kp (br4.other (by omega) 1 (.string t)) hk5 (by omega); have lr5 := br5.lt; have bx5 : Bx w5 (w.heap.size + 1) 28 #[.int .i64 4, .string t, sZ, .slice ns_o ns.length ns_c, nZ, nZ, nZ, .bool false, iZ, nZ] := Bx.kp (bx4.set 1 (.string t)) hk5 (by omega); have lx5 := bx5.lt; have ons5 := row_kp (row_set ons4 bx4 (by decide) 1 (.string t)) hk5 hg0; have cx5_6 := bx5.t6; have fx5_6 := bx5.open 6; have cx5_0 := bx5.t0; have cx5_1 := bx5.t1; have cx5_2 := bx5.t2; have cx5_3 := bx5.t3; have cx5_4 := bx5.t4; have cx5_5 := bx5.t5; have cx5_7 := bx5.t7; have cx5_8 := bx5.t8; have cx5_9 := bx5.t9; obtain ⟨cr5_0, cr5_1, cr5_2, cr5_3, cr5_4, cr5_5, cr5_6, cr5_7, cr5_8, cr5_9⟩ := br5.ten; obtain ⟨fr5_0, fr5_1, fr5_2, fr5_3, fr5_4, fr5_5, fr5_6, fr5_7, fr5_8, fr5_9⟩ := br5.tenO)
  | (go_at_call 55; refine (sqreadName_any hE _ hP3).mono ?_; intro e w4 hT4; obtain ⟨_, j4, rfl, hk4, hj4, hP4, hr4, rfl⟩ := tells_yes hT4 hr3 e4; have kk4 := kk3.trans hk4; have hs4 := kk4.size; have br4 := Bx.kp br3 hk4 (by omega); have lr4 := br4.lt; have bx4 := Bx.kp bx3 hk4 (by omega); have lx4 := bx4.lt; have ons4 := row_kp ons3 hk4 hg0; have cx4_1 := bx4.t1; have fx4_1 := bx4.open 1)
  | (go_at_call 34; refine (take_1 hE (by decide) _ ((hP2.set bx2 (by decide) (by omega) 3 (.slice ns_o ns.length ns_c)).alloc _) (Bx.newB (by simp)) (by omega)).mono ?_; intro e w3 hT3; obtain ⟨_, j3, rfl, hk3, hj3, hP3, hr3, rfl⟩ := tells_yes hT3 hr2 e3; have kk3 := (kp_alloc (kp_set kk2 (by omega) 3 (.slice ns_o ns.length ns_c)) _).trans hk3; have hs3 := kk3.size; have br3 : Bx w3 (w.heap.size) 28 z10 := Bx.kp ((br2.other (by omega) 3 (.slice ns_o ns.length ns_c)).alloc _) hk3 (by omega); have lr3 := br3.lt; have bx3 : Bx w3 (w.heap.size + 1) 28 #[.int .i64 4, sZ, sZ, .slice ns_o ns.length ns_c, nZ, nZ, nZ, .bool false, iZ, nZ] := Bx.kp ((bx2.set 3 (.slice ns_o ns.length ns_c)).alloc _) hk3 (by omega); have lx3 := bx3.lt; have ons3 := row_kp ((row_set oo2 bx2 (by decide) 3 (.slice ns_o ns.length ns_c)).alloc _) hk3 hg0)
  | (go_at_call 62; refine (sqreadList_str_any hE ⟨#[44]⟩ (by decide) _ hP1).mono ?_; intro e w2 hT2; obtain ⟨u2, j2, rfl, hk2, hj2, hP2, hr2, hV2⟩ := tells_yes hT2 rfl e2; obtain ⟨ns_o, ns_c, rfl, ho2⟩ := hV2; have oo2 := row_mono ho2 kk1.size; have kk2 := kk1.trans hk2; have hs2 := kk2.size; have br2 := Bx.kp br1 hk2 (by omega); have lr2 := br2.lt; have bx2 := Bx.kp bx1 hk2 (by omega); have lx2 := bx2.lt; have cx2_3 := bx2.t3; have fx2_3 := bx2.open 3)
  | (go_at_call 27; refine (took_no hb1 _ ((hP.alloc _).alloc _) rfl).mono ?_; rintro e w1 ⟨rfl, hk1, hP1⟩; have kk1 := (kp_alloc (kp_alloc (gr w g) _) _).trans hk1; have hs1 := kk1.size; have br1 : Bx w1 (w.heap.size) 28 z10 := Bx.kp ((Bx.newB (by simp) : Bx _ (w.heap.size) 28 z10).alloc _) hk1 (by omega); have lr1 := br1.lt; have bx1 : Bx w1 (w.heap.size + 1) 28 #[.int .i64 4, sZ, sZ, nZ, nZ, nZ, nZ, .bool false, iZ, nZ] := Bx.kp (Bx.newB (by simp) : Bx _ (w.heap.size + 1) 28 #[.int .i64 4, sZ, sZ, nZ, nZ, nZ, nZ, .bool false, iZ, nZ]) hk1 (by omega); have lx1 := bx1.lt))
 refine bodyPost_ret (v := .agg #[.int .i64 4, .string t, .string ⟨#[]⟩, .slice ns_o ns.length ns_c, .slice none 0 0, .slice none 0 0, .slice cs_o cs.length cs_c, .bool false, .int .i64 0, .slice none 0 0]) (by simp [results, Tryz.results31, go_sem, cr5_0, cr5_1, cr5_2, cr5_3, cr5_4, cr5_5, cr5_6, cr5_7, cr5_8, cr5_9]) rfl ?_
 rw [HO.out]
 exact ⟨(kp_sets (kp_set kk5 (by omega) 6 (.slice cs_o cs.length cs_c)) (by omega) 0 [.int .i64 4, .string t, .string ⟨#[]⟩, .slice ns_o ns.length ns_c, .slice none 0 0, .slice none 0 0, .slice cs_o cs.length cs_c, .bool false, .int .i64 0, .slice none 0 0]), j5, (by omega), (PAt.sets (hP5.set bx5 (by decide) (by omega) 6 (.slice cs_o cs.length cs_c)) (br5.other (by omega) 6 (.slice cs_o cs.length cs_c)) (by decide) (by omega) 0 [.int .i64 4, .string t, .string ⟨#[]⟩, .slice ns_o ns.length ns_c, .slice none 0 0, .slice none 0 0, .slice cs_o cs.length cs_c, .bool false, .int .i64 0, .slice none 0 0]), hr5, _, rfl, ⟨⟨ns_o, ns_c, none, 0, none, 0, cs_o, cs_c, none, 0⟩, rfl, ⟨(row_sets (row_set ons5 bx5 (by decide) 6 (.slice cs_o cs.length cs_c)) (br5.other (by omega) 6 (.slice cs_o cs.length cs_c)) (by decide) 0 [.int .i64 4, .string t, .string ⟨#[]⟩, .slice ns_o ns.length ns_c, .slice none 0 0, .slice none 0 0, .slice cs_o cs.length cs_c, .bool false, .int .i64 0, .slice none 0 0]), World.ownsRow_nil _ _ _ _, World.ownsRow_nil _ _ _ _, (row_sets (row_set oo5 bx5 (by decide) 6 (.slice cs_o cs.length cs_c)) (br5.other (by omega) 6 (.slice cs_o cs.length cs_c)) (by decide) 0 [.int .i64 4, .string t, .string ⟨#[]⟩, .slice ns_o ns.length ns_c, .slice none 0 0, .slice none 0 0, .slice cs_o cs.length cs_c, .bool false, .int .i64 0, .slice none 0 0]), World.ownsRow_nil _ _ _ _⟩⟩⟩
theorem sqreadSelect_any {g : Nat} {v : Value} {l : List Tok} (hE : EndK l) {i : Nat}  (w : World) (hP : PAt g v l i w) :
  Calls Tryz.prog 31 #[.pointer (some ⟨g, 0, none⟩)] w (Tells g v l i w VX (selectR (rem l i))) := by
 rcases Bool.eq_false_or_eq_true (isT ⟨#[42]⟩ (rem l i)) with hb1 | hb1
 ·rcases e2 : takeR ⟨#[102, 114, 111, 109]⟩ (rem l i).tail with ⟨o2, q2⟩
  cases o2 with
  | none =>
   exact sqreadSelect_w0 hE hb1 e2 w hP
  | some a2 =>
   cases a2
   rcases e3 : nameR q2 with ⟨o3, q3⟩
   cases o3 with
   | none =>
    exact sqreadSelect_w1 hE hb1 e2 e3 w hP
   | some t =>
    rcases e4 : whereR q3 with ⟨o4, q4⟩
    cases o4 with
    | none =>
     exact sqreadSelect_w2 hE hb1 e2 e3 e4 w hP
    | some cs =>
     exact sqreadSelect_w3 hE hb1 e2 e3 e4 w hP
 ·rcases e2 : listR ⟨#[44]⟩ nameR (rem l i) with ⟨o2, q2⟩
  cases o2 with
  | none =>
   exact sqreadSelect_w4 hE hb1 e2 w hP
  | some ns =>
   rcases e3 : takeR ⟨#[102, 114, 111, 109]⟩ q2 with ⟨o3, q3⟩
   cases o3 with
   | none =>
    exact sqreadSelect_w5 hE hb1 e2 e3 w hP
   | some a3 =>
    cases a3
    rcases e4 : nameR q3 with ⟨o4, q4⟩
    cases o4 with
    | none =>
     exact sqreadSelect_w6 hE hb1 e2 e3 e4 w hP
    | some t =>
     rcases e5 : whereR q4 with ⟨o5, q5⟩
     cases o5 with
     | none =>
      exact sqreadSelect_w7 hE hb1 e2 e3 e4 e5 w hP
     | some cs =>
      exact sqreadSelect_w8 hE hb1 e2 e3 e4 e5 w hP
theorem sqreadInsert_w0 {g : Nat} {v : Value} {l : List Tok} (hE : EndK l) {i : Nat}  {q1 : List TkC} (e1 : takeR ⟨#[105, 110, 116, 111]⟩ (rem l i) = (none, q1)) (w : World) (hP : PAt g v l i w) :
  Calls Tryz.prog 28 #[.pointer (some ⟨g, 0, none⟩)] w (Tells g v l i w VX (insertR (rem l i))) := by
 have hg0 := hP.g_lt
 have HO : Hid (insertR (rem l i) = (none, q1)) := by
  unfold Hid
  simp only [insertR, bnd, opt, ret, e1]
 go_enter Tryz.func28, Tryz.ntmps28
 go_wp2_with (first
  | (go_at_call 34; refine (take_1 hE (by decide) _ (((hP.alloc _).alloc _).alloc _) (Bx.newB (by simp)) (by omega)).mono ?_; intro e w1 hT1; obtain ⟨j1, rfl, hk1, hj1, hP1, hr1⟩ := tells_no hT1 rfl e1))
 refine ⟨rfl, ?_⟩
 rw [HO.out]
 exact ⟨(kp_alloc (kp_alloc (kp_alloc (gr w g) _) _) _).trans hk1, j1, (by omega), hP1, hr1, rfl⟩
theorem sqreadInsert_w1 {g : Nat} {v : Value} {l : List Tok} (hE : EndK l) {i : Nat}  {q1 q2 : List TkC} (e1 : takeR ⟨#[105, 110, 116, 111]⟩ (rem l i) = (some (), q1)) (e2 : nameR q1 = (none, q2)) (w : World) (hP : PAt g v l i w) :
  Calls Tryz.prog 28 #[.pointer (some ⟨g, 0, none⟩)] w (Tells g v l i w VX (insertR (rem l i))) := by
 have hg0 := hP.g_lt
 have HO : Hid (insertR (rem l i) = (none, q2)) := by
  unfold Hid
  simp only [insertR, bnd, opt, ret, e1, e2]
 go_enter Tryz.func28, Tryz.ntmps28
 go_wp2_with (first
  | (go_at_call 55; refine (sqreadName_any hE _ hP1).mono ?_; intro e w2 hT2; obtain ⟨j2, rfl, hk2, hj2, hP2, hr2⟩ := tells_no hT2 hr1 e2)
  | (go_at_call 34; refine (take_1 hE (by decide) _ (((hP.alloc _).alloc _).alloc _) (Bx.newB (by simp)) (by omega)).mono ?_; intro e w1 hT1; obtain ⟨_, j1, rfl, hk1, hj1, hP1, hr1, rfl⟩ := tells_yes hT1 rfl e1; have kk1 := (kp_alloc (kp_alloc (kp_alloc (gr w g) _) _) _).trans hk1; have hs1 := kk1.size; have br1 : Bx w1 (w.heap.size) 28 z10 := Bx.kp (((Bx.newB (by simp) : Bx _ (w.heap.size) 28 z10).alloc _).alloc _) hk1 (by omega); have lr1 := br1.lt; have bx1 : Bx w1 (w.heap.size + 1) 28 #[.int .i64 1, sZ, sZ, nZ, nZ, nZ, nZ, .bool false, iZ, nZ] := Bx.kp ((Bx.newB (by simp) : Bx _ (w.heap.size + 1) 28 #[.int .i64 1, sZ, sZ, nZ, nZ, nZ, nZ, .bool false, iZ, nZ]).alloc _) hk1 (by omega); have lx1 := bx1.lt))
 refine ⟨rfl, ?_⟩
 rw [HO.out]
 exact ⟨kk1.trans hk2, j2, (by omega), hP2, hr2, rfl⟩
theorem sqreadInsert_w2 {g : Nat} {v : Value} {l : List Tok} (hE : EndK l) {i : Nat}  {q1 : List TkC} {t : ByteArray} {q2 q3 : List TkC} (e1 : takeR ⟨#[105, 110, 116, 111]⟩ (rem l i) = (some (), q1)) (e2 : nameR q1 = (some t, q2)) (e3 : rowR nameR q2 = (none, q3)) (w : World) (hP : PAt g v l i w) :
  Calls Tryz.prog 28 #[.pointer (some ⟨g, 0, none⟩)] w (Tells g v l i w VX (insertR (rem l i))) := by
 have hg0 := hP.g_lt
 have HO : Hid (insertR (rem l i) = (none, q3)) := by
  unfold Hid
  simp only [insertR, bnd, opt, ret, e1, e2, e3]
 go_enter Tryz.func28, Tryz.ntmps28
 go_wp2_with (first
  | (go_at_call 56; refine (sqreadRow_string_any hE _ (hP2.set bx2 (by decide) (by omega) 1 (.string t))).mono ?_; intro e w3 hT3; obtain ⟨j3, rfl, hk3, hj3, hP3, hr3⟩ := tells_no hT3 hr2 e3)
  | (go_at_call 55; refine (sqreadName_any hE _ hP1).mono ?_; intro e w2 hT2; obtain ⟨_, j2, rfl, hk2, hj2, hP2, hr2, rfl⟩ := tells_yes hT2 hr1 e2; have kk2 := kk1.trans hk2; have hs2 := kk2.size; have br2 := Bx.kp br1 hk2 (by omega); have lr2 := br2.lt; have bx2 := Bx.kp bx1 hk2 (by omega); have lx2 := bx2.lt; have cx2_1 := bx2.t1; have fx2_1 := bx2.open 1)
  | (go_at_call 34; refine (take_1 hE (by decide) _ (((hP.alloc _).alloc _).alloc _) (Bx.newB (by simp)) (by omega)).mono ?_; intro e w1 hT1; obtain ⟨_, j1, rfl, hk1, hj1, hP1, hr1, rfl⟩ := tells_yes hT1 rfl e1; have kk1 := (kp_alloc (kp_alloc (kp_alloc (gr w g) _) _) _).trans hk1; have hs1 := kk1.size; have br1 : Bx w1 (w.heap.size) 28 z10 := Bx.kp (((Bx.newB (by simp) : Bx _ (w.heap.size) 28 z10).alloc _).alloc _) hk1 (by omega); have lr1 := br1.lt; have bx1 : Bx w1 (w.heap.size + 1) 28 #[.int .i64 1, sZ, sZ, nZ, nZ, nZ, nZ, .bool false, iZ, nZ] := Bx.kp ((Bx.newB (by simp) : Bx _ (w.heap.size + 1) 28 #[.int .i64 1, sZ, sZ, nZ, nZ, nZ, nZ, .bool false, iZ, nZ]).alloc _) hk1 (by omega); have lx1 := bx1.lt))
 refine ⟨rfl, ?_⟩
 rw [HO.out]
 exact ⟨(kp_set kk2 (by omega) 1 (.string t)).trans hk3, j3, (by omega), hP3, hr3, rfl⟩
theorem sqreadInsert_w3 {g : Nat} {v : Value} {l : List Tok} (hE : EndK l) {i : Nat}  {q1 : List TkC} {t : ByteArray} {q2 : List TkC} {ns : List (ByteArray)} {q3 q4 : List TkC} (e1 : takeR ⟨#[105, 110, 116, 111]⟩ (rem l i) = (some (), q1)) (e2 : nameR q1 = (some t, q2)) (e3 : rowR nameR q2 = (some ns, q3)) (e4 : takeR ⟨#[118, 97, 108, 117, 101, 115]⟩ q3 = (none, q4)) (w : World) (hP : PAt g v l i w) :
  Calls Tryz.prog 28 #[.pointer (some ⟨g, 0, none⟩)] w (Tells g v l i w VX (insertR (rem l i))) := by
 have hg0 := hP.g_lt
 have HO : Hid (insertR (rem l i) = (none, q4)) := by
  unfold Hid
  simp only [insertR, bnd, opt, ret, e1, e2, e3, e4]
 go_enter Tryz.func28, Tryz.ntmps28
 go_wp2_with (first
  | (go_at_call 34; refine (take_1 hE (by decide) _ ((hP3.set bx3 (by decide) (by omega) 3 (.slice ns_o ns.length ns_c)).alloc _) (Bx.newB (by simp)) (by omega)).mono ?_; intro e w4 hT4; obtain ⟨j4, rfl, hk4, hj4, hP4, hr4⟩ := tells_no hT4 hr3 e4)
  | (go_at_call 56; refine (sqreadRow_string_any hE _ (hP2.set bx2 (by decide) (by omega) 1 (.string t))).mono ?_; intro e w3 hT3; obtain ⟨u3, j3, rfl, hk3, hj3, hP3, hr3, hV3⟩ := tells_yes hT3 hr2 e3; obtain ⟨ns_o, ns_c, rfl, ho3⟩ := hV3; have oo3 := row_mono ho3 (kp_set kk2 (by omega) 1 (.string t)).size; have kk3 := (kp_set kk2 (by omega) 1 (.string t)).trans hk3; have hs3 := kk3.size; have br3 : Bx w3 (w.heap.size) 28 z10 := Bx.kp (br2.other (by omega) 1 (.string t)) hk3 (by omega); have lr3 := br3.lt; have bx3 : Bx w3 (w.heap.size + 1) 28 #[.int .i64 1, .string t, sZ, nZ, nZ, nZ, nZ, .bool false, iZ, nZ] := Bx.kp (bx2.set 1 (.string t)) hk3 (by omega); have lx3 := bx3.lt; have cx3_3 := bx3.t3; have fx3_3 := bx3.open 3)
  | (go_at_call 55; refine (sqreadName_any hE _ hP1).mono ?_; intro e w2 hT2; obtain ⟨_, j2, rfl, hk2, hj2, hP2, hr2, rfl⟩ := tells_yes hT2 hr1 e2; have kk2 := kk1.trans hk2; have hs2 := kk2.size; have br2 := Bx.kp br1 hk2 (by omega); have lr2 := br2.lt; have bx2 := Bx.kp bx1 hk2 (by omega); have lx2 := bx2.lt; have cx2_1 := bx2.t1; have fx2_1 := bx2.open 1)
  | (go_at_call 34; refine (take_1 hE (by decide) _ (((hP.alloc _).alloc _).alloc _) (Bx.newB (by simp)) (by omega)).mono ?_; intro e w1 hT1; obtain ⟨_, j1, rfl, hk1, hj1, hP1, hr1, rfl⟩ := tells_yes hT1 rfl e1; have kk1 := (kp_alloc (kp_alloc (kp_alloc (gr w g) _) _) _).trans hk1; have hs1 := kk1.size; have br1 : Bx w1 (w.heap.size) 28 z10 := Bx.kp (((Bx.newB (by simp) : Bx _ (w.heap.size) 28 z10).alloc _).alloc _) hk1 (by omega); have lr1 := br1.lt; have bx1 : Bx w1 (w.heap.size + 1) 28 #[.int .i64 1, sZ, sZ, nZ, nZ, nZ, nZ, .bool false, iZ, nZ] := Bx.kp ((Bx.newB (by simp) : Bx _ (w.heap.size + 1) 28 #[.int .i64 1, sZ, sZ, nZ, nZ, nZ, nZ, .bool false, iZ, nZ]).alloc _) hk1 (by omega); have lx1 := bx1.lt))
 refine ⟨rfl, ?_⟩
 rw [HO.out]
 exact ⟨(kp_alloc (kp_set kk3 (by omega) 3 (.slice ns_o ns.length ns_c)) _).trans hk4, j4, (by omega), hP4, hr4, rfl⟩
theorem sqreadInsert_w4 {g : Nat} {v : Value} {l : List Tok} (hE : EndK l) {i : Nat}  {q1 : List TkC} {t : ByteArray} {q2 : List TkC} {ns : List (ByteArray)} {q3 q4 q5 : List TkC} (e1 : takeR ⟨#[105, 110, 116, 111]⟩ (rem l i) = (some (), q1)) (e2 : nameR q1 = (some t, q2)) (e3 : rowR nameR q2 = (some ns, q3)) (e4 : takeR ⟨#[118, 97, 108, 117, 101, 115]⟩ q3 = (some (), q4)) (e5 : rowR valueR q4 = (none, q5)) (w : World) (hP : PAt g v l i w) :
  Calls Tryz.prog 28 #[.pointer (some ⟨g, 0, none⟩)] w (Tells g v l i w VX (insertR (rem l i))) := by
 have hg0 := hP.g_lt
 have HO : Hid (insertR (rem l i) = (none, q5)) := by
  unfold Hid
  simp only [insertR, bnd, opt, ret, e1, e2, e3, e4, e5]
 go_enter Tryz.func28, Tryz.ntmps28
 go_wp2_with (first
  | (go_at_call 57; refine (sqreadRow_api_any hE _ hP4).mono ?_; intro e w5 hT5; obtain ⟨j5, rfl, hk5, hj5, hP5, hr5⟩ := tells_no hT5 hr4 e5)
  | (go_at_call 34; refine (take_1 hE (by decide) _ ((hP3.set bx3 (by decide) (by omega) 3 (.slice ns_o ns.length ns_c)).alloc _) (Bx.newB (by simp)) (by omega)).mono ?_; intro e w4 hT4; obtain ⟨_, j4, rfl, hk4, hj4, hP4, hr4, rfl⟩ := tells_yes hT4 hr3 e4; have kk4 := (kp_alloc (kp_set kk3 (by omega) 3 (.slice ns_o ns.length ns_c)) _).trans hk4; have hs4 := kk4.size; have br4 : Bx w4 (w.heap.size) 28 z10 := Bx.kp ((br3.other (by omega) 3 (.slice ns_o ns.length ns_c)).alloc _) hk4 (by omega); have lr4 := br4.lt; have bx4 : Bx w4 (w.heap.size + 1) 28 #[.int .i64 1, .string t, sZ, .slice ns_o ns.length ns_c, nZ, nZ, nZ, .bool false, iZ, nZ] := Bx.kp ((bx3.set 3 (.slice ns_o ns.length ns_c)).alloc _) hk4 (by omega); have lx4 := bx4.lt; have ons4 := row_kp ((row_set oo3 bx3 (by decide) 3 (.slice ns_o ns.length ns_c)).alloc _) hk4 hg0)
  | (go_at_call 56; refine (sqreadRow_string_any hE _ (hP2.set bx2 (by decide) (by omega) 1 (.string t))).mono ?_; intro e w3 hT3; obtain ⟨u3, j3, rfl, hk3, hj3, hP3, hr3, hV3⟩ := tells_yes hT3 hr2 e3; obtain ⟨ns_o, ns_c, rfl, ho3⟩ := hV3; have oo3 := row_mono ho3 (kp_set kk2 (by omega) 1 (.string t)).size; have kk3 := (kp_set kk2 (by omega) 1 (.string t)).trans hk3; have hs3 := kk3.size; have br3 : Bx w3 (w.heap.size) 28 z10 := Bx.kp (br2.other (by omega) 1 (.string t)) hk3 (by omega); have lr3 := br3.lt; have bx3 : Bx w3 (w.heap.size + 1) 28 #[.int .i64 1, .string t, sZ, nZ, nZ, nZ, nZ, .bool false, iZ, nZ] := Bx.kp (bx2.set 1 (.string t)) hk3 (by omega); have lx3 := bx3.lt; have cx3_3 := bx3.t3; have fx3_3 := bx3.open 3)
  | (go_at_call 55; refine (sqreadName_any hE _ hP1).mono ?_; intro e w2 hT2; obtain ⟨_, j2, rfl, hk2, hj2, hP2, hr2, rfl⟩ := tells_yes hT2 hr1 e2; have kk2 := kk1.trans hk2; have hs2 := kk2.size; have br2 := Bx.kp br1 hk2 (by omega); have lr2 := br2.lt; have bx2 := Bx.kp bx1 hk2 (by omega); have lx2 := bx2.lt; have cx2_1 := bx2.t1; have fx2_1 := bx2.open 1)
  | (go_at_call 34; refine (take_1 hE (by decide) _ (((hP.alloc _).alloc _).alloc _) (Bx.newB (by simp)) (by omega)).mono ?_; intro e w1 hT1; obtain ⟨_, j1, rfl, hk1, hj1, hP1, hr1, rfl⟩ := tells_yes hT1 rfl e1; have kk1 := (kp_alloc (kp_alloc (kp_alloc (gr w g) _) _) _).trans hk1; have hs1 := kk1.size; have br1 : Bx w1 (w.heap.size) 28 z10 := Bx.kp (((Bx.newB (by simp) : Bx _ (w.heap.size) 28 z10).alloc _).alloc _) hk1 (by omega); have lr1 := br1.lt; have bx1 : Bx w1 (w.heap.size + 1) 28 #[.int .i64 1, sZ, sZ, nZ, nZ, nZ, nZ, .bool false, iZ, nZ] := Bx.kp ((Bx.newB (by simp) : Bx _ (w.heap.size + 1) 28 #[.int .i64 1, sZ, sZ, nZ, nZ, nZ, nZ, .bool false, iZ, nZ]).alloc _) hk1 (by omega); have lx1 := bx1.lt))
 refine ⟨rfl, ?_⟩
 rw [HO.out]
 exact ⟨kk4.trans hk5, j5, (by omega), hP5, hr5, rfl⟩
theorem sqreadInsert_w5 {g : Nat} {v : Value} {l : List Tok} (hE : EndK l) {i : Nat}  {q1 : List TkC} {t : ByteArray} {q2 : List TkC} {ns : List (ByteArray)} {q3 q4 : List TkC} {vs : List (Val)} {q5 : List TkC} (e1 : takeR ⟨#[105, 110, 116, 111]⟩ (rem l i) = (some (), q1)) (e2 : nameR q1 = (some t, q2)) (e3 : rowR nameR q2 = (some ns, q3)) (e4 : takeR ⟨#[118, 97, 108, 117, 101, 115]⟩ q3 = (some (), q4)) (e5 : rowR valueR q4 = (some vs, q5)) (w : World) (hP : PAt g v l i w) :
  Calls Tryz.prog 28 #[.pointer (some ⟨g, 0, none⟩)] w (Tells g v l i w VX (insertR (rem l i))) := by
 have hg0 := hP.g_lt
 have HO : Hid (insertR (rem l i) = (some { Stm.zero with kind := 1, table := t, cols := ns, vals := vs }, q5)) := by
  unfold Hid
  simp only [insertR, bnd, opt, ret, e1, e2, e3, e4, e5]
 go_enter Tryz.func28, Tryz.ntmps28
 go_wp2_with (first
  | (go_at_call 57; refine (sqreadRow_api_any hE _ hP4).mono ?_; intro e w5 hT5; obtain ⟨u5, j5, rfl, hk5, hj5, hP5, hr5, hV5⟩ := tells_yes hT5 hr4 e5; obtain ⟨vs_o, vs_c, rfl, ho5⟩ := hV5; have oo5 := row_mono ho5 kk4.size; have kk5 := kk4.trans hk5; have hs5 := kk5.size; have br5 := Bx.kp br4 hk5 (by omega); have lr5 := br5.lt; have bx5 := Bx.kp bx4 hk5 (by omega); have lx5 := bx5.lt; have ons5 := row_kp ons4 hk5 hg0; have cx5_4 := bx5.t4; have fx5_4 := bx5.open 4; have cx5_0 := bx5.t0; have cx5_1 := bx5.t1; have cx5_2 := bx5.t2; have cx5_3 := bx5.t3; have cx5_5 := bx5.t5; have cx5_6 := bx5.t6; have cx5_7 := bx5.t7; have cx5_8 := bx5.t8; have cx5_9 := bx5.t9; obtain ⟨cr5_0, cr5_1, cr5_2, cr5_3, cr5_4, cr5_5, cr5_6, cr5_7, cr5_8, cr5_9⟩ := br5.ten; obtain ⟨fr5_0, fr5_1, fr5_2, fr5_3, fr5_4, fr5_5, fr5_6, fr5_7, fr5_8, fr5_9⟩ := br5.tenO)
  | (go_at_call 34; refine (take_1 hE (by decide) _ ((hP3.set bx3 (by decide) (by omega) 3 (.slice ns_o ns.length ns_c)).alloc _) (Bx.newB (by simp)) (by omega)).mono ?_; intro e w4 hT4; obtain ⟨_, j4, rfl, hk4, hj4, hP4, hr4, rfl⟩ := tells_yes hT4 hr3 e4; have kk4 := (kp_alloc (kp_set kk3 (by omega) 3 (.slice ns_o ns.length ns_c)) _).trans hk4; have hs4 := kk4.size; have br4 : Bx w4 (w.heap.size) 28 z10 := Bx.kp ((br3.other (by omega) 3 (.slice ns_o ns.length ns_c)).alloc _) hk4 (by omega); have lr4 := br4.lt; have bx4 : Bx w4 (w.heap.size + 1) 28 #[.int .i64 1, .string t, sZ, .slice ns_o ns.length ns_c, nZ, nZ, nZ, .bool false, iZ, nZ] := Bx.kp ((bx3.set 3 (.slice ns_o ns.length ns_c)).alloc _) hk4 (by omega); have lx4 := bx4.lt; have ons4 := row_kp ((row_set oo3 bx3 (by decide) 3 (.slice ns_o ns.length ns_c)).alloc _) hk4 hg0)
  | (go_at_call 56; refine (sqreadRow_string_any hE _ (hP2.set bx2 (by decide) (by omega) 1 (.string t))).mono ?_; intro e w3 hT3; obtain ⟨u3, j3, rfl, hk3, hj3, hP3, hr3, hV3⟩ := tells_yes hT3 hr2 e3; obtain ⟨ns_o, ns_c, rfl, ho3⟩ := hV3; have oo3 := row_mono ho3 (kp_set kk2 (by omega) 1 (.string t)).size; have kk3 := (kp_set kk2 (by omega) 1 (.string t)).trans hk3; have hs3 := kk3.size; have br3 : Bx w3 (w.heap.size) 28 z10 := Bx.kp (br2.other (by omega) 1 (.string t)) hk3 (by omega); have lr3 := br3.lt; have bx3 : Bx w3 (w.heap.size + 1) 28 #[.int .i64 1, .string t, sZ, nZ, nZ, nZ, nZ, .bool false, iZ, nZ] := Bx.kp (bx2.set 1 (.string t)) hk3 (by omega); have lx3 := bx3.lt; have cx3_3 := bx3.t3; have fx3_3 := bx3.open 3)
  | (go_at_call 55; refine (sqreadName_any hE _ hP1).mono ?_; intro e w2 hT2; obtain ⟨_, j2, rfl, hk2, hj2, hP2, hr2, rfl⟩ := tells_yes hT2 hr1 e2; have kk2 := kk1.trans hk2; have hs2 := kk2.size; have br2 := Bx.kp br1 hk2 (by omega); have lr2 := br2.lt; have bx2 := Bx.kp bx1 hk2 (by omega); have lx2 := bx2.lt; have cx2_1 := bx2.t1; have fx2_1 := bx2.open 1)
  | (go_at_call 34; refine (take_1 hE (by decide) _ (((hP.alloc _).alloc _).alloc _) (Bx.newB (by simp)) (by omega)).mono ?_; intro e w1 hT1; obtain ⟨_, j1, rfl, hk1, hj1, hP1, hr1, rfl⟩ := tells_yes hT1 rfl e1; have kk1 := (kp_alloc (kp_alloc (kp_alloc (gr w g) _) _) _).trans hk1; have hs1 := kk1.size; have br1 : Bx w1 (w.heap.size) 28 z10 := Bx.kp (((Bx.newB (by simp) : Bx _ (w.heap.size) 28 z10).alloc _).alloc _) hk1 (by omega); have lr1 := br1.lt; have bx1 : Bx w1 (w.heap.size + 1) 28 #[.int .i64 1, sZ, sZ, nZ, nZ, nZ, nZ, .bool false, iZ, nZ] := Bx.kp ((Bx.newB (by simp) : Bx _ (w.heap.size + 1) 28 #[.int .i64 1, sZ, sZ, nZ, nZ, nZ, nZ, .bool false, iZ, nZ]).alloc _) hk1 (by omega); have lx1 := bx1.lt))
 refine bodyPost_ret (v := .agg #[.int .i64 1, .string t, .string ⟨#[]⟩, .slice ns_o ns.length ns_c, .slice vs_o vs.length vs_c, .slice none 0 0, .slice none 0 0, .bool false, .int .i64 0, .slice none 0 0]) (by simp [results, Tryz.results28, go_sem, cr5_0, cr5_1, cr5_2, cr5_3, cr5_4, cr5_5, cr5_6, cr5_7, cr5_8, cr5_9]) rfl ?_
 rw [HO.out]
 exact ⟨(kp_sets (kp_set kk5 (by omega) 4 (.slice vs_o vs.length vs_c)) (by omega) 0 [.int .i64 1, .string t, .string ⟨#[]⟩, .slice ns_o ns.length ns_c, .slice vs_o vs.length vs_c, .slice none 0 0, .slice none 0 0, .bool false, .int .i64 0, .slice none 0 0]), j5, (by omega), (PAt.sets (hP5.set bx5 (by decide) (by omega) 4 (.slice vs_o vs.length vs_c)) (br5.other (by omega) 4 (.slice vs_o vs.length vs_c)) (by decide) (by omega) 0 [.int .i64 1, .string t, .string ⟨#[]⟩, .slice ns_o ns.length ns_c, .slice vs_o vs.length vs_c, .slice none 0 0, .slice none 0 0, .bool false, .int .i64 0, .slice none 0 0]), hr5, _, rfl, ⟨⟨ns_o, ns_c, vs_o, vs_c, none, 0, none, 0, none, 0⟩, rfl, ⟨(row_sets (row_set ons5 bx5 (by decide) 4 (.slice vs_o vs.length vs_c)) (br5.other (by omega) 4 (.slice vs_o vs.length vs_c)) (by decide) 0 [.int .i64 1, .string t, .string ⟨#[]⟩, .slice ns_o ns.length ns_c, .slice vs_o vs.length vs_c, .slice none 0 0, .slice none 0 0, .bool false, .int .i64 0, .slice none 0 0]), (row_sets (row_set oo5 bx5 (by decide) 4 (.slice vs_o vs.length vs_c)) (br5.other (by omega) 4 (.slice vs_o vs.length vs_c)) (by decide) 0 [.int .i64 1, .string t, .string ⟨#[]⟩, .slice ns_o ns.length ns_c, .slice vs_o vs.length vs_c, .slice none 0 0, .slice none 0 0, .bool false, .int .i64 0, .slice none 0 0]), World.ownsRow_nil _ _ _ _, World.ownsRow_nil _ _ _ _, World.ownsRow_nil _ _ _ _⟩⟩⟩
theorem sqreadInsert_any {g : Nat} {v : Value} {l : List Tok} (hE : EndK l) {i : Nat}  (w : World) (hP : PAt g v l i w) :
  Calls Tryz.prog 28 #[.pointer (some ⟨g, 0, none⟩)] w (Tells g v l i w VX (insertR (rem l i))) := by
 rcases e1 : takeR ⟨#[105, 110, 116, 111]⟩ (rem l i) with ⟨o1, q1⟩
 cases o1 with
 | none =>
  exact sqreadInsert_w0 hE e1 w hP
 | some a1 =>
  cases a1
  rcases e2 : nameR q1 with ⟨o2, q2⟩
  cases o2 with
  | none =>
   exact sqreadInsert_w1 hE e1 e2 w hP
  | some t =>
   rcases e3 : rowR nameR q2 with ⟨o3, q3⟩
   cases o3 with
   | none =>
    exact sqreadInsert_w2 hE e1 e2 e3 w hP
   | some ns =>
    rcases e4 : takeR ⟨#[118, 97, 108, 117, 101, 115]⟩ q3 with ⟨o4, q4⟩
    cases o4 with
    | none =>
     exact sqreadInsert_w3 hE e1 e2 e3 e4 w hP
    | some a4 =>
     cases a4
     rcases e5 : rowR valueR q4 with ⟨o5, q5⟩
     cases o5 with
     | none =>
      exact sqreadInsert_w4 hE e1 e2 e3 e4 e5 w hP
     | some vs =>
      exact sqreadInsert_w5 hE e1 e2 e3 e4 e5 w hP
theorem sqreadIndex_w0 {g : Nat} {v : Value} {l : List Tok} (hE : EndK l) {i : Nat}  {q1 : List TkC} (e1 : takeR ⟨#[105, 110, 100, 101, 120]⟩ (rem l i) = (none, q1)) (w : World) (hP : PAt g v l i w) :
  Calls Tryz.prog 64 #[.pointer (some ⟨g, 0, none⟩)] w (Tells g v l i w VIx (indexR (rem l i))) := by
 have hg0 := hP.g_lt
 have HO : Hid (indexR (rem l i) = (none, q1)) := by
  unfold Hid
  simp only [indexR, bnd, opt, ret, e1]
 go_enter Tryz.func64, Tryz.ntmps64
 go_wp2_with (first
  | (go_at_call 34; refine (take_1 hE (by decide) _ (((hP.alloc _).alloc _).alloc _) (Bx.newB (by simp)) (by omega)).mono ?_; intro e w1 hT1; obtain ⟨j1, rfl, hk1, hj1, hP1, hr1⟩ := tells_no hT1 rfl e1))
 refine ⟨rfl, ?_⟩
 rw [HO.out]
 exact ⟨(kp_alloc (kp_alloc (kp_alloc (gr w g) _) _) _).trans hk1, j1, (by omega), hP1, hr1, rfl⟩
theorem sqreadIndex_w1 {g : Nat} {v : Value} {l : List Tok} (hE : EndK l) {i : Nat}  {q1 q2 : List TkC} (e1 : takeR ⟨#[105, 110, 100, 101, 120]⟩ (rem l i) = (some (), q1)) (e2 : nameR q1 = (none, q2)) (w : World) (hP : PAt g v l i w) :
  Calls Tryz.prog 64 #[.pointer (some ⟨g, 0, none⟩)] w (Tells g v l i w VIx (indexR (rem l i))) := by
 have hg0 := hP.g_lt
 have HO : Hid (indexR (rem l i) = (none, q2)) := by
  unfold Hid
  simp only [indexR, bnd, opt, ret, e1, e2]
 go_enter Tryz.func64, Tryz.ntmps64
 go_wp2_with (first
  | (go_at_call 55; refine (sqreadName_any hE _ hP1).mono ?_; intro e w2 hT2; obtain ⟨j2, rfl, hk2, hj2, hP2, hr2⟩ := tells_no hT2 hr1 e2)
  | (go_at_call 34; refine (take_1 hE (by decide) _ (((hP.alloc _).alloc _).alloc _) (Bx.newB (by simp)) (by omega)).mono ?_; intro e w1 hT1; obtain ⟨_, j1, rfl, hk1, hj1, hP1, hr1, rfl⟩ := tells_yes hT1 rfl e1; have kk1 := (kp_alloc (kp_alloc (kp_alloc (gr w g) _) _) _).trans hk1; have hs1 := kk1.size; have br1 : Bx w1 (w.heap.size) 28 z10 := Bx.kp (((Bx.newB (by simp) : Bx _ (w.heap.size) 28 z10).alloc _).alloc _) hk1 (by omega); have lr1 := br1.lt; have bx1 : Bx w1 (w.heap.size + 1) 28 z10 := Bx.kp ((Bx.newB (by simp) : Bx _ (w.heap.size + 1) 28 z10).alloc _) hk1 (by omega); have lx1 := bx1.lt))
 refine ⟨rfl, ?_⟩
 rw [HO.out]
 exact ⟨kk1.trans hk2, j2, (by omega), hP2, hr2, rfl⟩
theorem sqreadIndex_w2 {g : Nat} {v : Value} {l : List Tok} (hE : EndK l) {i : Nat}  {q1 : List TkC} {n : ByteArray} {q2 q3 : List TkC} (e1 : takeR ⟨#[105, 110, 100, 101, 120]⟩ (rem l i) = (some (), q1)) (e2 : nameR q1 = (some n, q2)) (e3 : takeR ⟨#[111, 110]⟩ q2 = (none, q3)) (w : World) (hP : PAt g v l i w) :
  Calls Tryz.prog 64 #[.pointer (some ⟨g, 0, none⟩)] w (Tells g v l i w VIx (indexR (rem l i))) := by
 have hg0 := hP.g_lt
 have HO : Hid (indexR (rem l i) = (none, q3)) := by
  unfold Hid
  simp only [indexR, bnd, opt, ret, e1, e2, e3]
 go_enter Tryz.func64, Tryz.ntmps64
 go_wp2_with (first
  | (go_at_call 34; refine (take_1 hE (by decide) _ ((hP2.set bx2 (by decide) (by omega) 2 (.string n)).alloc _) (Bx.newB (by simp)) (by omega)).mono ?_; intro e w3 hT3; obtain ⟨j3, rfl, hk3, hj3, hP3, hr3⟩ := tells_no hT3 hr2 e3)
  | (go_at_call 55; refine (sqreadName_any hE _ hP1).mono ?_; intro e w2 hT2; obtain ⟨_, j2, rfl, hk2, hj2, hP2, hr2, rfl⟩ := tells_yes hT2 hr1 e2; have kk2 := kk1.trans hk2; have hs2 := kk2.size; have br2 := Bx.kp br1 hk2 (by omega); have lr2 := br2.lt; have bx2 := Bx.kp bx1 hk2 (by omega); have lx2 := bx2.lt; have cx2_2 := bx2.t2; have fx2_2 := bx2.open 2)
  | (go_at_call 34; refine (take_1 hE (by decide) _ (((hP.alloc _).alloc _).alloc _) (Bx.newB (by simp)) (by omega)).mono ?_; intro e w1 hT1; obtain ⟨_, j1, rfl, hk1, hj1, hP1, hr1, rfl⟩ := tells_yes hT1 rfl e1; have kk1 := (kp_alloc (kp_alloc (kp_alloc (gr w g) _) _) _).trans hk1; have hs1 := kk1.size; have br1 : Bx w1 (w.heap.size) 28 z10 := Bx.kp (((Bx.newB (by simp) : Bx _ (w.heap.size) 28 z10).alloc _).alloc _) hk1 (by omega); have lr1 := br1.lt; have bx1 : Bx w1 (w.heap.size + 1) 28 z10 := Bx.kp ((Bx.newB (by simp) : Bx _ (w.heap.size + 1) 28 z10).alloc _) hk1 (by omega); have lx1 := bx1.lt))
 refine ⟨rfl, ?_⟩
 rw [HO.out]
 exact ⟨(kp_alloc (kp_set kk2 (by omega) 2 (.string n)) _).trans hk3, j3, (by omega), hP3, hr3, rfl⟩
theorem sqreadIndex_w3 {g : Nat} {v : Value} {l : List Tok} (hE : EndK l) {i : Nat}  {q1 : List TkC} {n : ByteArray} {q2 q3 q4 : List TkC} (e1 : takeR ⟨#[105, 110, 100, 101, 120]⟩ (rem l i) = (some (), q1)) (e2 : nameR q1 = (some n, q2)) (e3 : takeR ⟨#[111, 110]⟩ q2 = (some (), q3)) (e4 : nameR q3 = (none, q4)) (w : World) (hP : PAt g v l i w) :
  Calls Tryz.prog 64 #[.pointer (some ⟨g, 0, none⟩)] w (Tells g v l i w VIx (indexR (rem l i))) := by
 have hg0 := hP.g_lt
 have HO : Hid (indexR (rem l i) = (none, q4)) := by
  unfold Hid
  simp only [indexR, bnd, opt, ret, e1, e2, e3, e4]
 go_enter Tryz.func64, Tryz.ntmps64
 go_wp2_with (first
  | (go_at_call 55; refine (sqreadName_any hE _ hP3).mono ?_; intro e w4 hT4; obtain ⟨j4, rfl, hk4, hj4, hP4, hr4⟩ := tells_no hT4 hr3 e4)
  | (go_at_call 34; refine (take_1 hE (by decide) _ ((hP2.set bx2 (by decide) (by omega) 2 (.string n)).alloc _) (Bx.newB (by simp)) (by omega)).mono ?_; intro e w3 hT3; obtain ⟨_, j3, rfl, hk3, hj3, hP3, hr3, rfl⟩ := tells_yes hT3 hr2 e3; have kk3 := (kp_alloc (kp_set kk2 (by omega) 2 (.string n)) _).trans hk3; have hs3 := kk3.size; have br3 : Bx w3 (w.heap.size) 28 z10 := Bx.kp ((br2.other (by omega) 2 (.string n)).alloc _) hk3 (by omega); have lr3 := br3.lt; have bx3 : Bx w3 (w.heap.size + 1) 28 #[iZ, sZ, .string n, nZ, nZ, nZ, nZ, .bool false, iZ, nZ] := Bx.kp ((bx2.set 2 (.string n)).alloc _) hk3 (by omega); have lx3 := bx3.lt)
  | (go_at_call 55; refine (sqreadName_any hE _ hP1).mono ?_; intro e w2 hT2; obtain ⟨_, j2, rfl, hk2, hj2, hP2, hr2, rfl⟩ := tells_yes hT2 hr1 e2; have kk2 := kk1.trans hk2; have hs2 := kk2.size; have br2 := Bx.kp br1 hk2 (by omega); have lr2 := br2.lt; have bx2 := Bx.kp bx1 hk2 (by omega); have lx2 := bx2.lt; have cx2_2 := bx2.t2; have fx2_2 := bx2.open 2)
  | (go_at_call 34; refine (take_1 hE (by decide) _ (((hP.alloc _).alloc _).alloc _) (Bx.newB (by simp)) (by omega)).mono ?_; intro e w1 hT1; obtain ⟨_, j1, rfl, hk1, hj1, hP1, hr1, rfl⟩ := tells_yes hT1 rfl e1; have kk1 := (kp_alloc (kp_alloc (kp_alloc (gr w g) _) _) _).trans hk1; have hs1 := kk1.size; have br1 : Bx w1 (w.heap.size) 28 z10 := Bx.kp (((Bx.newB (by simp) : Bx _ (w.heap.size) 28 z10).alloc _).alloc _) hk1 (by omega); have lr1 := br1.lt; have bx1 : Bx w1 (w.heap.size + 1) 28 z10 := Bx.kp ((Bx.newB (by simp) : Bx _ (w.heap.size + 1) 28 z10).alloc _) hk1 (by omega); have lx1 := bx1.lt))
 refine ⟨rfl, ?_⟩
 rw [HO.out]
 exact ⟨kk3.trans hk4, j4, (by omega), hP4, hr4, rfl⟩
theorem sqreadIndex_w4 {g : Nat} {v : Value} {l : List Tok} (hE : EndK l) {i : Nat}  {q1 : List TkC} {n : ByteArray} {q2 q3 : List TkC} {t : ByteArray} {q4 : List TkC} (e1 : takeR ⟨#[105, 110, 100, 101, 120]⟩ (rem l i) = (some (), q1)) (e2 : nameR q1 = (some n, q2)) (e3 : takeR ⟨#[111, 110]⟩ q2 = (some (), q3)) (e4 : nameR q3 = (some t, q4)) (w : World) (hP : PAt g v l i w) :
  Calls Tryz.prog 64 #[.pointer (some ⟨g, 0, none⟩)] w (Tells g v l i w VIx (indexR (rem l i))) := by
 have hg0 := hP.g_lt
 have HO : Hid (indexR (rem l i) = (some (n, t), q4)) := by
  unfold Hid
  simp only [indexR, bnd, opt, ret, e1, e2, e3, e4]
 go_enter Tryz.func64, Tryz.ntmps64
 go_wp2_with (first
  | (go_at_call 55; refine (sqreadName_any hE _ hP3).mono ?_; intro e w4 hT4; obtain ⟨_, j4, rfl, hk4, hj4, hP4, hr4, rfl⟩ := tells_yes hT4 hr3 e4; have kk4 := kk3.trans hk4; have hs4 := kk4.size; have br4 := Bx.kp br3 hk4 (by omega); have lr4 := br4.lt; have bx4 := Bx.kp bx3 hk4 (by omega); have lx4 := bx4.lt; have cx4_1 := bx4.t1; have fx4_1 := bx4.open 1; have cx4_0 := bx4.t0; have cx4_2 := bx4.t2; have cx4_3 := bx4.t3; have cx4_4 := bx4.t4; have cx4_5 := bx4.t5; have cx4_6 := bx4.t6; have cx4_7 := bx4.t7; have cx4_8 := bx4.t8; have cx4_9 := bx4.t9; obtain ⟨cr4_0, cr4_1, cr4_2, cr4_3, cr4_4, cr4_5, cr4_6, cr4_7, cr4_8, cr4_9⟩ := br4.ten; obtain ⟨fr4_0, fr4_1, fr4_2, fr4_3, fr4_4, fr4_5, fr4_6, fr4_7, fr4_8, fr4_9⟩ := br4.tenO)
  | (go_at_call 34; refine (take_1 hE (by decide) _ ((hP2.set bx2 (by decide) (by omega) 2 (.string n)).alloc _) (Bx.newB (by simp)) (by omega)).mono ?_; intro e w3 hT3; obtain ⟨_, j3, rfl, hk3, hj3, hP3, hr3, rfl⟩ := tells_yes hT3 hr2 e3; have kk3 := (kp_alloc (kp_set kk2 (by omega) 2 (.string n)) _).trans hk3; have hs3 := kk3.size; have br3 : Bx w3 (w.heap.size) 28 z10 := Bx.kp ((br2.other (by omega) 2 (.string n)).alloc _) hk3 (by omega); have lr3 := br3.lt; have bx3 : Bx w3 (w.heap.size + 1) 28 #[iZ, sZ, .string n, nZ, nZ, nZ, nZ, .bool false, iZ, nZ] := Bx.kp ((bx2.set 2 (.string n)).alloc _) hk3 (by omega); have lx3 := bx3.lt)
  | (go_at_call 55; refine (sqreadName_any hE _ hP1).mono ?_; intro e w2 hT2; obtain ⟨_, j2, rfl, hk2, hj2, hP2, hr2, rfl⟩ := tells_yes hT2 hr1 e2; have kk2 := kk1.trans hk2; have hs2 := kk2.size; have br2 := Bx.kp br1 hk2 (by omega); have lr2 := br2.lt; have bx2 := Bx.kp bx1 hk2 (by omega); have lx2 := bx2.lt; have cx2_2 := bx2.t2; have fx2_2 := bx2.open 2)
  | (go_at_call 34; refine (take_1 hE (by decide) _ (((hP.alloc _).alloc _).alloc _) (Bx.newB (by simp)) (by omega)).mono ?_; intro e w1 hT1; obtain ⟨_, j1, rfl, hk1, hj1, hP1, hr1, rfl⟩ := tells_yes hT1 rfl e1; have kk1 := (kp_alloc (kp_alloc (kp_alloc (gr w g) _) _) _).trans hk1; have hs1 := kk1.size; have br1 : Bx w1 (w.heap.size) 28 z10 := Bx.kp (((Bx.newB (by simp) : Bx _ (w.heap.size) 28 z10).alloc _).alloc _) hk1 (by omega); have lr1 := br1.lt; have bx1 : Bx w1 (w.heap.size + 1) 28 z10 := Bx.kp ((Bx.newB (by simp) : Bx _ (w.heap.size + 1) 28 z10).alloc _) hk1 (by omega); have lx1 := bx1.lt))
 refine bodyPost_ret (v := .agg #[.int .i64 0, .string t, .string n, .slice none 0 0, .slice none 0 0, .slice none 0 0, .slice none 0 0, .bool false, .int .i64 0, .slice none 0 0]) (by simp [results, Tryz.results64, go_sem, cr4_0, cr4_1, cr4_2, cr4_3, cr4_4, cr4_5, cr4_6, cr4_7, cr4_8, cr4_9]) rfl ?_
 rw [HO.out]
 exact ⟨(kp_sets (kp_set kk4 (by omega) 1 (.string t)) (by omega) 0 [.int .i64 0, .string t, .string n, .slice none 0 0, .slice none 0 0, .slice none 0 0, .slice none 0 0, .bool false, .int .i64 0, .slice none 0 0]), j4, (by omega), (PAt.sets (hP4.set bx4 (by decide) (by omega) 1 (.string t)) (br4.other (by omega) 1 (.string t)) (by decide) (by omega) 0 [.int .i64 0, .string t, .string n, .slice none 0 0, .slice none 0 0, .slice none 0 0, .slice none 0 0, .bool false, .int .i64 0, .slice none 0 0]), hr4, _, rfl, rfl⟩
theorem sqreadIndex_any {g : Nat} {v : Value} {l : List Tok} (hE : EndK l) {i : Nat}  (w : World) (hP : PAt g v l i w) :
  Calls Tryz.prog 64 #[.pointer (some ⟨g, 0, none⟩)] w (Tells g v l i w VIx (indexR (rem l i))) := by
 rcases e1 : takeR ⟨#[105, 110, 100, 101, 120]⟩ (rem l i) with ⟨o1, q1⟩
 cases o1 with
 | none =>
  exact sqreadIndex_w0 hE e1 w hP
 | some a1 =>
  cases a1
  rcases e2 : nameR q1 with ⟨o2, q2⟩
  cases o2 with
  | none =>
   exact sqreadIndex_w1 hE e1 e2 w hP
  | some n =>
   rcases e3 : takeR ⟨#[111, 110]⟩ q2 with ⟨o3, q3⟩
   cases o3 with
   | none =>
    exact sqreadIndex_w2 hE e1 e2 e3 w hP
   | some a3 =>
    cases a3
    rcases e4 : nameR q3 with ⟨o4, q4⟩
    cases o4 with
    | none =>
     exact sqreadIndex_w3 hE e1 e2 e3 e4 w hP
    | some t =>
     exact sqreadIndex_w4 hE e1 e2 e3 e4 w hP
theorem sqreadDropIndex_w0 {g : Nat} {v : Value} {l : List Tok} (hE : EndK l) {i : Nat}  {q1 : List TkC} (e1 : indexR (rem l i) = (none, q1)) (w : World) (hP : PAt g v l i w) :
  Calls Tryz.prog 33 #[.pointer (some ⟨g, 0, none⟩)] w (Tells g v l i w VX (dropIndexR (rem l i))) := by
 have hg0 := hP.g_lt
 have HO : Hid (dropIndexR (rem l i) = (none, q1)) := by
  unfold Hid
  simp only [dropIndexR, bnd, opt, ret, e1]
 go_enter Tryz.func33, Tryz.ntmps33
 go_wp2_with (first
  | (go_at_call 64; refine (sqreadIndex_any hE _ (hP.alloc _)).mono ?_; intro e w1 hT1; obtain ⟨j1, rfl, hk1, hj1, hP1, hr1⟩ := tells_no hT1 rfl e1))
 refine ⟨rfl, ?_⟩
 rw [HO.out]
 exact ⟨(kp_alloc (gr w g) _).trans hk1, j1, (by omega), hP1, hr1, rfl⟩
theorem sqreadDropIndex_w1 {g : Nat} {v : Value} {l : List Tok} (hE : EndK l) {i : Nat}  {n1 n2 : ByteArray} {q1 : List TkC} (e1 : indexR (rem l i) = (some (n1, n2), q1)) (w : World) (hP : PAt g v l i w) :
  Calls Tryz.prog 33 #[.pointer (some ⟨g, 0, none⟩)] w (Tells g v l i w VX (dropIndexR (rem l i))) := by
 have hg0 := hP.g_lt
 have HO : Hid (dropIndexR (rem l i) = (some { Stm.zero with kind := 7, name := n1, table := n2 }, q1)) := by
  unfold Hid
  simp only [dropIndexR, bnd, opt, ret, e1]
 go_enter Tryz.func33, Tryz.ntmps33
 go_wp2_with (first
  | (go_at_call 64; refine (sqreadIndex_any hE _ (hP.alloc _)).mono ?_; intro e w1 hT1; obtain ⟨u1, j1, rfl, hk1, hj1, hP1, hr1, hV1⟩ := tells_yes hT1 rfl e1; obtain rfl : u1 = .agg #[.int .i64 0, .string n2, .string n1, .slice none 0 0, .slice none 0 0, .slice none 0 0, .slice none 0 0, .bool false, .int .i64 0, .slice none 0 0] := hV1; have kk1 := (kp_alloc (gr w g) _).trans hk1; have hs1 := kk1.size; have br1 : Bx w1 (w.heap.size) 28 z10 := Bx.kp (Bx.newB (by simp) : Bx _ (w.heap.size) 28 z10) hk1 (by omega); have lr1 := br1.lt; obtain ⟨cr1_0, cr1_1, cr1_2, cr1_3, cr1_4, cr1_5, cr1_6, cr1_7, cr1_8, cr1_9⟩ := br1.ten; obtain ⟨fr1_0, fr1_1, fr1_2, fr1_3, fr1_4, fr1_5, fr1_6, fr1_7, fr1_8, fr1_9⟩ := br1.tenO))
 refine bodyPost_ret (v := .agg #[.int .i64 7, .string n2, .string n1, .slice none 0 0, .slice none 0 0, .slice none 0 0, .slice none 0 0, .bool false, .int .i64 0, .slice none 0 0]) (by simp [results, Tryz.results33, go_sem, cr1_0, cr1_1, cr1_2, cr1_3, cr1_4, cr1_5, cr1_6, cr1_7, cr1_8, cr1_9, lr1]) rfl ?_
 rw [HO.out]
 exact ⟨(kp_alloc (kp_sets kk1 (by omega) 0 [.int .i64 7, .string n2, .string n1, .slice none 0 0, .slice none 0 0, .slice none 0 0, .slice none 0 0, .bool false, .int .i64 0, .slice none 0 0]) _), j1, (by omega), ((PAt.sets hP1 br1 (by decide) (by omega) 0 [.int .i64 7, .string n2, .string n1, .slice none 0 0, .slice none 0 0, .slice none 0 0, .slice none 0 0, .bool false, .int .i64 0, .slice none 0 0]).alloc _), hr1, _, rfl, ⟨⟨none, 0, none, 0, none, 0, none, 0, none, 0⟩, rfl, ⟨World.ownsRow_nil _ _ _ _, World.ownsRow_nil _ _ _ _, World.ownsRow_nil _ _ _ _, World.ownsRow_nil _ _ _ _, World.ownsRow_nil _ _ _ _⟩⟩⟩
theorem sqreadDropIndex_any {g : Nat} {v : Value} {l : List Tok} (hE : EndK l) {i : Nat}  (w : World) (hP : PAt g v l i w) :
  Calls Tryz.prog 33 #[.pointer (some ⟨g, 0, none⟩)] w (Tells g v l i w VX (dropIndexR (rem l i))) := by
 rcases e1 : indexR (rem l i) with ⟨o1, q1⟩
 cases o1 with
 | none =>
  exact sqreadDropIndex_w0 hE e1 w hP
 | some a1 =>
  obtain ⟨n1, n2⟩ := a1
  exact sqreadDropIndex_w1 hE e1 w hP
theorem sqreadNull_w0 {g : Nat} {v : Value} {l : List Tok} (hE : EndK l) {i : Nat}  {q2 : List TkC} (hb1 : isT ⟨#[115, 101, 116]⟩ (rem l i) = true) (e2 : takesR [⟨#[110, 111, 116]⟩, ⟨#[110, 117, 108, 108]⟩] (rem l i).tail = (none, q2)) (w : World) (hP : PAt g v l i w) :
  Calls Tryz.prog 66 #[.pointer (some ⟨g, 0, none⟩)] w (Tells g v l i w VI (nullR (rem l i))) := by
 have hg0 := hP.g_lt
 have HO : Hid (nullR (rem l i) = (none, q2)) := by
  unfold Hid
  simp only [nullR, bnd, opt, ret, hb1, if_true, e2]
 go_enter Tryz.func66, Tryz.ntmps66
 go_wp2_with (first
  | (go_at_call 34; refine (take_2 hE (by decide) (by decide) _ (hP1.alloc _) (Bx.newB (by simp)) (by omega)).mono ?_; intro e w2 hT2; obtain ⟨j2, rfl, hk2, hj2, hP2, hr2⟩ := tells_no hT2 hr1 e2)
  | (go_at_call 27; refine (took_yes hE (by decide) hb1 _ hP rfl).mono ?_; rintro e w1 ⟨rfl, hk1, hP1, hr1⟩; have kk1 := (gr w g).trans hk1; have hs1 := kk1.size))
 refine ⟨rfl, ?_⟩
 rw [HO.out]
 exact ⟨(kp_alloc kk1 _).trans hk2, j2, (by omega), hP2, hr2, rfl⟩
theorem sqreadNull_w1 {g : Nat} {v : Value} {l : List Tok} (hE : EndK l) {i : Nat}  {q2 : List TkC} (hb1 : isT ⟨#[115, 101, 116]⟩ (rem l i) = true) (e2 : takesR [⟨#[110, 111, 116]⟩, ⟨#[110, 117, 108, 108]⟩] (rem l i).tail = (some (), q2)) (w : World) (hP : PAt g v l i w) :
  Calls Tryz.prog 66 #[.pointer (some ⟨g, 0, none⟩)] w (Tells g v l i w VI (nullR (rem l i))) := by
 have hg0 := hP.g_lt
 have HO : Hid (nullR (rem l i) = (some 10, q2)) := by
  unfold Hid
  simp only [nullR, bnd, opt, ret, hb1, if_true, e2]
 go_enter Tryz.func66, Tryz.ntmps66
 go_wp2_with (first
  | (go_at_call 34; refine (take_2 hE (by decide) (by decide) _ (hP1.alloc _) (Bx.newB (by simp)) (by omega)).mono ?_; intro e w2 hT2; obtain ⟨_, j2, rfl, hk2, hj2, hP2, hr2, rfl⟩ := tells_yes hT2 hr1 e2; have kk2 := (kp_alloc kk1 _).trans hk2; have hs2 := kk2.size)
  | (go_at_call 27; refine (took_yes hE (by decide) hb1 _ hP rfl).mono ?_; rintro e w1 ⟨rfl, hk1, hP1, hr1⟩; have kk1 := (gr w g).trans hk1; have hs1 := kk1.size))
 go_ret
 rw [HO.out]
 exact ⟨kk2, j2, (by omega), hP2, hr2, _, rfl, rfl⟩
theorem sqreadNull_w2 {g : Nat} {v : Value} {l : List Tok} (hE : EndK l) {i : Nat}  {q2 : List TkC} (hb1 : isT ⟨#[115, 101, 116]⟩ (rem l i) = false) (e2 : takeR ⟨#[100, 114, 111, 112]⟩ (rem l i) = (none, q2)) (w : World) (hP : PAt g v l i w) :
  Calls Tryz.prog 66 #[.pointer (some ⟨g, 0, none⟩)] w (Tells g v l i w VI (nullR (rem l i))) := by
 have hg0 := hP.g_lt
 have HO : Hid (nullR (rem l i) = (none, q2)) := by
  unfold Hid
  simp only [nullR, bnd, opt, ret, hb1, Bool.false_eq_true, if_false, e2]
 go_enter Tryz.func66, Tryz.ntmps66
 go_wp2_with (first
  | (go_at_call 34; refine (take_1 hE (by decide) _ (hP1.alloc _) (Bx.newB (by simp)) (by omega)).mono ?_; intro e w2 hT2; obtain ⟨j2, rfl, hk2, hj2, hP2, hr2⟩ := tells_no hT2 rfl e2)
  | (go_at_call 27; refine (took_no hb1 _ hP rfl).mono ?_; rintro e w1 ⟨rfl, hk1, hP1⟩; have kk1 := (gr w g).trans hk1; have hs1 := kk1.size))
 refine ⟨rfl, ?_⟩
 rw [HO.out]
 exact ⟨(kp_alloc kk1 _).trans hk2, j2, (by omega), hP2, hr2, rfl⟩
theorem sqreadNull_w3 {g : Nat} {v : Value} {l : List Tok} (hE : EndK l) {i : Nat}  {q2 q3 : List TkC} (hb1 : isT ⟨#[115, 101, 116]⟩ (rem l i) = false) (e2 : takeR ⟨#[100, 114, 111, 112]⟩ (rem l i) = (some (), q2)) (e3 : takesR [⟨#[110, 111, 116]⟩, ⟨#[110, 117, 108, 108]⟩] q2 = (none, q3)) (w : World) (hP : PAt g v l i w) :
  Calls Tryz.prog 66 #[.pointer (some ⟨g, 0, none⟩)] w (Tells g v l i w VI (nullR (rem l i))) := by
 have hg0 := hP.g_lt
 have HO : Hid (nullR (rem l i) = (none, q3)) := by
  unfold Hid
  simp only [nullR, bnd, opt, ret, hb1, Bool.false_eq_true, if_false, e2, e3]
 go_enter Tryz.func66, Tryz.ntmps66
 go_wp2_with (first
  | (go_at_call 34; refine (take_2 hE (by decide) (by decide) _ (hP2.alloc _) (Bx.newB (by simp)) (by omega)).mono ?_; intro e w3 hT3; obtain ⟨j3, rfl, hk3, hj3, hP3, hr3⟩ := tells_no hT3 hr2 e3)
  | (go_at_call 34; refine (take_1 hE (by decide) _ (hP1.alloc _) (Bx.newB (by simp)) (by omega)).mono ?_; intro e w2 hT2; obtain ⟨_, j2, rfl, hk2, hj2, hP2, hr2, rfl⟩ := tells_yes hT2 rfl e2; have kk2 := (kp_alloc kk1 _).trans hk2; have hs2 := kk2.size)
  | (go_at_call 27; refine (took_no hb1 _ hP rfl).mono ?_; rintro e w1 ⟨rfl, hk1, hP1⟩; have kk1 := (gr w g).trans hk1; have hs1 := kk1.size))
 refine ⟨rfl, ?_⟩
 rw [HO.out]
 exact ⟨(kp_alloc kk2 _).trans hk3, j3, (by omega), hP3, hr3, rfl⟩
theorem sqreadNull_w4 {g : Nat} {v : Value} {l : List Tok} (hE : EndK l) {i : Nat}  {q2 q3 : List TkC} (hb1 : isT ⟨#[115, 101, 116]⟩ (rem l i) = false) (e2 : takeR ⟨#[100, 114, 111, 112]⟩ (rem l i) = (some (), q2)) (e3 : takesR [⟨#[110, 111, 116]⟩, ⟨#[110, 117, 108, 108]⟩] q2 = (some (), q3)) (w : World) (hP : PAt g v l i w) :
  Calls Tryz.prog 66 #[.pointer (some ⟨g, 0, none⟩)] w (Tells g v l i w VI (nullR (rem l i))) := by
 have hg0 := hP.g_lt
 have HO : Hid (nullR (rem l i) = (some 11, q3)) := by
  unfold Hid
  simp only [nullR, bnd, opt, ret, hb1, Bool.false_eq_true, if_false, e2, e3]
 go_enter Tryz.func66, Tryz.ntmps66
 go_wp2_with (first
  | (go_at_call 34; refine (take_2 hE (by decide) (by decide) _ (hP2.alloc _) (Bx.newB (by simp)) (by omega)).mono ?_; intro e w3 hT3; obtain ⟨_, j3, rfl, hk3, hj3, hP3, hr3, rfl⟩ := tells_yes hT3 hr2 e3; have kk3 := (kp_alloc kk2 _).trans hk3; have hs3 := kk3.size)
  | (go_at_call 34; refine (take_1 hE (by decide) _ (hP1.alloc _) (Bx.newB (by simp)) (by omega)).mono ?_; intro e w2 hT2; obtain ⟨_, j2, rfl, hk2, hj2, hP2, hr2, rfl⟩ := tells_yes hT2 rfl e2; have kk2 := (kp_alloc kk1 _).trans hk2; have hs2 := kk2.size)
  | (go_at_call 27; refine (took_no hb1 _ hP rfl).mono ?_; rintro e w1 ⟨rfl, hk1, hP1⟩; have kk1 := (gr w g).trans hk1; have hs1 := kk1.size))
 go_ret
 rw [HO.out]
 exact ⟨kk3, j3, (by omega), hP3, hr3, _, rfl, rfl⟩
theorem sqreadNull_any {g : Nat} {v : Value} {l : List Tok} (hE : EndK l) {i : Nat}  (w : World) (hP : PAt g v l i w) :
  Calls Tryz.prog 66 #[.pointer (some ⟨g, 0, none⟩)] w (Tells g v l i w VI (nullR (rem l i))) := by
 rcases Bool.eq_false_or_eq_true (isT ⟨#[115, 101, 116]⟩ (rem l i)) with hb1 | hb1
 ·rcases e2 : takesR [⟨#[110, 111, 116]⟩, ⟨#[110, 117, 108, 108]⟩] (rem l i).tail with ⟨o2, q2⟩
  cases o2 with
  | none =>
   exact sqreadNull_w0 hE hb1 e2 w hP
  | some a2 =>
   cases a2
   exact sqreadNull_w1 hE hb1 e2 w hP
 ·rcases e2 : takeR ⟨#[100, 114, 111, 112]⟩ (rem l i) with ⟨o2, q2⟩
  cases o2 with
  | none =>
   exact sqreadNull_w2 hE hb1 e2 w hP
  | some a2 =>
   cases a2
   rcases e3 : takesR [⟨#[110, 111, 116]⟩, ⟨#[110, 117, 108, 108]⟩] q2 with ⟨o3, q3⟩
   cases o3 with
   | none =>
    exact sqreadNull_w3 hE hb1 e2 e3 w hP
   | some a3 =>
    cases a3
    exact sqreadNull_w4 hE hb1 e2 e3 w hP
end Go.Proofs.YtiajlhjjmlakmaaGreatDoor
