/-
  Contracts: the readers of package sql: a statement's value and its rows; insert, update, delete, select, indexes. (Written by mksqe.py.)
-/
import Derived.Test.YtiajlhjjmlakmaaGreatDoorSqD
namespace Go.Proofs.YtiajlhjjmlakmaaGreatDoor
open Go.RowKit Num
set_option linter.unusedSimpArgs false
set_option linter.unusedVariables false
set_option linter.unusedVariables false
set_option maxRecDepth 100000

/-- Where a statement's lists lie. -/
structure Num.SS where
  co : Option Addr
  cc : Nat
  vo : Option Addr
  vc : Nat
  so : Option Addr
  sc : Nat
  qo : Option Addr
  qc : Nat
  yo : Option Addr
  yc : Nat
def Num.SS.nil : SS := ⟨none, 0, none, 0, none, 0, none, 0, none, 0⟩
def Num.cI (n : Int) : List Value := [.int .i64 n]
/-- A statement's lists are the call's own. -/
structure Num.OwnS (B : Nat) (w : World) (t : SS) (x : Stm) : Prop where
  cols : w.ownsRow B 9 1 (.slice t.co x.cols.length t.cc) x.cols.length (x.cols.flatMap cS)
  vals : w.ownsRow B 46 4 (.slice t.vo x.vals.length t.vc) x.vals.length (x.vals.flatMap cV)
  sets : w.ownsRow B 65 6 (.slice t.so x.sets.length t.sc) x.sets.length (x.sets.flatMap cT)
  conds : w.ownsRow B 67 6 (.slice t.qo x.conds.length t.qc) x.conds.length (x.conds.flatMap cC)
  types : w.ownsRow B 3 1 (.slice t.yo x.types.length t.yc) x.types.length (x.types.flatMap cI)
theorem Num.OwnS.mono {B B' : Nat} {w : World} {t : SS} {x : Stm} (h : OwnS B w t x) (hb : B' ≤ B) : OwnS B' w t x := ⟨row_mono h.cols hb, row_mono h.vals hb, row_mono h.sets hb, row_mono h.conds hb, row_mono h.types hb⟩
theorem Num.OwnS.kp {B g : Nat} {w w' : World} {t : SS} {x : Stm} (h : OwnS B w t x) (hk : w.grownBy w' (some g)) (hg : g < B) : OwnS B w' t x := ⟨row_kp h.cols hk hg, row_kp h.vals hk hg, row_kp h.sets hk hg, row_kp h.conds hk hg, row_kp h.types hk hg⟩
theorem Num.OwnS.setsS {B b : Nat} {w : World} {t : SS} {x : Stm} {cs : Array Value} (h : OwnS B w t x) (hb : Bx w b 28 cs) (k : Nat) (us : List Value) : OwnS B (setsW w b k us) t x :=
  ⟨row_sets h.cols hb (by decide) k us, row_sets h.vals hb (by decide) k us, row_sets h.sets hb (by decide) k us, row_sets h.conds hb (by decide) k us, row_sets h.types hb (by decide) k us⟩
theorem Num.OwnS.alloc {B : Nat} {w : World} {t : SS} {x : Stm} (h : OwnS B w t x) (o : Obj) : OwnS B (w.alloc o) t x := ⟨h.cols.alloc o, h.vals.alloc o, h.sets.alloc o, h.conds.alloc o, h.types.alloc o⟩
/-- A statement that is told. -/
def Num.VX : Nat → World → Value → Stm → Prop := fun B w u x => ∃ t : SS, u = .agg #[.int .i64 x.kind, .string x.table, .string x.name, .slice t.co x.cols.length t.cc, .slice t.vo x.vals.length t.vc, .slice t.so x.sets.length t.sc, .slice t.qo x.conds.length t.qc, .bool x.uniq, .int .i64 x.type, .slice t.yo x.types.length t.yc] ∧ OwnS B w t x
/-- An index that is meant. -/
def Num.VIx : Nat → World → Value → ByteArray × ByteArray → Prop := fun _ _ u x => u = .agg #[.int .i64 0, .string x.2, .string x.1, .slice none 0 0, .slice none 0 0, .slice none 0 0, .slice none 0 0, .bool false, .int .i64 0, .slice none 0 0]
set_option maxHeartbeats 1000000 in
theorem sqreadDelete_w0 {g : Nat} {v : Value} {l : List Tok} (hE : EndK l) {i : Nat}  {q1 : List TkC} (e1 : takeR ⟨#[102, 114, 111, 109]⟩ (rem l i) = (none, q1)) (w : World) (hP : PAt g v l i w) :
    Calls Tryz.prog 30 #[.pointer (some ⟨g, 0, none⟩)] w (Tells g v l i w VX (deleteR (rem l i))) := by
  have hg0 := hP.g_lt
  have HO : Hid (deleteR (rem l i) = (none, q1)) := by
    unfold Hid
    simp only [deleteR, bnd, opt, ret, e1]
  go_enter Tryz.func30, Tryz.ntmps30
  go_wp2_with (first
    | (go_at_call 34; refine (take_1 hE (by decide) _ (((hP.alloc _).alloc _).alloc _) (Bx.newB (by simp)) (by omega)).mono ?_; intro e w1 hT1; obtain ⟨j1, rfl, hk1, hj1, hP1, hr1⟩ := tells_no hT1 rfl e1))
  refine ⟨rfl, ?_⟩
  rw [HO.out]
  exact ⟨(kp_alloc (kp_alloc (kp_alloc (World.grownBy.refl w (some g)) _) _) _).trans hk1, j1, Nat.le_trans (Nat.le_refl i) hj1, hP1, hr1, rfl⟩
set_option maxHeartbeats 1000000 in
theorem sqreadDelete_w1 {g : Nat} {v : Value} {l : List Tok} (hE : EndK l) {i : Nat}  {q1 : List TkC} {q2 : List TkC} (e1 : takeR ⟨#[102, 114, 111, 109]⟩ (rem l i) = (some (), q1)) (e2 : nameR q1 = (none, q2)) (w : World) (hP : PAt g v l i w) :
    Calls Tryz.prog 30 #[.pointer (some ⟨g, 0, none⟩)] w (Tells g v l i w VX (deleteR (rem l i))) := by
  have hg0 := hP.g_lt
  have HO : Hid (deleteR (rem l i) = (none, q2)) := by
    unfold Hid
    simp only [deleteR, bnd, opt, ret, e1, e2]
  go_enter Tryz.func30, Tryz.ntmps30
  go_wp2_with (first
    | (go_at_call 55; have hz := kk1; clear hz; refine (sqreadName_any hE _ hP1).mono ?_; intro e w2 hT2; obtain ⟨j2, rfl, hk2, hj2, hP2, hr2⟩ := tells_no hT2 hr1 e2)
    | (go_at_call 34; refine (take_1 hE (by decide) _ (((hP.alloc _).alloc _).alloc _) (Bx.newB (by simp)) (by omega)).mono ?_; intro e w1 hT1; obtain ⟨u1, j1, rfl, hk1, hj1, hP1, hr1, hV1⟩ := tells_yes hT1 rfl e1; obtain rfl : u1 = .tuple #[] := hV1; have kk1 : w.grownBy w1 (some g) := (kp_alloc (kp_alloc (kp_alloc (World.grownBy.refl w (some g)) _) _) _).trans hk1; have hs1 : w.heap.size ≤ w1.heap.size := kk1.size; have br1 : Bx w1 (w.heap.size) 28 #[.int .i64 0, .string ⟨#[]⟩, .string ⟨#[]⟩, .slice none 0 0, .slice none 0 0, .slice none 0 0, .slice none 0 0, .bool false, .int .i64 0, .slice none 0 0] := Bx.kp (((Bx.newB (by simp) : Bx _ (w.heap.size) 28 #[.int .i64 0, .string ⟨#[]⟩, .string ⟨#[]⟩, .slice none 0 0, .slice none 0 0, .slice none 0 0, .slice none 0 0, .bool false, .int .i64 0, .slice none 0 0]).alloc _).alloc _) hk1 (by omega); have lr1 := br1.lt; have bx1 : Bx w1 (w.heap.size + 1) 28 #[.int .i64 3, .string ⟨#[]⟩, .string ⟨#[]⟩, .slice none 0 0, .slice none 0 0, .slice none 0 0, .slice none 0 0, .bool false, .int .i64 0, .slice none 0 0] := Bx.kp ((Bx.newB (by simp) : Bx _ (w.heap.size + 1) 28 #[.int .i64 3, .string ⟨#[]⟩, .string ⟨#[]⟩, .slice none 0 0, .slice none 0 0, .slice none 0 0, .slice none 0 0, .bool false, .int .i64 0, .slice none 0 0]).alloc _) hk1 (by omega); have lx1 := bx1.lt))
  refine ⟨rfl, ?_⟩
  rw [HO.out]
  exact ⟨kk1.trans hk2, j2, Nat.le_trans (Nat.le_trans (Nat.le_refl i) hj1) hj2, hP2, hr2, rfl⟩
set_option maxHeartbeats 1000000 in
theorem sqreadDelete_w2 {g : Nat} {v : Value} {l : List Tok} (hE : EndK l) {i : Nat}  {q1 : List TkC} {t : ByteArray} {q2 : List TkC} {q3 : List TkC} (e1 : takeR ⟨#[102, 114, 111, 109]⟩ (rem l i) = (some (), q1)) (e2 : nameR q1 = (some t, q2)) (e3 : whereR q2 = (none, q3)) (w : World) (hP : PAt g v l i w) :
    Calls Tryz.prog 30 #[.pointer (some ⟨g, 0, none⟩)] w (Tells g v l i w VX (deleteR (rem l i))) := by
  have hg0 := hP.g_lt
  have HO : Hid (deleteR (rem l i) = (none, q3)) := by
    unfold Hid
    simp only [deleteR, bnd, opt, ret, e1, e2, e3]
  go_enter Tryz.func30, Tryz.ntmps30
  go_wp2_with (first
    | (go_at_call 61; have hz := kk2; clear hz; refine (sqreadWhere_any hE _ (hP2.set bx2 (by decide) (by omega) 1 (.string t))).mono ?_; intro e w3 hT3; obtain ⟨j3, rfl, hk3, hj3, hP3, hr3⟩ := tells_no hT3 hr2 e3)
    | (go_at_call 55; have hz := kk1; clear hz; refine (sqreadName_any hE _ hP1).mono ?_; intro e w2 hT2; obtain ⟨u2, j2, rfl, hk2, hj2, hP2, hr2, hV2⟩ := tells_yes hT2 hr1 e2; obtain rfl : u2 = .string t := hV2; have kk2 : w.grownBy w2 (some g) := kk1.trans hk2; have hs2 : w.heap.size ≤ w2.heap.size := kk2.size; have br2 : Bx w2 (w.heap.size) 28 #[.int .i64 0, .string ⟨#[]⟩, .string ⟨#[]⟩, .slice none 0 0, .slice none 0 0, .slice none 0 0, .slice none 0 0, .bool false, .int .i64 0, .slice none 0 0] := Bx.kp br1 hk2 (by omega); have lr2 := br2.lt; have bx2 : Bx w2 (w.heap.size + 1) 28 #[.int .i64 3, .string ⟨#[]⟩, .string ⟨#[]⟩, .slice none 0 0, .slice none 0 0, .slice none 0 0, .slice none 0 0, .bool false, .int .i64 0, .slice none 0 0] := Bx.kp bx1 hk2 (by omega); have lx2 := bx2.lt; have cx2_1 : w2.cell? ⟨w.heap.size + 1, 1, none⟩ = some (.string ⟨#[]⟩) := bx2.cell 1 _ rfl; have fx2_1 := bx2.open 1)
    | (go_at_call 34; refine (take_1 hE (by decide) _ (((hP.alloc _).alloc _).alloc _) (Bx.newB (by simp)) (by omega)).mono ?_; intro e w1 hT1; obtain ⟨u1, j1, rfl, hk1, hj1, hP1, hr1, hV1⟩ := tells_yes hT1 rfl e1; obtain rfl : u1 = .tuple #[] := hV1; have kk1 : w.grownBy w1 (some g) := (kp_alloc (kp_alloc (kp_alloc (World.grownBy.refl w (some g)) _) _) _).trans hk1; have hs1 : w.heap.size ≤ w1.heap.size := kk1.size; have br1 : Bx w1 (w.heap.size) 28 #[.int .i64 0, .string ⟨#[]⟩, .string ⟨#[]⟩, .slice none 0 0, .slice none 0 0, .slice none 0 0, .slice none 0 0, .bool false, .int .i64 0, .slice none 0 0] := Bx.kp (((Bx.newB (by simp) : Bx _ (w.heap.size) 28 #[.int .i64 0, .string ⟨#[]⟩, .string ⟨#[]⟩, .slice none 0 0, .slice none 0 0, .slice none 0 0, .slice none 0 0, .bool false, .int .i64 0, .slice none 0 0]).alloc _).alloc _) hk1 (by omega); have lr1 := br1.lt; have bx1 : Bx w1 (w.heap.size + 1) 28 #[.int .i64 3, .string ⟨#[]⟩, .string ⟨#[]⟩, .slice none 0 0, .slice none 0 0, .slice none 0 0, .slice none 0 0, .bool false, .int .i64 0, .slice none 0 0] := Bx.kp ((Bx.newB (by simp) : Bx _ (w.heap.size + 1) 28 #[.int .i64 3, .string ⟨#[]⟩, .string ⟨#[]⟩, .slice none 0 0, .slice none 0 0, .slice none 0 0, .slice none 0 0, .bool false, .int .i64 0, .slice none 0 0]).alloc _) hk1 (by omega); have lx1 := bx1.lt))
  refine ⟨rfl, ?_⟩
  rw [HO.out]
  exact ⟨(kp_set kk2 (by omega) 1 (.string t)).trans hk3, j3, Nat.le_trans (Nat.le_trans (Nat.le_trans (Nat.le_refl i) hj1) hj2) hj3, hP3, hr3, rfl⟩
set_option maxHeartbeats 1000000 in
theorem sqreadDelete_w3 {g : Nat} {v : Value} {l : List Tok} (hE : EndK l) {i : Nat}  {q1 : List TkC} {t : ByteArray} {q2 : List TkC} {cs : List (Cnd)} {q3 : List TkC} (e1 : takeR ⟨#[102, 114, 111, 109]⟩ (rem l i) = (some (), q1)) (e2 : nameR q1 = (some t, q2)) (e3 : whereR q2 = (some cs, q3)) (w : World) (hP : PAt g v l i w) :
    Calls Tryz.prog 30 #[.pointer (some ⟨g, 0, none⟩)] w (Tells g v l i w VX (deleteR (rem l i))) := by
  have hg0 := hP.g_lt
  have HO : Hid (deleteR (rem l i) = (some { Stm.zero with kind := 3, table := t, conds := cs }, q3)) := by
    unfold Hid
    simp only [deleteR, bnd, opt, ret, e1, e2, e3]
  go_enter Tryz.func30, Tryz.ntmps30
  go_wp2_with (first
    | (go_at_call 61; have hz := kk2; clear hz; refine (sqreadWhere_any hE _ (hP2.set bx2 (by decide) (by omega) 1 (.string t))).mono ?_; intro e w3 hT3; obtain ⟨u3, j3, rfl, hk3, hj3, hP3, hr3, hV3⟩ := tells_yes hT3 hr2 e3; obtain ⟨cs_o, cs_c, rfl, ho3⟩ := hV3; have oo3 := row_mono ho3 (kp_set kk2 (by omega) 1 (.string t)).size; have kk3 : w.grownBy w3 (some g) := (kp_set kk2 (by omega) 1 (.string t)).trans hk3; have hs3 : w.heap.size ≤ w3.heap.size := kk3.size; have br3 : Bx w3 (w.heap.size) 28 #[.int .i64 0, .string ⟨#[]⟩, .string ⟨#[]⟩, .slice none 0 0, .slice none 0 0, .slice none 0 0, .slice none 0 0, .bool false, .int .i64 0, .slice none 0 0] := Bx.kp (br2.other (by omega) 1 (.string t)) hk3 (by omega); have lr3 := br3.lt; have bx3 : Bx w3 (w.heap.size + 1) 28 #[.int .i64 3, .string t, .string ⟨#[]⟩, .slice none 0 0, .slice none 0 0, .slice none 0 0, .slice none 0 0, .bool false, .int .i64 0, .slice none 0 0] := Bx.kp (bx2.set 1 (.string t)) hk3 (by omega); have lx3 := bx3.lt; have cx3_6 : w3.cell? ⟨w.heap.size + 1, 6, none⟩ = some (.slice none 0 0) := bx3.cell 6 _ rfl; have fx3_6 := bx3.open 6; have cx3_0 : w3.cell? ⟨w.heap.size + 1, 0, none⟩ = some (.int .i64 3) := bx3.cell 0 _ rfl; have cx3_1 : w3.cell? ⟨w.heap.size + 1, 1, none⟩ = some (.string t) := bx3.cell 1 _ rfl; have cx3_2 : w3.cell? ⟨w.heap.size + 1, 2, none⟩ = some (.string ⟨#[]⟩) := bx3.cell 2 _ rfl; have cx3_3 : w3.cell? ⟨w.heap.size + 1, 3, none⟩ = some (.slice none 0 0) := bx3.cell 3 _ rfl; have cx3_4 : w3.cell? ⟨w.heap.size + 1, 4, none⟩ = some (.slice none 0 0) := bx3.cell 4 _ rfl; have cx3_5 : w3.cell? ⟨w.heap.size + 1, 5, none⟩ = some (.slice none 0 0) := bx3.cell 5 _ rfl; have cx3_7 : w3.cell? ⟨w.heap.size + 1, 7, none⟩ = some (.bool false) := bx3.cell 7 _ rfl; have cx3_8 : w3.cell? ⟨w.heap.size + 1, 8, none⟩ = some (.int .i64 0) := bx3.cell 8 _ rfl; have cx3_9 : w3.cell? ⟨w.heap.size + 1, 9, none⟩ = some (.slice none 0 0) := bx3.cell 9 _ rfl; have cr3_0 : w3.cell? ⟨w.heap.size, 0, none⟩ = some (.int .i64 0) := br3.cell 0 _ rfl; have fr3_0 := br3.open 0; have cr3_1 : w3.cell? ⟨w.heap.size, 1, none⟩ = some (.string ⟨#[]⟩) := br3.cell 1 _ rfl; have fr3_1 := br3.open 1; have cr3_2 : w3.cell? ⟨w.heap.size, 2, none⟩ = some (.string ⟨#[]⟩) := br3.cell 2 _ rfl; have fr3_2 := br3.open 2; have cr3_3 : w3.cell? ⟨w.heap.size, 3, none⟩ = some (.slice none 0 0) := br3.cell 3 _ rfl; have fr3_3 := br3.open 3; have cr3_4 : w3.cell? ⟨w.heap.size, 4, none⟩ = some (.slice none 0 0) := br3.cell 4 _ rfl; have fr3_4 := br3.open 4; have cr3_5 : w3.cell? ⟨w.heap.size, 5, none⟩ = some (.slice none 0 0) := br3.cell 5 _ rfl; have fr3_5 := br3.open 5; have cr3_6 : w3.cell? ⟨w.heap.size, 6, none⟩ = some (.slice none 0 0) := br3.cell 6 _ rfl; have fr3_6 := br3.open 6; have cr3_7 : w3.cell? ⟨w.heap.size, 7, none⟩ = some (.bool false) := br3.cell 7 _ rfl; have fr3_7 := br3.open 7; have cr3_8 : w3.cell? ⟨w.heap.size, 8, none⟩ = some (.int .i64 0) := br3.cell 8 _ rfl; have fr3_8 := br3.open 8; have cr3_9 : w3.cell? ⟨w.heap.size, 9, none⟩ = some (.slice none 0 0) := br3.cell 9 _ rfl; have fr3_9 := br3.open 9)
    | (go_at_call 55; have hz := kk1; clear hz; refine (sqreadName_any hE _ hP1).mono ?_; intro e w2 hT2; obtain ⟨u2, j2, rfl, hk2, hj2, hP2, hr2, hV2⟩ := tells_yes hT2 hr1 e2; obtain rfl : u2 = .string t := hV2; have kk2 : w.grownBy w2 (some g) := kk1.trans hk2; have hs2 : w.heap.size ≤ w2.heap.size := kk2.size; have br2 : Bx w2 (w.heap.size) 28 #[.int .i64 0, .string ⟨#[]⟩, .string ⟨#[]⟩, .slice none 0 0, .slice none 0 0, .slice none 0 0, .slice none 0 0, .bool false, .int .i64 0, .slice none 0 0] := Bx.kp br1 hk2 (by omega); have lr2 := br2.lt; have bx2 : Bx w2 (w.heap.size + 1) 28 #[.int .i64 3, .string ⟨#[]⟩, .string ⟨#[]⟩, .slice none 0 0, .slice none 0 0, .slice none 0 0, .slice none 0 0, .bool false, .int .i64 0, .slice none 0 0] := Bx.kp bx1 hk2 (by omega); have lx2 := bx2.lt; have cx2_1 : w2.cell? ⟨w.heap.size + 1, 1, none⟩ = some (.string ⟨#[]⟩) := bx2.cell 1 _ rfl; have fx2_1 := bx2.open 1)
    | (go_at_call 34; refine (take_1 hE (by decide) _ (((hP.alloc _).alloc _).alloc _) (Bx.newB (by simp)) (by omega)).mono ?_; intro e w1 hT1; obtain ⟨u1, j1, rfl, hk1, hj1, hP1, hr1, hV1⟩ := tells_yes hT1 rfl e1; obtain rfl : u1 = .tuple #[] := hV1; have kk1 : w.grownBy w1 (some g) := (kp_alloc (kp_alloc (kp_alloc (World.grownBy.refl w (some g)) _) _) _).trans hk1; have hs1 : w.heap.size ≤ w1.heap.size := kk1.size; have br1 : Bx w1 (w.heap.size) 28 #[.int .i64 0, .string ⟨#[]⟩, .string ⟨#[]⟩, .slice none 0 0, .slice none 0 0, .slice none 0 0, .slice none 0 0, .bool false, .int .i64 0, .slice none 0 0] := Bx.kp (((Bx.newB (by simp) : Bx _ (w.heap.size) 28 #[.int .i64 0, .string ⟨#[]⟩, .string ⟨#[]⟩, .slice none 0 0, .slice none 0 0, .slice none 0 0, .slice none 0 0, .bool false, .int .i64 0, .slice none 0 0]).alloc _).alloc _) hk1 (by omega); have lr1 := br1.lt; have bx1 : Bx w1 (w.heap.size + 1) 28 #[.int .i64 3, .string ⟨#[]⟩, .string ⟨#[]⟩, .slice none 0 0, .slice none 0 0, .slice none 0 0, .slice none 0 0, .bool false, .int .i64 0, .slice none 0 0] := Bx.kp ((Bx.newB (by simp) : Bx _ (w.heap.size + 1) 28 #[.int .i64 3, .string ⟨#[]⟩, .string ⟨#[]⟩, .slice none 0 0, .slice none 0 0, .slice none 0 0, .slice none 0 0, .bool false, .int .i64 0, .slice none 0 0]).alloc _) hk1 (by omega); have lx1 := bx1.lt))
  refine bodyPost_ret (v := .agg #[.int .i64 3, .string t, .string ⟨#[]⟩, .slice none 0 0, .slice none 0 0, .slice none 0 0, .slice cs_o cs.length cs_c, .bool false, .int .i64 0, .slice none 0 0]) (by simp [results, Tryz.results30, go_sem, cr3_0, cr3_1, cr3_2, cr3_3, cr3_4, cr3_5, cr3_6, cr3_7, cr3_8, cr3_9]) rfl ?_
  rw [HO.out]
  exact ⟨(kp_sets (kp_set kk3 (by omega) 6 (.slice cs_o cs.length cs_c)) (by omega) 0 [.int .i64 3, .string t, .string ⟨#[]⟩, .slice none 0 0, .slice none 0 0, .slice none 0 0, .slice cs_o cs.length cs_c, .bool false, .int .i64 0, .slice none 0 0]), j3, (Nat.le_trans (Nat.le_trans (Nat.le_trans (Nat.le_refl i) hj1) hj2) hj3), (PAt.sets (hP3.set bx3 (by decide) (by omega) 6 (.slice cs_o cs.length cs_c)) (br3.other (by omega) 6 (.slice cs_o cs.length cs_c)) (by decide) (by omega) 0 [.int .i64 3, .string t, .string ⟨#[]⟩, .slice none 0 0, .slice none 0 0, .slice none 0 0, .slice cs_o cs.length cs_c, .bool false, .int .i64 0, .slice none 0 0]), hr3, _, rfl, ⟨⟨none, 0, none, 0, none, 0, cs_o, cs_c, none, 0⟩, rfl, ⟨World.ownsRow_nil _ _ _ _, World.ownsRow_nil _ _ _ _, World.ownsRow_nil _ _ _ _, (row_sets (row_set oo3 bx3 (by decide) 6 (.slice cs_o cs.length cs_c)) (br3.other (by omega) 6 (.slice cs_o cs.length cs_c)) (by decide) 0 [.int .i64 3, .string t, .string ⟨#[]⟩, .slice none 0 0, .slice none 0 0, .slice none 0 0, .slice cs_o cs.length cs_c, .bool false, .int .i64 0, .slice none 0 0]), World.ownsRow_nil _ _ _ _⟩⟩⟩
theorem sqreadDelete_any {g : Nat} {v : Value} {l : List Tok} (hE : EndK l) {i : Nat}  (w : World) (hP : PAt g v l i w) :
    Calls Tryz.prog 30 #[.pointer (some ⟨g, 0, none⟩)] w (Tells g v l i w VX (deleteR (rem l i))) := by
  rcases e1 : takeR ⟨#[102, 114, 111, 109]⟩ (rem l i) with ⟨o1, q1⟩
  cases o1 with
  | none =>
    exact sqreadDelete_w0 hE e1 w hP
  | some a1 =>
    cases a1
    rcases e2 : nameR q1 with ⟨o2, q2⟩
    cases o2 with
    | none =>
      exact sqreadDelete_w1 hE e1 e2 w hP
    | some t =>
      rcases e3 : whereR q2 with ⟨o3, q3⟩
      cases o3 with
      | none =>
        exact sqreadDelete_w2 hE e1 e2 e3 w hP
      | some cs =>
        exact sqreadDelete_w3 hE e1 e2 e3 w hP
set_option maxHeartbeats 1000000 in
theorem sqreadUpdate_w0 {g : Nat} {v : Value} {l : List Tok} (hE : EndK l) {i : Nat}  {q1 : List TkC} (e1 : nameR (rem l i) = (none, q1)) (w : World) (hP : PAt g v l i w) :
    Calls Tryz.prog 29 #[.pointer (some ⟨g, 0, none⟩)] w (Tells g v l i w VX (updateR (rem l i))) := by
  have hg0 := hP.g_lt
  have HO : Hid (updateR (rem l i) = (none, q1)) := by
    unfold Hid
    simp only [updateR, bnd, opt, ret, e1]
  go_enter Tryz.func29, Tryz.ntmps29
  go_wp2_with (first
    | (go_at_call 55; refine (sqreadName_any hE _ ((hP.alloc _).alloc _)).mono ?_; intro e w1 hT1; obtain ⟨j1, rfl, hk1, hj1, hP1, hr1⟩ := tells_no hT1 rfl e1))
  refine ⟨rfl, ?_⟩
  rw [HO.out]
  exact ⟨(kp_alloc (kp_alloc (World.grownBy.refl w (some g)) _) _).trans hk1, j1, Nat.le_trans (Nat.le_refl i) hj1, hP1, hr1, rfl⟩
set_option maxHeartbeats 1000000 in
theorem sqreadUpdate_w1 {g : Nat} {v : Value} {l : List Tok} (hE : EndK l) {i : Nat}  {t : ByteArray} {q1 : List TkC} {q2 : List TkC} (e1 : nameR (rem l i) = (some t, q1)) (e2 : takeR ⟨#[115, 101, 116]⟩ q1 = (none, q2)) (w : World) (hP : PAt g v l i w) :
    Calls Tryz.prog 29 #[.pointer (some ⟨g, 0, none⟩)] w (Tells g v l i w VX (updateR (rem l i))) := by
  have hg0 := hP.g_lt
  have HO : Hid (updateR (rem l i) = (none, q2)) := by
    unfold Hid
    simp only [updateR, bnd, opt, ret, e1, e2]
  go_enter Tryz.func29, Tryz.ntmps29
  go_wp2_with (first
    | (go_at_call 34; have hz := kk1; clear hz; refine (take_1 hE (by decide) _ ((hP1.set bx1 (by decide) (by omega) 1 (.string t)).alloc _) (Bx.newB (by simp)) (by omega)).mono ?_; intro e w2 hT2; obtain ⟨j2, rfl, hk2, hj2, hP2, hr2⟩ := tells_no hT2 hr1 e2)
    | (go_at_call 55; refine (sqreadName_any hE _ ((hP.alloc _).alloc _)).mono ?_; intro e w1 hT1; obtain ⟨u1, j1, rfl, hk1, hj1, hP1, hr1, hV1⟩ := tells_yes hT1 rfl e1; obtain rfl : u1 = .string t := hV1; have kk1 : w.grownBy w1 (some g) := (kp_alloc (kp_alloc (World.grownBy.refl w (some g)) _) _).trans hk1; have hs1 : w.heap.size ≤ w1.heap.size := kk1.size; have br1 : Bx w1 (w.heap.size) 28 #[.int .i64 0, .string ⟨#[]⟩, .string ⟨#[]⟩, .slice none 0 0, .slice none 0 0, .slice none 0 0, .slice none 0 0, .bool false, .int .i64 0, .slice none 0 0] := Bx.kp ((Bx.newB (by simp) : Bx _ (w.heap.size) 28 #[.int .i64 0, .string ⟨#[]⟩, .string ⟨#[]⟩, .slice none 0 0, .slice none 0 0, .slice none 0 0, .slice none 0 0, .bool false, .int .i64 0, .slice none 0 0]).alloc _) hk1 (by omega); have lr1 := br1.lt; have bx1 : Bx w1 (w.heap.size + 1) 28 #[.int .i64 2, .string ⟨#[]⟩, .string ⟨#[]⟩, .slice none 0 0, .slice none 0 0, .slice none 0 0, .slice none 0 0, .bool false, .int .i64 0, .slice none 0 0] := Bx.kp (Bx.newB (by simp) : Bx _ (w.heap.size + 1) 28 #[.int .i64 2, .string ⟨#[]⟩, .string ⟨#[]⟩, .slice none 0 0, .slice none 0 0, .slice none 0 0, .slice none 0 0, .bool false, .int .i64 0, .slice none 0 0]) hk1 (by omega); have lx1 := bx1.lt; have cx1_1 : w1.cell? ⟨w.heap.size + 1, 1, none⟩ = some (.string ⟨#[]⟩) := bx1.cell 1 _ rfl; have fx1_1 := bx1.open 1))
  refine ⟨rfl, ?_⟩
  rw [HO.out]
  exact ⟨(kp_alloc (kp_set kk1 (by omega) 1 (.string t)) _).trans hk2, j2, Nat.le_trans (Nat.le_trans (Nat.le_refl i) hj1) hj2, hP2, hr2, rfl⟩
set_option maxHeartbeats 1000000 in
theorem sqreadUpdate_w2 {g : Nat} {v : Value} {l : List Tok} (hE : EndK l) {i : Nat}  {t : ByteArray} {q1 : List TkC} {q2 : List TkC} {q3 : List TkC} (e1 : nameR (rem l i) = (some t, q1)) (e2 : takeR ⟨#[115, 101, 116]⟩ q1 = (some (), q2)) (e3 : listR ⟨#[44]⟩ setR q2 = (none, q3)) (w : World) (hP : PAt g v l i w) :
    Calls Tryz.prog 29 #[.pointer (some ⟨g, 0, none⟩)] w (Tells g v l i w VX (updateR (rem l i))) := by
  have hg0 := hP.g_lt
  have HO : Hid (updateR (rem l i) = (none, q3)) := by
    unfold Hid
    simp only [updateR, bnd, opt, ret, e1, e2, e3]
  go_enter Tryz.func29, Tryz.ntmps29
  go_wp2_with (first
    | (go_at_call 59; have hz := kk2; clear hz; refine (sqreadList_set_any hE ⟨#[44]⟩ (by decide) _ hP2).mono ?_; intro e w3 hT3; obtain ⟨j3, rfl, hk3, hj3, hP3, hr3⟩ := tells_no hT3 hr2 e3)
    | (go_at_call 34; have hz := kk1; clear hz; refine (take_1 hE (by decide) _ ((hP1.set bx1 (by decide) (by omega) 1 (.string t)).alloc _) (Bx.newB (by simp)) (by omega)).mono ?_; intro e w2 hT2; obtain ⟨u2, j2, rfl, hk2, hj2, hP2, hr2, hV2⟩ := tells_yes hT2 hr1 e2; obtain rfl : u2 = .tuple #[] := hV2; have kk2 : w.grownBy w2 (some g) := (kp_alloc (kp_set kk1 (by omega) 1 (.string t)) _).trans hk2; have hs2 : w.heap.size ≤ w2.heap.size := kk2.size; have br2 : Bx w2 (w.heap.size) 28 #[.int .i64 0, .string ⟨#[]⟩, .string ⟨#[]⟩, .slice none 0 0, .slice none 0 0, .slice none 0 0, .slice none 0 0, .bool false, .int .i64 0, .slice none 0 0] := Bx.kp ((br1.other (by omega) 1 (.string t)).alloc _) hk2 (by omega); have lr2 := br2.lt; have bx2 : Bx w2 (w.heap.size + 1) 28 #[.int .i64 2, .string t, .string ⟨#[]⟩, .slice none 0 0, .slice none 0 0, .slice none 0 0, .slice none 0 0, .bool false, .int .i64 0, .slice none 0 0] := Bx.kp ((bx1.set 1 (.string t)).alloc _) hk2 (by omega); have lx2 := bx2.lt)
    | (go_at_call 55; refine (sqreadName_any hE _ ((hP.alloc _).alloc _)).mono ?_; intro e w1 hT1; obtain ⟨u1, j1, rfl, hk1, hj1, hP1, hr1, hV1⟩ := tells_yes hT1 rfl e1; obtain rfl : u1 = .string t := hV1; have kk1 : w.grownBy w1 (some g) := (kp_alloc (kp_alloc (World.grownBy.refl w (some g)) _) _).trans hk1; have hs1 : w.heap.size ≤ w1.heap.size := kk1.size; have br1 : Bx w1 (w.heap.size) 28 #[.int .i64 0, .string ⟨#[]⟩, .string ⟨#[]⟩, .slice none 0 0, .slice none 0 0, .slice none 0 0, .slice none 0 0, .bool false, .int .i64 0, .slice none 0 0] := Bx.kp ((Bx.newB (by simp) : Bx _ (w.heap.size) 28 #[.int .i64 0, .string ⟨#[]⟩, .string ⟨#[]⟩, .slice none 0 0, .slice none 0 0, .slice none 0 0, .slice none 0 0, .bool false, .int .i64 0, .slice none 0 0]).alloc _) hk1 (by omega); have lr1 := br1.lt; have bx1 : Bx w1 (w.heap.size + 1) 28 #[.int .i64 2, .string ⟨#[]⟩, .string ⟨#[]⟩, .slice none 0 0, .slice none 0 0, .slice none 0 0, .slice none 0 0, .bool false, .int .i64 0, .slice none 0 0] := Bx.kp (Bx.newB (by simp) : Bx _ (w.heap.size + 1) 28 #[.int .i64 2, .string ⟨#[]⟩, .string ⟨#[]⟩, .slice none 0 0, .slice none 0 0, .slice none 0 0, .slice none 0 0, .bool false, .int .i64 0, .slice none 0 0]) hk1 (by omega); have lx1 := bx1.lt; have cx1_1 : w1.cell? ⟨w.heap.size + 1, 1, none⟩ = some (.string ⟨#[]⟩) := bx1.cell 1 _ rfl; have fx1_1 := bx1.open 1))
  refine ⟨rfl, ?_⟩
  rw [HO.out]
  exact ⟨kk2.trans hk3, j3, Nat.le_trans (Nat.le_trans (Nat.le_trans (Nat.le_refl i) hj1) hj2) hj3, hP3, hr3, rfl⟩
set_option maxHeartbeats 1000000 in
theorem sqreadUpdate_w3 {g : Nat} {v : Value} {l : List Tok} (hE : EndK l) {i : Nat}  {t : ByteArray} {q1 : List TkC} {q2 : List TkC} {ss : List (Sett)} {q3 : List TkC} {q4 : List TkC} (e1 : nameR (rem l i) = (some t, q1)) (e2 : takeR ⟨#[115, 101, 116]⟩ q1 = (some (), q2)) (e3 : listR ⟨#[44]⟩ setR q2 = (some ss, q3)) (e4 : whereR q3 = (none, q4)) (w : World) (hP : PAt g v l i w) :
    Calls Tryz.prog 29 #[.pointer (some ⟨g, 0, none⟩)] w (Tells g v l i w VX (updateR (rem l i))) := by
  have hg0 := hP.g_lt
  have HO : Hid (updateR (rem l i) = (none, q4)) := by
    unfold Hid
    simp only [updateR, bnd, opt, ret, e1, e2, e3, e4]
  go_enter Tryz.func29, Tryz.ntmps29
  go_wp2_with (first
    | (go_at_call 61; have hz := kk3; clear hz; refine (sqreadWhere_any hE _ (hP3.set bx3 (by decide) (by omega) 5 (.slice ss_o ss.length ss_c))).mono ?_; intro e w4 hT4; obtain ⟨j4, rfl, hk4, hj4, hP4, hr4⟩ := tells_no hT4 hr3 e4)
    | (go_at_call 59; have hz := kk2; clear hz; refine (sqreadList_set_any hE ⟨#[44]⟩ (by decide) _ hP2).mono ?_; intro e w3 hT3; obtain ⟨u3, j3, rfl, hk3, hj3, hP3, hr3, hV3⟩ := tells_yes hT3 hr2 e3; obtain ⟨ss_o, ss_c, rfl, ho3⟩ := hV3; have oo3 := row_mono ho3 kk2.size; have kk3 : w.grownBy w3 (some g) := kk2.trans hk3; have hs3 : w.heap.size ≤ w3.heap.size := kk3.size; have br3 : Bx w3 (w.heap.size) 28 #[.int .i64 0, .string ⟨#[]⟩, .string ⟨#[]⟩, .slice none 0 0, .slice none 0 0, .slice none 0 0, .slice none 0 0, .bool false, .int .i64 0, .slice none 0 0] := Bx.kp br2 hk3 (by omega); have lr3 := br3.lt; have bx3 : Bx w3 (w.heap.size + 1) 28 #[.int .i64 2, .string t, .string ⟨#[]⟩, .slice none 0 0, .slice none 0 0, .slice none 0 0, .slice none 0 0, .bool false, .int .i64 0, .slice none 0 0] := Bx.kp bx2 hk3 (by omega); have lx3 := bx3.lt; have cx3_5 : w3.cell? ⟨w.heap.size + 1, 5, none⟩ = some (.slice none 0 0) := bx3.cell 5 _ rfl; have fx3_5 := bx3.open 5)
    | (go_at_call 34; have hz := kk1; clear hz; refine (take_1 hE (by decide) _ ((hP1.set bx1 (by decide) (by omega) 1 (.string t)).alloc _) (Bx.newB (by simp)) (by omega)).mono ?_; intro e w2 hT2; obtain ⟨u2, j2, rfl, hk2, hj2, hP2, hr2, hV2⟩ := tells_yes hT2 hr1 e2; obtain rfl : u2 = .tuple #[] := hV2; have kk2 : w.grownBy w2 (some g) := (kp_alloc (kp_set kk1 (by omega) 1 (.string t)) _).trans hk2; have hs2 : w.heap.size ≤ w2.heap.size := kk2.size; have br2 : Bx w2 (w.heap.size) 28 #[.int .i64 0, .string ⟨#[]⟩, .string ⟨#[]⟩, .slice none 0 0, .slice none 0 0, .slice none 0 0, .slice none 0 0, .bool false, .int .i64 0, .slice none 0 0] := Bx.kp ((br1.other (by omega) 1 (.string t)).alloc _) hk2 (by omega); have lr2 := br2.lt; have bx2 : Bx w2 (w.heap.size + 1) 28 #[.int .i64 2, .string t, .string ⟨#[]⟩, .slice none 0 0, .slice none 0 0, .slice none 0 0, .slice none 0 0, .bool false, .int .i64 0, .slice none 0 0] := Bx.kp ((bx1.set 1 (.string t)).alloc _) hk2 (by omega); have lx2 := bx2.lt)
    | (go_at_call 55; refine (sqreadName_any hE _ ((hP.alloc _).alloc _)).mono ?_; intro e w1 hT1; obtain ⟨u1, j1, rfl, hk1, hj1, hP1, hr1, hV1⟩ := tells_yes hT1 rfl e1; obtain rfl : u1 = .string t := hV1; have kk1 : w.grownBy w1 (some g) := (kp_alloc (kp_alloc (World.grownBy.refl w (some g)) _) _).trans hk1; have hs1 : w.heap.size ≤ w1.heap.size := kk1.size; have br1 : Bx w1 (w.heap.size) 28 #[.int .i64 0, .string ⟨#[]⟩, .string ⟨#[]⟩, .slice none 0 0, .slice none 0 0, .slice none 0 0, .slice none 0 0, .bool false, .int .i64 0, .slice none 0 0] := Bx.kp ((Bx.newB (by simp) : Bx _ (w.heap.size) 28 #[.int .i64 0, .string ⟨#[]⟩, .string ⟨#[]⟩, .slice none 0 0, .slice none 0 0, .slice none 0 0, .slice none 0 0, .bool false, .int .i64 0, .slice none 0 0]).alloc _) hk1 (by omega); have lr1 := br1.lt; have bx1 : Bx w1 (w.heap.size + 1) 28 #[.int .i64 2, .string ⟨#[]⟩, .string ⟨#[]⟩, .slice none 0 0, .slice none 0 0, .slice none 0 0, .slice none 0 0, .bool false, .int .i64 0, .slice none 0 0] := Bx.kp (Bx.newB (by simp) : Bx _ (w.heap.size + 1) 28 #[.int .i64 2, .string ⟨#[]⟩, .string ⟨#[]⟩, .slice none 0 0, .slice none 0 0, .slice none 0 0, .slice none 0 0, .bool false, .int .i64 0, .slice none 0 0]) hk1 (by omega); have lx1 := bx1.lt; have cx1_1 : w1.cell? ⟨w.heap.size + 1, 1, none⟩ = some (.string ⟨#[]⟩) := bx1.cell 1 _ rfl; have fx1_1 := bx1.open 1))
  refine ⟨rfl, ?_⟩
  rw [HO.out]
  exact ⟨(kp_set kk3 (by omega) 5 (.slice ss_o ss.length ss_c)).trans hk4, j4, Nat.le_trans (Nat.le_trans (Nat.le_trans (Nat.le_trans (Nat.le_refl i) hj1) hj2) hj3) hj4, hP4, hr4, rfl⟩
set_option maxHeartbeats 1000000 in
theorem sqreadUpdate_w4 {g : Nat} {v : Value} {l : List Tok} (hE : EndK l) {i : Nat}  {t : ByteArray} {q1 : List TkC} {q2 : List TkC} {ss : List (Sett)} {q3 : List TkC} {cs : List (Cnd)} {q4 : List TkC} (e1 : nameR (rem l i) = (some t, q1)) (e2 : takeR ⟨#[115, 101, 116]⟩ q1 = (some (), q2)) (e3 : listR ⟨#[44]⟩ setR q2 = (some ss, q3)) (e4 : whereR q3 = (some cs, q4)) (w : World) (hP : PAt g v l i w) :
    Calls Tryz.prog 29 #[.pointer (some ⟨g, 0, none⟩)] w (Tells g v l i w VX (updateR (rem l i))) := by
  have hg0 := hP.g_lt
  have HO : Hid (updateR (rem l i) = (some { Stm.zero with kind := 2, table := t, sets := ss, conds := cs }, q4)) := by
    unfold Hid
    simp only [updateR, bnd, opt, ret, e1, e2, e3, e4]
  go_enter Tryz.func29, Tryz.ntmps29
  go_wp2_with (first
    | (go_at_call 61; have hz := kk3; clear hz; refine (sqreadWhere_any hE _ (hP3.set bx3 (by decide) (by omega) 5 (.slice ss_o ss.length ss_c))).mono ?_; intro e w4 hT4; obtain ⟨u4, j4, rfl, hk4, hj4, hP4, hr4, hV4⟩ := tells_yes hT4 hr3 e4; obtain ⟨cs_o, cs_c, rfl, ho4⟩ := hV4; have oo4 := row_mono ho4 (kp_set kk3 (by omega) 5 (.slice ss_o ss.length ss_c)).size; have kk4 : w.grownBy w4 (some g) := (kp_set kk3 (by omega) 5 (.slice ss_o ss.length ss_c)).trans hk4; have hs4 : w.heap.size ≤ w4.heap.size := kk4.size; have br4 : Bx w4 (w.heap.size) 28 #[.int .i64 0, .string ⟨#[]⟩, .string ⟨#[]⟩, .slice none 0 0, .slice none 0 0, .slice none 0 0, .slice none 0 0, .bool false, .int .i64 0, .slice none 0 0] := Bx.kp (br3.other (by omega) 5 (.slice ss_o ss.length ss_c)) hk4 (by omega); have lr4 := br4.lt; have bx4 : Bx w4 (w.heap.size + 1) 28 #[.int .i64 2, .string t, .string ⟨#[]⟩, .slice none 0 0, .slice none 0 0, .slice ss_o ss.length ss_c, .slice none 0 0, .bool false, .int .i64 0, .slice none 0 0] := Bx.kp (bx3.set 5 (.slice ss_o ss.length ss_c)) hk4 (by omega); have lx4 := bx4.lt; have oss4 := row_kp (row_set oo3 bx3 (by decide) 5 (.slice ss_o ss.length ss_c)) hk4 hg0; have cx4_6 : w4.cell? ⟨w.heap.size + 1, 6, none⟩ = some (.slice none 0 0) := bx4.cell 6 _ rfl; have fx4_6 := bx4.open 6; have cx4_0 : w4.cell? ⟨w.heap.size + 1, 0, none⟩ = some (.int .i64 2) := bx4.cell 0 _ rfl; have cx4_1 : w4.cell? ⟨w.heap.size + 1, 1, none⟩ = some (.string t) := bx4.cell 1 _ rfl; have cx4_2 : w4.cell? ⟨w.heap.size + 1, 2, none⟩ = some (.string ⟨#[]⟩) := bx4.cell 2 _ rfl; have cx4_3 : w4.cell? ⟨w.heap.size + 1, 3, none⟩ = some (.slice none 0 0) := bx4.cell 3 _ rfl; have cx4_4 : w4.cell? ⟨w.heap.size + 1, 4, none⟩ = some (.slice none 0 0) := bx4.cell 4 _ rfl; have cx4_5 : w4.cell? ⟨w.heap.size + 1, 5, none⟩ = some (.slice ss_o ss.length ss_c) := bx4.cell 5 _ rfl; have cx4_7 : w4.cell? ⟨w.heap.size + 1, 7, none⟩ = some (.bool false) := bx4.cell 7 _ rfl; have cx4_8 : w4.cell? ⟨w.heap.size + 1, 8, none⟩ = some (.int .i64 0) := bx4.cell 8 _ rfl; have cx4_9 : w4.cell? ⟨w.heap.size + 1, 9, none⟩ = some (.slice none 0 0) := bx4.cell 9 _ rfl; have cr4_0 : w4.cell? ⟨w.heap.size, 0, none⟩ = some (.int .i64 0) := br4.cell 0 _ rfl; have fr4_0 := br4.open 0; have cr4_1 : w4.cell? ⟨w.heap.size, 1, none⟩ = some (.string ⟨#[]⟩) := br4.cell 1 _ rfl; have fr4_1 := br4.open 1; have cr4_2 : w4.cell? ⟨w.heap.size, 2, none⟩ = some (.string ⟨#[]⟩) := br4.cell 2 _ rfl; have fr4_2 := br4.open 2; have cr4_3 : w4.cell? ⟨w.heap.size, 3, none⟩ = some (.slice none 0 0) := br4.cell 3 _ rfl; have fr4_3 := br4.open 3; have cr4_4 : w4.cell? ⟨w.heap.size, 4, none⟩ = some (.slice none 0 0) := br4.cell 4 _ rfl; have fr4_4 := br4.open 4; have cr4_5 : w4.cell? ⟨w.heap.size, 5, none⟩ = some (.slice none 0 0) := br4.cell 5 _ rfl; have fr4_5 := br4.open 5; have cr4_6 : w4.cell? ⟨w.heap.size, 6, none⟩ = some (.slice none 0 0) := br4.cell 6 _ rfl; have fr4_6 := br4.open 6; have cr4_7 : w4.cell? ⟨w.heap.size, 7, none⟩ = some (.bool false) := br4.cell 7 _ rfl; have fr4_7 := br4.open 7; have cr4_8 : w4.cell? ⟨w.heap.size, 8, none⟩ = some (.int .i64 0) := br4.cell 8 _ rfl; have fr4_8 := br4.open 8; have cr4_9 : w4.cell? ⟨w.heap.size, 9, none⟩ = some (.slice none 0 0) := br4.cell 9 _ rfl; have fr4_9 := br4.open 9)
    | (go_at_call 59; have hz := kk2; clear hz; refine (sqreadList_set_any hE ⟨#[44]⟩ (by decide) _ hP2).mono ?_; intro e w3 hT3; obtain ⟨u3, j3, rfl, hk3, hj3, hP3, hr3, hV3⟩ := tells_yes hT3 hr2 e3; obtain ⟨ss_o, ss_c, rfl, ho3⟩ := hV3; have oo3 := row_mono ho3 kk2.size; have kk3 : w.grownBy w3 (some g) := kk2.trans hk3; have hs3 : w.heap.size ≤ w3.heap.size := kk3.size; have br3 : Bx w3 (w.heap.size) 28 #[.int .i64 0, .string ⟨#[]⟩, .string ⟨#[]⟩, .slice none 0 0, .slice none 0 0, .slice none 0 0, .slice none 0 0, .bool false, .int .i64 0, .slice none 0 0] := Bx.kp br2 hk3 (by omega); have lr3 := br3.lt; have bx3 : Bx w3 (w.heap.size + 1) 28 #[.int .i64 2, .string t, .string ⟨#[]⟩, .slice none 0 0, .slice none 0 0, .slice none 0 0, .slice none 0 0, .bool false, .int .i64 0, .slice none 0 0] := Bx.kp bx2 hk3 (by omega); have lx3 := bx3.lt; have cx3_5 : w3.cell? ⟨w.heap.size + 1, 5, none⟩ = some (.slice none 0 0) := bx3.cell 5 _ rfl; have fx3_5 := bx3.open 5)
    | (go_at_call 34; have hz := kk1; clear hz; refine (take_1 hE (by decide) _ ((hP1.set bx1 (by decide) (by omega) 1 (.string t)).alloc _) (Bx.newB (by simp)) (by omega)).mono ?_; intro e w2 hT2; obtain ⟨u2, j2, rfl, hk2, hj2, hP2, hr2, hV2⟩ := tells_yes hT2 hr1 e2; obtain rfl : u2 = .tuple #[] := hV2; have kk2 : w.grownBy w2 (some g) := (kp_alloc (kp_set kk1 (by omega) 1 (.string t)) _).trans hk2; have hs2 : w.heap.size ≤ w2.heap.size := kk2.size; have br2 : Bx w2 (w.heap.size) 28 #[.int .i64 0, .string ⟨#[]⟩, .string ⟨#[]⟩, .slice none 0 0, .slice none 0 0, .slice none 0 0, .slice none 0 0, .bool false, .int .i64 0, .slice none 0 0] := Bx.kp ((br1.other (by omega) 1 (.string t)).alloc _) hk2 (by omega); have lr2 := br2.lt; have bx2 : Bx w2 (w.heap.size + 1) 28 #[.int .i64 2, .string t, .string ⟨#[]⟩, .slice none 0 0, .slice none 0 0, .slice none 0 0, .slice none 0 0, .bool false, .int .i64 0, .slice none 0 0] := Bx.kp ((bx1.set 1 (.string t)).alloc _) hk2 (by omega); have lx2 := bx2.lt)
    | (go_at_call 55; refine (sqreadName_any hE _ ((hP.alloc _).alloc _)).mono ?_; intro e w1 hT1; obtain ⟨u1, j1, rfl, hk1, hj1, hP1, hr1, hV1⟩ := tells_yes hT1 rfl e1; obtain rfl : u1 = .string t := hV1; have kk1 : w.grownBy w1 (some g) := (kp_alloc (kp_alloc (World.grownBy.refl w (some g)) _) _).trans hk1; have hs1 : w.heap.size ≤ w1.heap.size := kk1.size; have br1 : Bx w1 (w.heap.size) 28 #[.int .i64 0, .string ⟨#[]⟩, .string ⟨#[]⟩, .slice none 0 0, .slice none 0 0, .slice none 0 0, .slice none 0 0, .bool false, .int .i64 0, .slice none 0 0] := Bx.kp ((Bx.newB (by simp) : Bx _ (w.heap.size) 28 #[.int .i64 0, .string ⟨#[]⟩, .string ⟨#[]⟩, .slice none 0 0, .slice none 0 0, .slice none 0 0, .slice none 0 0, .bool false, .int .i64 0, .slice none 0 0]).alloc _) hk1 (by omega); have lr1 := br1.lt; have bx1 : Bx w1 (w.heap.size + 1) 28 #[.int .i64 2, .string ⟨#[]⟩, .string ⟨#[]⟩, .slice none 0 0, .slice none 0 0, .slice none 0 0, .slice none 0 0, .bool false, .int .i64 0, .slice none 0 0] := Bx.kp (Bx.newB (by simp) : Bx _ (w.heap.size + 1) 28 #[.int .i64 2, .string ⟨#[]⟩, .string ⟨#[]⟩, .slice none 0 0, .slice none 0 0, .slice none 0 0, .slice none 0 0, .bool false, .int .i64 0, .slice none 0 0]) hk1 (by omega); have lx1 := bx1.lt; have cx1_1 : w1.cell? ⟨w.heap.size + 1, 1, none⟩ = some (.string ⟨#[]⟩) := bx1.cell 1 _ rfl; have fx1_1 := bx1.open 1))
  refine bodyPost_ret (v := .agg #[.int .i64 2, .string t, .string ⟨#[]⟩, .slice none 0 0, .slice none 0 0, .slice ss_o ss.length ss_c, .slice cs_o cs.length cs_c, .bool false, .int .i64 0, .slice none 0 0]) (by simp [results, Tryz.results29, go_sem, cr4_0, cr4_1, cr4_2, cr4_3, cr4_4, cr4_5, cr4_6, cr4_7, cr4_8, cr4_9]) rfl ?_
  rw [HO.out]
  exact ⟨(kp_sets (kp_set kk4 (by omega) 6 (.slice cs_o cs.length cs_c)) (by omega) 0 [.int .i64 2, .string t, .string ⟨#[]⟩, .slice none 0 0, .slice none 0 0, .slice ss_o ss.length ss_c, .slice cs_o cs.length cs_c, .bool false, .int .i64 0, .slice none 0 0]), j4, (Nat.le_trans (Nat.le_trans (Nat.le_trans (Nat.le_trans (Nat.le_refl i) hj1) hj2) hj3) hj4), (PAt.sets (hP4.set bx4 (by decide) (by omega) 6 (.slice cs_o cs.length cs_c)) (br4.other (by omega) 6 (.slice cs_o cs.length cs_c)) (by decide) (by omega) 0 [.int .i64 2, .string t, .string ⟨#[]⟩, .slice none 0 0, .slice none 0 0, .slice ss_o ss.length ss_c, .slice cs_o cs.length cs_c, .bool false, .int .i64 0, .slice none 0 0]), hr4, _, rfl, ⟨⟨none, 0, none, 0, ss_o, ss_c, cs_o, cs_c, none, 0⟩, rfl, ⟨World.ownsRow_nil _ _ _ _, World.ownsRow_nil _ _ _ _, (row_sets (row_set oss4 bx4 (by decide) 6 (.slice cs_o cs.length cs_c)) (br4.other (by omega) 6 (.slice cs_o cs.length cs_c)) (by decide) 0 [.int .i64 2, .string t, .string ⟨#[]⟩, .slice none 0 0, .slice none 0 0, .slice ss_o ss.length ss_c, .slice cs_o cs.length cs_c, .bool false, .int .i64 0, .slice none 0 0]), (row_sets (row_set oo4 bx4 (by decide) 6 (.slice cs_o cs.length cs_c)) (br4.other (by omega) 6 (.slice cs_o cs.length cs_c)) (by decide) 0 [.int .i64 2, .string t, .string ⟨#[]⟩, .slice none 0 0, .slice none 0 0, .slice ss_o ss.length ss_c, .slice cs_o cs.length cs_c, .bool false, .int .i64 0, .slice none 0 0]), World.ownsRow_nil _ _ _ _⟩⟩⟩
theorem sqreadUpdate_any {g : Nat} {v : Value} {l : List Tok} (hE : EndK l) {i : Nat}  (w : World) (hP : PAt g v l i w) :
    Calls Tryz.prog 29 #[.pointer (some ⟨g, 0, none⟩)] w (Tells g v l i w VX (updateR (rem l i))) := by
  rcases e1 : nameR (rem l i) with ⟨o1, q1⟩
  cases o1 with
  | none =>
    exact sqreadUpdate_w0 hE e1 w hP
  | some t =>
    rcases e2 : takeR ⟨#[115, 101, 116]⟩ q1 with ⟨o2, q2⟩
    cases o2 with
    | none =>
      exact sqreadUpdate_w1 hE e1 e2 w hP
    | some a2 =>
      cases a2
      rcases e3 : listR ⟨#[44]⟩ setR q2 with ⟨o3, q3⟩
      cases o3 with
      | none =>
        exact sqreadUpdate_w2 hE e1 e2 e3 w hP
      | some ss =>
        rcases e4 : whereR q3 with ⟨o4, q4⟩
        cases o4 with
        | none =>
          exact sqreadUpdate_w3 hE e1 e2 e3 e4 w hP
        | some cs =>
          exact sqreadUpdate_w4 hE e1 e2 e3 e4 w hP
set_option maxHeartbeats 1000000 in
theorem sqreadSelect_w0 {g : Nat} {v : Value} {l : List Tok} (hE : EndK l) {i : Nat}  {q2 : List TkC} (hb1 : isT ⟨#[42]⟩ (rem l i) = true) (e2 : takeR ⟨#[102, 114, 111, 109]⟩ (rem l i).tail = (none, q2)) (w : World) (hP : PAt g v l i w) :
    Calls Tryz.prog 31 #[.pointer (some ⟨g, 0, none⟩)] w (Tells g v l i w VX (selectR (rem l i))) := by
  have hg0 := hP.g_lt
  have HO : Hid (selectR (rem l i) = (none, q2)) := by
    unfold Hid
    simp only [selectR, bnd, opt, ret, hb1, if_true, e2]
  go_enter Tryz.func31, Tryz.ntmps31
  go_wp2_with (first
    | (go_at_call 34; have hz := kk1; clear hz; refine (take_1 hE (by decide) _ (hP1.alloc _) (Bx.newB (by simp)) (by omega)).mono ?_; intro e w2 hT2; obtain ⟨j2, rfl, hk2, hj2, hP2, hr2⟩ := tells_no hT2 hr1 e2)
    | (go_at_call 27; refine (took_yes hE (by decide) hb1 _ ((hP.alloc _).alloc _) rfl).mono ?_; rintro e w1 ⟨rfl, hk1, hP1, hr1⟩; have kk1 : w.grownBy w1 (some g) := (kp_alloc (kp_alloc (World.grownBy.refl w (some g)) _) _).trans hk1; have hs1 : w.heap.size ≤ w1.heap.size := kk1.size; have br1 : Bx w1 (w.heap.size) 28 #[.int .i64 0, .string ⟨#[]⟩, .string ⟨#[]⟩, .slice none 0 0, .slice none 0 0, .slice none 0 0, .slice none 0 0, .bool false, .int .i64 0, .slice none 0 0] := Bx.kp ((Bx.newB (by simp) : Bx _ (w.heap.size) 28 #[.int .i64 0, .string ⟨#[]⟩, .string ⟨#[]⟩, .slice none 0 0, .slice none 0 0, .slice none 0 0, .slice none 0 0, .bool false, .int .i64 0, .slice none 0 0]).alloc _) hk1 (by omega); have lr1 := br1.lt; have bx1 : Bx w1 (w.heap.size + 1) 28 #[.int .i64 4, .string ⟨#[]⟩, .string ⟨#[]⟩, .slice none 0 0, .slice none 0 0, .slice none 0 0, .slice none 0 0, .bool false, .int .i64 0, .slice none 0 0] := Bx.kp (Bx.newB (by simp) : Bx _ (w.heap.size + 1) 28 #[.int .i64 4, .string ⟨#[]⟩, .string ⟨#[]⟩, .slice none 0 0, .slice none 0 0, .slice none 0 0, .slice none 0 0, .bool false, .int .i64 0, .slice none 0 0]) hk1 (by omega); have lx1 := bx1.lt))
  refine ⟨rfl, ?_⟩
  rw [HO.out]
  exact ⟨(kp_alloc kk1 _).trans hk2, j2, Nat.le_trans (Nat.le_succ_of_le (Nat.le_refl i)) hj2, hP2, hr2, rfl⟩
set_option maxHeartbeats 1000000 in
theorem sqreadSelect_w1 {g : Nat} {v : Value} {l : List Tok} (hE : EndK l) {i : Nat}  {q2 : List TkC} {q3 : List TkC} (hb1 : isT ⟨#[42]⟩ (rem l i) = true) (e2 : takeR ⟨#[102, 114, 111, 109]⟩ (rem l i).tail = (some (), q2)) (e3 : nameR q2 = (none, q3)) (w : World) (hP : PAt g v l i w) :
    Calls Tryz.prog 31 #[.pointer (some ⟨g, 0, none⟩)] w (Tells g v l i w VX (selectR (rem l i))) := by
  have hg0 := hP.g_lt
  have HO : Hid (selectR (rem l i) = (none, q3)) := by
    unfold Hid
    simp only [selectR, bnd, opt, ret, hb1, if_true, e2, e3]
  go_enter Tryz.func31, Tryz.ntmps31
  go_wp2_with (first
    | (go_at_call 55; have hz := kk2; clear hz; refine (sqreadName_any hE _ hP2).mono ?_; intro e w3 hT3; obtain ⟨j3, rfl, hk3, hj3, hP3, hr3⟩ := tells_no hT3 hr2 e3)
    | (go_at_call 34; have hz := kk1; clear hz; refine (take_1 hE (by decide) _ (hP1.alloc _) (Bx.newB (by simp)) (by omega)).mono ?_; intro e w2 hT2; obtain ⟨u2, j2, rfl, hk2, hj2, hP2, hr2, hV2⟩ := tells_yes hT2 hr1 e2; obtain rfl : u2 = .tuple #[] := hV2; have kk2 : w.grownBy w2 (some g) := (kp_alloc kk1 _).trans hk2; have hs2 : w.heap.size ≤ w2.heap.size := kk2.size; have br2 : Bx w2 (w.heap.size) 28 #[.int .i64 0, .string ⟨#[]⟩, .string ⟨#[]⟩, .slice none 0 0, .slice none 0 0, .slice none 0 0, .slice none 0 0, .bool false, .int .i64 0, .slice none 0 0] := Bx.kp (br1.alloc _) hk2 (by omega); have lr2 := br2.lt; have bx2 : Bx w2 (w.heap.size + 1) 28 #[.int .i64 4, .string ⟨#[]⟩, .string ⟨#[]⟩, .slice none 0 0, .slice none 0 0, .slice none 0 0, .slice none 0 0, .bool false, .int .i64 0, .slice none 0 0] := Bx.kp (bx1.alloc _) hk2 (by omega); have lx2 := bx2.lt)
    | (go_at_call 27; refine (took_yes hE (by decide) hb1 _ ((hP.alloc _).alloc _) rfl).mono ?_; rintro e w1 ⟨rfl, hk1, hP1, hr1⟩; have kk1 : w.grownBy w1 (some g) := (kp_alloc (kp_alloc (World.grownBy.refl w (some g)) _) _).trans hk1; have hs1 : w.heap.size ≤ w1.heap.size := kk1.size; have br1 : Bx w1 (w.heap.size) 28 #[.int .i64 0, .string ⟨#[]⟩, .string ⟨#[]⟩, .slice none 0 0, .slice none 0 0, .slice none 0 0, .slice none 0 0, .bool false, .int .i64 0, .slice none 0 0] := Bx.kp ((Bx.newB (by simp) : Bx _ (w.heap.size) 28 #[.int .i64 0, .string ⟨#[]⟩, .string ⟨#[]⟩, .slice none 0 0, .slice none 0 0, .slice none 0 0, .slice none 0 0, .bool false, .int .i64 0, .slice none 0 0]).alloc _) hk1 (by omega); have lr1 := br1.lt; have bx1 : Bx w1 (w.heap.size + 1) 28 #[.int .i64 4, .string ⟨#[]⟩, .string ⟨#[]⟩, .slice none 0 0, .slice none 0 0, .slice none 0 0, .slice none 0 0, .bool false, .int .i64 0, .slice none 0 0] := Bx.kp (Bx.newB (by simp) : Bx _ (w.heap.size + 1) 28 #[.int .i64 4, .string ⟨#[]⟩, .string ⟨#[]⟩, .slice none 0 0, .slice none 0 0, .slice none 0 0, .slice none 0 0, .bool false, .int .i64 0, .slice none 0 0]) hk1 (by omega); have lx1 := bx1.lt))
  refine ⟨rfl, ?_⟩
  rw [HO.out]
  exact ⟨kk2.trans hk3, j3, Nat.le_trans (Nat.le_trans (Nat.le_succ_of_le (Nat.le_refl i)) hj2) hj3, hP3, hr3, rfl⟩
set_option maxHeartbeats 1000000 in
theorem sqreadSelect_w2 {g : Nat} {v : Value} {l : List Tok} (hE : EndK l) {i : Nat}  {q2 : List TkC} {t : ByteArray} {q3 : List TkC} {q4 : List TkC} (hb1 : isT ⟨#[42]⟩ (rem l i) = true) (e2 : takeR ⟨#[102, 114, 111, 109]⟩ (rem l i).tail = (some (), q2)) (e3 : nameR q2 = (some t, q3)) (e4 : whereR q3 = (none, q4)) (w : World) (hP : PAt g v l i w) :
    Calls Tryz.prog 31 #[.pointer (some ⟨g, 0, none⟩)] w (Tells g v l i w VX (selectR (rem l i))) := by
  have hg0 := hP.g_lt
  have HO : Hid (selectR (rem l i) = (none, q4)) := by
    unfold Hid
    simp only [selectR, bnd, opt, ret, hb1, if_true, e2, e3, e4]
  go_enter Tryz.func31, Tryz.ntmps31
  go_wp2_with (first
    | (go_at_call 61; have hz := kk3; clear hz; refine (sqreadWhere_any hE _ (hP3.set bx3 (by decide) (by omega) 1 (.string t))).mono ?_; intro e w4 hT4; obtain ⟨j4, rfl, hk4, hj4, hP4, hr4⟩ := tells_no hT4 hr3 e4)
    | (go_at_call 55; have hz := kk2; clear hz; refine (sqreadName_any hE _ hP2).mono ?_; intro e w3 hT3; obtain ⟨u3, j3, rfl, hk3, hj3, hP3, hr3, hV3⟩ := tells_yes hT3 hr2 e3; obtain rfl : u3 = .string t := hV3; have kk3 : w.grownBy w3 (some g) := kk2.trans hk3; have hs3 : w.heap.size ≤ w3.heap.size := kk3.size; have br3 : Bx w3 (w.heap.size) 28 #[.int .i64 0, .string ⟨#[]⟩, .string ⟨#[]⟩, .slice none 0 0, .slice none 0 0, .slice none 0 0, .slice none 0 0, .bool false, .int .i64 0, .slice none 0 0] := Bx.kp br2 hk3 (by omega); have lr3 := br3.lt; have bx3 : Bx w3 (w.heap.size + 1) 28 #[.int .i64 4, .string ⟨#[]⟩, .string ⟨#[]⟩, .slice none 0 0, .slice none 0 0, .slice none 0 0, .slice none 0 0, .bool false, .int .i64 0, .slice none 0 0] := Bx.kp bx2 hk3 (by omega); have lx3 := bx3.lt; have cx3_1 : w3.cell? ⟨w.heap.size + 1, 1, none⟩ = some (.string ⟨#[]⟩) := bx3.cell 1 _ rfl; have fx3_1 := bx3.open 1)
    | (go_at_call 34; have hz := kk1; clear hz; refine (take_1 hE (by decide) _ (hP1.alloc _) (Bx.newB (by simp)) (by omega)).mono ?_; intro e w2 hT2; obtain ⟨u2, j2, rfl, hk2, hj2, hP2, hr2, hV2⟩ := tells_yes hT2 hr1 e2; obtain rfl : u2 = .tuple #[] := hV2; have kk2 : w.grownBy w2 (some g) := (kp_alloc kk1 _).trans hk2; have hs2 : w.heap.size ≤ w2.heap.size := kk2.size; have br2 : Bx w2 (w.heap.size) 28 #[.int .i64 0, .string ⟨#[]⟩, .string ⟨#[]⟩, .slice none 0 0, .slice none 0 0, .slice none 0 0, .slice none 0 0, .bool false, .int .i64 0, .slice none 0 0] := Bx.kp (br1.alloc _) hk2 (by omega); have lr2 := br2.lt; have bx2 : Bx w2 (w.heap.size + 1) 28 #[.int .i64 4, .string ⟨#[]⟩, .string ⟨#[]⟩, .slice none 0 0, .slice none 0 0, .slice none 0 0, .slice none 0 0, .bool false, .int .i64 0, .slice none 0 0] := Bx.kp (bx1.alloc _) hk2 (by omega); have lx2 := bx2.lt)
    | (go_at_call 27; refine (took_yes hE (by decide) hb1 _ ((hP.alloc _).alloc _) rfl).mono ?_; rintro e w1 ⟨rfl, hk1, hP1, hr1⟩; have kk1 : w.grownBy w1 (some g) := (kp_alloc (kp_alloc (World.grownBy.refl w (some g)) _) _).trans hk1; have hs1 : w.heap.size ≤ w1.heap.size := kk1.size; have br1 : Bx w1 (w.heap.size) 28 #[.int .i64 0, .string ⟨#[]⟩, .string ⟨#[]⟩, .slice none 0 0, .slice none 0 0, .slice none 0 0, .slice none 0 0, .bool false, .int .i64 0, .slice none 0 0] := Bx.kp ((Bx.newB (by simp) : Bx _ (w.heap.size) 28 #[.int .i64 0, .string ⟨#[]⟩, .string ⟨#[]⟩, .slice none 0 0, .slice none 0 0, .slice none 0 0, .slice none 0 0, .bool false, .int .i64 0, .slice none 0 0]).alloc _) hk1 (by omega); have lr1 := br1.lt; have bx1 : Bx w1 (w.heap.size + 1) 28 #[.int .i64 4, .string ⟨#[]⟩, .string ⟨#[]⟩, .slice none 0 0, .slice none 0 0, .slice none 0 0, .slice none 0 0, .bool false, .int .i64 0, .slice none 0 0] := Bx.kp (Bx.newB (by simp) : Bx _ (w.heap.size + 1) 28 #[.int .i64 4, .string ⟨#[]⟩, .string ⟨#[]⟩, .slice none 0 0, .slice none 0 0, .slice none 0 0, .slice none 0 0, .bool false, .int .i64 0, .slice none 0 0]) hk1 (by omega); have lx1 := bx1.lt))
  refine ⟨rfl, ?_⟩
  rw [HO.out]
  exact ⟨(kp_set kk3 (by omega) 1 (.string t)).trans hk4, j4, Nat.le_trans (Nat.le_trans (Nat.le_trans (Nat.le_succ_of_le (Nat.le_refl i)) hj2) hj3) hj4, hP4, hr4, rfl⟩
set_option maxHeartbeats 1000000 in
theorem sqreadSelect_w3 {g : Nat} {v : Value} {l : List Tok} (hE : EndK l) {i : Nat}  {q2 : List TkC} {t : ByteArray} {q3 : List TkC} {cs : List (Cnd)} {q4 : List TkC} (hb1 : isT ⟨#[42]⟩ (rem l i) = true) (e2 : takeR ⟨#[102, 114, 111, 109]⟩ (rem l i).tail = (some (), q2)) (e3 : nameR q2 = (some t, q3)) (e4 : whereR q3 = (some cs, q4)) (w : World) (hP : PAt g v l i w) :
    Calls Tryz.prog 31 #[.pointer (some ⟨g, 0, none⟩)] w (Tells g v l i w VX (selectR (rem l i))) := by
  have hg0 := hP.g_lt
  have HO : Hid (selectR (rem l i) = (some { Stm.zero with kind := 4, table := t, cols := [], conds := cs }, q4)) := by
    unfold Hid
    simp only [selectR, bnd, opt, ret, hb1, if_true, e2, e3, e4]
  go_enter Tryz.func31, Tryz.ntmps31
  go_wp2_with (first
    | (go_at_call 61; have hz := kk3; clear hz; refine (sqreadWhere_any hE _ (hP3.set bx3 (by decide) (by omega) 1 (.string t))).mono ?_; intro e w4 hT4; obtain ⟨u4, j4, rfl, hk4, hj4, hP4, hr4, hV4⟩ := tells_yes hT4 hr3 e4; obtain ⟨cs_o, cs_c, rfl, ho4⟩ := hV4; have oo4 := row_mono ho4 (kp_set kk3 (by omega) 1 (.string t)).size; have kk4 : w.grownBy w4 (some g) := (kp_set kk3 (by omega) 1 (.string t)).trans hk4; have hs4 : w.heap.size ≤ w4.heap.size := kk4.size; have br4 : Bx w4 (w.heap.size) 28 #[.int .i64 0, .string ⟨#[]⟩, .string ⟨#[]⟩, .slice none 0 0, .slice none 0 0, .slice none 0 0, .slice none 0 0, .bool false, .int .i64 0, .slice none 0 0] := Bx.kp (br3.other (by omega) 1 (.string t)) hk4 (by omega); have lr4 := br4.lt; have bx4 : Bx w4 (w.heap.size + 1) 28 #[.int .i64 4, .string t, .string ⟨#[]⟩, .slice none 0 0, .slice none 0 0, .slice none 0 0, .slice none 0 0, .bool false, .int .i64 0, .slice none 0 0] := Bx.kp (bx3.set 1 (.string t)) hk4 (by omega); have lx4 := bx4.lt; have cx4_6 : w4.cell? ⟨w.heap.size + 1, 6, none⟩ = some (.slice none 0 0) := bx4.cell 6 _ rfl; have fx4_6 := bx4.open 6; have cx4_0 : w4.cell? ⟨w.heap.size + 1, 0, none⟩ = some (.int .i64 4) := bx4.cell 0 _ rfl; have cx4_1 : w4.cell? ⟨w.heap.size + 1, 1, none⟩ = some (.string t) := bx4.cell 1 _ rfl; have cx4_2 : w4.cell? ⟨w.heap.size + 1, 2, none⟩ = some (.string ⟨#[]⟩) := bx4.cell 2 _ rfl; have cx4_3 : w4.cell? ⟨w.heap.size + 1, 3, none⟩ = some (.slice none 0 0) := bx4.cell 3 _ rfl; have cx4_4 : w4.cell? ⟨w.heap.size + 1, 4, none⟩ = some (.slice none 0 0) := bx4.cell 4 _ rfl; have cx4_5 : w4.cell? ⟨w.heap.size + 1, 5, none⟩ = some (.slice none 0 0) := bx4.cell 5 _ rfl; have cx4_7 : w4.cell? ⟨w.heap.size + 1, 7, none⟩ = some (.bool false) := bx4.cell 7 _ rfl; have cx4_8 : w4.cell? ⟨w.heap.size + 1, 8, none⟩ = some (.int .i64 0) := bx4.cell 8 _ rfl; have cx4_9 : w4.cell? ⟨w.heap.size + 1, 9, none⟩ = some (.slice none 0 0) := bx4.cell 9 _ rfl; have cr4_0 : w4.cell? ⟨w.heap.size, 0, none⟩ = some (.int .i64 0) := br4.cell 0 _ rfl; have fr4_0 := br4.open 0; have cr4_1 : w4.cell? ⟨w.heap.size, 1, none⟩ = some (.string ⟨#[]⟩) := br4.cell 1 _ rfl; have fr4_1 := br4.open 1; have cr4_2 : w4.cell? ⟨w.heap.size, 2, none⟩ = some (.string ⟨#[]⟩) := br4.cell 2 _ rfl; have fr4_2 := br4.open 2; have cr4_3 : w4.cell? ⟨w.heap.size, 3, none⟩ = some (.slice none 0 0) := br4.cell 3 _ rfl; have fr4_3 := br4.open 3; have cr4_4 : w4.cell? ⟨w.heap.size, 4, none⟩ = some (.slice none 0 0) := br4.cell 4 _ rfl; have fr4_4 := br4.open 4; have cr4_5 : w4.cell? ⟨w.heap.size, 5, none⟩ = some (.slice none 0 0) := br4.cell 5 _ rfl; have fr4_5 := br4.open 5; have cr4_6 : w4.cell? ⟨w.heap.size, 6, none⟩ = some (.slice none 0 0) := br4.cell 6 _ rfl; have fr4_6 := br4.open 6; have cr4_7 : w4.cell? ⟨w.heap.size, 7, none⟩ = some (.bool false) := br4.cell 7 _ rfl; have fr4_7 := br4.open 7; have cr4_8 : w4.cell? ⟨w.heap.size, 8, none⟩ = some (.int .i64 0) := br4.cell 8 _ rfl; have fr4_8 := br4.open 8; have cr4_9 : w4.cell? ⟨w.heap.size, 9, none⟩ = some (.slice none 0 0) := br4.cell 9 _ rfl; have fr4_9 := br4.open 9)
    | (go_at_call 55; have hz := kk2; clear hz; refine (sqreadName_any hE _ hP2).mono ?_; intro e w3 hT3; obtain ⟨u3, j3, rfl, hk3, hj3, hP3, hr3, hV3⟩ := tells_yes hT3 hr2 e3; obtain rfl : u3 = .string t := hV3; have kk3 : w.grownBy w3 (some g) := kk2.trans hk3; have hs3 : w.heap.size ≤ w3.heap.size := kk3.size; have br3 : Bx w3 (w.heap.size) 28 #[.int .i64 0, .string ⟨#[]⟩, .string ⟨#[]⟩, .slice none 0 0, .slice none 0 0, .slice none 0 0, .slice none 0 0, .bool false, .int .i64 0, .slice none 0 0] := Bx.kp br2 hk3 (by omega); have lr3 := br3.lt; have bx3 : Bx w3 (w.heap.size + 1) 28 #[.int .i64 4, .string ⟨#[]⟩, .string ⟨#[]⟩, .slice none 0 0, .slice none 0 0, .slice none 0 0, .slice none 0 0, .bool false, .int .i64 0, .slice none 0 0] := Bx.kp bx2 hk3 (by omega); have lx3 := bx3.lt; have cx3_1 : w3.cell? ⟨w.heap.size + 1, 1, none⟩ = some (.string ⟨#[]⟩) := bx3.cell 1 _ rfl; have fx3_1 := bx3.open 1)
    | (go_at_call 34; have hz := kk1; clear hz; refine (take_1 hE (by decide) _ (hP1.alloc _) (Bx.newB (by simp)) (by omega)).mono ?_; intro e w2 hT2; obtain ⟨u2, j2, rfl, hk2, hj2, hP2, hr2, hV2⟩ := tells_yes hT2 hr1 e2; obtain rfl : u2 = .tuple #[] := hV2; have kk2 : w.grownBy w2 (some g) := (kp_alloc kk1 _).trans hk2; have hs2 : w.heap.size ≤ w2.heap.size := kk2.size; have br2 : Bx w2 (w.heap.size) 28 #[.int .i64 0, .string ⟨#[]⟩, .string ⟨#[]⟩, .slice none 0 0, .slice none 0 0, .slice none 0 0, .slice none 0 0, .bool false, .int .i64 0, .slice none 0 0] := Bx.kp (br1.alloc _) hk2 (by omega); have lr2 := br2.lt; have bx2 : Bx w2 (w.heap.size + 1) 28 #[.int .i64 4, .string ⟨#[]⟩, .string ⟨#[]⟩, .slice none 0 0, .slice none 0 0, .slice none 0 0, .slice none 0 0, .bool false, .int .i64 0, .slice none 0 0] := Bx.kp (bx1.alloc _) hk2 (by omega); have lx2 := bx2.lt)
    | (go_at_call 27; refine (took_yes hE (by decide) hb1 _ ((hP.alloc _).alloc _) rfl).mono ?_; rintro e w1 ⟨rfl, hk1, hP1, hr1⟩; have kk1 : w.grownBy w1 (some g) := (kp_alloc (kp_alloc (World.grownBy.refl w (some g)) _) _).trans hk1; have hs1 : w.heap.size ≤ w1.heap.size := kk1.size; have br1 : Bx w1 (w.heap.size) 28 #[.int .i64 0, .string ⟨#[]⟩, .string ⟨#[]⟩, .slice none 0 0, .slice none 0 0, .slice none 0 0, .slice none 0 0, .bool false, .int .i64 0, .slice none 0 0] := Bx.kp ((Bx.newB (by simp) : Bx _ (w.heap.size) 28 #[.int .i64 0, .string ⟨#[]⟩, .string ⟨#[]⟩, .slice none 0 0, .slice none 0 0, .slice none 0 0, .slice none 0 0, .bool false, .int .i64 0, .slice none 0 0]).alloc _) hk1 (by omega); have lr1 := br1.lt; have bx1 : Bx w1 (w.heap.size + 1) 28 #[.int .i64 4, .string ⟨#[]⟩, .string ⟨#[]⟩, .slice none 0 0, .slice none 0 0, .slice none 0 0, .slice none 0 0, .bool false, .int .i64 0, .slice none 0 0] := Bx.kp (Bx.newB (by simp) : Bx _ (w.heap.size + 1) 28 #[.int .i64 4, .string ⟨#[]⟩, .string ⟨#[]⟩, .slice none 0 0, .slice none 0 0, .slice none 0 0, .slice none 0 0, .bool false, .int .i64 0, .slice none 0 0]) hk1 (by omega); have lx1 := bx1.lt))
  refine bodyPost_ret (v := .agg #[.int .i64 4, .string t, .string ⟨#[]⟩, .slice none 0 0, .slice none 0 0, .slice none 0 0, .slice cs_o cs.length cs_c, .bool false, .int .i64 0, .slice none 0 0]) (by simp [results, Tryz.results31, go_sem, cr4_0, cr4_1, cr4_2, cr4_3, cr4_4, cr4_5, cr4_6, cr4_7, cr4_8, cr4_9]) rfl ?_
  rw [HO.out]
  exact ⟨(kp_sets (kp_set kk4 (by omega) 6 (.slice cs_o cs.length cs_c)) (by omega) 0 [.int .i64 4, .string t, .string ⟨#[]⟩, .slice none 0 0, .slice none 0 0, .slice none 0 0, .slice cs_o cs.length cs_c, .bool false, .int .i64 0, .slice none 0 0]), j4, (Nat.le_trans (Nat.le_trans (Nat.le_trans (Nat.le_succ_of_le (Nat.le_refl i)) hj2) hj3) hj4), (PAt.sets (hP4.set bx4 (by decide) (by omega) 6 (.slice cs_o cs.length cs_c)) (br4.other (by omega) 6 (.slice cs_o cs.length cs_c)) (by decide) (by omega) 0 [.int .i64 4, .string t, .string ⟨#[]⟩, .slice none 0 0, .slice none 0 0, .slice none 0 0, .slice cs_o cs.length cs_c, .bool false, .int .i64 0, .slice none 0 0]), hr4, _, rfl, ⟨⟨none, 0, none, 0, none, 0, cs_o, cs_c, none, 0⟩, rfl, ⟨World.ownsRow_nil _ _ _ _, World.ownsRow_nil _ _ _ _, World.ownsRow_nil _ _ _ _, (row_sets (row_set oo4 bx4 (by decide) 6 (.slice cs_o cs.length cs_c)) (br4.other (by omega) 6 (.slice cs_o cs.length cs_c)) (by decide) 0 [.int .i64 4, .string t, .string ⟨#[]⟩, .slice none 0 0, .slice none 0 0, .slice none 0 0, .slice cs_o cs.length cs_c, .bool false, .int .i64 0, .slice none 0 0]), World.ownsRow_nil _ _ _ _⟩⟩⟩
set_option maxHeartbeats 1000000 in
theorem sqreadSelect_w4 {g : Nat} {v : Value} {l : List Tok} (hE : EndK l) {i : Nat}  {q2 : List TkC} (hb1 : isT ⟨#[42]⟩ (rem l i) = false) (e2 : listR ⟨#[44]⟩ nameR (rem l i) = (none, q2)) (w : World) (hP : PAt g v l i w) :
    Calls Tryz.prog 31 #[.pointer (some ⟨g, 0, none⟩)] w (Tells g v l i w VX (selectR (rem l i))) := by
  have hg0 := hP.g_lt
  have HO : Hid (selectR (rem l i) = (none, q2)) := by
    unfold Hid
    simp only [selectR, bnd, opt, ret, hb1, Bool.false_eq_true, if_false, e2]
  go_enter Tryz.func31, Tryz.ntmps31
  go_wp2_with (first
    | (go_at_call 62; have hz := kk1; clear hz; refine (sqreadList_str_any hE ⟨#[44]⟩ (by decide) _ hP1).mono ?_; intro e w2 hT2; obtain ⟨j2, rfl, hk2, hj2, hP2, hr2⟩ := tells_no hT2 rfl e2)
    | (go_at_call 27; refine (took_no hb1 _ ((hP.alloc _).alloc _) rfl).mono ?_; rintro e w1 ⟨rfl, hk1, hP1⟩; have kk1 : w.grownBy w1 (some g) := (kp_alloc (kp_alloc (World.grownBy.refl w (some g)) _) _).trans hk1; have hs1 : w.heap.size ≤ w1.heap.size := kk1.size; have br1 : Bx w1 (w.heap.size) 28 #[.int .i64 0, .string ⟨#[]⟩, .string ⟨#[]⟩, .slice none 0 0, .slice none 0 0, .slice none 0 0, .slice none 0 0, .bool false, .int .i64 0, .slice none 0 0] := Bx.kp ((Bx.newB (by simp) : Bx _ (w.heap.size) 28 #[.int .i64 0, .string ⟨#[]⟩, .string ⟨#[]⟩, .slice none 0 0, .slice none 0 0, .slice none 0 0, .slice none 0 0, .bool false, .int .i64 0, .slice none 0 0]).alloc _) hk1 (by omega); have lr1 := br1.lt; have bx1 : Bx w1 (w.heap.size + 1) 28 #[.int .i64 4, .string ⟨#[]⟩, .string ⟨#[]⟩, .slice none 0 0, .slice none 0 0, .slice none 0 0, .slice none 0 0, .bool false, .int .i64 0, .slice none 0 0] := Bx.kp (Bx.newB (by simp) : Bx _ (w.heap.size + 1) 28 #[.int .i64 4, .string ⟨#[]⟩, .string ⟨#[]⟩, .slice none 0 0, .slice none 0 0, .slice none 0 0, .slice none 0 0, .bool false, .int .i64 0, .slice none 0 0]) hk1 (by omega); have lx1 := bx1.lt))
  refine ⟨rfl, ?_⟩
  rw [HO.out]
  exact ⟨kk1.trans hk2, j2, Nat.le_trans (Nat.le_refl i) hj2, hP2, hr2, rfl⟩
set_option maxHeartbeats 1000000 in
theorem sqreadSelect_w5 {g : Nat} {v : Value} {l : List Tok} (hE : EndK l) {i : Nat}  {ns : List (ByteArray)} {q2 : List TkC} {q3 : List TkC} (hb1 : isT ⟨#[42]⟩ (rem l i) = false) (e2 : listR ⟨#[44]⟩ nameR (rem l i) = (some ns, q2)) (e3 : takeR ⟨#[102, 114, 111, 109]⟩ q2 = (none, q3)) (w : World) (hP : PAt g v l i w) :
    Calls Tryz.prog 31 #[.pointer (some ⟨g, 0, none⟩)] w (Tells g v l i w VX (selectR (rem l i))) := by
  have hg0 := hP.g_lt
  have HO : Hid (selectR (rem l i) = (none, q3)) := by
    unfold Hid
    simp only [selectR, bnd, opt, ret, hb1, Bool.false_eq_true, if_false, e2, e3]
  go_enter Tryz.func31, Tryz.ntmps31
  go_wp2_with (first
    | (go_at_call 34; have hz := kk2; clear hz; refine (take_1 hE (by decide) _ ((hP2.set bx2 (by decide) (by omega) 3 (.slice ns_o ns.length ns_c)).alloc _) (Bx.newB (by simp)) (by omega)).mono ?_; intro e w3 hT3; obtain ⟨j3, rfl, hk3, hj3, hP3, hr3⟩ := tells_no hT3 hr2 e3)
    | (go_at_call 62; have hz := kk1; clear hz; refine (sqreadList_str_any hE ⟨#[44]⟩ (by decide) _ hP1).mono ?_; intro e w2 hT2; obtain ⟨u2, j2, rfl, hk2, hj2, hP2, hr2, hV2⟩ := tells_yes hT2 rfl e2; obtain ⟨ns_o, ns_c, rfl, ho2⟩ := hV2; have oo2 := row_mono ho2 kk1.size; have kk2 : w.grownBy w2 (some g) := kk1.trans hk2; have hs2 : w.heap.size ≤ w2.heap.size := kk2.size; have br2 : Bx w2 (w.heap.size) 28 #[.int .i64 0, .string ⟨#[]⟩, .string ⟨#[]⟩, .slice none 0 0, .slice none 0 0, .slice none 0 0, .slice none 0 0, .bool false, .int .i64 0, .slice none 0 0] := Bx.kp br1 hk2 (by omega); have lr2 := br2.lt; have bx2 : Bx w2 (w.heap.size + 1) 28 #[.int .i64 4, .string ⟨#[]⟩, .string ⟨#[]⟩, .slice none 0 0, .slice none 0 0, .slice none 0 0, .slice none 0 0, .bool false, .int .i64 0, .slice none 0 0] := Bx.kp bx1 hk2 (by omega); have lx2 := bx2.lt; have cx2_3 : w2.cell? ⟨w.heap.size + 1, 3, none⟩ = some (.slice none 0 0) := bx2.cell 3 _ rfl; have fx2_3 := bx2.open 3)
    | (go_at_call 27; refine (took_no hb1 _ ((hP.alloc _).alloc _) rfl).mono ?_; rintro e w1 ⟨rfl, hk1, hP1⟩; have kk1 : w.grownBy w1 (some g) := (kp_alloc (kp_alloc (World.grownBy.refl w (some g)) _) _).trans hk1; have hs1 : w.heap.size ≤ w1.heap.size := kk1.size; have br1 : Bx w1 (w.heap.size) 28 #[.int .i64 0, .string ⟨#[]⟩, .string ⟨#[]⟩, .slice none 0 0, .slice none 0 0, .slice none 0 0, .slice none 0 0, .bool false, .int .i64 0, .slice none 0 0] := Bx.kp ((Bx.newB (by simp) : Bx _ (w.heap.size) 28 #[.int .i64 0, .string ⟨#[]⟩, .string ⟨#[]⟩, .slice none 0 0, .slice none 0 0, .slice none 0 0, .slice none 0 0, .bool false, .int .i64 0, .slice none 0 0]).alloc _) hk1 (by omega); have lr1 := br1.lt; have bx1 : Bx w1 (w.heap.size + 1) 28 #[.int .i64 4, .string ⟨#[]⟩, .string ⟨#[]⟩, .slice none 0 0, .slice none 0 0, .slice none 0 0, .slice none 0 0, .bool false, .int .i64 0, .slice none 0 0] := Bx.kp (Bx.newB (by simp) : Bx _ (w.heap.size + 1) 28 #[.int .i64 4, .string ⟨#[]⟩, .string ⟨#[]⟩, .slice none 0 0, .slice none 0 0, .slice none 0 0, .slice none 0 0, .bool false, .int .i64 0, .slice none 0 0]) hk1 (by omega); have lx1 := bx1.lt))
  refine ⟨rfl, ?_⟩
  rw [HO.out]
  exact ⟨(kp_alloc (kp_set kk2 (by omega) 3 (.slice ns_o ns.length ns_c)) _).trans hk3, j3, Nat.le_trans (Nat.le_trans (Nat.le_refl i) hj2) hj3, hP3, hr3, rfl⟩
set_option maxHeartbeats 1000000 in
theorem sqreadSelect_w6 {g : Nat} {v : Value} {l : List Tok} (hE : EndK l) {i : Nat}  {ns : List (ByteArray)} {q2 : List TkC} {q3 : List TkC} {q4 : List TkC} (hb1 : isT ⟨#[42]⟩ (rem l i) = false) (e2 : listR ⟨#[44]⟩ nameR (rem l i) = (some ns, q2)) (e3 : takeR ⟨#[102, 114, 111, 109]⟩ q2 = (some (), q3)) (e4 : nameR q3 = (none, q4)) (w : World) (hP : PAt g v l i w) :
    Calls Tryz.prog 31 #[.pointer (some ⟨g, 0, none⟩)] w (Tells g v l i w VX (selectR (rem l i))) := by
  have hg0 := hP.g_lt
  have HO : Hid (selectR (rem l i) = (none, q4)) := by
    unfold Hid
    simp only [selectR, bnd, opt, ret, hb1, Bool.false_eq_true, if_false, e2, e3, e4]
  go_enter Tryz.func31, Tryz.ntmps31
  go_wp2_with (first
    | (go_at_call 55; have hz := kk3; clear hz; refine (sqreadName_any hE _ hP3).mono ?_; intro e w4 hT4; obtain ⟨j4, rfl, hk4, hj4, hP4, hr4⟩ := tells_no hT4 hr3 e4)
    | (go_at_call 34; have hz := kk2; clear hz; refine (take_1 hE (by decide) _ ((hP2.set bx2 (by decide) (by omega) 3 (.slice ns_o ns.length ns_c)).alloc _) (Bx.newB (by simp)) (by omega)).mono ?_; intro e w3 hT3; obtain ⟨u3, j3, rfl, hk3, hj3, hP3, hr3, hV3⟩ := tells_yes hT3 hr2 e3; obtain rfl : u3 = .tuple #[] := hV3; have kk3 : w.grownBy w3 (some g) := (kp_alloc (kp_set kk2 (by omega) 3 (.slice ns_o ns.length ns_c)) _).trans hk3; have hs3 : w.heap.size ≤ w3.heap.size := kk3.size; have br3 : Bx w3 (w.heap.size) 28 #[.int .i64 0, .string ⟨#[]⟩, .string ⟨#[]⟩, .slice none 0 0, .slice none 0 0, .slice none 0 0, .slice none 0 0, .bool false, .int .i64 0, .slice none 0 0] := Bx.kp ((br2.other (by omega) 3 (.slice ns_o ns.length ns_c)).alloc _) hk3 (by omega); have lr3 := br3.lt; have bx3 : Bx w3 (w.heap.size + 1) 28 #[.int .i64 4, .string ⟨#[]⟩, .string ⟨#[]⟩, .slice ns_o ns.length ns_c, .slice none 0 0, .slice none 0 0, .slice none 0 0, .bool false, .int .i64 0, .slice none 0 0] := Bx.kp ((bx2.set 3 (.slice ns_o ns.length ns_c)).alloc _) hk3 (by omega); have lx3 := bx3.lt; have ons3 := row_kp ((row_set oo2 bx2 (by decide) 3 (.slice ns_o ns.length ns_c)).alloc _) hk3 hg0)
    | (go_at_call 62; have hz := kk1; clear hz; refine (sqreadList_str_any hE ⟨#[44]⟩ (by decide) _ hP1).mono ?_; intro e w2 hT2; obtain ⟨u2, j2, rfl, hk2, hj2, hP2, hr2, hV2⟩ := tells_yes hT2 rfl e2; obtain ⟨ns_o, ns_c, rfl, ho2⟩ := hV2; have oo2 := row_mono ho2 kk1.size; have kk2 : w.grownBy w2 (some g) := kk1.trans hk2; have hs2 : w.heap.size ≤ w2.heap.size := kk2.size; have br2 : Bx w2 (w.heap.size) 28 #[.int .i64 0, .string ⟨#[]⟩, .string ⟨#[]⟩, .slice none 0 0, .slice none 0 0, .slice none 0 0, .slice none 0 0, .bool false, .int .i64 0, .slice none 0 0] := Bx.kp br1 hk2 (by omega); have lr2 := br2.lt; have bx2 : Bx w2 (w.heap.size + 1) 28 #[.int .i64 4, .string ⟨#[]⟩, .string ⟨#[]⟩, .slice none 0 0, .slice none 0 0, .slice none 0 0, .slice none 0 0, .bool false, .int .i64 0, .slice none 0 0] := Bx.kp bx1 hk2 (by omega); have lx2 := bx2.lt; have cx2_3 : w2.cell? ⟨w.heap.size + 1, 3, none⟩ = some (.slice none 0 0) := bx2.cell 3 _ rfl; have fx2_3 := bx2.open 3)
    | (go_at_call 27; refine (took_no hb1 _ ((hP.alloc _).alloc _) rfl).mono ?_; rintro e w1 ⟨rfl, hk1, hP1⟩; have kk1 : w.grownBy w1 (some g) := (kp_alloc (kp_alloc (World.grownBy.refl w (some g)) _) _).trans hk1; have hs1 : w.heap.size ≤ w1.heap.size := kk1.size; have br1 : Bx w1 (w.heap.size) 28 #[.int .i64 0, .string ⟨#[]⟩, .string ⟨#[]⟩, .slice none 0 0, .slice none 0 0, .slice none 0 0, .slice none 0 0, .bool false, .int .i64 0, .slice none 0 0] := Bx.kp ((Bx.newB (by simp) : Bx _ (w.heap.size) 28 #[.int .i64 0, .string ⟨#[]⟩, .string ⟨#[]⟩, .slice none 0 0, .slice none 0 0, .slice none 0 0, .slice none 0 0, .bool false, .int .i64 0, .slice none 0 0]).alloc _) hk1 (by omega); have lr1 := br1.lt; have bx1 : Bx w1 (w.heap.size + 1) 28 #[.int .i64 4, .string ⟨#[]⟩, .string ⟨#[]⟩, .slice none 0 0, .slice none 0 0, .slice none 0 0, .slice none 0 0, .bool false, .int .i64 0, .slice none 0 0] := Bx.kp (Bx.newB (by simp) : Bx _ (w.heap.size + 1) 28 #[.int .i64 4, .string ⟨#[]⟩, .string ⟨#[]⟩, .slice none 0 0, .slice none 0 0, .slice none 0 0, .slice none 0 0, .bool false, .int .i64 0, .slice none 0 0]) hk1 (by omega); have lx1 := bx1.lt))
  refine ⟨rfl, ?_⟩
  rw [HO.out]
  exact ⟨kk3.trans hk4, j4, Nat.le_trans (Nat.le_trans (Nat.le_trans (Nat.le_refl i) hj2) hj3) hj4, hP4, hr4, rfl⟩
set_option maxHeartbeats 1000000 in
theorem sqreadSelect_w7 {g : Nat} {v : Value} {l : List Tok} (hE : EndK l) {i : Nat}  {ns : List (ByteArray)} {q2 : List TkC} {q3 : List TkC} {t : ByteArray} {q4 : List TkC} {q5 : List TkC} (hb1 : isT ⟨#[42]⟩ (rem l i) = false) (e2 : listR ⟨#[44]⟩ nameR (rem l i) = (some ns, q2)) (e3 : takeR ⟨#[102, 114, 111, 109]⟩ q2 = (some (), q3)) (e4 : nameR q3 = (some t, q4)) (e5 : whereR q4 = (none, q5)) (w : World) (hP : PAt g v l i w) :
    Calls Tryz.prog 31 #[.pointer (some ⟨g, 0, none⟩)] w (Tells g v l i w VX (selectR (rem l i))) := by
  have hg0 := hP.g_lt
  have HO : Hid (selectR (rem l i) = (none, q5)) := by
    unfold Hid
    simp only [selectR, bnd, opt, ret, hb1, Bool.false_eq_true, if_false, e2, e3, e4, e5]
  go_enter Tryz.func31, Tryz.ntmps31
  go_wp2_with (first
    | (go_at_call 61; have hz := kk4; clear hz; refine (sqreadWhere_any hE _ (hP4.set bx4 (by decide) (by omega) 1 (.string t))).mono ?_; intro e w5 hT5; obtain ⟨j5, rfl, hk5, hj5, hP5, hr5⟩ := tells_no hT5 hr4 e5)
    | (go_at_call 55; have hz := kk3; clear hz; refine (sqreadName_any hE _ hP3).mono ?_; intro e w4 hT4; obtain ⟨u4, j4, rfl, hk4, hj4, hP4, hr4, hV4⟩ := tells_yes hT4 hr3 e4; obtain rfl : u4 = .string t := hV4; have kk4 : w.grownBy w4 (some g) := kk3.trans hk4; have hs4 : w.heap.size ≤ w4.heap.size := kk4.size; have br4 : Bx w4 (w.heap.size) 28 #[.int .i64 0, .string ⟨#[]⟩, .string ⟨#[]⟩, .slice none 0 0, .slice none 0 0, .slice none 0 0, .slice none 0 0, .bool false, .int .i64 0, .slice none 0 0] := Bx.kp br3 hk4 (by omega); have lr4 := br4.lt; have bx4 : Bx w4 (w.heap.size + 1) 28 #[.int .i64 4, .string ⟨#[]⟩, .string ⟨#[]⟩, .slice ns_o ns.length ns_c, .slice none 0 0, .slice none 0 0, .slice none 0 0, .bool false, .int .i64 0, .slice none 0 0] := Bx.kp bx3 hk4 (by omega); have lx4 := bx4.lt; have ons4 := row_kp ons3 hk4 hg0; have cx4_1 : w4.cell? ⟨w.heap.size + 1, 1, none⟩ = some (.string ⟨#[]⟩) := bx4.cell 1 _ rfl; have fx4_1 := bx4.open 1)
    | (go_at_call 34; have hz := kk2; clear hz; refine (take_1 hE (by decide) _ ((hP2.set bx2 (by decide) (by omega) 3 (.slice ns_o ns.length ns_c)).alloc _) (Bx.newB (by simp)) (by omega)).mono ?_; intro e w3 hT3; obtain ⟨u3, j3, rfl, hk3, hj3, hP3, hr3, hV3⟩ := tells_yes hT3 hr2 e3; obtain rfl : u3 = .tuple #[] := hV3; have kk3 : w.grownBy w3 (some g) := (kp_alloc (kp_set kk2 (by omega) 3 (.slice ns_o ns.length ns_c)) _).trans hk3; have hs3 : w.heap.size ≤ w3.heap.size := kk3.size; have br3 : Bx w3 (w.heap.size) 28 #[.int .i64 0, .string ⟨#[]⟩, .string ⟨#[]⟩, .slice none 0 0, .slice none 0 0, .slice none 0 0, .slice none 0 0, .bool false, .int .i64 0, .slice none 0 0] := Bx.kp ((br2.other (by omega) 3 (.slice ns_o ns.length ns_c)).alloc _) hk3 (by omega); have lr3 := br3.lt; have bx3 : Bx w3 (w.heap.size + 1) 28 #[.int .i64 4, .string ⟨#[]⟩, .string ⟨#[]⟩, .slice ns_o ns.length ns_c, .slice none 0 0, .slice none 0 0, .slice none 0 0, .bool false, .int .i64 0, .slice none 0 0] := Bx.kp ((bx2.set 3 (.slice ns_o ns.length ns_c)).alloc _) hk3 (by omega); have lx3 := bx3.lt; have ons3 := row_kp ((row_set oo2 bx2 (by decide) 3 (.slice ns_o ns.length ns_c)).alloc _) hk3 hg0)
    | (go_at_call 62; have hz := kk1; clear hz; refine (sqreadList_str_any hE ⟨#[44]⟩ (by decide) _ hP1).mono ?_; intro e w2 hT2; obtain ⟨u2, j2, rfl, hk2, hj2, hP2, hr2, hV2⟩ := tells_yes hT2 rfl e2; obtain ⟨ns_o, ns_c, rfl, ho2⟩ := hV2; have oo2 := row_mono ho2 kk1.size; have kk2 : w.grownBy w2 (some g) := kk1.trans hk2; have hs2 : w.heap.size ≤ w2.heap.size := kk2.size; have br2 : Bx w2 (w.heap.size) 28 #[.int .i64 0, .string ⟨#[]⟩, .string ⟨#[]⟩, .slice none 0 0, .slice none 0 0, .slice none 0 0, .slice none 0 0, .bool false, .int .i64 0, .slice none 0 0] := Bx.kp br1 hk2 (by omega); have lr2 := br2.lt; have bx2 : Bx w2 (w.heap.size + 1) 28 #[.int .i64 4, .string ⟨#[]⟩, .string ⟨#[]⟩, .slice none 0 0, .slice none 0 0, .slice none 0 0, .slice none 0 0, .bool false, .int .i64 0, .slice none 0 0] := Bx.kp bx1 hk2 (by omega); have lx2 := bx2.lt; have cx2_3 : w2.cell? ⟨w.heap.size + 1, 3, none⟩ = some (.slice none 0 0) := bx2.cell 3 _ rfl; have fx2_3 := bx2.open 3)
    | (go_at_call 27; refine (took_no hb1 _ ((hP.alloc _).alloc _) rfl).mono ?_; rintro e w1 ⟨rfl, hk1, hP1⟩; have kk1 : w.grownBy w1 (some g) := (kp_alloc (kp_alloc (World.grownBy.refl w (some g)) _) _).trans hk1; have hs1 : w.heap.size ≤ w1.heap.size := kk1.size; have br1 : Bx w1 (w.heap.size) 28 #[.int .i64 0, .string ⟨#[]⟩, .string ⟨#[]⟩, .slice none 0 0, .slice none 0 0, .slice none 0 0, .slice none 0 0, .bool false, .int .i64 0, .slice none 0 0] := Bx.kp ((Bx.newB (by simp) : Bx _ (w.heap.size) 28 #[.int .i64 0, .string ⟨#[]⟩, .string ⟨#[]⟩, .slice none 0 0, .slice none 0 0, .slice none 0 0, .slice none 0 0, .bool false, .int .i64 0, .slice none 0 0]).alloc _) hk1 (by omega); have lr1 := br1.lt; have bx1 : Bx w1 (w.heap.size + 1) 28 #[.int .i64 4, .string ⟨#[]⟩, .string ⟨#[]⟩, .slice none 0 0, .slice none 0 0, .slice none 0 0, .slice none 0 0, .bool false, .int .i64 0, .slice none 0 0] := Bx.kp (Bx.newB (by simp) : Bx _ (w.heap.size + 1) 28 #[.int .i64 4, .string ⟨#[]⟩, .string ⟨#[]⟩, .slice none 0 0, .slice none 0 0, .slice none 0 0, .slice none 0 0, .bool false, .int .i64 0, .slice none 0 0]) hk1 (by omega); have lx1 := bx1.lt))
  refine ⟨rfl, ?_⟩
  rw [HO.out]
  exact ⟨(kp_set kk4 (by omega) 1 (.string t)).trans hk5, j5, Nat.le_trans (Nat.le_trans (Nat.le_trans (Nat.le_trans (Nat.le_refl i) hj2) hj3) hj4) hj5, hP5, hr5, rfl⟩
set_option maxHeartbeats 1000000 in
theorem sqreadSelect_w8 {g : Nat} {v : Value} {l : List Tok} (hE : EndK l) {i : Nat}  {ns : List (ByteArray)} {q2 : List TkC} {q3 : List TkC} {t : ByteArray} {q4 : List TkC} {cs : List (Cnd)} {q5 : List TkC} (hb1 : isT ⟨#[42]⟩ (rem l i) = false) (e2 : listR ⟨#[44]⟩ nameR (rem l i) = (some ns, q2)) (e3 : takeR ⟨#[102, 114, 111, 109]⟩ q2 = (some (), q3)) (e4 : nameR q3 = (some t, q4)) (e5 : whereR q4 = (some cs, q5)) (w : World) (hP : PAt g v l i w) :
    Calls Tryz.prog 31 #[.pointer (some ⟨g, 0, none⟩)] w (Tells g v l i w VX (selectR (rem l i))) := by
  have hg0 := hP.g_lt
  have HO : Hid (selectR (rem l i) = (some { Stm.zero with kind := 4, table := t, cols := ns, conds := cs }, q5)) := by
    unfold Hid
    simp only [selectR, bnd, opt, ret, hb1, Bool.false_eq_true, if_false, e2, e3, e4, e5]
  go_enter Tryz.func31, Tryz.ntmps31
  go_wp2_with (first
    | (go_at_call 61; have hz := kk4; clear hz; refine (sqreadWhere_any hE _ (hP4.set bx4 (by decide) (by omega) 1 (.string t))).mono ?_; intro e w5 hT5; obtain ⟨u5, j5, rfl, hk5, hj5, hP5, hr5, hV5⟩ := tells_yes hT5 hr4 e5; obtain ⟨cs_o, cs_c, rfl, ho5⟩ := hV5; have oo5 := row_mono ho5 (kp_set kk4 (by omega) 1 (.string t)).size; have kk5 : w.grownBy w5 (some g) := (kp_set kk4 (by omega) 1 (.string t)).trans hk5; have hs5 : w.heap.size ≤ w5.heap.size := kk5.size; have br5 : Bx w5 (w.heap.size) 28 #[.int .i64 0, .string ⟨#[]⟩, .string ⟨#[]⟩, .slice none 0 0, .slice none 0 0, .slice none 0 0, .slice none 0 0, .bool false, .int .i64 0, .slice none 0 0] := Bx.kp (br4.other (by omega) 1 (.string t)) hk5 (by omega); have lr5 := br5.lt; have bx5 : Bx w5 (w.heap.size + 1) 28 #[.int .i64 4, .string t, .string ⟨#[]⟩, .slice ns_o ns.length ns_c, .slice none 0 0, .slice none 0 0, .slice none 0 0, .bool false, .int .i64 0, .slice none 0 0] := Bx.kp (bx4.set 1 (.string t)) hk5 (by omega); have lx5 := bx5.lt; have ons5 := row_kp (row_set ons4 bx4 (by decide) 1 (.string t)) hk5 hg0; have cx5_6 : w5.cell? ⟨w.heap.size + 1, 6, none⟩ = some (.slice none 0 0) := bx5.cell 6 _ rfl; have fx5_6 := bx5.open 6; have cx5_0 : w5.cell? ⟨w.heap.size + 1, 0, none⟩ = some (.int .i64 4) := bx5.cell 0 _ rfl; have cx5_1 : w5.cell? ⟨w.heap.size + 1, 1, none⟩ = some (.string t) := bx5.cell 1 _ rfl; have cx5_2 : w5.cell? ⟨w.heap.size + 1, 2, none⟩ = some (.string ⟨#[]⟩) := bx5.cell 2 _ rfl; have cx5_3 : w5.cell? ⟨w.heap.size + 1, 3, none⟩ = some (.slice ns_o ns.length ns_c) := bx5.cell 3 _ rfl; have cx5_4 : w5.cell? ⟨w.heap.size + 1, 4, none⟩ = some (.slice none 0 0) := bx5.cell 4 _ rfl; have cx5_5 : w5.cell? ⟨w.heap.size + 1, 5, none⟩ = some (.slice none 0 0) := bx5.cell 5 _ rfl; have cx5_7 : w5.cell? ⟨w.heap.size + 1, 7, none⟩ = some (.bool false) := bx5.cell 7 _ rfl; have cx5_8 : w5.cell? ⟨w.heap.size + 1, 8, none⟩ = some (.int .i64 0) := bx5.cell 8 _ rfl; have cx5_9 : w5.cell? ⟨w.heap.size + 1, 9, none⟩ = some (.slice none 0 0) := bx5.cell 9 _ rfl; have cr5_0 : w5.cell? ⟨w.heap.size, 0, none⟩ = some (.int .i64 0) := br5.cell 0 _ rfl; have fr5_0 := br5.open 0; have cr5_1 : w5.cell? ⟨w.heap.size, 1, none⟩ = some (.string ⟨#[]⟩) := br5.cell 1 _ rfl; have fr5_1 := br5.open 1; have cr5_2 : w5.cell? ⟨w.heap.size, 2, none⟩ = some (.string ⟨#[]⟩) := br5.cell 2 _ rfl; have fr5_2 := br5.open 2; have cr5_3 : w5.cell? ⟨w.heap.size, 3, none⟩ = some (.slice none 0 0) := br5.cell 3 _ rfl; have fr5_3 := br5.open 3; have cr5_4 : w5.cell? ⟨w.heap.size, 4, none⟩ = some (.slice none 0 0) := br5.cell 4 _ rfl; have fr5_4 := br5.open 4; have cr5_5 : w5.cell? ⟨w.heap.size, 5, none⟩ = some (.slice none 0 0) := br5.cell 5 _ rfl; have fr5_5 := br5.open 5; have cr5_6 : w5.cell? ⟨w.heap.size, 6, none⟩ = some (.slice none 0 0) := br5.cell 6 _ rfl; have fr5_6 := br5.open 6; have cr5_7 : w5.cell? ⟨w.heap.size, 7, none⟩ = some (.bool false) := br5.cell 7 _ rfl; have fr5_7 := br5.open 7; have cr5_8 : w5.cell? ⟨w.heap.size, 8, none⟩ = some (.int .i64 0) := br5.cell 8 _ rfl; have fr5_8 := br5.open 8; have cr5_9 : w5.cell? ⟨w.heap.size, 9, none⟩ = some (.slice none 0 0) := br5.cell 9 _ rfl; have fr5_9 := br5.open 9)
    | (go_at_call 55; have hz := kk3; clear hz; refine (sqreadName_any hE _ hP3).mono ?_; intro e w4 hT4; obtain ⟨u4, j4, rfl, hk4, hj4, hP4, hr4, hV4⟩ := tells_yes hT4 hr3 e4; obtain rfl : u4 = .string t := hV4; have kk4 : w.grownBy w4 (some g) := kk3.trans hk4; have hs4 : w.heap.size ≤ w4.heap.size := kk4.size; have br4 : Bx w4 (w.heap.size) 28 #[.int .i64 0, .string ⟨#[]⟩, .string ⟨#[]⟩, .slice none 0 0, .slice none 0 0, .slice none 0 0, .slice none 0 0, .bool false, .int .i64 0, .slice none 0 0] := Bx.kp br3 hk4 (by omega); have lr4 := br4.lt; have bx4 : Bx w4 (w.heap.size + 1) 28 #[.int .i64 4, .string ⟨#[]⟩, .string ⟨#[]⟩, .slice ns_o ns.length ns_c, .slice none 0 0, .slice none 0 0, .slice none 0 0, .bool false, .int .i64 0, .slice none 0 0] := Bx.kp bx3 hk4 (by omega); have lx4 := bx4.lt; have ons4 := row_kp ons3 hk4 hg0; have cx4_1 : w4.cell? ⟨w.heap.size + 1, 1, none⟩ = some (.string ⟨#[]⟩) := bx4.cell 1 _ rfl; have fx4_1 := bx4.open 1)
    | (go_at_call 34; have hz := kk2; clear hz; refine (take_1 hE (by decide) _ ((hP2.set bx2 (by decide) (by omega) 3 (.slice ns_o ns.length ns_c)).alloc _) (Bx.newB (by simp)) (by omega)).mono ?_; intro e w3 hT3; obtain ⟨u3, j3, rfl, hk3, hj3, hP3, hr3, hV3⟩ := tells_yes hT3 hr2 e3; obtain rfl : u3 = .tuple #[] := hV3; have kk3 : w.grownBy w3 (some g) := (kp_alloc (kp_set kk2 (by omega) 3 (.slice ns_o ns.length ns_c)) _).trans hk3; have hs3 : w.heap.size ≤ w3.heap.size := kk3.size; have br3 : Bx w3 (w.heap.size) 28 #[.int .i64 0, .string ⟨#[]⟩, .string ⟨#[]⟩, .slice none 0 0, .slice none 0 0, .slice none 0 0, .slice none 0 0, .bool false, .int .i64 0, .slice none 0 0] := Bx.kp ((br2.other (by omega) 3 (.slice ns_o ns.length ns_c)).alloc _) hk3 (by omega); have lr3 := br3.lt; have bx3 : Bx w3 (w.heap.size + 1) 28 #[.int .i64 4, .string ⟨#[]⟩, .string ⟨#[]⟩, .slice ns_o ns.length ns_c, .slice none 0 0, .slice none 0 0, .slice none 0 0, .bool false, .int .i64 0, .slice none 0 0] := Bx.kp ((bx2.set 3 (.slice ns_o ns.length ns_c)).alloc _) hk3 (by omega); have lx3 := bx3.lt; have ons3 := row_kp ((row_set oo2 bx2 (by decide) 3 (.slice ns_o ns.length ns_c)).alloc _) hk3 hg0)
    | (go_at_call 62; have hz := kk1; clear hz; refine (sqreadList_str_any hE ⟨#[44]⟩ (by decide) _ hP1).mono ?_; intro e w2 hT2; obtain ⟨u2, j2, rfl, hk2, hj2, hP2, hr2, hV2⟩ := tells_yes hT2 rfl e2; obtain ⟨ns_o, ns_c, rfl, ho2⟩ := hV2; have oo2 := row_mono ho2 kk1.size; have kk2 : w.grownBy w2 (some g) := kk1.trans hk2; have hs2 : w.heap.size ≤ w2.heap.size := kk2.size; have br2 : Bx w2 (w.heap.size) 28 #[.int .i64 0, .string ⟨#[]⟩, .string ⟨#[]⟩, .slice none 0 0, .slice none 0 0, .slice none 0 0, .slice none 0 0, .bool false, .int .i64 0, .slice none 0 0] := Bx.kp br1 hk2 (by omega); have lr2 := br2.lt; have bx2 : Bx w2 (w.heap.size + 1) 28 #[.int .i64 4, .string ⟨#[]⟩, .string ⟨#[]⟩, .slice none 0 0, .slice none 0 0, .slice none 0 0, .slice none 0 0, .bool false, .int .i64 0, .slice none 0 0] := Bx.kp bx1 hk2 (by omega); have lx2 := bx2.lt; have cx2_3 : w2.cell? ⟨w.heap.size + 1, 3, none⟩ = some (.slice none 0 0) := bx2.cell 3 _ rfl; have fx2_3 := bx2.open 3)
    | (go_at_call 27; refine (took_no hb1 _ ((hP.alloc _).alloc _) rfl).mono ?_; rintro e w1 ⟨rfl, hk1, hP1⟩; have kk1 : w.grownBy w1 (some g) := (kp_alloc (kp_alloc (World.grownBy.refl w (some g)) _) _).trans hk1; have hs1 : w.heap.size ≤ w1.heap.size := kk1.size; have br1 : Bx w1 (w.heap.size) 28 #[.int .i64 0, .string ⟨#[]⟩, .string ⟨#[]⟩, .slice none 0 0, .slice none 0 0, .slice none 0 0, .slice none 0 0, .bool false, .int .i64 0, .slice none 0 0] := Bx.kp ((Bx.newB (by simp) : Bx _ (w.heap.size) 28 #[.int .i64 0, .string ⟨#[]⟩, .string ⟨#[]⟩, .slice none 0 0, .slice none 0 0, .slice none 0 0, .slice none 0 0, .bool false, .int .i64 0, .slice none 0 0]).alloc _) hk1 (by omega); have lr1 := br1.lt; have bx1 : Bx w1 (w.heap.size + 1) 28 #[.int .i64 4, .string ⟨#[]⟩, .string ⟨#[]⟩, .slice none 0 0, .slice none 0 0, .slice none 0 0, .slice none 0 0, .bool false, .int .i64 0, .slice none 0 0] := Bx.kp (Bx.newB (by simp) : Bx _ (w.heap.size + 1) 28 #[.int .i64 4, .string ⟨#[]⟩, .string ⟨#[]⟩, .slice none 0 0, .slice none 0 0, .slice none 0 0, .slice none 0 0, .bool false, .int .i64 0, .slice none 0 0]) hk1 (by omega); have lx1 := bx1.lt))
  refine bodyPost_ret (v := .agg #[.int .i64 4, .string t, .string ⟨#[]⟩, .slice ns_o ns.length ns_c, .slice none 0 0, .slice none 0 0, .slice cs_o cs.length cs_c, .bool false, .int .i64 0, .slice none 0 0]) (by simp [results, Tryz.results31, go_sem, cr5_0, cr5_1, cr5_2, cr5_3, cr5_4, cr5_5, cr5_6, cr5_7, cr5_8, cr5_9]) rfl ?_
  rw [HO.out]
  exact ⟨(kp_sets (kp_set kk5 (by omega) 6 (.slice cs_o cs.length cs_c)) (by omega) 0 [.int .i64 4, .string t, .string ⟨#[]⟩, .slice ns_o ns.length ns_c, .slice none 0 0, .slice none 0 0, .slice cs_o cs.length cs_c, .bool false, .int .i64 0, .slice none 0 0]), j5, (Nat.le_trans (Nat.le_trans (Nat.le_trans (Nat.le_trans (Nat.le_refl i) hj2) hj3) hj4) hj5), (PAt.sets (hP5.set bx5 (by decide) (by omega) 6 (.slice cs_o cs.length cs_c)) (br5.other (by omega) 6 (.slice cs_o cs.length cs_c)) (by decide) (by omega) 0 [.int .i64 4, .string t, .string ⟨#[]⟩, .slice ns_o ns.length ns_c, .slice none 0 0, .slice none 0 0, .slice cs_o cs.length cs_c, .bool false, .int .i64 0, .slice none 0 0]), hr5, _, rfl, ⟨⟨ns_o, ns_c, none, 0, none, 0, cs_o, cs_c, none, 0⟩, rfl, ⟨(row_sets (row_set ons5 bx5 (by decide) 6 (.slice cs_o cs.length cs_c)) (br5.other (by omega) 6 (.slice cs_o cs.length cs_c)) (by decide) 0 [.int .i64 4, .string t, .string ⟨#[]⟩, .slice ns_o ns.length ns_c, .slice none 0 0, .slice none 0 0, .slice cs_o cs.length cs_c, .bool false, .int .i64 0, .slice none 0 0]), World.ownsRow_nil _ _ _ _, World.ownsRow_nil _ _ _ _, (row_sets (row_set oo5 bx5 (by decide) 6 (.slice cs_o cs.length cs_c)) (br5.other (by omega) 6 (.slice cs_o cs.length cs_c)) (by decide) 0 [.int .i64 4, .string t, .string ⟨#[]⟩, .slice ns_o ns.length ns_c, .slice none 0 0, .slice none 0 0, .slice cs_o cs.length cs_c, .bool false, .int .i64 0, .slice none 0 0]), World.ownsRow_nil _ _ _ _⟩⟩⟩
theorem sqreadSelect_any {g : Nat} {v : Value} {l : List Tok} (hE : EndK l) {i : Nat}  (w : World) (hP : PAt g v l i w) :
    Calls Tryz.prog 31 #[.pointer (some ⟨g, 0, none⟩)] w (Tells g v l i w VX (selectR (rem l i))) := by
  rcases Bool.eq_false_or_eq_true (isT ⟨#[42]⟩ (rem l i)) with hb1 | hb1
  · rcases e2 : takeR ⟨#[102, 114, 111, 109]⟩ (rem l i).tail with ⟨o2, q2⟩
    cases o2 with
    | none =>
      exact sqreadSelect_w0 hE hb1 e2 w hP
    | some a2 =>
      cases a2
      rcases e3 : nameR q2 with ⟨o3, q3⟩
      cases o3 with
      | none =>
        exact sqreadSelect_w1 hE hb1 e2 e3 w hP
      | some t =>
        rcases e4 : whereR q3 with ⟨o4, q4⟩
        cases o4 with
        | none =>
          exact sqreadSelect_w2 hE hb1 e2 e3 e4 w hP
        | some cs =>
          exact sqreadSelect_w3 hE hb1 e2 e3 e4 w hP
  · rcases e2 : listR ⟨#[44]⟩ nameR (rem l i) with ⟨o2, q2⟩
    cases o2 with
    | none =>
      exact sqreadSelect_w4 hE hb1 e2 w hP
    | some ns =>
      rcases e3 : takeR ⟨#[102, 114, 111, 109]⟩ q2 with ⟨o3, q3⟩
      cases o3 with
      | none =>
        exact sqreadSelect_w5 hE hb1 e2 e3 w hP
      | some a3 =>
        cases a3
        rcases e4 : nameR q3 with ⟨o4, q4⟩
        cases o4 with
        | none =>
          exact sqreadSelect_w6 hE hb1 e2 e3 e4 w hP
        | some t =>
          rcases e5 : whereR q4 with ⟨o5, q5⟩
          cases o5 with
          | none =>
            exact sqreadSelect_w7 hE hb1 e2 e3 e4 e5 w hP
          | some cs =>
            exact sqreadSelect_w8 hE hb1 e2 e3 e4 e5 w hP
set_option maxHeartbeats 1000000 in
theorem sqreadInsert_w0 {g : Nat} {v : Value} {l : List Tok} (hE : EndK l) {i : Nat}  {q1 : List TkC} (e1 : takeR ⟨#[105, 110, 116, 111]⟩ (rem l i) = (none, q1)) (w : World) (hP : PAt g v l i w) :
    Calls Tryz.prog 28 #[.pointer (some ⟨g, 0, none⟩)] w (Tells g v l i w VX (insertR (rem l i))) := by
  have hg0 := hP.g_lt
  have HO : Hid (insertR (rem l i) = (none, q1)) := by
    unfold Hid
    simp only [insertR, bnd, opt, ret, e1]
  go_enter Tryz.func28, Tryz.ntmps28
  go_wp2_with (first
    | (go_at_call 34; refine (take_1 hE (by decide) _ (((hP.alloc _).alloc _).alloc _) (Bx.newB (by simp)) (by omega)).mono ?_; intro e w1 hT1; obtain ⟨j1, rfl, hk1, hj1, hP1, hr1⟩ := tells_no hT1 rfl e1))
  refine ⟨rfl, ?_⟩
  rw [HO.out]
  exact ⟨(kp_alloc (kp_alloc (kp_alloc (World.grownBy.refl w (some g)) _) _) _).trans hk1, j1, Nat.le_trans (Nat.le_refl i) hj1, hP1, hr1, rfl⟩
set_option maxHeartbeats 1000000 in
theorem sqreadInsert_w1 {g : Nat} {v : Value} {l : List Tok} (hE : EndK l) {i : Nat}  {q1 : List TkC} {q2 : List TkC} (e1 : takeR ⟨#[105, 110, 116, 111]⟩ (rem l i) = (some (), q1)) (e2 : nameR q1 = (none, q2)) (w : World) (hP : PAt g v l i w) :
    Calls Tryz.prog 28 #[.pointer (some ⟨g, 0, none⟩)] w (Tells g v l i w VX (insertR (rem l i))) := by
  have hg0 := hP.g_lt
  have HO : Hid (insertR (rem l i) = (none, q2)) := by
    unfold Hid
    simp only [insertR, bnd, opt, ret, e1, e2]
  go_enter Tryz.func28, Tryz.ntmps28
  go_wp2_with (first
    | (go_at_call 55; have hz := kk1; clear hz; refine (sqreadName_any hE _ hP1).mono ?_; intro e w2 hT2; obtain ⟨j2, rfl, hk2, hj2, hP2, hr2⟩ := tells_no hT2 hr1 e2)
    | (go_at_call 34; refine (take_1 hE (by decide) _ (((hP.alloc _).alloc _).alloc _) (Bx.newB (by simp)) (by omega)).mono ?_; intro e w1 hT1; obtain ⟨u1, j1, rfl, hk1, hj1, hP1, hr1, hV1⟩ := tells_yes hT1 rfl e1; obtain rfl : u1 = .tuple #[] := hV1; have kk1 : w.grownBy w1 (some g) := (kp_alloc (kp_alloc (kp_alloc (World.grownBy.refl w (some g)) _) _) _).trans hk1; have hs1 : w.heap.size ≤ w1.heap.size := kk1.size; have br1 : Bx w1 (w.heap.size) 28 #[.int .i64 0, .string ⟨#[]⟩, .string ⟨#[]⟩, .slice none 0 0, .slice none 0 0, .slice none 0 0, .slice none 0 0, .bool false, .int .i64 0, .slice none 0 0] := Bx.kp (((Bx.newB (by simp) : Bx _ (w.heap.size) 28 #[.int .i64 0, .string ⟨#[]⟩, .string ⟨#[]⟩, .slice none 0 0, .slice none 0 0, .slice none 0 0, .slice none 0 0, .bool false, .int .i64 0, .slice none 0 0]).alloc _).alloc _) hk1 (by omega); have lr1 := br1.lt; have bx1 : Bx w1 (w.heap.size + 1) 28 #[.int .i64 1, .string ⟨#[]⟩, .string ⟨#[]⟩, .slice none 0 0, .slice none 0 0, .slice none 0 0, .slice none 0 0, .bool false, .int .i64 0, .slice none 0 0] := Bx.kp ((Bx.newB (by simp) : Bx _ (w.heap.size + 1) 28 #[.int .i64 1, .string ⟨#[]⟩, .string ⟨#[]⟩, .slice none 0 0, .slice none 0 0, .slice none 0 0, .slice none 0 0, .bool false, .int .i64 0, .slice none 0 0]).alloc _) hk1 (by omega); have lx1 := bx1.lt))
  refine ⟨rfl, ?_⟩
  rw [HO.out]
  exact ⟨kk1.trans hk2, j2, Nat.le_trans (Nat.le_trans (Nat.le_refl i) hj1) hj2, hP2, hr2, rfl⟩
set_option maxHeartbeats 1000000 in
theorem sqreadInsert_w2 {g : Nat} {v : Value} {l : List Tok} (hE : EndK l) {i : Nat}  {q1 : List TkC} {t : ByteArray} {q2 : List TkC} {q3 : List TkC} (e1 : takeR ⟨#[105, 110, 116, 111]⟩ (rem l i) = (some (), q1)) (e2 : nameR q1 = (some t, q2)) (e3 : rowR nameR q2 = (none, q3)) (w : World) (hP : PAt g v l i w) :
    Calls Tryz.prog 28 #[.pointer (some ⟨g, 0, none⟩)] w (Tells g v l i w VX (insertR (rem l i))) := by
  have hg0 := hP.g_lt
  have HO : Hid (insertR (rem l i) = (none, q3)) := by
    unfold Hid
    simp only [insertR, bnd, opt, ret, e1, e2, e3]
  go_enter Tryz.func28, Tryz.ntmps28
  go_wp2_with (first
    | (go_at_call 56; have hz := kk2; clear hz; refine (sqreadRow_string_any hE _ (hP2.set bx2 (by decide) (by omega) 1 (.string t))).mono ?_; intro e w3 hT3; obtain ⟨j3, rfl, hk3, hj3, hP3, hr3⟩ := tells_no hT3 hr2 e3)
    | (go_at_call 55; have hz := kk1; clear hz; refine (sqreadName_any hE _ hP1).mono ?_; intro e w2 hT2; obtain ⟨u2, j2, rfl, hk2, hj2, hP2, hr2, hV2⟩ := tells_yes hT2 hr1 e2; obtain rfl : u2 = .string t := hV2; have kk2 : w.grownBy w2 (some g) := kk1.trans hk2; have hs2 : w.heap.size ≤ w2.heap.size := kk2.size; have br2 : Bx w2 (w.heap.size) 28 #[.int .i64 0, .string ⟨#[]⟩, .string ⟨#[]⟩, .slice none 0 0, .slice none 0 0, .slice none 0 0, .slice none 0 0, .bool false, .int .i64 0, .slice none 0 0] := Bx.kp br1 hk2 (by omega); have lr2 := br2.lt; have bx2 : Bx w2 (w.heap.size + 1) 28 #[.int .i64 1, .string ⟨#[]⟩, .string ⟨#[]⟩, .slice none 0 0, .slice none 0 0, .slice none 0 0, .slice none 0 0, .bool false, .int .i64 0, .slice none 0 0] := Bx.kp bx1 hk2 (by omega); have lx2 := bx2.lt; have cx2_1 : w2.cell? ⟨w.heap.size + 1, 1, none⟩ = some (.string ⟨#[]⟩) := bx2.cell 1 _ rfl; have fx2_1 := bx2.open 1)
    | (go_at_call 34; refine (take_1 hE (by decide) _ (((hP.alloc _).alloc _).alloc _) (Bx.newB (by simp)) (by omega)).mono ?_; intro e w1 hT1; obtain ⟨u1, j1, rfl, hk1, hj1, hP1, hr1, hV1⟩ := tells_yes hT1 rfl e1; obtain rfl : u1 = .tuple #[] := hV1; have kk1 : w.grownBy w1 (some g) := (kp_alloc (kp_alloc (kp_alloc (World.grownBy.refl w (some g)) _) _) _).trans hk1; have hs1 : w.heap.size ≤ w1.heap.size := kk1.size; have br1 : Bx w1 (w.heap.size) 28 #[.int .i64 0, .string ⟨#[]⟩, .string ⟨#[]⟩, .slice none 0 0, .slice none 0 0, .slice none 0 0, .slice none 0 0, .bool false, .int .i64 0, .slice none 0 0] := Bx.kp (((Bx.newB (by simp) : Bx _ (w.heap.size) 28 #[.int .i64 0, .string ⟨#[]⟩, .string ⟨#[]⟩, .slice none 0 0, .slice none 0 0, .slice none 0 0, .slice none 0 0, .bool false, .int .i64 0, .slice none 0 0]).alloc _).alloc _) hk1 (by omega); have lr1 := br1.lt; have bx1 : Bx w1 (w.heap.size + 1) 28 #[.int .i64 1, .string ⟨#[]⟩, .string ⟨#[]⟩, .slice none 0 0, .slice none 0 0, .slice none 0 0, .slice none 0 0, .bool false, .int .i64 0, .slice none 0 0] := Bx.kp ((Bx.newB (by simp) : Bx _ (w.heap.size + 1) 28 #[.int .i64 1, .string ⟨#[]⟩, .string ⟨#[]⟩, .slice none 0 0, .slice none 0 0, .slice none 0 0, .slice none 0 0, .bool false, .int .i64 0, .slice none 0 0]).alloc _) hk1 (by omega); have lx1 := bx1.lt))
  refine ⟨rfl, ?_⟩
  rw [HO.out]
  exact ⟨(kp_set kk2 (by omega) 1 (.string t)).trans hk3, j3, Nat.le_trans (Nat.le_trans (Nat.le_trans (Nat.le_refl i) hj1) hj2) hj3, hP3, hr3, rfl⟩
set_option maxHeartbeats 1000000 in
theorem sqreadInsert_w3 {g : Nat} {v : Value} {l : List Tok} (hE : EndK l) {i : Nat}  {q1 : List TkC} {t : ByteArray} {q2 : List TkC} {ns : List (ByteArray)} {q3 : List TkC} {q4 : List TkC} (e1 : takeR ⟨#[105, 110, 116, 111]⟩ (rem l i) = (some (), q1)) (e2 : nameR q1 = (some t, q2)) (e3 : rowR nameR q2 = (some ns, q3)) (e4 : takeR ⟨#[118, 97, 108, 117, 101, 115]⟩ q3 = (none, q4)) (w : World) (hP : PAt g v l i w) :
    Calls Tryz.prog 28 #[.pointer (some ⟨g, 0, none⟩)] w (Tells g v l i w VX (insertR (rem l i))) := by
  have hg0 := hP.g_lt
  have HO : Hid (insertR (rem l i) = (none, q4)) := by
    unfold Hid
    simp only [insertR, bnd, opt, ret, e1, e2, e3, e4]
  go_enter Tryz.func28, Tryz.ntmps28
  go_wp2_with (first
    | (go_at_call 34; have hz := kk3; clear hz; refine (take_1 hE (by decide) _ ((hP3.set bx3 (by decide) (by omega) 3 (.slice ns_o ns.length ns_c)).alloc _) (Bx.newB (by simp)) (by omega)).mono ?_; intro e w4 hT4; obtain ⟨j4, rfl, hk4, hj4, hP4, hr4⟩ := tells_no hT4 hr3 e4)
    | (go_at_call 56; have hz := kk2; clear hz; refine (sqreadRow_string_any hE _ (hP2.set bx2 (by decide) (by omega) 1 (.string t))).mono ?_; intro e w3 hT3; obtain ⟨u3, j3, rfl, hk3, hj3, hP3, hr3, hV3⟩ := tells_yes hT3 hr2 e3; obtain ⟨ns_o, ns_c, rfl, ho3⟩ := hV3; have oo3 := row_mono ho3 (kp_set kk2 (by omega) 1 (.string t)).size; have kk3 : w.grownBy w3 (some g) := (kp_set kk2 (by omega) 1 (.string t)).trans hk3; have hs3 : w.heap.size ≤ w3.heap.size := kk3.size; have br3 : Bx w3 (w.heap.size) 28 #[.int .i64 0, .string ⟨#[]⟩, .string ⟨#[]⟩, .slice none 0 0, .slice none 0 0, .slice none 0 0, .slice none 0 0, .bool false, .int .i64 0, .slice none 0 0] := Bx.kp (br2.other (by omega) 1 (.string t)) hk3 (by omega); have lr3 := br3.lt; have bx3 : Bx w3 (w.heap.size + 1) 28 #[.int .i64 1, .string t, .string ⟨#[]⟩, .slice none 0 0, .slice none 0 0, .slice none 0 0, .slice none 0 0, .bool false, .int .i64 0, .slice none 0 0] := Bx.kp (bx2.set 1 (.string t)) hk3 (by omega); have lx3 := bx3.lt; have cx3_3 : w3.cell? ⟨w.heap.size + 1, 3, none⟩ = some (.slice none 0 0) := bx3.cell 3 _ rfl; have fx3_3 := bx3.open 3)
    | (go_at_call 55; have hz := kk1; clear hz; refine (sqreadName_any hE _ hP1).mono ?_; intro e w2 hT2; obtain ⟨u2, j2, rfl, hk2, hj2, hP2, hr2, hV2⟩ := tells_yes hT2 hr1 e2; obtain rfl : u2 = .string t := hV2; have kk2 : w.grownBy w2 (some g) := kk1.trans hk2; have hs2 : w.heap.size ≤ w2.heap.size := kk2.size; have br2 : Bx w2 (w.heap.size) 28 #[.int .i64 0, .string ⟨#[]⟩, .string ⟨#[]⟩, .slice none 0 0, .slice none 0 0, .slice none 0 0, .slice none 0 0, .bool false, .int .i64 0, .slice none 0 0] := Bx.kp br1 hk2 (by omega); have lr2 := br2.lt; have bx2 : Bx w2 (w.heap.size + 1) 28 #[.int .i64 1, .string ⟨#[]⟩, .string ⟨#[]⟩, .slice none 0 0, .slice none 0 0, .slice none 0 0, .slice none 0 0, .bool false, .int .i64 0, .slice none 0 0] := Bx.kp bx1 hk2 (by omega); have lx2 := bx2.lt; have cx2_1 : w2.cell? ⟨w.heap.size + 1, 1, none⟩ = some (.string ⟨#[]⟩) := bx2.cell 1 _ rfl; have fx2_1 := bx2.open 1)
    | (go_at_call 34; refine (take_1 hE (by decide) _ (((hP.alloc _).alloc _).alloc _) (Bx.newB (by simp)) (by omega)).mono ?_; intro e w1 hT1; obtain ⟨u1, j1, rfl, hk1, hj1, hP1, hr1, hV1⟩ := tells_yes hT1 rfl e1; obtain rfl : u1 = .tuple #[] := hV1; have kk1 : w.grownBy w1 (some g) := (kp_alloc (kp_alloc (kp_alloc (World.grownBy.refl w (some g)) _) _) _).trans hk1; have hs1 : w.heap.size ≤ w1.heap.size := kk1.size; have br1 : Bx w1 (w.heap.size) 28 #[.int .i64 0, .string ⟨#[]⟩, .string ⟨#[]⟩, .slice none 0 0, .slice none 0 0, .slice none 0 0, .slice none 0 0, .bool false, .int .i64 0, .slice none 0 0] := Bx.kp (((Bx.newB (by simp) : Bx _ (w.heap.size) 28 #[.int .i64 0, .string ⟨#[]⟩, .string ⟨#[]⟩, .slice none 0 0, .slice none 0 0, .slice none 0 0, .slice none 0 0, .bool false, .int .i64 0, .slice none 0 0]).alloc _).alloc _) hk1 (by omega); have lr1 := br1.lt; have bx1 : Bx w1 (w.heap.size + 1) 28 #[.int .i64 1, .string ⟨#[]⟩, .string ⟨#[]⟩, .slice none 0 0, .slice none 0 0, .slice none 0 0, .slice none 0 0, .bool false, .int .i64 0, .slice none 0 0] := Bx.kp ((Bx.newB (by simp) : Bx _ (w.heap.size + 1) 28 #[.int .i64 1, .string ⟨#[]⟩, .string ⟨#[]⟩, .slice none 0 0, .slice none 0 0, .slice none 0 0, .slice none 0 0, .bool false, .int .i64 0, .slice none 0 0]).alloc _) hk1 (by omega); have lx1 := bx1.lt))
  refine ⟨rfl, ?_⟩
  rw [HO.out]
  exact ⟨(kp_alloc (kp_set kk3 (by omega) 3 (.slice ns_o ns.length ns_c)) _).trans hk4, j4, Nat.le_trans (Nat.le_trans (Nat.le_trans (Nat.le_trans (Nat.le_refl i) hj1) hj2) hj3) hj4, hP4, hr4, rfl⟩
set_option maxHeartbeats 1000000 in
theorem sqreadInsert_w4 {g : Nat} {v : Value} {l : List Tok} (hE : EndK l) {i : Nat}  {q1 : List TkC} {t : ByteArray} {q2 : List TkC} {ns : List (ByteArray)} {q3 : List TkC} {q4 : List TkC} {q5 : List TkC} (e1 : takeR ⟨#[105, 110, 116, 111]⟩ (rem l i) = (some (), q1)) (e2 : nameR q1 = (some t, q2)) (e3 : rowR nameR q2 = (some ns, q3)) (e4 : takeR ⟨#[118, 97, 108, 117, 101, 115]⟩ q3 = (some (), q4)) (e5 : rowR valueR q4 = (none, q5)) (w : World) (hP : PAt g v l i w) :
    Calls Tryz.prog 28 #[.pointer (some ⟨g, 0, none⟩)] w (Tells g v l i w VX (insertR (rem l i))) := by
  have hg0 := hP.g_lt
  have HO : Hid (insertR (rem l i) = (none, q5)) := by
    unfold Hid
    simp only [insertR, bnd, opt, ret, e1, e2, e3, e4, e5]
  go_enter Tryz.func28, Tryz.ntmps28
  go_wp2_with (first
    | (go_at_call 57; have hz := kk4; clear hz; refine (sqreadRow_api_any hE _ hP4).mono ?_; intro e w5 hT5; obtain ⟨j5, rfl, hk5, hj5, hP5, hr5⟩ := tells_no hT5 hr4 e5)
    | (go_at_call 34; have hz := kk3; clear hz; refine (take_1 hE (by decide) _ ((hP3.set bx3 (by decide) (by omega) 3 (.slice ns_o ns.length ns_c)).alloc _) (Bx.newB (by simp)) (by omega)).mono ?_; intro e w4 hT4; obtain ⟨u4, j4, rfl, hk4, hj4, hP4, hr4, hV4⟩ := tells_yes hT4 hr3 e4; obtain rfl : u4 = .tuple #[] := hV4; have kk4 : w.grownBy w4 (some g) := (kp_alloc (kp_set kk3 (by omega) 3 (.slice ns_o ns.length ns_c)) _).trans hk4; have hs4 : w.heap.size ≤ w4.heap.size := kk4.size; have br4 : Bx w4 (w.heap.size) 28 #[.int .i64 0, .string ⟨#[]⟩, .string ⟨#[]⟩, .slice none 0 0, .slice none 0 0, .slice none 0 0, .slice none 0 0, .bool false, .int .i64 0, .slice none 0 0] := Bx.kp ((br3.other (by omega) 3 (.slice ns_o ns.length ns_c)).alloc _) hk4 (by omega); have lr4 := br4.lt; have bx4 : Bx w4 (w.heap.size + 1) 28 #[.int .i64 1, .string t, .string ⟨#[]⟩, .slice ns_o ns.length ns_c, .slice none 0 0, .slice none 0 0, .slice none 0 0, .bool false, .int .i64 0, .slice none 0 0] := Bx.kp ((bx3.set 3 (.slice ns_o ns.length ns_c)).alloc _) hk4 (by omega); have lx4 := bx4.lt; have ons4 := row_kp ((row_set oo3 bx3 (by decide) 3 (.slice ns_o ns.length ns_c)).alloc _) hk4 hg0)
    | (go_at_call 56; have hz := kk2; clear hz; refine (sqreadRow_string_any hE _ (hP2.set bx2 (by decide) (by omega) 1 (.string t))).mono ?_; intro e w3 hT3; obtain ⟨u3, j3, rfl, hk3, hj3, hP3, hr3, hV3⟩ := tells_yes hT3 hr2 e3; obtain ⟨ns_o, ns_c, rfl, ho3⟩ := hV3; have oo3 := row_mono ho3 (kp_set kk2 (by omega) 1 (.string t)).size; have kk3 : w.grownBy w3 (some g) := (kp_set kk2 (by omega) 1 (.string t)).trans hk3; have hs3 : w.heap.size ≤ w3.heap.size := kk3.size; have br3 : Bx w3 (w.heap.size) 28 #[.int .i64 0, .string ⟨#[]⟩, .string ⟨#[]⟩, .slice none 0 0, .slice none 0 0, .slice none 0 0, .slice none 0 0, .bool false, .int .i64 0, .slice none 0 0] := Bx.kp (br2.other (by omega) 1 (.string t)) hk3 (by omega); have lr3 := br3.lt; have bx3 : Bx w3 (w.heap.size + 1) 28 #[.int .i64 1, .string t, .string ⟨#[]⟩, .slice none 0 0, .slice none 0 0, .slice none 0 0, .slice none 0 0, .bool false, .int .i64 0, .slice none 0 0] := Bx.kp (bx2.set 1 (.string t)) hk3 (by omega); have lx3 := bx3.lt; have cx3_3 : w3.cell? ⟨w.heap.size + 1, 3, none⟩ = some (.slice none 0 0) := bx3.cell 3 _ rfl; have fx3_3 := bx3.open 3)
    | (go_at_call 55; have hz := kk1; clear hz; refine (sqreadName_any hE _ hP1).mono ?_; intro e w2 hT2; obtain ⟨u2, j2, rfl, hk2, hj2, hP2, hr2, hV2⟩ := tells_yes hT2 hr1 e2; obtain rfl : u2 = .string t := hV2; have kk2 : w.grownBy w2 (some g) := kk1.trans hk2; have hs2 : w.heap.size ≤ w2.heap.size := kk2.size; have br2 : Bx w2 (w.heap.size) 28 #[.int .i64 0, .string ⟨#[]⟩, .string ⟨#[]⟩, .slice none 0 0, .slice none 0 0, .slice none 0 0, .slice none 0 0, .bool false, .int .i64 0, .slice none 0 0] := Bx.kp br1 hk2 (by omega); have lr2 := br2.lt; have bx2 : Bx w2 (w.heap.size + 1) 28 #[.int .i64 1, .string ⟨#[]⟩, .string ⟨#[]⟩, .slice none 0 0, .slice none 0 0, .slice none 0 0, .slice none 0 0, .bool false, .int .i64 0, .slice none 0 0] := Bx.kp bx1 hk2 (by omega); have lx2 := bx2.lt; have cx2_1 : w2.cell? ⟨w.heap.size + 1, 1, none⟩ = some (.string ⟨#[]⟩) := bx2.cell 1 _ rfl; have fx2_1 := bx2.open 1)
    | (go_at_call 34; refine (take_1 hE (by decide) _ (((hP.alloc _).alloc _).alloc _) (Bx.newB (by simp)) (by omega)).mono ?_; intro e w1 hT1; obtain ⟨u1, j1, rfl, hk1, hj1, hP1, hr1, hV1⟩ := tells_yes hT1 rfl e1; obtain rfl : u1 = .tuple #[] := hV1; have kk1 : w.grownBy w1 (some g) := (kp_alloc (kp_alloc (kp_alloc (World.grownBy.refl w (some g)) _) _) _).trans hk1; have hs1 : w.heap.size ≤ w1.heap.size := kk1.size; have br1 : Bx w1 (w.heap.size) 28 #[.int .i64 0, .string ⟨#[]⟩, .string ⟨#[]⟩, .slice none 0 0, .slice none 0 0, .slice none 0 0, .slice none 0 0, .bool false, .int .i64 0, .slice none 0 0] := Bx.kp (((Bx.newB (by simp) : Bx _ (w.heap.size) 28 #[.int .i64 0, .string ⟨#[]⟩, .string ⟨#[]⟩, .slice none 0 0, .slice none 0 0, .slice none 0 0, .slice none 0 0, .bool false, .int .i64 0, .slice none 0 0]).alloc _).alloc _) hk1 (by omega); have lr1 := br1.lt; have bx1 : Bx w1 (w.heap.size + 1) 28 #[.int .i64 1, .string ⟨#[]⟩, .string ⟨#[]⟩, .slice none 0 0, .slice none 0 0, .slice none 0 0, .slice none 0 0, .bool false, .int .i64 0, .slice none 0 0] := Bx.kp ((Bx.newB (by simp) : Bx _ (w.heap.size + 1) 28 #[.int .i64 1, .string ⟨#[]⟩, .string ⟨#[]⟩, .slice none 0 0, .slice none 0 0, .slice none 0 0, .slice none 0 0, .bool false, .int .i64 0, .slice none 0 0]).alloc _) hk1 (by omega); have lx1 := bx1.lt))
  refine ⟨rfl, ?_⟩
  rw [HO.out]
  exact ⟨kk4.trans hk5, j5, Nat.le_trans (Nat.le_trans (Nat.le_trans (Nat.le_trans (Nat.le_trans (Nat.le_refl i) hj1) hj2) hj3) hj4) hj5, hP5, hr5, rfl⟩
set_option maxHeartbeats 1000000 in
theorem sqreadInsert_w5 {g : Nat} {v : Value} {l : List Tok} (hE : EndK l) {i : Nat}  {q1 : List TkC} {t : ByteArray} {q2 : List TkC} {ns : List (ByteArray)} {q3 : List TkC} {q4 : List TkC} {vs : List (Val)} {q5 : List TkC} (e1 : takeR ⟨#[105, 110, 116, 111]⟩ (rem l i) = (some (), q1)) (e2 : nameR q1 = (some t, q2)) (e3 : rowR nameR q2 = (some ns, q3)) (e4 : takeR ⟨#[118, 97, 108, 117, 101, 115]⟩ q3 = (some (), q4)) (e5 : rowR valueR q4 = (some vs, q5)) (w : World) (hP : PAt g v l i w) :
    Calls Tryz.prog 28 #[.pointer (some ⟨g, 0, none⟩)] w (Tells g v l i w VX (insertR (rem l i))) := by
  have hg0 := hP.g_lt
  have HO : Hid (insertR (rem l i) = (some { Stm.zero with kind := 1, table := t, cols := ns, vals := vs }, q5)) := by
    unfold Hid
    simp only [insertR, bnd, opt, ret, e1, e2, e3, e4, e5]
  go_enter Tryz.func28, Tryz.ntmps28
  go_wp2_with (first
    | (go_at_call 57; have hz := kk4; clear hz; refine (sqreadRow_api_any hE _ hP4).mono ?_; intro e w5 hT5; obtain ⟨u5, j5, rfl, hk5, hj5, hP5, hr5, hV5⟩ := tells_yes hT5 hr4 e5; obtain ⟨vs_o, vs_c, rfl, ho5⟩ := hV5; have oo5 := row_mono ho5 kk4.size; have kk5 : w.grownBy w5 (some g) := kk4.trans hk5; have hs5 : w.heap.size ≤ w5.heap.size := kk5.size; have br5 : Bx w5 (w.heap.size) 28 #[.int .i64 0, .string ⟨#[]⟩, .string ⟨#[]⟩, .slice none 0 0, .slice none 0 0, .slice none 0 0, .slice none 0 0, .bool false, .int .i64 0, .slice none 0 0] := Bx.kp br4 hk5 (by omega); have lr5 := br5.lt; have bx5 : Bx w5 (w.heap.size + 1) 28 #[.int .i64 1, .string t, .string ⟨#[]⟩, .slice ns_o ns.length ns_c, .slice none 0 0, .slice none 0 0, .slice none 0 0, .bool false, .int .i64 0, .slice none 0 0] := Bx.kp bx4 hk5 (by omega); have lx5 := bx5.lt; have ons5 := row_kp ons4 hk5 hg0; have cx5_4 : w5.cell? ⟨w.heap.size + 1, 4, none⟩ = some (.slice none 0 0) := bx5.cell 4 _ rfl; have fx5_4 := bx5.open 4; have cx5_0 : w5.cell? ⟨w.heap.size + 1, 0, none⟩ = some (.int .i64 1) := bx5.cell 0 _ rfl; have cx5_1 : w5.cell? ⟨w.heap.size + 1, 1, none⟩ = some (.string t) := bx5.cell 1 _ rfl; have cx5_2 : w5.cell? ⟨w.heap.size + 1, 2, none⟩ = some (.string ⟨#[]⟩) := bx5.cell 2 _ rfl; have cx5_3 : w5.cell? ⟨w.heap.size + 1, 3, none⟩ = some (.slice ns_o ns.length ns_c) := bx5.cell 3 _ rfl; have cx5_5 : w5.cell? ⟨w.heap.size + 1, 5, none⟩ = some (.slice none 0 0) := bx5.cell 5 _ rfl; have cx5_6 : w5.cell? ⟨w.heap.size + 1, 6, none⟩ = some (.slice none 0 0) := bx5.cell 6 _ rfl; have cx5_7 : w5.cell? ⟨w.heap.size + 1, 7, none⟩ = some (.bool false) := bx5.cell 7 _ rfl; have cx5_8 : w5.cell? ⟨w.heap.size + 1, 8, none⟩ = some (.int .i64 0) := bx5.cell 8 _ rfl; have cx5_9 : w5.cell? ⟨w.heap.size + 1, 9, none⟩ = some (.slice none 0 0) := bx5.cell 9 _ rfl; have cr5_0 : w5.cell? ⟨w.heap.size, 0, none⟩ = some (.int .i64 0) := br5.cell 0 _ rfl; have fr5_0 := br5.open 0; have cr5_1 : w5.cell? ⟨w.heap.size, 1, none⟩ = some (.string ⟨#[]⟩) := br5.cell 1 _ rfl; have fr5_1 := br5.open 1; have cr5_2 : w5.cell? ⟨w.heap.size, 2, none⟩ = some (.string ⟨#[]⟩) := br5.cell 2 _ rfl; have fr5_2 := br5.open 2; have cr5_3 : w5.cell? ⟨w.heap.size, 3, none⟩ = some (.slice none 0 0) := br5.cell 3 _ rfl; have fr5_3 := br5.open 3; have cr5_4 : w5.cell? ⟨w.heap.size, 4, none⟩ = some (.slice none 0 0) := br5.cell 4 _ rfl; have fr5_4 := br5.open 4; have cr5_5 : w5.cell? ⟨w.heap.size, 5, none⟩ = some (.slice none 0 0) := br5.cell 5 _ rfl; have fr5_5 := br5.open 5; have cr5_6 : w5.cell? ⟨w.heap.size, 6, none⟩ = some (.slice none 0 0) := br5.cell 6 _ rfl; have fr5_6 := br5.open 6; have cr5_7 : w5.cell? ⟨w.heap.size, 7, none⟩ = some (.bool false) := br5.cell 7 _ rfl; have fr5_7 := br5.open 7; have cr5_8 : w5.cell? ⟨w.heap.size, 8, none⟩ = some (.int .i64 0) := br5.cell 8 _ rfl; have fr5_8 := br5.open 8; have cr5_9 : w5.cell? ⟨w.heap.size, 9, none⟩ = some (.slice none 0 0) := br5.cell 9 _ rfl; have fr5_9 := br5.open 9)
    | (go_at_call 34; have hz := kk3; clear hz; refine (take_1 hE (by decide) _ ((hP3.set bx3 (by decide) (by omega) 3 (.slice ns_o ns.length ns_c)).alloc _) (Bx.newB (by simp)) (by omega)).mono ?_; intro e w4 hT4; obtain ⟨u4, j4, rfl, hk4, hj4, hP4, hr4, hV4⟩ := tells_yes hT4 hr3 e4; obtain rfl : u4 = .tuple #[] := hV4; have kk4 : w.grownBy w4 (some g) := (kp_alloc (kp_set kk3 (by omega) 3 (.slice ns_o ns.length ns_c)) _).trans hk4; have hs4 : w.heap.size ≤ w4.heap.size := kk4.size; have br4 : Bx w4 (w.heap.size) 28 #[.int .i64 0, .string ⟨#[]⟩, .string ⟨#[]⟩, .slice none 0 0, .slice none 0 0, .slice none 0 0, .slice none 0 0, .bool false, .int .i64 0, .slice none 0 0] := Bx.kp ((br3.other (by omega) 3 (.slice ns_o ns.length ns_c)).alloc _) hk4 (by omega); have lr4 := br4.lt; have bx4 : Bx w4 (w.heap.size + 1) 28 #[.int .i64 1, .string t, .string ⟨#[]⟩, .slice ns_o ns.length ns_c, .slice none 0 0, .slice none 0 0, .slice none 0 0, .bool false, .int .i64 0, .slice none 0 0] := Bx.kp ((bx3.set 3 (.slice ns_o ns.length ns_c)).alloc _) hk4 (by omega); have lx4 := bx4.lt; have ons4 := row_kp ((row_set oo3 bx3 (by decide) 3 (.slice ns_o ns.length ns_c)).alloc _) hk4 hg0)
    | (go_at_call 56; have hz := kk2; clear hz; refine (sqreadRow_string_any hE _ (hP2.set bx2 (by decide) (by omega) 1 (.string t))).mono ?_; intro e w3 hT3; obtain ⟨u3, j3, rfl, hk3, hj3, hP3, hr3, hV3⟩ := tells_yes hT3 hr2 e3; obtain ⟨ns_o, ns_c, rfl, ho3⟩ := hV3; have oo3 := row_mono ho3 (kp_set kk2 (by omega) 1 (.string t)).size; have kk3 : w.grownBy w3 (some g) := (kp_set kk2 (by omega) 1 (.string t)).trans hk3; have hs3 : w.heap.size ≤ w3.heap.size := kk3.size; have br3 : Bx w3 (w.heap.size) 28 #[.int .i64 0, .string ⟨#[]⟩, .string ⟨#[]⟩, .slice none 0 0, .slice none 0 0, .slice none 0 0, .slice none 0 0, .bool false, .int .i64 0, .slice none 0 0] := Bx.kp (br2.other (by omega) 1 (.string t)) hk3 (by omega); have lr3 := br3.lt; have bx3 : Bx w3 (w.heap.size + 1) 28 #[.int .i64 1, .string t, .string ⟨#[]⟩, .slice none 0 0, .slice none 0 0, .slice none 0 0, .slice none 0 0, .bool false, .int .i64 0, .slice none 0 0] := Bx.kp (bx2.set 1 (.string t)) hk3 (by omega); have lx3 := bx3.lt; have cx3_3 : w3.cell? ⟨w.heap.size + 1, 3, none⟩ = some (.slice none 0 0) := bx3.cell 3 _ rfl; have fx3_3 := bx3.open 3)
    | (go_at_call 55; have hz := kk1; clear hz; refine (sqreadName_any hE _ hP1).mono ?_; intro e w2 hT2; obtain ⟨u2, j2, rfl, hk2, hj2, hP2, hr2, hV2⟩ := tells_yes hT2 hr1 e2; obtain rfl : u2 = .string t := hV2; have kk2 : w.grownBy w2 (some g) := kk1.trans hk2; have hs2 : w.heap.size ≤ w2.heap.size := kk2.size; have br2 : Bx w2 (w.heap.size) 28 #[.int .i64 0, .string ⟨#[]⟩, .string ⟨#[]⟩, .slice none 0 0, .slice none 0 0, .slice none 0 0, .slice none 0 0, .bool false, .int .i64 0, .slice none 0 0] := Bx.kp br1 hk2 (by omega); have lr2 := br2.lt; have bx2 : Bx w2 (w.heap.size + 1) 28 #[.int .i64 1, .string ⟨#[]⟩, .string ⟨#[]⟩, .slice none 0 0, .slice none 0 0, .slice none 0 0, .slice none 0 0, .bool false, .int .i64 0, .slice none 0 0] := Bx.kp bx1 hk2 (by omega); have lx2 := bx2.lt; have cx2_1 : w2.cell? ⟨w.heap.size + 1, 1, none⟩ = some (.string ⟨#[]⟩) := bx2.cell 1 _ rfl; have fx2_1 := bx2.open 1)
    | (go_at_call 34; refine (take_1 hE (by decide) _ (((hP.alloc _).alloc _).alloc _) (Bx.newB (by simp)) (by omega)).mono ?_; intro e w1 hT1; obtain ⟨u1, j1, rfl, hk1, hj1, hP1, hr1, hV1⟩ := tells_yes hT1 rfl e1; obtain rfl : u1 = .tuple #[] := hV1; have kk1 : w.grownBy w1 (some g) := (kp_alloc (kp_alloc (kp_alloc (World.grownBy.refl w (some g)) _) _) _).trans hk1; have hs1 : w.heap.size ≤ w1.heap.size := kk1.size; have br1 : Bx w1 (w.heap.size) 28 #[.int .i64 0, .string ⟨#[]⟩, .string ⟨#[]⟩, .slice none 0 0, .slice none 0 0, .slice none 0 0, .slice none 0 0, .bool false, .int .i64 0, .slice none 0 0] := Bx.kp (((Bx.newB (by simp) : Bx _ (w.heap.size) 28 #[.int .i64 0, .string ⟨#[]⟩, .string ⟨#[]⟩, .slice none 0 0, .slice none 0 0, .slice none 0 0, .slice none 0 0, .bool false, .int .i64 0, .slice none 0 0]).alloc _).alloc _) hk1 (by omega); have lr1 := br1.lt; have bx1 : Bx w1 (w.heap.size + 1) 28 #[.int .i64 1, .string ⟨#[]⟩, .string ⟨#[]⟩, .slice none 0 0, .slice none 0 0, .slice none 0 0, .slice none 0 0, .bool false, .int .i64 0, .slice none 0 0] := Bx.kp ((Bx.newB (by simp) : Bx _ (w.heap.size + 1) 28 #[.int .i64 1, .string ⟨#[]⟩, .string ⟨#[]⟩, .slice none 0 0, .slice none 0 0, .slice none 0 0, .slice none 0 0, .bool false, .int .i64 0, .slice none 0 0]).alloc _) hk1 (by omega); have lx1 := bx1.lt))
  refine bodyPost_ret (v := .agg #[.int .i64 1, .string t, .string ⟨#[]⟩, .slice ns_o ns.length ns_c, .slice vs_o vs.length vs_c, .slice none 0 0, .slice none 0 0, .bool false, .int .i64 0, .slice none 0 0]) (by simp [results, Tryz.results28, go_sem, cr5_0, cr5_1, cr5_2, cr5_3, cr5_4, cr5_5, cr5_6, cr5_7, cr5_8, cr5_9]) rfl ?_
  rw [HO.out]
  exact ⟨(kp_sets (kp_set kk5 (by omega) 4 (.slice vs_o vs.length vs_c)) (by omega) 0 [.int .i64 1, .string t, .string ⟨#[]⟩, .slice ns_o ns.length ns_c, .slice vs_o vs.length vs_c, .slice none 0 0, .slice none 0 0, .bool false, .int .i64 0, .slice none 0 0]), j5, (Nat.le_trans (Nat.le_trans (Nat.le_trans (Nat.le_trans (Nat.le_trans (Nat.le_refl i) hj1) hj2) hj3) hj4) hj5), (PAt.sets (hP5.set bx5 (by decide) (by omega) 4 (.slice vs_o vs.length vs_c)) (br5.other (by omega) 4 (.slice vs_o vs.length vs_c)) (by decide) (by omega) 0 [.int .i64 1, .string t, .string ⟨#[]⟩, .slice ns_o ns.length ns_c, .slice vs_o vs.length vs_c, .slice none 0 0, .slice none 0 0, .bool false, .int .i64 0, .slice none 0 0]), hr5, _, rfl, ⟨⟨ns_o, ns_c, vs_o, vs_c, none, 0, none, 0, none, 0⟩, rfl, ⟨(row_sets (row_set ons5 bx5 (by decide) 4 (.slice vs_o vs.length vs_c)) (br5.other (by omega) 4 (.slice vs_o vs.length vs_c)) (by decide) 0 [.int .i64 1, .string t, .string ⟨#[]⟩, .slice ns_o ns.length ns_c, .slice vs_o vs.length vs_c, .slice none 0 0, .slice none 0 0, .bool false, .int .i64 0, .slice none 0 0]), (row_sets (row_set oo5 bx5 (by decide) 4 (.slice vs_o vs.length vs_c)) (br5.other (by omega) 4 (.slice vs_o vs.length vs_c)) (by decide) 0 [.int .i64 1, .string t, .string ⟨#[]⟩, .slice ns_o ns.length ns_c, .slice vs_o vs.length vs_c, .slice none 0 0, .slice none 0 0, .bool false, .int .i64 0, .slice none 0 0]), World.ownsRow_nil _ _ _ _, World.ownsRow_nil _ _ _ _, World.ownsRow_nil _ _ _ _⟩⟩⟩
theorem sqreadInsert_any {g : Nat} {v : Value} {l : List Tok} (hE : EndK l) {i : Nat}  (w : World) (hP : PAt g v l i w) :
    Calls Tryz.prog 28 #[.pointer (some ⟨g, 0, none⟩)] w (Tells g v l i w VX (insertR (rem l i))) := by
  rcases e1 : takeR ⟨#[105, 110, 116, 111]⟩ (rem l i) with ⟨o1, q1⟩
  cases o1 with
  | none =>
    exact sqreadInsert_w0 hE e1 w hP
  | some a1 =>
    cases a1
    rcases e2 : nameR q1 with ⟨o2, q2⟩
    cases o2 with
    | none =>
      exact sqreadInsert_w1 hE e1 e2 w hP
    | some t =>
      rcases e3 : rowR nameR q2 with ⟨o3, q3⟩
      cases o3 with
      | none =>
        exact sqreadInsert_w2 hE e1 e2 e3 w hP
      | some ns =>
        rcases e4 : takeR ⟨#[118, 97, 108, 117, 101, 115]⟩ q3 with ⟨o4, q4⟩
        cases o4 with
        | none =>
          exact sqreadInsert_w3 hE e1 e2 e3 e4 w hP
        | some a4 =>
          cases a4
          rcases e5 : rowR valueR q4 with ⟨o5, q5⟩
          cases o5 with
          | none =>
            exact sqreadInsert_w4 hE e1 e2 e3 e4 e5 w hP
          | some vs =>
            exact sqreadInsert_w5 hE e1 e2 e3 e4 e5 w hP
set_option maxHeartbeats 1000000 in
theorem sqreadIndex_w0 {g : Nat} {v : Value} {l : List Tok} (hE : EndK l) {i : Nat}  {q1 : List TkC} (e1 : takeR ⟨#[105, 110, 100, 101, 120]⟩ (rem l i) = (none, q1)) (w : World) (hP : PAt g v l i w) :
    Calls Tryz.prog 64 #[.pointer (some ⟨g, 0, none⟩)] w (Tells g v l i w VIx (indexR (rem l i))) := by
  have hg0 := hP.g_lt
  have HO : Hid (indexR (rem l i) = (none, q1)) := by
    unfold Hid
    simp only [indexR, bnd, opt, ret, e1]
  go_enter Tryz.func64, Tryz.ntmps64
  go_wp2_with (first
    | (go_at_call 34; refine (take_1 hE (by decide) _ (((hP.alloc _).alloc _).alloc _) (Bx.newB (by simp)) (by omega)).mono ?_; intro e w1 hT1; obtain ⟨j1, rfl, hk1, hj1, hP1, hr1⟩ := tells_no hT1 rfl e1))
  refine ⟨rfl, ?_⟩
  rw [HO.out]
  exact ⟨(kp_alloc (kp_alloc (kp_alloc (World.grownBy.refl w (some g)) _) _) _).trans hk1, j1, Nat.le_trans (Nat.le_refl i) hj1, hP1, hr1, rfl⟩
set_option maxHeartbeats 1000000 in
theorem sqreadIndex_w1 {g : Nat} {v : Value} {l : List Tok} (hE : EndK l) {i : Nat}  {q1 : List TkC} {q2 : List TkC} (e1 : takeR ⟨#[105, 110, 100, 101, 120]⟩ (rem l i) = (some (), q1)) (e2 : nameR q1 = (none, q2)) (w : World) (hP : PAt g v l i w) :
    Calls Tryz.prog 64 #[.pointer (some ⟨g, 0, none⟩)] w (Tells g v l i w VIx (indexR (rem l i))) := by
  have hg0 := hP.g_lt
  have HO : Hid (indexR (rem l i) = (none, q2)) := by
    unfold Hid
    simp only [indexR, bnd, opt, ret, e1, e2]
  go_enter Tryz.func64, Tryz.ntmps64
  go_wp2_with (first
    | (go_at_call 55; have hz := kk1; clear hz; refine (sqreadName_any hE _ hP1).mono ?_; intro e w2 hT2; obtain ⟨j2, rfl, hk2, hj2, hP2, hr2⟩ := tells_no hT2 hr1 e2)
    | (go_at_call 34; refine (take_1 hE (by decide) _ (((hP.alloc _).alloc _).alloc _) (Bx.newB (by simp)) (by omega)).mono ?_; intro e w1 hT1; obtain ⟨u1, j1, rfl, hk1, hj1, hP1, hr1, hV1⟩ := tells_yes hT1 rfl e1; obtain rfl : u1 = .tuple #[] := hV1; have kk1 : w.grownBy w1 (some g) := (kp_alloc (kp_alloc (kp_alloc (World.grownBy.refl w (some g)) _) _) _).trans hk1; have hs1 : w.heap.size ≤ w1.heap.size := kk1.size; have br1 : Bx w1 (w.heap.size) 28 #[.int .i64 0, .string ⟨#[]⟩, .string ⟨#[]⟩, .slice none 0 0, .slice none 0 0, .slice none 0 0, .slice none 0 0, .bool false, .int .i64 0, .slice none 0 0] := Bx.kp (((Bx.newB (by simp) : Bx _ (w.heap.size) 28 #[.int .i64 0, .string ⟨#[]⟩, .string ⟨#[]⟩, .slice none 0 0, .slice none 0 0, .slice none 0 0, .slice none 0 0, .bool false, .int .i64 0, .slice none 0 0]).alloc _).alloc _) hk1 (by omega); have lr1 := br1.lt; have bx1 : Bx w1 (w.heap.size + 1) 28 #[.int .i64 0, .string ⟨#[]⟩, .string ⟨#[]⟩, .slice none 0 0, .slice none 0 0, .slice none 0 0, .slice none 0 0, .bool false, .int .i64 0, .slice none 0 0] := Bx.kp ((Bx.newB (by simp) : Bx _ (w.heap.size + 1) 28 #[.int .i64 0, .string ⟨#[]⟩, .string ⟨#[]⟩, .slice none 0 0, .slice none 0 0, .slice none 0 0, .slice none 0 0, .bool false, .int .i64 0, .slice none 0 0]).alloc _) hk1 (by omega); have lx1 := bx1.lt))
  refine ⟨rfl, ?_⟩
  rw [HO.out]
  exact ⟨kk1.trans hk2, j2, Nat.le_trans (Nat.le_trans (Nat.le_refl i) hj1) hj2, hP2, hr2, rfl⟩
set_option maxHeartbeats 1000000 in
theorem sqreadIndex_w2 {g : Nat} {v : Value} {l : List Tok} (hE : EndK l) {i : Nat}  {q1 : List TkC} {n : ByteArray} {q2 : List TkC} {q3 : List TkC} (e1 : takeR ⟨#[105, 110, 100, 101, 120]⟩ (rem l i) = (some (), q1)) (e2 : nameR q1 = (some n, q2)) (e3 : takeR ⟨#[111, 110]⟩ q2 = (none, q3)) (w : World) (hP : PAt g v l i w) :
    Calls Tryz.prog 64 #[.pointer (some ⟨g, 0, none⟩)] w (Tells g v l i w VIx (indexR (rem l i))) := by
  have hg0 := hP.g_lt
  have HO : Hid (indexR (rem l i) = (none, q3)) := by
    unfold Hid
    simp only [indexR, bnd, opt, ret, e1, e2, e3]
  go_enter Tryz.func64, Tryz.ntmps64
  go_wp2_with (first
    | (go_at_call 34; have hz := kk2; clear hz; refine (take_1 hE (by decide) _ ((hP2.set bx2 (by decide) (by omega) 2 (.string n)).alloc _) (Bx.newB (by simp)) (by omega)).mono ?_; intro e w3 hT3; obtain ⟨j3, rfl, hk3, hj3, hP3, hr3⟩ := tells_no hT3 hr2 e3)
    | (go_at_call 55; have hz := kk1; clear hz; refine (sqreadName_any hE _ hP1).mono ?_; intro e w2 hT2; obtain ⟨u2, j2, rfl, hk2, hj2, hP2, hr2, hV2⟩ := tells_yes hT2 hr1 e2; obtain rfl : u2 = .string n := hV2; have kk2 : w.grownBy w2 (some g) := kk1.trans hk2; have hs2 : w.heap.size ≤ w2.heap.size := kk2.size; have br2 : Bx w2 (w.heap.size) 28 #[.int .i64 0, .string ⟨#[]⟩, .string ⟨#[]⟩, .slice none 0 0, .slice none 0 0, .slice none 0 0, .slice none 0 0, .bool false, .int .i64 0, .slice none 0 0] := Bx.kp br1 hk2 (by omega); have lr2 := br2.lt; have bx2 : Bx w2 (w.heap.size + 1) 28 #[.int .i64 0, .string ⟨#[]⟩, .string ⟨#[]⟩, .slice none 0 0, .slice none 0 0, .slice none 0 0, .slice none 0 0, .bool false, .int .i64 0, .slice none 0 0] := Bx.kp bx1 hk2 (by omega); have lx2 := bx2.lt; have cx2_2 : w2.cell? ⟨w.heap.size + 1, 2, none⟩ = some (.string ⟨#[]⟩) := bx2.cell 2 _ rfl; have fx2_2 := bx2.open 2)
    | (go_at_call 34; refine (take_1 hE (by decide) _ (((hP.alloc _).alloc _).alloc _) (Bx.newB (by simp)) (by omega)).mono ?_; intro e w1 hT1; obtain ⟨u1, j1, rfl, hk1, hj1, hP1, hr1, hV1⟩ := tells_yes hT1 rfl e1; obtain rfl : u1 = .tuple #[] := hV1; have kk1 : w.grownBy w1 (some g) := (kp_alloc (kp_alloc (kp_alloc (World.grownBy.refl w (some g)) _) _) _).trans hk1; have hs1 : w.heap.size ≤ w1.heap.size := kk1.size; have br1 : Bx w1 (w.heap.size) 28 #[.int .i64 0, .string ⟨#[]⟩, .string ⟨#[]⟩, .slice none 0 0, .slice none 0 0, .slice none 0 0, .slice none 0 0, .bool false, .int .i64 0, .slice none 0 0] := Bx.kp (((Bx.newB (by simp) : Bx _ (w.heap.size) 28 #[.int .i64 0, .string ⟨#[]⟩, .string ⟨#[]⟩, .slice none 0 0, .slice none 0 0, .slice none 0 0, .slice none 0 0, .bool false, .int .i64 0, .slice none 0 0]).alloc _).alloc _) hk1 (by omega); have lr1 := br1.lt; have bx1 : Bx w1 (w.heap.size + 1) 28 #[.int .i64 0, .string ⟨#[]⟩, .string ⟨#[]⟩, .slice none 0 0, .slice none 0 0, .slice none 0 0, .slice none 0 0, .bool false, .int .i64 0, .slice none 0 0] := Bx.kp ((Bx.newB (by simp) : Bx _ (w.heap.size + 1) 28 #[.int .i64 0, .string ⟨#[]⟩, .string ⟨#[]⟩, .slice none 0 0, .slice none 0 0, .slice none 0 0, .slice none 0 0, .bool false, .int .i64 0, .slice none 0 0]).alloc _) hk1 (by omega); have lx1 := bx1.lt))
  refine ⟨rfl, ?_⟩
  rw [HO.out]
  exact ⟨(kp_alloc (kp_set kk2 (by omega) 2 (.string n)) _).trans hk3, j3, Nat.le_trans (Nat.le_trans (Nat.le_trans (Nat.le_refl i) hj1) hj2) hj3, hP3, hr3, rfl⟩
set_option maxHeartbeats 1000000 in
theorem sqreadIndex_w3 {g : Nat} {v : Value} {l : List Tok} (hE : EndK l) {i : Nat}  {q1 : List TkC} {n : ByteArray} {q2 : List TkC} {q3 : List TkC} {q4 : List TkC} (e1 : takeR ⟨#[105, 110, 100, 101, 120]⟩ (rem l i) = (some (), q1)) (e2 : nameR q1 = (some n, q2)) (e3 : takeR ⟨#[111, 110]⟩ q2 = (some (), q3)) (e4 : nameR q3 = (none, q4)) (w : World) (hP : PAt g v l i w) :
    Calls Tryz.prog 64 #[.pointer (some ⟨g, 0, none⟩)] w (Tells g v l i w VIx (indexR (rem l i))) := by
  have hg0 := hP.g_lt
  have HO : Hid (indexR (rem l i) = (none, q4)) := by
    unfold Hid
    simp only [indexR, bnd, opt, ret, e1, e2, e3, e4]
  go_enter Tryz.func64, Tryz.ntmps64
  go_wp2_with (first
    | (go_at_call 55; have hz := kk3; clear hz; refine (sqreadName_any hE _ hP3).mono ?_; intro e w4 hT4; obtain ⟨j4, rfl, hk4, hj4, hP4, hr4⟩ := tells_no hT4 hr3 e4)
    | (go_at_call 34; have hz := kk2; clear hz; refine (take_1 hE (by decide) _ ((hP2.set bx2 (by decide) (by omega) 2 (.string n)).alloc _) (Bx.newB (by simp)) (by omega)).mono ?_; intro e w3 hT3; obtain ⟨u3, j3, rfl, hk3, hj3, hP3, hr3, hV3⟩ := tells_yes hT3 hr2 e3; obtain rfl : u3 = .tuple #[] := hV3; have kk3 : w.grownBy w3 (some g) := (kp_alloc (kp_set kk2 (by omega) 2 (.string n)) _).trans hk3; have hs3 : w.heap.size ≤ w3.heap.size := kk3.size; have br3 : Bx w3 (w.heap.size) 28 #[.int .i64 0, .string ⟨#[]⟩, .string ⟨#[]⟩, .slice none 0 0, .slice none 0 0, .slice none 0 0, .slice none 0 0, .bool false, .int .i64 0, .slice none 0 0] := Bx.kp ((br2.other (by omega) 2 (.string n)).alloc _) hk3 (by omega); have lr3 := br3.lt; have bx3 : Bx w3 (w.heap.size + 1) 28 #[.int .i64 0, .string ⟨#[]⟩, .string n, .slice none 0 0, .slice none 0 0, .slice none 0 0, .slice none 0 0, .bool false, .int .i64 0, .slice none 0 0] := Bx.kp ((bx2.set 2 (.string n)).alloc _) hk3 (by omega); have lx3 := bx3.lt)
    | (go_at_call 55; have hz := kk1; clear hz; refine (sqreadName_any hE _ hP1).mono ?_; intro e w2 hT2; obtain ⟨u2, j2, rfl, hk2, hj2, hP2, hr2, hV2⟩ := tells_yes hT2 hr1 e2; obtain rfl : u2 = .string n := hV2; have kk2 : w.grownBy w2 (some g) := kk1.trans hk2; have hs2 : w.heap.size ≤ w2.heap.size := kk2.size; have br2 : Bx w2 (w.heap.size) 28 #[.int .i64 0, .string ⟨#[]⟩, .string ⟨#[]⟩, .slice none 0 0, .slice none 0 0, .slice none 0 0, .slice none 0 0, .bool false, .int .i64 0, .slice none 0 0] := Bx.kp br1 hk2 (by omega); have lr2 := br2.lt; have bx2 : Bx w2 (w.heap.size + 1) 28 #[.int .i64 0, .string ⟨#[]⟩, .string ⟨#[]⟩, .slice none 0 0, .slice none 0 0, .slice none 0 0, .slice none 0 0, .bool false, .int .i64 0, .slice none 0 0] := Bx.kp bx1 hk2 (by omega); have lx2 := bx2.lt; have cx2_2 : w2.cell? ⟨w.heap.size + 1, 2, none⟩ = some (.string ⟨#[]⟩) := bx2.cell 2 _ rfl; have fx2_2 := bx2.open 2)
    | (go_at_call 34; refine (take_1 hE (by decide) _ (((hP.alloc _).alloc _).alloc _) (Bx.newB (by simp)) (by omega)).mono ?_; intro e w1 hT1; obtain ⟨u1, j1, rfl, hk1, hj1, hP1, hr1, hV1⟩ := tells_yes hT1 rfl e1; obtain rfl : u1 = .tuple #[] := hV1; have kk1 : w.grownBy w1 (some g) := (kp_alloc (kp_alloc (kp_alloc (World.grownBy.refl w (some g)) _) _) _).trans hk1; have hs1 : w.heap.size ≤ w1.heap.size := kk1.size; have br1 : Bx w1 (w.heap.size) 28 #[.int .i64 0, .string ⟨#[]⟩, .string ⟨#[]⟩, .slice none 0 0, .slice none 0 0, .slice none 0 0, .slice none 0 0, .bool false, .int .i64 0, .slice none 0 0] := Bx.kp (((Bx.newB (by simp) : Bx _ (w.heap.size) 28 #[.int .i64 0, .string ⟨#[]⟩, .string ⟨#[]⟩, .slice none 0 0, .slice none 0 0, .slice none 0 0, .slice none 0 0, .bool false, .int .i64 0, .slice none 0 0]).alloc _).alloc _) hk1 (by omega); have lr1 := br1.lt; have bx1 : Bx w1 (w.heap.size + 1) 28 #[.int .i64 0, .string ⟨#[]⟩, .string ⟨#[]⟩, .slice none 0 0, .slice none 0 0, .slice none 0 0, .slice none 0 0, .bool false, .int .i64 0, .slice none 0 0] := Bx.kp ((Bx.newB (by simp) : Bx _ (w.heap.size + 1) 28 #[.int .i64 0, .string ⟨#[]⟩, .string ⟨#[]⟩, .slice none 0 0, .slice none 0 0, .slice none 0 0, .slice none 0 0, .bool false, .int .i64 0, .slice none 0 0]).alloc _) hk1 (by omega); have lx1 := bx1.lt))
  refine ⟨rfl, ?_⟩
  rw [HO.out]
  exact ⟨kk3.trans hk4, j4, Nat.le_trans (Nat.le_trans (Nat.le_trans (Nat.le_trans (Nat.le_refl i) hj1) hj2) hj3) hj4, hP4, hr4, rfl⟩
set_option maxHeartbeats 1000000 in
theorem sqreadIndex_w4 {g : Nat} {v : Value} {l : List Tok} (hE : EndK l) {i : Nat}  {q1 : List TkC} {n : ByteArray} {q2 : List TkC} {q3 : List TkC} {t : ByteArray} {q4 : List TkC} (e1 : takeR ⟨#[105, 110, 100, 101, 120]⟩ (rem l i) = (some (), q1)) (e2 : nameR q1 = (some n, q2)) (e3 : takeR ⟨#[111, 110]⟩ q2 = (some (), q3)) (e4 : nameR q3 = (some t, q4)) (w : World) (hP : PAt g v l i w) :
    Calls Tryz.prog 64 #[.pointer (some ⟨g, 0, none⟩)] w (Tells g v l i w VIx (indexR (rem l i))) := by
  have hg0 := hP.g_lt
  have HO : Hid (indexR (rem l i) = (some (n, t), q4)) := by
    unfold Hid
    simp only [indexR, bnd, opt, ret, e1, e2, e3, e4]
  go_enter Tryz.func64, Tryz.ntmps64
  go_wp2_with (first
    | (go_at_call 55; have hz := kk3; clear hz; refine (sqreadName_any hE _ hP3).mono ?_; intro e w4 hT4; obtain ⟨u4, j4, rfl, hk4, hj4, hP4, hr4, hV4⟩ := tells_yes hT4 hr3 e4; obtain rfl : u4 = .string t := hV4; have kk4 : w.grownBy w4 (some g) := kk3.trans hk4; have hs4 : w.heap.size ≤ w4.heap.size := kk4.size; have br4 : Bx w4 (w.heap.size) 28 #[.int .i64 0, .string ⟨#[]⟩, .string ⟨#[]⟩, .slice none 0 0, .slice none 0 0, .slice none 0 0, .slice none 0 0, .bool false, .int .i64 0, .slice none 0 0] := Bx.kp br3 hk4 (by omega); have lr4 := br4.lt; have bx4 : Bx w4 (w.heap.size + 1) 28 #[.int .i64 0, .string ⟨#[]⟩, .string n, .slice none 0 0, .slice none 0 0, .slice none 0 0, .slice none 0 0, .bool false, .int .i64 0, .slice none 0 0] := Bx.kp bx3 hk4 (by omega); have lx4 := bx4.lt; have cx4_1 : w4.cell? ⟨w.heap.size + 1, 1, none⟩ = some (.string ⟨#[]⟩) := bx4.cell 1 _ rfl; have fx4_1 := bx4.open 1; have cx4_0 : w4.cell? ⟨w.heap.size + 1, 0, none⟩ = some (.int .i64 0) := bx4.cell 0 _ rfl; have cx4_2 : w4.cell? ⟨w.heap.size + 1, 2, none⟩ = some (.string n) := bx4.cell 2 _ rfl; have cx4_3 : w4.cell? ⟨w.heap.size + 1, 3, none⟩ = some (.slice none 0 0) := bx4.cell 3 _ rfl; have cx4_4 : w4.cell? ⟨w.heap.size + 1, 4, none⟩ = some (.slice none 0 0) := bx4.cell 4 _ rfl; have cx4_5 : w4.cell? ⟨w.heap.size + 1, 5, none⟩ = some (.slice none 0 0) := bx4.cell 5 _ rfl; have cx4_6 : w4.cell? ⟨w.heap.size + 1, 6, none⟩ = some (.slice none 0 0) := bx4.cell 6 _ rfl; have cx4_7 : w4.cell? ⟨w.heap.size + 1, 7, none⟩ = some (.bool false) := bx4.cell 7 _ rfl; have cx4_8 : w4.cell? ⟨w.heap.size + 1, 8, none⟩ = some (.int .i64 0) := bx4.cell 8 _ rfl; have cx4_9 : w4.cell? ⟨w.heap.size + 1, 9, none⟩ = some (.slice none 0 0) := bx4.cell 9 _ rfl; have cr4_0 : w4.cell? ⟨w.heap.size, 0, none⟩ = some (.int .i64 0) := br4.cell 0 _ rfl; have fr4_0 := br4.open 0; have cr4_1 : w4.cell? ⟨w.heap.size, 1, none⟩ = some (.string ⟨#[]⟩) := br4.cell 1 _ rfl; have fr4_1 := br4.open 1; have cr4_2 : w4.cell? ⟨w.heap.size, 2, none⟩ = some (.string ⟨#[]⟩) := br4.cell 2 _ rfl; have fr4_2 := br4.open 2; have cr4_3 : w4.cell? ⟨w.heap.size, 3, none⟩ = some (.slice none 0 0) := br4.cell 3 _ rfl; have fr4_3 := br4.open 3; have cr4_4 : w4.cell? ⟨w.heap.size, 4, none⟩ = some (.slice none 0 0) := br4.cell 4 _ rfl; have fr4_4 := br4.open 4; have cr4_5 : w4.cell? ⟨w.heap.size, 5, none⟩ = some (.slice none 0 0) := br4.cell 5 _ rfl; have fr4_5 := br4.open 5; have cr4_6 : w4.cell? ⟨w.heap.size, 6, none⟩ = some (.slice none 0 0) := br4.cell 6 _ rfl; have fr4_6 := br4.open 6; have cr4_7 : w4.cell? ⟨w.heap.size, 7, none⟩ = some (.bool false) := br4.cell 7 _ rfl; have fr4_7 := br4.open 7; have cr4_8 : w4.cell? ⟨w.heap.size, 8, none⟩ = some (.int .i64 0) := br4.cell 8 _ rfl; have fr4_8 := br4.open 8; have cr4_9 : w4.cell? ⟨w.heap.size, 9, none⟩ = some (.slice none 0 0) := br4.cell 9 _ rfl; have fr4_9 := br4.open 9)
    | (go_at_call 34; have hz := kk2; clear hz; refine (take_1 hE (by decide) _ ((hP2.set bx2 (by decide) (by omega) 2 (.string n)).alloc _) (Bx.newB (by simp)) (by omega)).mono ?_; intro e w3 hT3; obtain ⟨u3, j3, rfl, hk3, hj3, hP3, hr3, hV3⟩ := tells_yes hT3 hr2 e3; obtain rfl : u3 = .tuple #[] := hV3; have kk3 : w.grownBy w3 (some g) := (kp_alloc (kp_set kk2 (by omega) 2 (.string n)) _).trans hk3; have hs3 : w.heap.size ≤ w3.heap.size := kk3.size; have br3 : Bx w3 (w.heap.size) 28 #[.int .i64 0, .string ⟨#[]⟩, .string ⟨#[]⟩, .slice none 0 0, .slice none 0 0, .slice none 0 0, .slice none 0 0, .bool false, .int .i64 0, .slice none 0 0] := Bx.kp ((br2.other (by omega) 2 (.string n)).alloc _) hk3 (by omega); have lr3 := br3.lt; have bx3 : Bx w3 (w.heap.size + 1) 28 #[.int .i64 0, .string ⟨#[]⟩, .string n, .slice none 0 0, .slice none 0 0, .slice none 0 0, .slice none 0 0, .bool false, .int .i64 0, .slice none 0 0] := Bx.kp ((bx2.set 2 (.string n)).alloc _) hk3 (by omega); have lx3 := bx3.lt)
    | (go_at_call 55; have hz := kk1; clear hz; refine (sqreadName_any hE _ hP1).mono ?_; intro e w2 hT2; obtain ⟨u2, j2, rfl, hk2, hj2, hP2, hr2, hV2⟩ := tells_yes hT2 hr1 e2; obtain rfl : u2 = .string n := hV2; have kk2 : w.grownBy w2 (some g) := kk1.trans hk2; have hs2 : w.heap.size ≤ w2.heap.size := kk2.size; have br2 : Bx w2 (w.heap.size) 28 #[.int .i64 0, .string ⟨#[]⟩, .string ⟨#[]⟩, .slice none 0 0, .slice none 0 0, .slice none 0 0, .slice none 0 0, .bool false, .int .i64 0, .slice none 0 0] := Bx.kp br1 hk2 (by omega); have lr2 := br2.lt; have bx2 : Bx w2 (w.heap.size + 1) 28 #[.int .i64 0, .string ⟨#[]⟩, .string ⟨#[]⟩, .slice none 0 0, .slice none 0 0, .slice none 0 0, .slice none 0 0, .bool false, .int .i64 0, .slice none 0 0] := Bx.kp bx1 hk2 (by omega); have lx2 := bx2.lt; have cx2_2 : w2.cell? ⟨w.heap.size + 1, 2, none⟩ = some (.string ⟨#[]⟩) := bx2.cell 2 _ rfl; have fx2_2 := bx2.open 2)
    | (go_at_call 34; refine (take_1 hE (by decide) _ (((hP.alloc _).alloc _).alloc _) (Bx.newB (by simp)) (by omega)).mono ?_; intro e w1 hT1; obtain ⟨u1, j1, rfl, hk1, hj1, hP1, hr1, hV1⟩ := tells_yes hT1 rfl e1; obtain rfl : u1 = .tuple #[] := hV1; have kk1 : w.grownBy w1 (some g) := (kp_alloc (kp_alloc (kp_alloc (World.grownBy.refl w (some g)) _) _) _).trans hk1; have hs1 : w.heap.size ≤ w1.heap.size := kk1.size; have br1 : Bx w1 (w.heap.size) 28 #[.int .i64 0, .string ⟨#[]⟩, .string ⟨#[]⟩, .slice none 0 0, .slice none 0 0, .slice none 0 0, .slice none 0 0, .bool false, .int .i64 0, .slice none 0 0] := Bx.kp (((Bx.newB (by simp) : Bx _ (w.heap.size) 28 #[.int .i64 0, .string ⟨#[]⟩, .string ⟨#[]⟩, .slice none 0 0, .slice none 0 0, .slice none 0 0, .slice none 0 0, .bool false, .int .i64 0, .slice none 0 0]).alloc _).alloc _) hk1 (by omega); have lr1 := br1.lt; have bx1 : Bx w1 (w.heap.size + 1) 28 #[.int .i64 0, .string ⟨#[]⟩, .string ⟨#[]⟩, .slice none 0 0, .slice none 0 0, .slice none 0 0, .slice none 0 0, .bool false, .int .i64 0, .slice none 0 0] := Bx.kp ((Bx.newB (by simp) : Bx _ (w.heap.size + 1) 28 #[.int .i64 0, .string ⟨#[]⟩, .string ⟨#[]⟩, .slice none 0 0, .slice none 0 0, .slice none 0 0, .slice none 0 0, .bool false, .int .i64 0, .slice none 0 0]).alloc _) hk1 (by omega); have lx1 := bx1.lt))
  refine bodyPost_ret (v := .agg #[.int .i64 0, .string t, .string n, .slice none 0 0, .slice none 0 0, .slice none 0 0, .slice none 0 0, .bool false, .int .i64 0, .slice none 0 0]) (by simp [results, Tryz.results64, go_sem, cr4_0, cr4_1, cr4_2, cr4_3, cr4_4, cr4_5, cr4_6, cr4_7, cr4_8, cr4_9]) rfl ?_
  rw [HO.out]
  exact ⟨(kp_sets (kp_set kk4 (by omega) 1 (.string t)) (by omega) 0 [.int .i64 0, .string t, .string n, .slice none 0 0, .slice none 0 0, .slice none 0 0, .slice none 0 0, .bool false, .int .i64 0, .slice none 0 0]), j4, (Nat.le_trans (Nat.le_trans (Nat.le_trans (Nat.le_trans (Nat.le_refl i) hj1) hj2) hj3) hj4), (PAt.sets (hP4.set bx4 (by decide) (by omega) 1 (.string t)) (br4.other (by omega) 1 (.string t)) (by decide) (by omega) 0 [.int .i64 0, .string t, .string n, .slice none 0 0, .slice none 0 0, .slice none 0 0, .slice none 0 0, .bool false, .int .i64 0, .slice none 0 0]), hr4, _, rfl, rfl⟩
theorem sqreadIndex_any {g : Nat} {v : Value} {l : List Tok} (hE : EndK l) {i : Nat}  (w : World) (hP : PAt g v l i w) :
    Calls Tryz.prog 64 #[.pointer (some ⟨g, 0, none⟩)] w (Tells g v l i w VIx (indexR (rem l i))) := by
  rcases e1 : takeR ⟨#[105, 110, 100, 101, 120]⟩ (rem l i) with ⟨o1, q1⟩
  cases o1 with
  | none =>
    exact sqreadIndex_w0 hE e1 w hP
  | some a1 =>
    cases a1
    rcases e2 : nameR q1 with ⟨o2, q2⟩
    cases o2 with
    | none =>
      exact sqreadIndex_w1 hE e1 e2 w hP
    | some n =>
      rcases e3 : takeR ⟨#[111, 110]⟩ q2 with ⟨o3, q3⟩
      cases o3 with
      | none =>
        exact sqreadIndex_w2 hE e1 e2 e3 w hP
      | some a3 =>
        cases a3
        rcases e4 : nameR q3 with ⟨o4, q4⟩
        cases o4 with
        | none =>
          exact sqreadIndex_w3 hE e1 e2 e3 e4 w hP
        | some t =>
          exact sqreadIndex_w4 hE e1 e2 e3 e4 w hP
set_option maxHeartbeats 1000000 in
theorem sqreadDropIndex_w0 {g : Nat} {v : Value} {l : List Tok} (hE : EndK l) {i : Nat}  {q1 : List TkC} (e1 : indexR (rem l i) = (none, q1)) (w : World) (hP : PAt g v l i w) :
    Calls Tryz.prog 33 #[.pointer (some ⟨g, 0, none⟩)] w (Tells g v l i w VX (dropIndexR (rem l i))) := by
  have hg0 := hP.g_lt
  have HO : Hid (dropIndexR (rem l i) = (none, q1)) := by
    unfold Hid
    simp only [dropIndexR, bnd, opt, ret, e1]
  go_enter Tryz.func33, Tryz.ntmps33
  go_wp2_with (first
    | (go_at_call 64; refine (sqreadIndex_any hE _ (hP.alloc _)).mono ?_; intro e w1 hT1; obtain ⟨j1, rfl, hk1, hj1, hP1, hr1⟩ := tells_no hT1 rfl e1))
  refine ⟨rfl, ?_⟩
  rw [HO.out]
  exact ⟨(kp_alloc (World.grownBy.refl w (some g)) _).trans hk1, j1, Nat.le_trans (Nat.le_refl i) hj1, hP1, hr1, rfl⟩
set_option maxHeartbeats 1000000 in
theorem sqreadDropIndex_w1 {g : Nat} {v : Value} {l : List Tok} (hE : EndK l) {i : Nat}  {n1 : ByteArray} {n2 : ByteArray} {q1 : List TkC} (e1 : indexR (rem l i) = (some (n1, n2), q1)) (w : World) (hP : PAt g v l i w) :
    Calls Tryz.prog 33 #[.pointer (some ⟨g, 0, none⟩)] w (Tells g v l i w VX (dropIndexR (rem l i))) := by
  have hg0 := hP.g_lt
  have HO : Hid (dropIndexR (rem l i) = (some { Stm.zero with kind := 7, name := n1, table := n2 }, q1)) := by
    unfold Hid
    simp only [dropIndexR, bnd, opt, ret, e1]
  go_enter Tryz.func33, Tryz.ntmps33
  go_wp2_with (first
    | (go_at_call 64; refine (sqreadIndex_any hE _ (hP.alloc _)).mono ?_; intro e w1 hT1; obtain ⟨u1, j1, rfl, hk1, hj1, hP1, hr1, hV1⟩ := tells_yes hT1 rfl e1; obtain rfl : u1 = .agg #[.int .i64 0, .string n2, .string n1, .slice none 0 0, .slice none 0 0, .slice none 0 0, .slice none 0 0, .bool false, .int .i64 0, .slice none 0 0] := hV1; have kk1 : w.grownBy w1 (some g) := (kp_alloc (World.grownBy.refl w (some g)) _).trans hk1; have hs1 : w.heap.size ≤ w1.heap.size := kk1.size; have br1 : Bx w1 (w.heap.size) 28 #[.int .i64 0, .string ⟨#[]⟩, .string ⟨#[]⟩, .slice none 0 0, .slice none 0 0, .slice none 0 0, .slice none 0 0, .bool false, .int .i64 0, .slice none 0 0] := Bx.kp (Bx.newB (by simp) : Bx _ (w.heap.size) 28 #[.int .i64 0, .string ⟨#[]⟩, .string ⟨#[]⟩, .slice none 0 0, .slice none 0 0, .slice none 0 0, .slice none 0 0, .bool false, .int .i64 0, .slice none 0 0]) hk1 (by omega); have lr1 := br1.lt; have cr1_0 : w1.cell? ⟨w.heap.size, 0, none⟩ = some (.int .i64 0) := br1.cell 0 _ rfl; have fr1_0 := br1.open 0; have cr1_1 : w1.cell? ⟨w.heap.size, 1, none⟩ = some (.string ⟨#[]⟩) := br1.cell 1 _ rfl; have fr1_1 := br1.open 1; have cr1_2 : w1.cell? ⟨w.heap.size, 2, none⟩ = some (.string ⟨#[]⟩) := br1.cell 2 _ rfl; have fr1_2 := br1.open 2; have cr1_3 : w1.cell? ⟨w.heap.size, 3, none⟩ = some (.slice none 0 0) := br1.cell 3 _ rfl; have fr1_3 := br1.open 3; have cr1_4 : w1.cell? ⟨w.heap.size, 4, none⟩ = some (.slice none 0 0) := br1.cell 4 _ rfl; have fr1_4 := br1.open 4; have cr1_5 : w1.cell? ⟨w.heap.size, 5, none⟩ = some (.slice none 0 0) := br1.cell 5 _ rfl; have fr1_5 := br1.open 5; have cr1_6 : w1.cell? ⟨w.heap.size, 6, none⟩ = some (.slice none 0 0) := br1.cell 6 _ rfl; have fr1_6 := br1.open 6; have cr1_7 : w1.cell? ⟨w.heap.size, 7, none⟩ = some (.bool false) := br1.cell 7 _ rfl; have fr1_7 := br1.open 7; have cr1_8 : w1.cell? ⟨w.heap.size, 8, none⟩ = some (.int .i64 0) := br1.cell 8 _ rfl; have fr1_8 := br1.open 8; have cr1_9 : w1.cell? ⟨w.heap.size, 9, none⟩ = some (.slice none 0 0) := br1.cell 9 _ rfl; have fr1_9 := br1.open 9))
  refine bodyPost_ret (v := .agg #[.int .i64 7, .string n2, .string n1, .slice none 0 0, .slice none 0 0, .slice none 0 0, .slice none 0 0, .bool false, .int .i64 0, .slice none 0 0]) (by simp [results, Tryz.results33, go_sem, cr1_0, cr1_1, cr1_2, cr1_3, cr1_4, cr1_5, cr1_6, cr1_7, cr1_8, cr1_9, lr1]) rfl ?_
  rw [HO.out]
  exact ⟨(kp_alloc (kp_sets kk1 (by omega) 0 [.int .i64 7, .string n2, .string n1, .slice none 0 0, .slice none 0 0, .slice none 0 0, .slice none 0 0, .bool false, .int .i64 0, .slice none 0 0]) _), j1, (Nat.le_trans (Nat.le_refl i) hj1), ((PAt.sets hP1 br1 (by decide) (by omega) 0 [.int .i64 7, .string n2, .string n1, .slice none 0 0, .slice none 0 0, .slice none 0 0, .slice none 0 0, .bool false, .int .i64 0, .slice none 0 0]).alloc _), hr1, _, rfl, ⟨⟨none, 0, none, 0, none, 0, none, 0, none, 0⟩, rfl, ⟨World.ownsRow_nil _ _ _ _, World.ownsRow_nil _ _ _ _, World.ownsRow_nil _ _ _ _, World.ownsRow_nil _ _ _ _, World.ownsRow_nil _ _ _ _⟩⟩⟩
theorem sqreadDropIndex_any {g : Nat} {v : Value} {l : List Tok} (hE : EndK l) {i : Nat}  (w : World) (hP : PAt g v l i w) :
    Calls Tryz.prog 33 #[.pointer (some ⟨g, 0, none⟩)] w (Tells g v l i w VX (dropIndexR (rem l i))) := by
  rcases e1 : indexR (rem l i) with ⟨o1, q1⟩
  cases o1 with
  | none =>
    exact sqreadDropIndex_w0 hE e1 w hP
  | some a1 =>
    obtain ⟨n1, n2⟩ := a1
    exact sqreadDropIndex_w1 hE e1 w hP
set_option maxHeartbeats 400000 in
theorem sqreadNull_w0 {g : Nat} {v : Value} {l : List Tok} (hE : EndK l) {i : Nat}  {q2 : List TkC} (hb1 : isT ⟨#[115, 101, 116]⟩ (rem l i) = true) (e2 : takesR [⟨#[110, 111, 116]⟩, ⟨#[110, 117, 108, 108]⟩] (rem l i).tail = (none, q2)) (w : World) (hP : PAt g v l i w) :
    Calls Tryz.prog 66 #[.pointer (some ⟨g, 0, none⟩)] w (Tells g v l i w VI (nullR (rem l i))) := by
  have hg0 := hP.g_lt
  have HO : Hid (nullR (rem l i) = (none, q2)) := by
    unfold Hid
    simp only [nullR, bnd, opt, ret, hb1, if_true, e2]
  go_enter Tryz.func66, Tryz.ntmps66
  go_wp2_with (first
    | (go_at_call 34; have hz := kk1; clear hz; refine (take_2 hE (by decide) (by decide) _ (hP1.alloc _) (Bx.newB (by simp)) (by omega)).mono ?_; intro e w2 hT2; obtain ⟨j2, rfl, hk2, hj2, hP2, hr2⟩ := tells_no hT2 hr1 e2)
    | (go_at_call 27; refine (took_yes hE (by decide) hb1 _ hP rfl).mono ?_; rintro e w1 ⟨rfl, hk1, hP1, hr1⟩; have kk1 : w.grownBy w1 (some g) := (World.grownBy.refl w (some g)).trans hk1; have hs1 : w.heap.size ≤ w1.heap.size := kk1.size))
  refine ⟨rfl, ?_⟩
  rw [HO.out]
  exact ⟨(kp_alloc kk1 _).trans hk2, j2, Nat.le_trans (Nat.le_succ_of_le (Nat.le_refl i)) hj2, hP2, hr2, rfl⟩
set_option maxHeartbeats 400000 in
theorem sqreadNull_w1 {g : Nat} {v : Value} {l : List Tok} (hE : EndK l) {i : Nat}  {q2 : List TkC} (hb1 : isT ⟨#[115, 101, 116]⟩ (rem l i) = true) (e2 : takesR [⟨#[110, 111, 116]⟩, ⟨#[110, 117, 108, 108]⟩] (rem l i).tail = (some (), q2)) (w : World) (hP : PAt g v l i w) :
    Calls Tryz.prog 66 #[.pointer (some ⟨g, 0, none⟩)] w (Tells g v l i w VI (nullR (rem l i))) := by
  have hg0 := hP.g_lt
  have HO : Hid (nullR (rem l i) = (some 10, q2)) := by
    unfold Hid
    simp only [nullR, bnd, opt, ret, hb1, if_true, e2]
  go_enter Tryz.func66, Tryz.ntmps66
  go_wp2_with (first
    | (go_at_call 34; have hz := kk1; clear hz; refine (take_2 hE (by decide) (by decide) _ (hP1.alloc _) (Bx.newB (by simp)) (by omega)).mono ?_; intro e w2 hT2; obtain ⟨u2, j2, rfl, hk2, hj2, hP2, hr2, hV2⟩ := tells_yes hT2 hr1 e2; obtain rfl : u2 = .tuple #[] := hV2; have kk2 : w.grownBy w2 (some g) := (kp_alloc kk1 _).trans hk2; have hs2 : w.heap.size ≤ w2.heap.size := kk2.size)
    | (go_at_call 27; refine (took_yes hE (by decide) hb1 _ hP rfl).mono ?_; rintro e w1 ⟨rfl, hk1, hP1, hr1⟩; have kk1 : w.grownBy w1 (some g) := (World.grownBy.refl w (some g)).trans hk1; have hs1 : w.heap.size ≤ w1.heap.size := kk1.size))
  go_ret
  rw [HO.out]
  exact ⟨kk2, j2, (Nat.le_trans (Nat.le_succ_of_le (Nat.le_refl i)) hj2), hP2, hr2, _, rfl, rfl⟩
set_option maxHeartbeats 400000 in
theorem sqreadNull_w2 {g : Nat} {v : Value} {l : List Tok} (hE : EndK l) {i : Nat}  {q2 : List TkC} (hb1 : isT ⟨#[115, 101, 116]⟩ (rem l i) = false) (e2 : takeR ⟨#[100, 114, 111, 112]⟩ (rem l i) = (none, q2)) (w : World) (hP : PAt g v l i w) :
    Calls Tryz.prog 66 #[.pointer (some ⟨g, 0, none⟩)] w (Tells g v l i w VI (nullR (rem l i))) := by
  have hg0 := hP.g_lt
  have HO : Hid (nullR (rem l i) = (none, q2)) := by
    unfold Hid
    simp only [nullR, bnd, opt, ret, hb1, Bool.false_eq_true, if_false, e2]
  go_enter Tryz.func66, Tryz.ntmps66
  go_wp2_with (first
    | (go_at_call 34; have hz := kk1; clear hz; refine (take_1 hE (by decide) _ (hP1.alloc _) (Bx.newB (by simp)) (by omega)).mono ?_; intro e w2 hT2; obtain ⟨j2, rfl, hk2, hj2, hP2, hr2⟩ := tells_no hT2 rfl e2)
    | (go_at_call 27; refine (took_no hb1 _ hP rfl).mono ?_; rintro e w1 ⟨rfl, hk1, hP1⟩; have kk1 : w.grownBy w1 (some g) := (World.grownBy.refl w (some g)).trans hk1; have hs1 : w.heap.size ≤ w1.heap.size := kk1.size))
  refine ⟨rfl, ?_⟩
  rw [HO.out]
  exact ⟨(kp_alloc kk1 _).trans hk2, j2, Nat.le_trans (Nat.le_refl i) hj2, hP2, hr2, rfl⟩
set_option maxHeartbeats 400000 in
theorem sqreadNull_w3 {g : Nat} {v : Value} {l : List Tok} (hE : EndK l) {i : Nat}  {q2 : List TkC} {q3 : List TkC} (hb1 : isT ⟨#[115, 101, 116]⟩ (rem l i) = false) (e2 : takeR ⟨#[100, 114, 111, 112]⟩ (rem l i) = (some (), q2)) (e3 : takesR [⟨#[110, 111, 116]⟩, ⟨#[110, 117, 108, 108]⟩] q2 = (none, q3)) (w : World) (hP : PAt g v l i w) :
    Calls Tryz.prog 66 #[.pointer (some ⟨g, 0, none⟩)] w (Tells g v l i w VI (nullR (rem l i))) := by
  have hg0 := hP.g_lt
  have HO : Hid (nullR (rem l i) = (none, q3)) := by
    unfold Hid
    simp only [nullR, bnd, opt, ret, hb1, Bool.false_eq_true, if_false, e2, e3]
  go_enter Tryz.func66, Tryz.ntmps66
  go_wp2_with (first
    | (go_at_call 34; have hz := kk2; clear hz; refine (take_2 hE (by decide) (by decide) _ (hP2.alloc _) (Bx.newB (by simp)) (by omega)).mono ?_; intro e w3 hT3; obtain ⟨j3, rfl, hk3, hj3, hP3, hr3⟩ := tells_no hT3 hr2 e3)
    | (go_at_call 34; have hz := kk1; clear hz; refine (take_1 hE (by decide) _ (hP1.alloc _) (Bx.newB (by simp)) (by omega)).mono ?_; intro e w2 hT2; obtain ⟨u2, j2, rfl, hk2, hj2, hP2, hr2, hV2⟩ := tells_yes hT2 rfl e2; obtain rfl : u2 = .tuple #[] := hV2; have kk2 : w.grownBy w2 (some g) := (kp_alloc kk1 _).trans hk2; have hs2 : w.heap.size ≤ w2.heap.size := kk2.size)
    | (go_at_call 27; refine (took_no hb1 _ hP rfl).mono ?_; rintro e w1 ⟨rfl, hk1, hP1⟩; have kk1 : w.grownBy w1 (some g) := (World.grownBy.refl w (some g)).trans hk1; have hs1 : w.heap.size ≤ w1.heap.size := kk1.size))
  refine ⟨rfl, ?_⟩
  rw [HO.out]
  exact ⟨(kp_alloc kk2 _).trans hk3, j3, Nat.le_trans (Nat.le_trans (Nat.le_refl i) hj2) hj3, hP3, hr3, rfl⟩
set_option maxHeartbeats 400000 in
theorem sqreadNull_w4 {g : Nat} {v : Value} {l : List Tok} (hE : EndK l) {i : Nat}  {q2 : List TkC} {q3 : List TkC} (hb1 : isT ⟨#[115, 101, 116]⟩ (rem l i) = false) (e2 : takeR ⟨#[100, 114, 111, 112]⟩ (rem l i) = (some (), q2)) (e3 : takesR [⟨#[110, 111, 116]⟩, ⟨#[110, 117, 108, 108]⟩] q2 = (some (), q3)) (w : World) (hP : PAt g v l i w) :
    Calls Tryz.prog 66 #[.pointer (some ⟨g, 0, none⟩)] w (Tells g v l i w VI (nullR (rem l i))) := by
  have hg0 := hP.g_lt
  have HO : Hid (nullR (rem l i) = (some 11, q3)) := by
    unfold Hid
    simp only [nullR, bnd, opt, ret, hb1, Bool.false_eq_true, if_false, e2, e3]
  go_enter Tryz.func66, Tryz.ntmps66
  go_wp2_with (first
    | (go_at_call 34; have hz := kk2; clear hz; refine (take_2 hE (by decide) (by decide) _ (hP2.alloc _) (Bx.newB (by simp)) (by omega)).mono ?_; intro e w3 hT3; obtain ⟨u3, j3, rfl, hk3, hj3, hP3, hr3, hV3⟩ := tells_yes hT3 hr2 e3; obtain rfl : u3 = .tuple #[] := hV3; have kk3 : w.grownBy w3 (some g) := (kp_alloc kk2 _).trans hk3; have hs3 : w.heap.size ≤ w3.heap.size := kk3.size)
    | (go_at_call 34; have hz := kk1; clear hz; refine (take_1 hE (by decide) _ (hP1.alloc _) (Bx.newB (by simp)) (by omega)).mono ?_; intro e w2 hT2; obtain ⟨u2, j2, rfl, hk2, hj2, hP2, hr2, hV2⟩ := tells_yes hT2 rfl e2; obtain rfl : u2 = .tuple #[] := hV2; have kk2 : w.grownBy w2 (some g) := (kp_alloc kk1 _).trans hk2; have hs2 : w.heap.size ≤ w2.heap.size := kk2.size)
    | (go_at_call 27; refine (took_no hb1 _ hP rfl).mono ?_; rintro e w1 ⟨rfl, hk1, hP1⟩; have kk1 : w.grownBy w1 (some g) := (World.grownBy.refl w (some g)).trans hk1; have hs1 : w.heap.size ≤ w1.heap.size := kk1.size))
  go_ret
  rw [HO.out]
  exact ⟨kk3, j3, (Nat.le_trans (Nat.le_trans (Nat.le_refl i) hj2) hj3), hP3, hr3, _, rfl, rfl⟩
theorem sqreadNull_any {g : Nat} {v : Value} {l : List Tok} (hE : EndK l) {i : Nat}  (w : World) (hP : PAt g v l i w) :
    Calls Tryz.prog 66 #[.pointer (some ⟨g, 0, none⟩)] w (Tells g v l i w VI (nullR (rem l i))) := by
  rcases Bool.eq_false_or_eq_true (isT ⟨#[115, 101, 116]⟩ (rem l i)) with hb1 | hb1
  · rcases e2 : takesR [⟨#[110, 111, 116]⟩, ⟨#[110, 117, 108, 108]⟩] (rem l i).tail with ⟨o2, q2⟩
    cases o2 with
    | none =>
      exact sqreadNull_w0 hE hb1 e2 w hP
    | some a2 =>
      cases a2
      exact sqreadNull_w1 hE hb1 e2 w hP
  · rcases e2 : takeR ⟨#[100, 114, 111, 112]⟩ (rem l i) with ⟨o2, q2⟩
    cases o2 with
    | none =>
      exact sqreadNull_w2 hE hb1 e2 w hP
    | some a2 =>
      cases a2
      rcases e3 : takesR [⟨#[110, 111, 116]⟩, ⟨#[110, 117, 108, 108]⟩] q2 with ⟨o3, q3⟩
      cases o3 with
      | none =>
        exact sqreadNull_w3 hE hb1 e2 e3 w hP
      | some a3 =>
        cases a3
        exact sqreadNull_w4 hE hb1 e2 e3 w hP
end Go.Proofs.YtiajlhjjmlakmaaGreatDoor
