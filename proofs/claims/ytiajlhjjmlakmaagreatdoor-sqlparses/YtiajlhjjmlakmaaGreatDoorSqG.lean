import Derived.Test.YtiajlhjjmlakmaaGreatDoorSqF
namespace Go.Proofs.YtiajlhjjmlakmaaGreatDoor
open Go.RowKit Num
set_option maxHeartbeats 2000000
set_option linter.unusedSimpArgs false
set_option linter.unusedVariables false
set_option maxRecDepth 100000

theorem sqreadCreate_w0 {g : Nat} {v : Value} {l : List Tok} (hE : EndK l) {i : Nat}  {q2 : List TkC} (hb1 : isT ⟨#[116, 97, 98, 108, 101]⟩ (rem l i) = true) (e2 : tableR (rem l i).tail = (none, q2)) (w : World) (hP : PAt g v l i w) :
  Calls Tryz.prog 32 #[.pointer (some ⟨g, 0, none⟩)] w (Tells g v l i w VX (createR (rem l i))) := by
 have hg0 := hP.g_lt
 have HO : Hid (createR (rem l i) = (none, q2)) := by
  unfold Hid
  simp only [createR, addIndexR, bnd, opt, ret, hb1, if_true, e2]
 go_enter Tryz.func32, Tryz.ntmps32
 go_wp2_with (first
  | (go_at_call 63; refine (sqreadTable_any hE _ hP1).mono ?_; intro e w2 hT2; obtain ⟨j2, rfl, hk2, hj2, hP2, hr2⟩ := tells_no hT2 hr1 e2)
  | (go_at_call 27; refine (took_yes hE (by decide) hb1 _ (hP.alloc _) rfl).mono ?_; rintro e w1 ⟨rfl, hk1, hP1, hr1⟩; have kk1 := (kp_alloc (gr w g) _).trans hk1; have hs1 := kk1.size; have br1 : Bx w1 (w.heap.size) 28 z10 := Bx.kp (Bx.newB (by simp) : Bx _ (w.heap.size) 28 z10) hk1 (by omega); have lr1 := br1.lt))
 refine ⟨rfl, ?_⟩
 rw [HO.out]
 exact ⟨kk1.trans hk2, j2, (by omega), hP2, hr2, rfl⟩
theorem sqreadCreate_w1 {g : Nat} {v : Value} {l : List Tok} (hE : EndK l) {i : Nat}  {x : Stm} {q2 : List TkC} (hb1 : isT ⟨#[116, 97, 98, 108, 101]⟩ (rem l i) = true) (e2 : tableR (rem l i).tail = (some x, q2)) (w : World) (hP : PAt g v l i w) :
  Calls Tryz.prog 32 #[.pointer (some ⟨g, 0, none⟩)] w (Tells g v l i w VX (createR (rem l i))) := by
 have hg0 := hP.g_lt
 have HO : Hid (createR (rem l i) = (some x, q2)) := by
  unfold Hid
  simp only [createR, addIndexR, bnd, opt, ret, hb1, if_true, e2]
 go_enter Tryz.func32, Tryz.ntmps32
 go_wp2_with (first
  | (go_at_call 63; refine (sqreadTable_any hE _ hP1).mono ?_; intro e w2 hT2; obtain ⟨u2, j2, rfl, hk2, hj2, hP2, hr2, hV2⟩ := tells_yes hT2 hr1 e2; obtain ⟨t2, hu2, hO2⟩ := hV2; subst hu2; replace hO2 := hO2.mono kk1.size; have kk2 := kk1.trans hk2; have hs2 := kk2.size; have br2 := Bx.kp br1 hk2 (by omega); have lr2 := br2.lt; obtain ⟨cr2_0, cr2_1, cr2_2, cr2_3, cr2_4, cr2_5, cr2_6, cr2_7, cr2_8, cr2_9⟩ := br2.ten; obtain ⟨fr2_0, fr2_1, fr2_2, fr2_3, fr2_4, fr2_5, fr2_6, fr2_7, fr2_8, fr2_9⟩ := br2.tenO)
  | (go_at_call 27; refine (took_yes hE (by decide) hb1 _ (hP.alloc _) rfl).mono ?_; rintro e w1 ⟨rfl, hk1, hP1, hr1⟩; have kk1 := (kp_alloc (gr w g) _).trans hk1; have hs1 := kk1.size; have br1 : Bx w1 (w.heap.size) 28 z10 := Bx.kp (Bx.newB (by simp) : Bx _ (w.heap.size) 28 z10) hk1 (by omega); have lr1 := br1.lt))
 refine bodyPost_ret (v := .agg #[.int .i64 x.kind, .string x.table, .string x.name, .slice t2.co x.cols.length t2.cc, .slice t2.vo x.vals.length t2.vc, .slice t2.so x.sets.length t2.sc, .slice t2.qo x.conds.length t2.qc, .bool x.uniq, .int .i64 x.type, .slice t2.yo x.types.length t2.yc]) (by simp [results, Tryz.results32, go_sem, cr2_0, cr2_1, cr2_2, cr2_3, cr2_4, cr2_5, cr2_6, cr2_7, cr2_8, cr2_9]) rfl ?_
 rw [HO.out]
 exact ⟨kp_sets kk2 (by omega) 0 (lX x t2), j2, (by omega), PAt.sets hP2 br2 (by decide) (by omega) 0 (lX x t2), hr2, _, rfl, ⟨t2, rfl, (OwnS.setsS hO2 br2 0 (lX x t2))⟩⟩
theorem sqreadCreate_w2 {g : Nat} {v : Value} {l : List Tok} (hE : EndK l) {i : Nat}  {q3 : List TkC} (hb1 : isT ⟨#[116, 97, 98, 108, 101]⟩ (rem l i) = false) (hb2 : isT ⟨#[117, 110, 105, 113, 117, 101]⟩ (rem l i) = true) (e3 : indexR (rem l i).tail = (none, q3)) (w : World) (hP : PAt g v l i w) :
  Calls Tryz.prog 32 #[.pointer (some ⟨g, 0, none⟩)] w (Tells g v l i w VX (createR (rem l i))) := by
 have hg0 := hP.g_lt
 have HO : Hid (createR (rem l i) = (none, q3)) := by
  unfold Hid
  simp only [createR, addIndexR, bnd, opt, ret, hb1, Bool.false_eq_true, if_false, hb2, if_true, e3]
 go_enter Tryz.func32, Tryz.ntmps32
 go_wp2_with (first
  | (go_at_call 64; refine (sqreadIndex_any hE _ hP2).mono ?_; intro e w3 hT3; obtain ⟨j3, rfl, hk3, hj3, hP3, hr3⟩ := tells_no hT3 hr2 e3)
  | (go_at_call 27; refine (took_yes hE (by decide) hb2 _ hP1 rfl).mono ?_; rintro e w2 ⟨rfl, hk2, hP2, hr2⟩; have kk2 := kk1.trans hk2; have hs2 := kk2.size; have br2 := Bx.kp br1 hk2 (by omega); have lr2 := br2.lt)
  | (go_at_call 27; refine (took_no hb1 _ (hP.alloc _) rfl).mono ?_; rintro e w1 ⟨rfl, hk1, hP1⟩; have kk1 := (kp_alloc (gr w g) _).trans hk1; have hs1 := kk1.size; have br1 : Bx w1 (w.heap.size) 28 z10 := Bx.kp (Bx.newB (by simp) : Bx _ (w.heap.size) 28 z10) hk1 (by omega); have lr1 := br1.lt))
 refine ⟨rfl, ?_⟩
 rw [HO.out]
 exact ⟨kk2.trans hk3, j3, (by omega), hP3, hr3, rfl⟩
theorem sqreadCreate_w3 {g : Nat} {v : Value} {l : List Tok} (hE : EndK l) {i : Nat}  {n1 n2 : ByteArray} {q3 q4 : List TkC} (hb1 : isT ⟨#[116, 97, 98, 108, 101]⟩ (rem l i) = false) (hb2 : isT ⟨#[117, 110, 105, 113, 117, 101]⟩ (rem l i) = true) (e3 : indexR (rem l i).tail = (some (n1, n2), q3)) (e4 : rowR nameR q3 = (none, q4)) (w : World) (hP : PAt g v l i w) :
  Calls Tryz.prog 32 #[.pointer (some ⟨g, 0, none⟩)] w (Tells g v l i w VX (createR (rem l i))) := by
 have hg0 := hP.g_lt
 have HO : Hid (createR (rem l i) = (none, q4)) := by
  unfold Hid
  simp only [createR, addIndexR, bnd, opt, ret, hb1, Bool.false_eq_true, if_false, hb2, if_true, e3, e4]
 go_enter Tryz.func32, Tryz.ntmps32
 go_wp2_with (first
  | (go_at_call 56; refine (sqreadRow_string_any hE _ (hP3.alloc _)).mono ?_; intro e w4 hT4; obtain ⟨j4, rfl, hk4, hj4, hP4, hr4⟩ := tells_no hT4 hr3 e4)
  | (go_at_call 64; refine (sqreadIndex_any hE _ hP2).mono ?_; intro e w3 hT3; obtain ⟨u3, j3, rfl, hk3, hj3, hP3, hr3, hV3⟩ := tells_yes hT3 hr2 e3; obtain rfl : u3 = .agg #[.int .i64 0, .string n2, .string n1, .slice none 0 0, .slice none 0 0, .slice none 0 0, .slice none 0 0, .bool false, .int .i64 0, .slice none 0 0] := hV3; have kk3 := kk2.trans hk3; have hs3 := kk3.size; have br3 := Bx.kp br2 hk3 (by omega); have lr3 := br3.lt)
  | (go_at_call 27; refine (took_yes hE (by decide) hb2 _ hP1 rfl).mono ?_; rintro e w2 ⟨rfl, hk2, hP2, hr2⟩; have kk2 := kk1.trans hk2; have hs2 := kk2.size; have br2 := Bx.kp br1 hk2 (by omega); have lr2 := br2.lt)
  | (go_at_call 27; refine (took_no hb1 _ (hP.alloc _) rfl).mono ?_; rintro e w1 ⟨rfl, hk1, hP1⟩; have kk1 := (kp_alloc (gr w g) _).trans hk1; have hs1 := kk1.size; have br1 : Bx w1 (w.heap.size) 28 z10 := Bx.kp (Bx.newB (by simp) : Bx _ (w.heap.size) 28 z10) hk1 (by omega); have lr1 := br1.lt))
 refine ⟨rfl, ?_⟩
 rw [HO.out]
 exact ⟨(kp_alloc kk3 _).trans hk4, j4, (by omega), hP4, hr4, rfl⟩
theorem sqreadCreate_w4 {g : Nat} {v : Value} {l : List Tok} (hE : EndK l) {i : Nat}  {n1 n2 : ByteArray} {q3 : List TkC} {cs : List (ByteArray)} {q4 : List TkC} (hb1 : isT ⟨#[116, 97, 98, 108, 101]⟩ (rem l i) = false) (hb2 : isT ⟨#[117, 110, 105, 113, 117, 101]⟩ (rem l i) = true) (e3 : indexR (rem l i).tail = (some (n1, n2), q3)) (e4 : rowR nameR q3 = (some cs, q4)) (w : World) (hP : PAt g v l i w) :
  Calls Tryz.prog 32 #[.pointer (some ⟨g, 0, none⟩)] w (Tells g v l i w VX (createR (rem l i))) := by
 have hg0 := hP.g_lt
 have HO : Hid (createR (rem l i) = (some { Stm.zero with kind := 6, name := n1, table := n2, uniq := true, cols := cs }, q4)) := by
  unfold Hid
  simp only [createR, addIndexR, bnd, opt, ret, hb1, Bool.false_eq_true, if_false, hb2, if_true, e3, e4]
 go_enter Tryz.func32, Tryz.ntmps32
 go_wp2_with (first
  | (go_at_call 56; refine (sqreadRow_string_any hE _ (hP3.alloc _)).mono ?_; intro e w4 hT4; obtain ⟨u4, j4, rfl, hk4, hj4, hP4, hr4, hV4⟩ := tells_yes hT4 hr3 e4; obtain ⟨cs_o, cs_c, rfl, ho4⟩ := hV4; have oo4 := row_mono ho4 (kp_alloc kk3 _).size; have kk4 := (kp_alloc kk3 _).trans hk4; have hs4 := kk4.size; have br4 : Bx w4 (w.heap.size) 28 z10 := Bx.kp (br3.alloc _) hk4 (by omega); have lr4 := br4.lt; have bx4 : Bx w4 (w3.heap.size) 28 #[.int .i64 6, .string n2, .string n1, nZ, nZ, nZ, nZ, .bool true, iZ, nZ] := Bx.kp (Bx.newB (by simp) : Bx _ (w3.heap.size) 28 #[.int .i64 6, .string n2, .string n1, nZ, nZ, nZ, nZ, .bool true, iZ, nZ]) hk4 (by omega); have lx4 := bx4.lt; have nrx4 : ¬ w.heap.size = w3.heap.size := (by omega); have nxr4 := Ne.symm nrx4; have cx4_3 := bx4.t3; have fx4_3 := bx4.open 3; have cx4_0 := bx4.t0; have cx4_1 := bx4.t1; have cx4_2 := bx4.t2; have cx4_4 := bx4.t4; have cx4_5 := bx4.t5; have cx4_6 := bx4.t6; have cx4_7 := bx4.t7; have cx4_8 := bx4.t8; have cx4_9 := bx4.t9; obtain ⟨cr4_0, cr4_1, cr4_2, cr4_3, cr4_4, cr4_5, cr4_6, cr4_7, cr4_8, cr4_9⟩ := br4.ten; obtain ⟨fr4_0, fr4_1, fr4_2, fr4_3, fr4_4, fr4_5, fr4_6, fr4_7, fr4_8, fr4_9⟩ := br4.tenO)
  | (go_at_call 64; refine (sqreadIndex_any hE _ hP2).mono ?_; intro e w3 hT3; obtain ⟨u3, j3, rfl, hk3, hj3, hP3, hr3, hV3⟩ := tells_yes hT3 hr2 e3; obtain rfl : u3 = .agg #[.int .i64 0, .string n2, .string n1, .slice none 0 0, .slice none 0 0, .slice none 0 0, .slice none 0 0, .bool false, .int .i64 0, .slice none 0 0] := hV3; have kk3 := kk2.trans hk3; have hs3 := kk3.size; have br3 := Bx.kp br2 hk3 (by omega); have lr3 := br3.lt)
  | (go_at_call 27; refine (took_yes hE (by decide) hb2 _ hP1 rfl).mono ?_; rintro e w2 ⟨rfl, hk2, hP2, hr2⟩; have kk2 := kk1.trans hk2; have hs2 := kk2.size; have br2 := Bx.kp br1 hk2 (by omega); have lr2 := br2.lt)
  | (go_at_call 27; refine (took_no hb1 _ (hP.alloc _) rfl).mono ?_; rintro e w1 ⟨rfl, hk1, hP1⟩; have kk1 := (kp_alloc (gr w g) _).trans hk1; have hs1 := kk1.size; have br1 : Bx w1 (w.heap.size) 28 z10 := Bx.kp (Bx.newB (by simp) : Bx _ (w.heap.size) 28 z10) hk1 (by omega); have lr1 := br1.lt))
 refine bodyPost_ret (v := .agg #[.int .i64 6, .string n2, .string n1, .slice cs_o cs.length cs_c, .slice none 0 0, .slice none 0 0, .slice none 0 0, .bool true, .int .i64 0, .slice none 0 0]) (by simp [results, Tryz.results32, go_sem, cr4_0, cr4_1, cr4_2, cr4_3, cr4_4, cr4_5, cr4_6, cr4_7, cr4_8, cr4_9]) rfl ?_
 rw [HO.out]
 exact ⟨(kp_sets (kp_set kk4 (by omega) 3 (.slice cs_o cs.length cs_c)) (by omega) 0 [.int .i64 6, .string n2, .string n1, .slice cs_o cs.length cs_c, .slice none 0 0, .slice none 0 0, .slice none 0 0, .bool true, .int .i64 0, .slice none 0 0]), j4, (by omega), (PAt.sets (hP4.set bx4 (by decide) (by omega) 3 (.slice cs_o cs.length cs_c)) (br4.other (by omega) 3 (.slice cs_o cs.length cs_c)) (by decide) (by omega) 0 [.int .i64 6, .string n2, .string n1, .slice cs_o cs.length cs_c, .slice none 0 0, .slice none 0 0, .slice none 0 0, .bool true, .int .i64 0, .slice none 0 0]), hr4, _, rfl, ⟨⟨cs_o, cs_c, none, 0, none, 0, none, 0, none, 0⟩, rfl, ⟨(row_sets (row_set oo4 bx4 (by decide) 3 (.slice cs_o cs.length cs_c)) (br4.other (by omega) 3 (.slice cs_o cs.length cs_c)) (by decide) 0 [.int .i64 6, .string n2, .string n1, .slice cs_o cs.length cs_c, .slice none 0 0, .slice none 0 0, .slice none 0 0, .bool true, .int .i64 0, .slice none 0 0]), World.ownsRow_nil _ _ _ _, World.ownsRow_nil _ _ _ _, World.ownsRow_nil _ _ _ _, World.ownsRow_nil _ _ _ _⟩⟩⟩
theorem sqreadCreate_w5 {g : Nat} {v : Value} {l : List Tok} (hE : EndK l) {i : Nat}  {q3 : List TkC} (hb1 : isT ⟨#[116, 97, 98, 108, 101]⟩ (rem l i) = false) (hb2 : isT ⟨#[117, 110, 105, 113, 117, 101]⟩ (rem l i) = false) (e3 : indexR (rem l i) = (none, q3)) (w : World) (hP : PAt g v l i w) :
  Calls Tryz.prog 32 #[.pointer (some ⟨g, 0, none⟩)] w (Tells g v l i w VX (createR (rem l i))) := by
 have hg0 := hP.g_lt
 have HO : Hid (createR (rem l i) = (none, q3)) := by
  unfold Hid
  simp only [createR, addIndexR, bnd, opt, ret, hb1, Bool.false_eq_true, if_false, hb2, e3]
 go_enter Tryz.func32, Tryz.ntmps32
 go_wp2_with (first
  | (go_at_call 64; refine (sqreadIndex_any hE _ hP2).mono ?_; intro e w3 hT3; obtain ⟨j3, rfl, hk3, hj3, hP3, hr3⟩ := tells_no hT3 rfl e3)
  | (go_at_call 27; refine (took_no hb2 _ hP1 rfl).mono ?_; rintro e w2 ⟨rfl, hk2, hP2⟩; have kk2 := kk1.trans hk2; have hs2 := kk2.size; have br2 := Bx.kp br1 hk2 (by omega); have lr2 := br2.lt)
  | (go_at_call 27; refine (took_no hb1 _ (hP.alloc _) rfl).mono ?_; rintro e w1 ⟨rfl, hk1, hP1⟩; have kk1 := (kp_alloc (gr w g) _).trans hk1; have hs1 := kk1.size; have br1 : Bx w1 (w.heap.size) 28 z10 := Bx.kp (Bx.newB (by simp) : Bx _ (w.heap.size) 28 z10) hk1 (by omega); have lr1 := br1.lt))
 refine ⟨rfl, ?_⟩
 rw [HO.out]
 exact ⟨kk2.trans hk3, j3, (by omega), hP3, hr3, rfl⟩
theorem sqreadCreate_w6 {g : Nat} {v : Value} {l : List Tok} (hE : EndK l) {i : Nat}  {n1 n2 : ByteArray} {q3 q4 : List TkC} (hb1 : isT ⟨#[116, 97, 98, 108, 101]⟩ (rem l i) = false) (hb2 : isT ⟨#[117, 110, 105, 113, 117, 101]⟩ (rem l i) = false) (e3 : indexR (rem l i) = (some (n1, n2), q3)) (e4 : rowR nameR q3 = (none, q4)) (w : World) (hP : PAt g v l i w) :
  Calls Tryz.prog 32 #[.pointer (some ⟨g, 0, none⟩)] w (Tells g v l i w VX (createR (rem l i))) := by
 have hg0 := hP.g_lt
 have HO : Hid (createR (rem l i) = (none, q4)) := by
  unfold Hid
  simp only [createR, addIndexR, bnd, opt, ret, hb1, Bool.false_eq_true, if_false, hb2, e3, e4]
 go_enter Tryz.func32, Tryz.ntmps32
 go_wp2_with (first
  | (go_at_call 56; refine (sqreadRow_string_any hE _ (hP3.alloc _)).mono ?_; intro e w4 hT4; obtain ⟨j4, rfl, hk4, hj4, hP4, hr4⟩ := tells_no hT4 hr3 e4)
  | (go_at_call 64; refine (sqreadIndex_any hE _ hP2).mono ?_; intro e w3 hT3; obtain ⟨u3, j3, rfl, hk3, hj3, hP3, hr3, hV3⟩ := tells_yes hT3 rfl e3; obtain rfl : u3 = .agg #[.int .i64 0, .string n2, .string n1, .slice none 0 0, .slice none 0 0, .slice none 0 0, .slice none 0 0, .bool false, .int .i64 0, .slice none 0 0] := hV3; have kk3 := kk2.trans hk3; have hs3 := kk3.size; have br3 := Bx.kp br2 hk3 (by omega); have lr3 := br3.lt)
  | (go_at_call 27; refine (took_no hb2 _ hP1 rfl).mono ?_; rintro e w2 ⟨rfl, hk2, hP2⟩; have kk2 := kk1.trans hk2; have hs2 := kk2.size; have br2 := Bx.kp br1 hk2 (by omega); have lr2 := br2.lt)
  | (go_at_call 27; refine (took_no hb1 _ (hP.alloc _) rfl).mono ?_; rintro e w1 ⟨rfl, hk1, hP1⟩; have kk1 := (kp_alloc (gr w g) _).trans hk1; have hs1 := kk1.size; have br1 : Bx w1 (w.heap.size) 28 z10 := Bx.kp (Bx.newB (by simp) : Bx _ (w.heap.size) 28 z10) hk1 (by omega); have lr1 := br1.lt))
 refine ⟨rfl, ?_⟩
 rw [HO.out]
 exact ⟨(kp_alloc kk3 _).trans hk4, j4, (by omega), hP4, hr4, rfl⟩
theorem sqreadCreate_w7 {g : Nat} {v : Value} {l : List Tok} (hE : EndK l) {i : Nat}  {n1 n2 : ByteArray} {q3 : List TkC} {cs : List (ByteArray)} {q4 : List TkC} (hb1 : isT ⟨#[116, 97, 98, 108, 101]⟩ (rem l i) = false) (hb2 : isT ⟨#[117, 110, 105, 113, 117, 101]⟩ (rem l i) = false) (e3 : indexR (rem l i) = (some (n1, n2), q3)) (e4 : rowR nameR q3 = (some cs, q4)) (w : World) (hP : PAt g v l i w) :
  Calls Tryz.prog 32 #[.pointer (some ⟨g, 0, none⟩)] w (Tells g v l i w VX (createR (rem l i))) := by
 have hg0 := hP.g_lt
 have HO : Hid (createR (rem l i) = (some { Stm.zero with kind := 6, name := n1, table := n2, uniq := false, cols := cs }, q4)) := by
  unfold Hid
  simp only [createR, addIndexR, bnd, opt, ret, hb1, Bool.false_eq_true, if_false, hb2, e3, e4]
 go_enter Tryz.func32, Tryz.ntmps32
 go_wp2_with (first
  | (go_at_call 56; refine (sqreadRow_string_any hE _ (hP3.alloc _)).mono ?_; intro e w4 hT4; obtain ⟨u4, j4, rfl, hk4, hj4, hP4, hr4, hV4⟩ := tells_yes hT4 hr3 e4; obtain ⟨cs_o, cs_c, rfl, ho4⟩ := hV4; have oo4 := row_mono ho4 (kp_alloc kk3 _).size; have kk4 := (kp_alloc kk3 _).trans hk4; have hs4 := kk4.size; have br4 : Bx w4 (w.heap.size) 28 z10 := Bx.kp (br3.alloc _) hk4 (by omega); have lr4 := br4.lt; have bx4 : Bx w4 (w3.heap.size) 28 #[.int .i64 6, .string n2, .string n1, nZ, nZ, nZ, nZ, .bool false, iZ, nZ] := Bx.kp (Bx.newB (by simp) : Bx _ (w3.heap.size) 28 #[.int .i64 6, .string n2, .string n1, nZ, nZ, nZ, nZ, .bool false, iZ, nZ]) hk4 (by omega); have lx4 := bx4.lt; have nrx4 : ¬ w.heap.size = w3.heap.size := (by omega); have nxr4 := Ne.symm nrx4; have cx4_3 := bx4.t3; have fx4_3 := bx4.open 3; have cx4_0 := bx4.t0; have cx4_1 := bx4.t1; have cx4_2 := bx4.t2; have cx4_4 := bx4.t4; have cx4_5 := bx4.t5; have cx4_6 := bx4.t6; have cx4_7 := bx4.t7; have cx4_8 := bx4.t8; have cx4_9 := bx4.t9; obtain ⟨cr4_0, cr4_1, cr4_2, cr4_3, cr4_4, cr4_5, cr4_6, cr4_7, cr4_8, cr4_9⟩ := br4.ten; obtain ⟨fr4_0, fr4_1, fr4_2, fr4_3, fr4_4, fr4_5, fr4_6, fr4_7, fr4_8, fr4_9⟩ := br4.tenO)
  | (go_at_call 64; refine (sqreadIndex_any hE _ hP2).mono ?_; intro e w3 hT3; obtain ⟨u3, j3, rfl, hk3, hj3, hP3, hr3, hV3⟩ := tells_yes hT3 rfl e3; obtain rfl : u3 = .agg #[.int .i64 0, .string n2, .string n1, .slice none 0 0, .slice none 0 0, .slice none 0 0, .slice none 0 0, .bool false, .int .i64 0, .slice none 0 0] := hV3; have kk3 := kk2.trans hk3; have hs3 := kk3.size; have br3 := Bx.kp br2 hk3 (by omega); have lr3 := br3.lt)
  | (go_at_call 27; refine (took_no hb2 _ hP1 rfl).mono ?_; rintro e w2 ⟨rfl, hk2, hP2⟩; have kk2 := kk1.trans hk2; have hs2 := kk2.size; have br2 := Bx.kp br1 hk2 (by omega); have lr2 := br2.lt)
  | (go_at_call 27; refine (took_no hb1 _ (hP.alloc _) rfl).mono ?_; rintro e w1 ⟨rfl, hk1, hP1⟩; have kk1 := (kp_alloc (gr w g) _).trans hk1; have hs1 := kk1.size; have br1 : Bx w1 (w.heap.size) 28 z10 := Bx.kp (Bx.newB (by simp) : Bx _ (w.heap.size) 28 z10) hk1 (by omega); have lr1 := br1.lt))
 refine bodyPost_ret (v := .agg #[.int .i64 6, .string n2, .string n1, .slice cs_o cs.length cs_c, .slice none 0 0, .slice none 0 0, .slice none 0 0, .bool false, .int .i64 0, .slice none 0 0]) (by simp [results, Tryz.results32, go_sem, cr4_0, cr4_1, cr4_2, cr4_3, cr4_4, cr4_5, cr4_6, cr4_7, cr4_8, cr4_9]) rfl ?_
 rw [HO.out]
 exact ⟨(kp_sets (kp_set kk4 (by omega) 3 (.slice cs_o cs.length cs_c)) (by omega) 0 [.int .i64 6, .string n2, .string n1, .slice cs_o cs.length cs_c, .slice none 0 0, .slice none 0 0, .slice none 0 0, .bool false, .int .i64 0, .slice none 0 0]), j4, (by omega), (PAt.sets (hP4.set bx4 (by decide) (by omega) 3 (.slice cs_o cs.length cs_c)) (br4.other (by omega) 3 (.slice cs_o cs.length cs_c)) (by decide) (by omega) 0 [.int .i64 6, .string n2, .string n1, .slice cs_o cs.length cs_c, .slice none 0 0, .slice none 0 0, .slice none 0 0, .bool false, .int .i64 0, .slice none 0 0]), hr4, _, rfl, ⟨⟨cs_o, cs_c, none, 0, none, 0, none, 0, none, 0⟩, rfl, ⟨(row_sets (row_set oo4 bx4 (by decide) 3 (.slice cs_o cs.length cs_c)) (br4.other (by omega) 3 (.slice cs_o cs.length cs_c)) (by decide) 0 [.int .i64 6, .string n2, .string n1, .slice cs_o cs.length cs_c, .slice none 0 0, .slice none 0 0, .slice none 0 0, .bool false, .int .i64 0, .slice none 0 0]), World.ownsRow_nil _ _ _ _, World.ownsRow_nil _ _ _ _, World.ownsRow_nil _ _ _ _, World.ownsRow_nil _ _ _ _⟩⟩⟩
theorem sqreadCreate_any {g : Nat} {v : Value} {l : List Tok} (hE : EndK l) {i : Nat}  (w : World) (hP : PAt g v l i w) :
  Calls Tryz.prog 32 #[.pointer (some ⟨g, 0, none⟩)] w (Tells g v l i w VX (createR (rem l i))) := by
 rcases Bool.eq_false_or_eq_true (isT ⟨#[116, 97, 98, 108, 101]⟩ (rem l i)) with hb1 | hb1
 ·rcases e2 : tableR (rem l i).tail with ⟨o2, q2⟩
  cases o2 with
  | none =>
   exact sqreadCreate_w0 hE hb1 e2 w hP
  | some x =>
   exact sqreadCreate_w1 hE hb1 e2 w hP
 ·rcases Bool.eq_false_or_eq_true (isT ⟨#[117, 110, 105, 113, 117, 101]⟩ (rem l i)) with hb2 | hb2
  ·rcases e3 : indexR (rem l i).tail with ⟨o3, q3⟩
   cases o3 with
   | none =>
    exact sqreadCreate_w2 hE hb1 hb2 e3 w hP
   | some a3 =>
    obtain ⟨n1, n2⟩ := a3
    rcases e4 : rowR nameR q3 with ⟨o4, q4⟩
    cases o4 with
    | none =>
     exact sqreadCreate_w3 hE hb1 hb2 e3 e4 w hP
    | some cs =>
     exact sqreadCreate_w4 hE hb1 hb2 e3 e4 w hP
  ·rcases e3 : indexR (rem l i) with ⟨o3, q3⟩
   cases o3 with
   | none =>
    exact sqreadCreate_w5 hE hb1 hb2 e3 w hP
   | some a3 =>
    obtain ⟨n1, n2⟩ := a3
    rcases e4 : rowR nameR q3 with ⟨o4, q4⟩
    cases o4 with
    | none =>
     exact sqreadCreate_w6 hE hb1 hb2 e3 e4 w hP
    | some cs =>
     exact sqreadCreate_w7 hE hb1 hb2 e3 e4 w hP
theorem sqreadAlter_w0 {g : Nat} {v : Value} {l : List Tok} (hE : EndK l) {i : Nat}  {q1 : List TkC} (e1 : takeR ⟨#[116, 97, 98, 108, 101]⟩ (rem l i) = (none, q1)) (w : World) (hP : PAt g v l i w) :
  Calls Tryz.prog 35 #[.pointer (some ⟨g, 0, none⟩)] w (Tells g v l i w VX (alterR (rem l i))) := by
 have hg0 := hP.g_lt
 have HO : Hid (alterR (rem l i) = (none, q1)) := by
  unfold Hid
  simp only [alterR, addColumnR, dropColumnR, bnd, opt, ret, e1]
 go_enter Tryz.func35, Tryz.ntmps35
 go_wp2_with (first
  | (go_at_call 34; refine (take_1 hE (by decide) _ ((hP.alloc _).alloc _) (Bx.newB (by simp)) (by omega)).mono ?_; intro e w1 hT1; obtain ⟨j1, rfl, hk1, hj1, hP1, hr1⟩ := tells_no hT1 rfl e1))
 refine ⟨rfl, ?_⟩
 rw [HO.out]
 exact ⟨(kp_alloc (kp_alloc (gr w g) _) _).trans hk1, j1, (by omega), hP1, hr1, rfl⟩
theorem sqreadAlter_w1 {g : Nat} {v : Value} {l : List Tok} (hE : EndK l) {i : Nat}  {q1 q2 : List TkC} (e1 : takeR ⟨#[116, 97, 98, 108, 101]⟩ (rem l i) = (some (), q1)) (e2 : nameR q1 = (none, q2)) (w : World) (hP : PAt g v l i w) :
  Calls Tryz.prog 35 #[.pointer (some ⟨g, 0, none⟩)] w (Tells g v l i w VX (alterR (rem l i))) := by
 have hg0 := hP.g_lt
 have HO : Hid (alterR (rem l i) = (none, q2)) := by
  unfold Hid
  simp only [alterR, addColumnR, dropColumnR, bnd, opt, ret, e1, e2]
 go_enter Tryz.func35, Tryz.ntmps35
 go_wp2_with (first
  | (go_at_call 55; refine (sqreadName_any hE _ hP1).mono ?_; intro e w2 hT2; obtain ⟨j2, rfl, hk2, hj2, hP2, hr2⟩ := tells_no hT2 hr1 e2)
  | (go_at_call 34; refine (take_1 hE (by decide) _ ((hP.alloc _).alloc _) (Bx.newB (by simp)) (by omega)).mono ?_; intro e w1 hT1; obtain ⟨_, j1, rfl, hk1, hj1, hP1, hr1, rfl⟩ := tells_yes hT1 rfl e1; have kk1 := (kp_alloc (kp_alloc (gr w g) _) _).trans hk1; have hs1 := kk1.size; have br1 : Bx w1 (w.heap.size) 28 z10 := Bx.kp ((Bx.newB (by simp) : Bx _ (w.heap.size) 28 z10).alloc _) hk1 (by omega); have lr1 := br1.lt))
 refine ⟨rfl, ?_⟩
 rw [HO.out]
 exact ⟨kk1.trans hk2, j2, (by omega), hP2, hr2, rfl⟩
theorem sqreadAlter_w2 {g : Nat} {v : Value} {l : List Tok} (hE : EndK l) {i : Nat}  {q1 : List TkC} {t : ByteArray} {q2 q4 : List TkC} (e1 : takeR ⟨#[116, 97, 98, 108, 101]⟩ (rem l i) = (some (), q1)) (e2 : nameR q1 = (some t, q2)) (hb3 : isT ⟨#[97, 100, 100]⟩ q2 = true) (e4 : takeR ⟨#[99, 111, 108, 117, 109, 110]⟩ q2.tail = (none, q4)) (w : World) (hP : PAt g v l i w) :
  Calls Tryz.prog 35 #[.pointer (some ⟨g, 0, none⟩)] w (Tells g v l i w VX (alterR (rem l i))) := by
 have hg0 := hP.g_lt
 have HO : Hid (alterR (rem l i) = (none, q4)) := by
  unfold Hid
  simp only [alterR, addColumnR, dropColumnR, bnd, opt, ret, e1, e2, hb3, if_true, e4]
 go_enter Tryz.func35, Tryz.ntmps35
 go_wp2_with (first
  | (go_at_call 34; refine (take_1 hE (by decide) _ ((hP3.set bx3 (by decide) (by omega) 0 (.int .i64 8)).alloc _) (Bx.newB (by simp)) (by omega)).mono ?_; intro e w4 hT4; obtain ⟨j4, rfl, hk4, hj4, hP4, hr4⟩ := tells_no hT4 hr3 e4)
  | (go_at_call 27; refine (took_yes hE (by decide) hb3 _ (hP2.alloc _) hr2).mono ?_; rintro e w3 ⟨rfl, hk3, hP3, hr3⟩; have kk3 := (kp_alloc kk2 _).trans hk3; have hs3 := kk3.size; have br3 : Bx w3 (w.heap.size) 28 z10 := Bx.kp (br2.alloc _) hk3 (by omega); have lr3 := br3.lt; have bx3 : Bx w3 (w2.heap.size) 28 #[iZ, .string t, sZ, nZ, nZ, nZ, nZ, .bool false, iZ, nZ] := Bx.kp (Bx.newB (by simp) : Bx _ (w2.heap.size) 28 #[iZ, .string t, sZ, nZ, nZ, nZ, nZ, .bool false, iZ, nZ]) hk3 (by omega); have lx3 := bx3.lt; have nrx3 : ¬ w.heap.size = w2.heap.size := (by omega); have nxr3 := Ne.symm nrx3; have cx3_0 := bx3.t0; have fx3_0 := bx3.open 0)
  | (go_at_call 55; refine (sqreadName_any hE _ hP1).mono ?_; intro e w2 hT2; obtain ⟨_, j2, rfl, hk2, hj2, hP2, hr2, rfl⟩ := tells_yes hT2 hr1 e2; have kk2 := kk1.trans hk2; have hs2 := kk2.size; have br2 := Bx.kp br1 hk2 (by omega); have lr2 := br2.lt)
  | (go_at_call 34; refine (take_1 hE (by decide) _ ((hP.alloc _).alloc _) (Bx.newB (by simp)) (by omega)).mono ?_; intro e w1 hT1; obtain ⟨_, j1, rfl, hk1, hj1, hP1, hr1, rfl⟩ := tells_yes hT1 rfl e1; have kk1 := (kp_alloc (kp_alloc (gr w g) _) _).trans hk1; have hs1 := kk1.size; have br1 : Bx w1 (w.heap.size) 28 z10 := Bx.kp ((Bx.newB (by simp) : Bx _ (w.heap.size) 28 z10).alloc _) hk1 (by omega); have lr1 := br1.lt)
  | go_in)
 refine ⟨rfl, rfl, ?_⟩
 rw [HO.out]
 exact ⟨(kp_alloc (kp_set kk3 (by omega) 0 (.int .i64 8)) _).trans hk4, j4, (by omega), hP4, hr4, rfl⟩
theorem sqreadAlter_w3 {g : Nat} {v : Value} {l : List Tok} (hE : EndK l) {i : Nat}  {q1 : List TkC} {t : ByteArray} {q2 q4 q5 : List TkC} (e1 : takeR ⟨#[116, 97, 98, 108, 101]⟩ (rem l i) = (some (), q1)) (e2 : nameR q1 = (some t, q2)) (hb3 : isT ⟨#[97, 100, 100]⟩ q2 = true) (e4 : takeR ⟨#[99, 111, 108, 117, 109, 110]⟩ q2.tail = (some (), q4)) (e5 : nameR q4 = (none, q5)) (w : World) (hP : PAt g v l i w) :
  Calls Tryz.prog 35 #[.pointer (some ⟨g, 0, none⟩)] w (Tells g v l i w VX (alterR (rem l i))) := by
 have hg0 := hP.g_lt
 have HO : Hid (alterR (rem l i) = (none, q5)) := by
  unfold Hid
  simp only [alterR, addColumnR, dropColumnR, bnd, opt, ret, e1, e2, hb3, if_true, e4, e5]
 go_enter Tryz.func35, Tryz.ntmps35
 go_wp2_with (first
  | (go_at_call 55; refine (sqreadName_any hE _ hP4).mono ?_; intro e w5 hT5; obtain ⟨j5, rfl, hk5, hj5, hP5, hr5⟩ := tells_no hT5 hr4 e5)
  | (go_at_call 34; refine (take_1 hE (by decide) _ ((hP3.set bx3 (by decide) (by omega) 0 (.int .i64 8)).alloc _) (Bx.newB (by simp)) (by omega)).mono ?_; intro e w4 hT4; obtain ⟨_, j4, rfl, hk4, hj4, hP4, hr4, rfl⟩ := tells_yes hT4 hr3 e4; have kk4 := (kp_alloc (kp_set kk3 (by omega) 0 (.int .i64 8)) _).trans hk4; have hs4 := kk4.size; have br4 : Bx w4 (w.heap.size) 28 z10 := Bx.kp ((br3.other (by omega) 0 (.int .i64 8)).alloc _) hk4 (by omega); have lr4 := br4.lt; have bx4 : Bx w4 (w2.heap.size) 28 #[.int .i64 8, .string t, sZ, nZ, nZ, nZ, nZ, .bool false, iZ, nZ] := Bx.kp ((bx3.set 0 (.int .i64 8)).alloc _) hk4 (by omega); have lx4 := bx4.lt; have nrx4 : ¬ w.heap.size = w2.heap.size := (by omega); have nxr4 := Ne.symm nrx4)
  | (go_at_call 27; refine (took_yes hE (by decide) hb3 _ (hP2.alloc _) hr2).mono ?_; rintro e w3 ⟨rfl, hk3, hP3, hr3⟩; have kk3 := (kp_alloc kk2 _).trans hk3; have hs3 := kk3.size; have br3 : Bx w3 (w.heap.size) 28 z10 := Bx.kp (br2.alloc _) hk3 (by omega); have lr3 := br3.lt; have bx3 : Bx w3 (w2.heap.size) 28 #[iZ, .string t, sZ, nZ, nZ, nZ, nZ, .bool false, iZ, nZ] := Bx.kp (Bx.newB (by simp) : Bx _ (w2.heap.size) 28 #[iZ, .string t, sZ, nZ, nZ, nZ, nZ, .bool false, iZ, nZ]) hk3 (by omega); have lx3 := bx3.lt; have nrx3 : ¬ w.heap.size = w2.heap.size := (by omega); have nxr3 := Ne.symm nrx3; have cx3_0 := bx3.t0; have fx3_0 := bx3.open 0)
  | (go_at_call 55; refine (sqreadName_any hE _ hP1).mono ?_; intro e w2 hT2; obtain ⟨_, j2, rfl, hk2, hj2, hP2, hr2, rfl⟩ := tells_yes hT2 hr1 e2; have kk2 := kk1.trans hk2; have hs2 := kk2.size; have br2 := Bx.kp br1 hk2 (by omega); have lr2 := br2.lt)
  | (go_at_call 34; refine (take_1 hE (by decide) _ ((hP.alloc _).alloc _) (Bx.newB (by simp)) (by omega)).mono ?_; intro e w1 hT1; obtain ⟨_, j1, rfl, hk1, hj1, hP1, hr1, rfl⟩ := tells_yes hT1 rfl e1; have kk1 := (kp_alloc (kp_alloc (gr w g) _) _).trans hk1; have hs1 := kk1.size; have br1 : Bx w1 (w.heap.size) 28 z10 := Bx.kp ((Bx.newB (by simp) : Bx _ (w.heap.size) 28 z10).alloc _) hk1 (by omega); have lr1 := br1.lt)
  | go_in)
 refine ⟨rfl, rfl, ?_⟩
 rw [HO.out]
 exact ⟨kk4.trans hk5, j5, (by omega), hP5, hr5, rfl⟩
theorem sqreadAlter_w4 {g : Nat} {v : Value} {l : List Tok} (hE : EndK l) {i : Nat}  {q1 : List TkC} {t : ByteArray} {q2 q4 : List TkC} {n : ByteArray} {q5 q6 : List TkC} (e1 : takeR ⟨#[116, 97, 98, 108, 101]⟩ (rem l i) = (some (), q1)) (e2 : nameR q1 = (some t, q2)) (hb3 : isT ⟨#[97, 100, 100]⟩ q2 = true) (e4 : takeR ⟨#[99, 111, 108, 117, 109, 110]⟩ q2.tail = (some (), q4)) (e5 : nameR q4 = (some n, q5)) (e6 : typeR q5 = (none, q6)) (w : World) (hP : PAt g v l i w) :
  Calls Tryz.prog 35 #[.pointer (some ⟨g, 0, none⟩)] w (Tells g v l i w VX (alterR (rem l i))) := by
 have hg0 := hP.g_lt
 have HO : Hid (alterR (rem l i) = (none, q6)) := by
  unfold Hid
  simp only [alterR, addColumnR, dropColumnR, bnd, opt, ret, e1, e2, hb3, if_true, e4, e5, e6]
 go_enter Tryz.func35, Tryz.ntmps35
 go_wp2_with (first
  | (go_at_call 107; refine (sqreadType_any hE _ (hP5.set bx5 (by decide) (by omega) 2 (.string n))).mono ?_; intro e w6 hT6; obtain ⟨j6, rfl, hk6, hj6, hP6, hr6⟩ := tells_no hT6 hr5 e6)
  | (go_at_call 55; refine (sqreadName_any hE _ hP4).mono ?_; intro e w5 hT5; obtain ⟨_, j5, rfl, hk5, hj5, hP5, hr5, rfl⟩ := tells_yes hT5 hr4 e5; have kk5 := kk4.trans hk5; have hs5 := kk5.size; have br5 := Bx.kp br4 hk5 (by omega); have lr5 := br5.lt; have bx5 := Bx.kp bx4 hk5 (by omega); have lx5 := bx5.lt; have nrx5 : ¬ w.heap.size = w2.heap.size := (by omega); have nxr5 := Ne.symm nrx5; have cx5_2 := bx5.t2; have fx5_2 := bx5.open 2)
  | (go_at_call 34; refine (take_1 hE (by decide) _ ((hP3.set bx3 (by decide) (by omega) 0 (.int .i64 8)).alloc _) (Bx.newB (by simp)) (by omega)).mono ?_; intro e w4 hT4; obtain ⟨_, j4, rfl, hk4, hj4, hP4, hr4, rfl⟩ := tells_yes hT4 hr3 e4; have kk4 := (kp_alloc (kp_set kk3 (by omega) 0 (.int .i64 8)) _).trans hk4; have hs4 := kk4.size; have br4 : Bx w4 (w.heap.size) 28 z10 := Bx.kp ((br3.other (by omega) 0 (.int .i64 8)).alloc _) hk4 (by omega); have lr4 := br4.lt; have bx4 : Bx w4 (w2.heap.size) 28 #[.int .i64 8, .string t, sZ, nZ, nZ, nZ, nZ, .bool false, iZ, nZ] := Bx.kp ((bx3.set 0 (.int .i64 8)).alloc _) hk4 (by omega); have lx4 := bx4.lt; have nrx4 : ¬ w.heap.size = w2.heap.size := (by omega); have nxr4 := Ne.symm nrx4)
  | (go_at_call 27; refine (took_yes hE (by decide) hb3 _ (hP2.alloc _) hr2).mono ?_; rintro e w3 ⟨rfl, hk3, hP3, hr3⟩; have kk3 := (kp_alloc kk2 _).trans hk3; have hs3 := kk3.size; have br3 : Bx w3 (w.heap.size) 28 z10 := Bx.kp (br2.alloc _) hk3 (by omega); have lr3 := br3.lt; have bx3 : Bx w3 (w2.heap.size) 28 #[iZ, .string t, sZ, nZ, nZ, nZ, nZ, .bool false, iZ, nZ] := Bx.kp (Bx.newB (by simp) : Bx _ (w2.heap.size) 28 #[iZ, .string t, sZ, nZ, nZ, nZ, nZ, .bool false, iZ, nZ]) hk3 (by omega); have lx3 := bx3.lt; have nrx3 : ¬ w.heap.size = w2.heap.size := (by omega); have nxr3 := Ne.symm nrx3; have cx3_0 := bx3.t0; have fx3_0 := bx3.open 0)
  | (go_at_call 55; refine (sqreadName_any hE _ hP1).mono ?_; intro e w2 hT2; obtain ⟨_, j2, rfl, hk2, hj2, hP2, hr2, rfl⟩ := tells_yes hT2 hr1 e2; have kk2 := kk1.trans hk2; have hs2 := kk2.size; have br2 := Bx.kp br1 hk2 (by omega); have lr2 := br2.lt)
  | (go_at_call 34; refine (take_1 hE (by decide) _ ((hP.alloc _).alloc _) (Bx.newB (by simp)) (by omega)).mono ?_; intro e w1 hT1; obtain ⟨_, j1, rfl, hk1, hj1, hP1, hr1, rfl⟩ := tells_yes hT1 rfl e1; have kk1 := (kp_alloc (kp_alloc (gr w g) _) _).trans hk1; have hs1 := kk1.size; have br1 : Bx w1 (w.heap.size) 28 z10 := Bx.kp ((Bx.newB (by simp) : Bx _ (w.heap.size) 28 z10).alloc _) hk1 (by omega); have lr1 := br1.lt)
  | go_in)
 refine ⟨rfl, rfl, ?_⟩
 rw [HO.out]
 exact ⟨(kp_set kk5 (by omega) 2 (.string n)).trans hk6, j6, (by omega), hP6, hr6, rfl⟩
theorem sqreadAlter_w5 {g : Nat} {v : Value} {l : List Tok} (hE : EndK l) {i : Nat}  {q1 : List TkC} {t : ByteArray} {q2 q4 : List TkC} {n : ByteArray} {q5 : List TkC} {k : Int} {q6 q8 : List TkC} (e1 : takeR ⟨#[116, 97, 98, 108, 101]⟩ (rem l i) = (some (), q1)) (e2 : nameR q1 = (some t, q2)) (hb3 : isT ⟨#[97, 100, 100]⟩ q2 = true) (e4 : takeR ⟨#[99, 111, 108, 117, 109, 110]⟩ q2.tail = (some (), q4)) (e5 : nameR q4 = (some n, q5)) (e6 : typeR q5 = (some k, q6)) (hb7 : isT ⟨#[100, 101, 102, 97, 117, 108, 116]⟩ q6 = true) (e8 : valueR q6.tail = (none, q8)) (w : World) (hP : PAt g v l i w) :
  Calls Tryz.prog 35 #[.pointer (some ⟨g, 0, none⟩)] w (Tells g v l i w VX (alterR (rem l i))) := by
 have hg0 := hP.g_lt
 have HO : Hid (alterR (rem l i) = (none, q8)) := by
  unfold Hid
  simp only [alterR, addColumnR, dropColumnR, bnd, opt, ret, e1, e2, hb3, if_true, e4, e5, e6, hb7, e8]
 go_enter Tryz.func35, Tryz.ntmps35
 go_wp2_with (first
  | (go_at_call 58; refine (sqreadValue_any hE _ hP7).mono ?_; intro e w8 hT8; obtain ⟨j8, rfl, hk8, hj8, hP8, hr8⟩ := tells_no hT8 hr7 e8)
  | (go_at_call 27; refine (took_yes hE (by decide) hb7 _ (hP6.set bx6 (by decide) (by omega) 8 (.int .i64 k)) hr6).mono ?_; rintro e w7 ⟨rfl, hk7, hP7, hr7⟩; have kk7 := (kp_set kk6 (by omega) 8 (.int .i64 k)).trans hk7; have hs7 := kk7.size; have br7 : Bx w7 (w.heap.size) 28 z10 := Bx.kp (br6.other (by omega) 8 (.int .i64 k)) hk7 (by omega); have lr7 := br7.lt; have bx7 : Bx w7 (w2.heap.size) 28 #[.int .i64 8, .string t, .string n, nZ, nZ, nZ, nZ, .bool false, .int .i64 k, nZ] := Bx.kp (bx6.set 8 (.int .i64 k)) hk7 (by omega); have lx7 := bx7.lt; have nrx7 : ¬ w.heap.size = w2.heap.size := (by omega); have nxr7 := Ne.symm nrx7)
  | (go_at_call 107; refine (sqreadType_any hE _ (hP5.set bx5 (by decide) (by omega) 2 (.string n))).mono ?_; intro e w6 hT6; obtain ⟨_, j6, rfl, hk6, hj6, hP6, hr6, rfl⟩ := tells_yes hT6 hr5 e6; have kk6 := (kp_set kk5 (by omega) 2 (.string n)).trans hk6; have hs6 := kk6.size; have br6 : Bx w6 (w.heap.size) 28 z10 := Bx.kp (br5.other (by omega) 2 (.string n)) hk6 (by omega); have lr6 := br6.lt; have bx6 : Bx w6 (w2.heap.size) 28 #[.int .i64 8, .string t, .string n, nZ, nZ, nZ, nZ, .bool false, iZ, nZ] := Bx.kp (bx5.set 2 (.string n)) hk6 (by omega); have lx6 := bx6.lt; have nrx6 : ¬ w.heap.size = w2.heap.size := (by omega); have nxr6 := Ne.symm nrx6; have cx6_8 := bx6.t8; have fx6_8 := bx6.open 8)
  | (go_at_call 55; refine (sqreadName_any hE _ hP4).mono ?_; intro e w5 hT5; obtain ⟨_, j5, rfl, hk5, hj5, hP5, hr5, rfl⟩ := tells_yes hT5 hr4 e5; have kk5 := kk4.trans hk5; have hs5 := kk5.size; have br5 := Bx.kp br4 hk5 (by omega); have lr5 := br5.lt; have bx5 := Bx.kp bx4 hk5 (by omega); have lx5 := bx5.lt; have nrx5 : ¬ w.heap.size = w2.heap.size := (by omega); have nxr5 := Ne.symm nrx5; have cx5_2 := bx5.t2; have fx5_2 := bx5.open 2)
  | (go_at_call 34; refine (take_1 hE (by decide) _ ((hP3.set bx3 (by decide) (by omega) 0 (.int .i64 8)).alloc _) (Bx.newB (by simp)) (by omega)).mono ?_; intro e w4 hT4; obtain ⟨_, j4, rfl, hk4, hj4, hP4, hr4, rfl⟩ := tells_yes hT4 hr3 e4; have kk4 := (kp_alloc (kp_set kk3 (by omega) 0 (.int .i64 8)) _).trans hk4; have hs4 := kk4.size; have br4 : Bx w4 (w.heap.size) 28 z10 := Bx.kp ((br3.other (by omega) 0 (.int .i64 8)).alloc _) hk4 (by omega); have lr4 := br4.lt; have bx4 : Bx w4 (w2.heap.size) 28 #[.int .i64 8, .string t, sZ, nZ, nZ, nZ, nZ, .bool false, iZ, nZ] := Bx.kp ((bx3.set 0 (.int .i64 8)).alloc _) hk4 (by omega); have lx4 := bx4.lt; have nrx4 : ¬ w.heap.size = w2.heap.size := (by omega); have nxr4 := Ne.symm nrx4)
  | (go_at_call 27; refine (took_yes hE (by decide) hb3 _ (hP2.alloc _) hr2).mono ?_; rintro e w3 ⟨rfl, hk3, hP3, hr3⟩; have kk3 := (kp_alloc kk2 _).trans hk3; have hs3 := kk3.size; have br3 : Bx w3 (w.heap.size) 28 z10 := Bx.kp (br2.alloc _) hk3 (by omega); have lr3 := br3.lt; have bx3 : Bx w3 (w2.heap.size) 28 #[iZ, .string t, sZ, nZ, nZ, nZ, nZ, .bool false, iZ, nZ] := Bx.kp (Bx.newB (by simp) : Bx _ (w2.heap.size) 28 #[iZ, .string t, sZ, nZ, nZ, nZ, nZ, .bool false, iZ, nZ]) hk3 (by omega); have lx3 := bx3.lt; have nrx3 : ¬ w.heap.size = w2.heap.size := (by omega); have nxr3 := Ne.symm nrx3; have cx3_0 := bx3.t0; have fx3_0 := bx3.open 0)
  | (go_at_call 55; refine (sqreadName_any hE _ hP1).mono ?_; intro e w2 hT2; obtain ⟨_, j2, rfl, hk2, hj2, hP2, hr2, rfl⟩ := tells_yes hT2 hr1 e2; have kk2 := kk1.trans hk2; have hs2 := kk2.size; have br2 := Bx.kp br1 hk2 (by omega); have lr2 := br2.lt)
  | (go_at_call 34; refine (take_1 hE (by decide) _ ((hP.alloc _).alloc _) (Bx.newB (by simp)) (by omega)).mono ?_; intro e w1 hT1; obtain ⟨_, j1, rfl, hk1, hj1, hP1, hr1, rfl⟩ := tells_yes hT1 rfl e1; have kk1 := (kp_alloc (kp_alloc (gr w g) _) _).trans hk1; have hs1 := kk1.size; have br1 : Bx w1 (w.heap.size) 28 z10 := Bx.kp ((Bx.newB (by simp) : Bx _ (w.heap.size) 28 z10).alloc _) hk1 (by omega); have lr1 := br1.lt)
  | go_in)
 refine ⟨rfl, rfl, ?_⟩
 rw [HO.out]
 exact ⟨kk7.trans hk8, j8, (by omega), hP8, hr8, rfl⟩
theorem sqreadAlter_w6 {g : Nat} {v : Value} {l : List Tok} (hE : EndK l) {i : Nat}  {q1 : List TkC} {t : ByteArray} {q2 q4 : List TkC} {n : ByteArray} {q5 : List TkC} {k : Int} {q6 : List TkC} {vk vn : Int} {vf : Nat} {vs : ByteArray} {q8 : List TkC} (e1 : takeR ⟨#[116, 97, 98, 108, 101]⟩ (rem l i) = (some (), q1)) (e2 : nameR q1 = (some t, q2)) (hb3 : isT ⟨#[97, 100, 100]⟩ q2 = true) (e4 : takeR ⟨#[99, 111, 108, 117, 109, 110]⟩ q2.tail = (some (), q4)) (e5 : nameR q4 = (some n, q5)) (e6 : typeR q5 = (some k, q6)) (hb7 : isT ⟨#[100, 101, 102, 97, 117, 108, 116]⟩ q6 = true) (e8 : valueR q6.tail = (some ⟨vk, vn, vf, vs⟩, q8)) (w : World) (hP : PAt g v l i w) :
  Calls Tryz.prog 35 #[.pointer (some ⟨g, 0, none⟩)] w (Tells g v l i w VX (alterR (rem l i))) := by
 have hg0 := hP.g_lt
 have HO : Hid (alterR (rem l i) = (some { Stm.zero with kind := 8, table := t, name := n, type := k, vals := [⟨vk, vn, vf, vs⟩] }, q8)) := by
  unfold Hid
  simp only [alterR, addColumnR, dropColumnR, bnd, opt, ret, e1, e2, hb3, if_true, e4, e5, e6, hb7, e8]
 go_enter Tryz.func35, Tryz.ntmps35
 go_wp2_with (first
  | (go_at_call 58; refine (sqreadValue_any hE _ hP7).mono ?_; intro e w8 hT8; obtain ⟨u8, j8, rfl, hk8, hj8, hP8, hr8, hV8⟩ := tells_yes hT8 hr7 e8; obtain rfl : u8 = .agg #[.int .i64 vk, .int .i64 vn, .int .u64 (vf : Int), .string vs] := hV8; have kk8 := kk7.trans hk8; have hs8 := kk8.size; have br8 := Bx.kp br7 hk8 (by omega); have lr8 := br8.lt; have bx8 := Bx.kp bx7 hk8 (by omega); have lx8 := bx8.lt; have nrx8 : ¬ w.heap.size = w2.heap.size := (by omega); have nxr8 := Ne.symm nrx8; have cx8_4 := bx8.t4; have fx8_4 := bx8.open 4; have cx8_0 := bx8.t0; have cx8_1 := bx8.t1; have cx8_2 := bx8.t2; have cx8_3 := bx8.t3; have cx8_5 := bx8.t5; have cx8_6 := bx8.t6; have cx8_7 := bx8.t7; have cx8_8 := bx8.t8; have cx8_9 := bx8.t9; obtain ⟨cr8_0, cr8_1, cr8_2, cr8_3, cr8_4, cr8_5, cr8_6, cr8_7, cr8_8, cr8_9⟩ := br8.ten; obtain ⟨fr8_0, fr8_1, fr8_2, fr8_3, fr8_4, fr8_5, fr8_6, fr8_7, fr8_8, fr8_9⟩ := br8.tenO)
  | (go_at_call 27; refine (took_yes hE (by decide) hb7 _ (hP6.set bx6 (by decide) (by omega) 8 (.int .i64 k)) hr6).mono ?_; rintro e w7 ⟨rfl, hk7, hP7, hr7⟩; have kk7 := (kp_set kk6 (by omega) 8 (.int .i64 k)).trans hk7; have hs7 := kk7.size; have br7 : Bx w7 (w.heap.size) 28 z10 := Bx.kp (br6.other (by omega) 8 (.int .i64 k)) hk7 (by omega); have lr7 := br7.lt; have bx7 : Bx w7 (w2.heap.size) 28 #[.int .i64 8, .string t, .string n, nZ, nZ, nZ, nZ, .bool false, .int .i64 k, nZ] := Bx.kp (bx6.set 8 (.int .i64 k)) hk7 (by omega); have lx7 := bx7.lt; have nrx7 : ¬ w.heap.size = w2.heap.size := (by omega); have nxr7 := Ne.symm nrx7)
  | (go_at_call 107; refine (sqreadType_any hE _ (hP5.set bx5 (by decide) (by omega) 2 (.string n))).mono ?_; intro e w6 hT6; obtain ⟨_, j6, rfl, hk6, hj6, hP6, hr6, rfl⟩ := tells_yes hT6 hr5 e6; have kk6 := (kp_set kk5 (by omega) 2 (.string n)).trans hk6; have hs6 := kk6.size; have br6 : Bx w6 (w.heap.size) 28 z10 := Bx.kp (br5.other (by omega) 2 (.string n)) hk6 (by omega); have lr6 := br6.lt; have bx6 : Bx w6 (w2.heap.size) 28 #[.int .i64 8, .string t, .string n, nZ, nZ, nZ, nZ, .bool false, iZ, nZ] := Bx.kp (bx5.set 2 (.string n)) hk6 (by omega); have lx6 := bx6.lt; have nrx6 : ¬ w.heap.size = w2.heap.size := (by omega); have nxr6 := Ne.symm nrx6; have cx6_8 := bx6.t8; have fx6_8 := bx6.open 8)
  | (go_at_call 55; refine (sqreadName_any hE _ hP4).mono ?_; intro e w5 hT5; obtain ⟨_, j5, rfl, hk5, hj5, hP5, hr5, rfl⟩ := tells_yes hT5 hr4 e5; have kk5 := kk4.trans hk5; have hs5 := kk5.size; have br5 := Bx.kp br4 hk5 (by omega); have lr5 := br5.lt; have bx5 := Bx.kp bx4 hk5 (by omega); have lx5 := bx5.lt; have nrx5 : ¬ w.heap.size = w2.heap.size := (by omega); have nxr5 := Ne.symm nrx5; have cx5_2 := bx5.t2; have fx5_2 := bx5.open 2)
  | (go_at_call 34; refine (take_1 hE (by decide) _ ((hP3.set bx3 (by decide) (by omega) 0 (.int .i64 8)).alloc _) (Bx.newB (by simp)) (by omega)).mono ?_; intro e w4 hT4; obtain ⟨_, j4, rfl, hk4, hj4, hP4, hr4, rfl⟩ := tells_yes hT4 hr3 e4; have kk4 := (kp_alloc (kp_set kk3 (by omega) 0 (.int .i64 8)) _).trans hk4; have hs4 := kk4.size; have br4 : Bx w4 (w.heap.size) 28 z10 := Bx.kp ((br3.other (by omega) 0 (.int .i64 8)).alloc _) hk4 (by omega); have lr4 := br4.lt; have bx4 : Bx w4 (w2.heap.size) 28 #[.int .i64 8, .string t, sZ, nZ, nZ, nZ, nZ, .bool false, iZ, nZ] := Bx.kp ((bx3.set 0 (.int .i64 8)).alloc _) hk4 (by omega); have lx4 := bx4.lt; have nrx4 : ¬ w.heap.size = w2.heap.size := (by omega); have nxr4 := Ne.symm nrx4)
  | (go_at_call 27; refine (took_yes hE (by decide) hb3 _ (hP2.alloc _) hr2).mono ?_; rintro e w3 ⟨rfl, hk3, hP3, hr3⟩; have kk3 := (kp_alloc kk2 _).trans hk3; have hs3 := kk3.size; have br3 : Bx w3 (w.heap.size) 28 z10 := Bx.kp (br2.alloc _) hk3 (by omega); have lr3 := br3.lt; have bx3 : Bx w3 (w2.heap.size) 28 #[iZ, .string t, sZ, nZ, nZ, nZ, nZ, .bool false, iZ, nZ] := Bx.kp (Bx.newB (by simp) : Bx _ (w2.heap.size) 28 #[iZ, .string t, sZ, nZ, nZ, nZ, nZ, .bool false, iZ, nZ]) hk3 (by omega); have lx3 := bx3.lt; have nrx3 : ¬ w.heap.size = w2.heap.size := (by omega); have nxr3 := Ne.symm nrx3; have cx3_0 := bx3.t0; have fx3_0 := bx3.open 0)
  | (go_at_call 55; refine (sqreadName_any hE _ hP1).mono ?_; intro e w2 hT2; obtain ⟨_, j2, rfl, hk2, hj2, hP2, hr2, rfl⟩ := tells_yes hT2 hr1 e2; have kk2 := kk1.trans hk2; have hs2 := kk2.size; have br2 := Bx.kp br1 hk2 (by omega); have lr2 := br2.lt)
  | (go_at_call 34; refine (take_1 hE (by decide) _ ((hP.alloc _).alloc _) (Bx.newB (by simp)) (by omega)).mono ?_; intro e w1 hT1; obtain ⟨_, j1, rfl, hk1, hj1, hP1, hr1, rfl⟩ := tells_yes hT1 rfl e1; have kk1 := (kp_alloc (kp_alloc (gr w g) _) _).trans hk1; have hs1 := kk1.size; have br1 : Bx w1 (w.heap.size) 28 z10 := Bx.kp ((Bx.newB (by simp) : Bx _ (w.heap.size) 28 z10).alloc _) hk1 (by omega); have lr1 := br1.lt)
  | go_in)
 go_end0
 simp only []
 go_at_K
 go_wp2
 refine bodyPost_ret (v := .agg #[.int .i64 8, .string t, .string n, .slice none 0 0, .slice (some ⟨w8.heap.size, 0, none⟩) 1 1, .slice none 0 0, .slice none 0 0, .bool false, .int .i64 k, .slice none 0 0]) (by simp [results, Tryz.results35, go_sem, cr8_0, cr8_1, cr8_2, cr8_3, cr8_4, cr8_5, cr8_6, cr8_7, cr8_8, cr8_9, lr8]) rfl ?_
 rw [HO.out]
 exact ⟨(kp_alloc (kp_sets (kp_set kk8 (by omega) 4 (.slice (some ⟨w8.heap.size, 0, none⟩) 1 1)) (by omega) 0 [.int .i64 8, .string t, .string n, .slice none 0 0, .slice (some ⟨w8.heap.size, 0, none⟩) 1 1, .slice none 0 0, .slice none 0 0, .bool false, .int .i64 k, .slice none 0 0]) _), j8, (by omega), ((PAt.sets (hP8.set bx8 (by decide) (by omega) 4 (.slice (some ⟨w8.heap.size, 0, none⟩) 1 1)) (br8.other (by omega) 4 (.slice (some ⟨w8.heap.size, 0, none⟩) 1 1)) (by decide) (by omega) 0 [.int .i64 8, .string t, .string n, .slice none 0 0, .slice (some ⟨w8.heap.size, 0, none⟩) 1 1, .slice none 0 0, .slice none 0 0, .bool false, .int .i64 k, .slice none 0 0]).alloc _), hr8, _, rfl, ⟨⟨none, 0, some ⟨w8.heap.size, 0, none⟩, 1, none, 0, none, 0, none, 0⟩, rfl, ⟨World.ownsRow_nil _ _ _ _, (row_litB (W := setsW (w8.setCell ⟨w2.heap.size, 4, none⟩ (.slice (some ⟨w8.heap.size, 0, none⟩) 1 1)) (w.heap.size) 0 [.int .i64 8, .string t, .string n, .slice none 0 0, .slice (some ⟨w8.heap.size, 0, none⟩) 1 1, .slice none 0 0, .slice none 0 0, .bool false, .int .i64 k, .slice none 0 0]) #[.int .i64 vk, .int .i64 vn, .int .u64 (vf : Int), .string vs] (by rw [setsW_size]; simp) hs8 rfl), World.ownsRow_nil _ _ _ _, World.ownsRow_nil _ _ _ _, World.ownsRow_nil _ _ _ _⟩⟩⟩
theorem sqreadAlter_w7 {g : Nat} {v : Value} {l : List Tok} (hE : EndK l) {i : Nat}  {q1 : List TkC} {t : ByteArray} {q2 q4 : List TkC} {n : ByteArray} {q5 : List TkC} {k : Int} {q6 : List TkC} (e1 : takeR ⟨#[116, 97, 98, 108, 101]⟩ (rem l i) = (some (), q1)) (e2 : nameR q1 = (some t, q2)) (hb3 : isT ⟨#[97, 100, 100]⟩ q2 = true) (e4 : takeR ⟨#[99, 111, 108, 117, 109, 110]⟩ q2.tail = (some (), q4)) (e5 : nameR q4 = (some n, q5)) (e6 : typeR q5 = (some k, q6)) (hb7 : isT ⟨#[100, 101, 102, 97, 117, 108, 116]⟩ q6 = false) (w : World) (hP : PAt g v l i w) :
  Calls Tryz.prog 35 #[.pointer (some ⟨g, 0, none⟩)] w (Tells g v l i w VX (alterR (rem l i))) := by
 have hg0 := hP.g_lt
 have HO : Hid (alterR (rem l i) = (some { Stm.zero with kind := 8, table := t, name := n, type := k, vals := [] }, q6)) := by
  unfold Hid
  simp only [alterR, addColumnR, dropColumnR, bnd, opt, ret, e1, e2, hb3, if_true, e4, e5, e6, hb7, Bool.false_eq_true, if_false]
 go_enter Tryz.func35, Tryz.ntmps35
 go_wp2_with (first
  | (go_at_call 27; refine (took_no hb7 _ (hP6.set bx6 (by decide) (by omega) 8 (.int .i64 k)) hr6).mono ?_; rintro e w7 ⟨rfl, hk7, hP7⟩; have kk7 := (kp_set kk6 (by omega) 8 (.int .i64 k)).trans hk7; have hs7 := kk7.size; have br7 : Bx w7 (w.heap.size) 28 z10 := Bx.kp (br6.other (by omega) 8 (.int .i64 k)) hk7 (by omega); have lr7 := br7.lt; have bx7 : Bx w7 (w2.heap.size) 28 #[.int .i64 8, .string t, .string n, nZ, nZ, nZ, nZ, .bool false, .int .i64 k, nZ] := Bx.kp (bx6.set 8 (.int .i64 k)) hk7 (by omega); have lx7 := bx7.lt; have nrx7 : ¬ w.heap.size = w2.heap.size := (by omega); have nxr7 := Ne.symm nrx7; obtain ⟨cx7_0, cx7_1, cx7_2, cx7_3, cx7_4, cx7_5, cx7_6, cx7_7, cx7_8, cx7_9⟩ := bx7.ten; obtain ⟨cr7_0, cr7_1, cr7_2, cr7_3, cr7_4, cr7_5, cr7_6, cr7_7, cr7_8, cr7_9⟩ := br7.ten; obtain ⟨fr7_0, fr7_1, fr7_2, fr7_3, fr7_4, fr7_5, fr7_6, fr7_7, fr7_8, fr7_9⟩ := br7.tenO)
  | (go_at_call 107; refine (sqreadType_any hE _ (hP5.set bx5 (by decide) (by omega) 2 (.string n))).mono ?_; intro e w6 hT6; obtain ⟨_, j6, rfl, hk6, hj6, hP6, hr6, rfl⟩ := tells_yes hT6 hr5 e6; have kk6 := (kp_set kk5 (by omega) 2 (.string n)).trans hk6; have hs6 := kk6.size; have br6 : Bx w6 (w.heap.size) 28 z10 := Bx.kp (br5.other (by omega) 2 (.string n)) hk6 (by omega); have lr6 := br6.lt; have bx6 : Bx w6 (w2.heap.size) 28 #[.int .i64 8, .string t, .string n, nZ, nZ, nZ, nZ, .bool false, iZ, nZ] := Bx.kp (bx5.set 2 (.string n)) hk6 (by omega); have lx6 := bx6.lt; have nrx6 : ¬ w.heap.size = w2.heap.size := (by omega); have nxr6 := Ne.symm nrx6; have cx6_8 := bx6.t8; have fx6_8 := bx6.open 8)
  | (go_at_call 55; refine (sqreadName_any hE _ hP4).mono ?_; intro e w5 hT5; obtain ⟨_, j5, rfl, hk5, hj5, hP5, hr5, rfl⟩ := tells_yes hT5 hr4 e5; have kk5 := kk4.trans hk5; have hs5 := kk5.size; have br5 := Bx.kp br4 hk5 (by omega); have lr5 := br5.lt; have bx5 := Bx.kp bx4 hk5 (by omega); have lx5 := bx5.lt; have nrx5 : ¬ w.heap.size = w2.heap.size := (by omega); have nxr5 := Ne.symm nrx5; have cx5_2 := bx5.t2; have fx5_2 := bx5.open 2)
  | (go_at_call 34; refine (take_1 hE (by decide) _ ((hP3.set bx3 (by decide) (by omega) 0 (.int .i64 8)).alloc _) (Bx.newB (by simp)) (by omega)).mono ?_; intro e w4 hT4; obtain ⟨_, j4, rfl, hk4, hj4, hP4, hr4, rfl⟩ := tells_yes hT4 hr3 e4; have kk4 := (kp_alloc (kp_set kk3 (by omega) 0 (.int .i64 8)) _).trans hk4; have hs4 := kk4.size; have br4 : Bx w4 (w.heap.size) 28 z10 := Bx.kp ((br3.other (by omega) 0 (.int .i64 8)).alloc _) hk4 (by omega); have lr4 := br4.lt; have bx4 : Bx w4 (w2.heap.size) 28 #[.int .i64 8, .string t, sZ, nZ, nZ, nZ, nZ, .bool false, iZ, nZ] := Bx.kp ((bx3.set 0 (.int .i64 8)).alloc _) hk4 (by omega); have lx4 := bx4.lt; have nrx4 : ¬ w.heap.size = w2.heap.size := (by omega); have nxr4 := Ne.symm nrx4)
  | (go_at_call 27; refine (took_yes hE (by decide) hb3 _ (hP2.alloc _) hr2).mono ?_; rintro e w3 ⟨rfl, hk3, hP3, hr3⟩; have kk3 := (kp_alloc kk2 _).trans hk3; have hs3 := kk3.size; have br3 : Bx w3 (w.heap.size) 28 z10 := Bx.kp (br2.alloc _) hk3 (by omega); have lr3 := br3.lt; have bx3 : Bx w3 (w2.heap.size) 28 #[iZ, .string t, sZ, nZ, nZ, nZ, nZ, .bool false, iZ, nZ] := Bx.kp (Bx.newB (by simp) : Bx _ (w2.heap.size) 28 #[iZ, .string t, sZ, nZ, nZ, nZ, nZ, .bool false, iZ, nZ]) hk3 (by omega); have lx3 := bx3.lt; have nrx3 : ¬ w.heap.size = w2.heap.size := (by omega); have nxr3 := Ne.symm nrx3; have cx3_0 := bx3.t0; have fx3_0 := bx3.open 0)
  | (go_at_call 55; refine (sqreadName_any hE _ hP1).mono ?_; intro e w2 hT2; obtain ⟨_, j2, rfl, hk2, hj2, hP2, hr2, rfl⟩ := tells_yes hT2 hr1 e2; have kk2 := kk1.trans hk2; have hs2 := kk2.size; have br2 := Bx.kp br1 hk2 (by omega); have lr2 := br2.lt)
  | (go_at_call 34; refine (take_1 hE (by decide) _ ((hP.alloc _).alloc _) (Bx.newB (by simp)) (by omega)).mono ?_; intro e w1 hT1; obtain ⟨_, j1, rfl, hk1, hj1, hP1, hr1, rfl⟩ := tells_yes hT1 rfl e1; have kk1 := (kp_alloc (kp_alloc (gr w g) _) _).trans hk1; have hs1 := kk1.size; have br1 : Bx w1 (w.heap.size) 28 z10 := Bx.kp ((Bx.newB (by simp) : Bx _ (w.heap.size) 28 z10).alloc _) hk1 (by omega); have lr1 := br1.lt)
  | go_in)
 go_end0
 simp only []
 go_at_K
 go_wp2
 refine bodyPost_ret (v := .agg #[.int .i64 8, .string t, .string n, .slice none 0 0, .slice none 0 0, .slice none 0 0, .slice none 0 0, .bool false, .int .i64 k, .slice none 0 0]) (by simp [results, Tryz.results35, go_sem, cr7_0, cr7_1, cr7_2, cr7_3, cr7_4, cr7_5, cr7_6, cr7_7, cr7_8, cr7_9]) rfl ?_
 rw [HO.out]
 exact ⟨(kp_sets kk7 (by omega) 0 [.int .i64 8, .string t, .string n, .slice none 0 0, .slice none 0 0, .slice none 0 0, .slice none 0 0, .bool false, .int .i64 k, .slice none 0 0]), j6, (by omega), (PAt.sets hP7 br7 (by decide) (by omega) 0 [.int .i64 8, .string t, .string n, .slice none 0 0, .slice none 0 0, .slice none 0 0, .slice none 0 0, .bool false, .int .i64 k, .slice none 0 0]), hr6, _, rfl, ⟨⟨none, 0, none, 0, none, 0, none, 0, none, 0⟩, rfl, ⟨World.ownsRow_nil _ _ _ _, World.ownsRow_nil _ _ _ _, World.ownsRow_nil _ _ _ _, World.ownsRow_nil _ _ _ _, World.ownsRow_nil _ _ _ _⟩⟩⟩
theorem sqreadAlter_w8 {g : Nat} {v : Value} {l : List Tok} (hE : EndK l) {i : Nat}  {q1 : List TkC} {t : ByteArray} {q2 q5 : List TkC} (e1 : takeR ⟨#[116, 97, 98, 108, 101]⟩ (rem l i) = (some (), q1)) (e2 : nameR q1 = (some t, q2)) (hb3 : isT ⟨#[97, 100, 100]⟩ q2 = false) (hb4 : isT ⟨#[100, 114, 111, 112]⟩ q2 = true) (e5 : takeR ⟨#[99, 111, 108, 117, 109, 110]⟩ q2.tail = (none, q5)) (w : World) (hP : PAt g v l i w) :
  Calls Tryz.prog 35 #[.pointer (some ⟨g, 0, none⟩)] w (Tells g v l i w VX (alterR (rem l i))) := by
 have hg0 := hP.g_lt
 have HO : Hid (alterR (rem l i) = (none, q5)) := by
  unfold Hid
  simp only [alterR, addColumnR, dropColumnR, bnd, opt, ret, e1, e2, hb3, Bool.false_eq_true, if_false, hb4, if_true, e5]
 go_enter Tryz.func35, Tryz.ntmps35
 go_wp2_with (first
  | (go_at_call 34; refine (take_1 hE (by decide) _ ((hP4.set bx4 (by decide) (by omega) 0 (.int .i64 9)).alloc _) (Bx.newB (by simp)) (by omega)).mono ?_; intro e w5 hT5; obtain ⟨j5, rfl, hk5, hj5, hP5, hr5⟩ := tells_no hT5 hr4 e5)
  | (go_at_call 27; refine (took_yes hE (by decide) hb4 _ hP3 hr2).mono ?_; rintro e w4 ⟨rfl, hk4, hP4, hr4⟩; have kk4 := kk3.trans hk4; have hs4 := kk4.size; have br4 := Bx.kp br3 hk4 (by omega); have lr4 := br4.lt; have bx4 := Bx.kp bx3 hk4 (by omega); have lx4 := bx4.lt; have nrx4 : ¬ w.heap.size = w2.heap.size := (by omega); have nxr4 := Ne.symm nrx4; have cx4_0 := bx4.t0; have fx4_0 := bx4.open 0)
  | (go_at_call 27; refine (took_no hb3 _ (hP2.alloc _) hr2).mono ?_; rintro e w3 ⟨rfl, hk3, hP3⟩; have kk3 := (kp_alloc kk2 _).trans hk3; have hs3 := kk3.size; have br3 : Bx w3 (w.heap.size) 28 z10 := Bx.kp (br2.alloc _) hk3 (by omega); have lr3 := br3.lt; have bx3 : Bx w3 (w2.heap.size) 28 #[iZ, .string t, sZ, nZ, nZ, nZ, nZ, .bool false, iZ, nZ] := Bx.kp (Bx.newB (by simp) : Bx _ (w2.heap.size) 28 #[iZ, .string t, sZ, nZ, nZ, nZ, nZ, .bool false, iZ, nZ]) hk3 (by omega); have lx3 := bx3.lt; have nrx3 : ¬ w.heap.size = w2.heap.size := (by omega); have nxr3 := Ne.symm nrx3)
  | (go_at_call 55; refine (sqreadName_any hE _ hP1).mono ?_; intro e w2 hT2; obtain ⟨_, j2, rfl, hk2, hj2, hP2, hr2, rfl⟩ := tells_yes hT2 hr1 e2; have kk2 := kk1.trans hk2; have hs2 := kk2.size; have br2 := Bx.kp br1 hk2 (by omega); have lr2 := br2.lt)
  | (go_at_call 34; refine (take_1 hE (by decide) _ ((hP.alloc _).alloc _) (Bx.newB (by simp)) (by omega)).mono ?_; intro e w1 hT1; obtain ⟨_, j1, rfl, hk1, hj1, hP1, hr1, rfl⟩ := tells_yes hT1 rfl e1; have kk1 := (kp_alloc (kp_alloc (gr w g) _) _).trans hk1; have hs1 := kk1.size; have br1 : Bx w1 (w.heap.size) 28 z10 := Bx.kp ((Bx.newB (by simp) : Bx _ (w.heap.size) 28 z10).alloc _) hk1 (by omega); have lr1 := br1.lt))
 refine ⟨rfl, ?_⟩
 rw [HO.out]
 exact ⟨(kp_alloc (kp_set kk4 (by omega) 0 (.int .i64 9)) _).trans hk5, j5, (by omega), hP5, hr5, rfl⟩
theorem sqreadAlter_w9 {g : Nat} {v : Value} {l : List Tok} (hE : EndK l) {i : Nat}  {q1 : List TkC} {t : ByteArray} {q2 q5 q6 : List TkC} (e1 : takeR ⟨#[116, 97, 98, 108, 101]⟩ (rem l i) = (some (), q1)) (e2 : nameR q1 = (some t, q2)) (hb3 : isT ⟨#[97, 100, 100]⟩ q2 = false) (hb4 : isT ⟨#[100, 114, 111, 112]⟩ q2 = true) (e5 : takeR ⟨#[99, 111, 108, 117, 109, 110]⟩ q2.tail = (some (), q5)) (e6 : nameR q5 = (none, q6)) (w : World) (hP : PAt g v l i w) :
  Calls Tryz.prog 35 #[.pointer (some ⟨g, 0, none⟩)] w (Tells g v l i w VX (alterR (rem l i))) := by
 have hg0 := hP.g_lt
 have HO : Hid (alterR (rem l i) = (none, q6)) := by
  unfold Hid
  simp only [alterR, addColumnR, dropColumnR, bnd, opt, ret, e1, e2, hb3, Bool.false_eq_true, if_false, hb4, if_true, e5, e6]
 go_enter Tryz.func35, Tryz.ntmps35
 go_wp2_with (first
  | (go_at_call 55; refine (sqreadName_any hE _ hP5).mono ?_; intro e w6 hT6; obtain ⟨j6, rfl, hk6, hj6, hP6, hr6⟩ := tells_no hT6 hr5 e6)
  | (go_at_call 34; refine (take_1 hE (by decide) _ ((hP4.set bx4 (by decide) (by omega) 0 (.int .i64 9)).alloc _) (Bx.newB (by simp)) (by omega)).mono ?_; intro e w5 hT5; obtain ⟨_, j5, rfl, hk5, hj5, hP5, hr5, rfl⟩ := tells_yes hT5 hr4 e5; have kk5 := (kp_alloc (kp_set kk4 (by omega) 0 (.int .i64 9)) _).trans hk5; have hs5 := kk5.size; have br5 : Bx w5 (w.heap.size) 28 z10 := Bx.kp ((br4.other (by omega) 0 (.int .i64 9)).alloc _) hk5 (by omega); have lr5 := br5.lt; have bx5 : Bx w5 (w2.heap.size) 28 #[.int .i64 9, .string t, sZ, nZ, nZ, nZ, nZ, .bool false, iZ, nZ] := Bx.kp ((bx4.set 0 (.int .i64 9)).alloc _) hk5 (by omega); have lx5 := bx5.lt; have nrx5 : ¬ w.heap.size = w2.heap.size := (by omega); have nxr5 := Ne.symm nrx5)
  | (go_at_call 27; refine (took_yes hE (by decide) hb4 _ hP3 hr2).mono ?_; rintro e w4 ⟨rfl, hk4, hP4, hr4⟩; have kk4 := kk3.trans hk4; have hs4 := kk4.size; have br4 := Bx.kp br3 hk4 (by omega); have lr4 := br4.lt; have bx4 := Bx.kp bx3 hk4 (by omega); have lx4 := bx4.lt; have nrx4 : ¬ w.heap.size = w2.heap.size := (by omega); have nxr4 := Ne.symm nrx4; have cx4_0 := bx4.t0; have fx4_0 := bx4.open 0)
  | (go_at_call 27; refine (took_no hb3 _ (hP2.alloc _) hr2).mono ?_; rintro e w3 ⟨rfl, hk3, hP3⟩; have kk3 := (kp_alloc kk2 _).trans hk3; have hs3 := kk3.size; have br3 : Bx w3 (w.heap.size) 28 z10 := Bx.kp (br2.alloc _) hk3 (by omega); have lr3 := br3.lt; have bx3 : Bx w3 (w2.heap.size) 28 #[iZ, .string t, sZ, nZ, nZ, nZ, nZ, .bool false, iZ, nZ] := Bx.kp (Bx.newB (by simp) : Bx _ (w2.heap.size) 28 #[iZ, .string t, sZ, nZ, nZ, nZ, nZ, .bool false, iZ, nZ]) hk3 (by omega); have lx3 := bx3.lt; have nrx3 : ¬ w.heap.size = w2.heap.size := (by omega); have nxr3 := Ne.symm nrx3)
  | (go_at_call 55; refine (sqreadName_any hE _ hP1).mono ?_; intro e w2 hT2; obtain ⟨_, j2, rfl, hk2, hj2, hP2, hr2, rfl⟩ := tells_yes hT2 hr1 e2; have kk2 := kk1.trans hk2; have hs2 := kk2.size; have br2 := Bx.kp br1 hk2 (by omega); have lr2 := br2.lt)
  | (go_at_call 34; refine (take_1 hE (by decide) _ ((hP.alloc _).alloc _) (Bx.newB (by simp)) (by omega)).mono ?_; intro e w1 hT1; obtain ⟨_, j1, rfl, hk1, hj1, hP1, hr1, rfl⟩ := tells_yes hT1 rfl e1; have kk1 := (kp_alloc (kp_alloc (gr w g) _) _).trans hk1; have hs1 := kk1.size; have br1 : Bx w1 (w.heap.size) 28 z10 := Bx.kp ((Bx.newB (by simp) : Bx _ (w.heap.size) 28 z10).alloc _) hk1 (by omega); have lr1 := br1.lt))
 refine ⟨rfl, ?_⟩
 rw [HO.out]
 exact ⟨kk5.trans hk6, j6, (by omega), hP6, hr6, rfl⟩
theorem sqreadAlter_w10 {g : Nat} {v : Value} {l : List Tok} (hE : EndK l) {i : Nat}  {q1 : List TkC} {t : ByteArray} {q2 q5 : List TkC} {n : ByteArray} {q6 : List TkC} (e1 : takeR ⟨#[116, 97, 98, 108, 101]⟩ (rem l i) = (some (), q1)) (e2 : nameR q1 = (some t, q2)) (hb3 : isT ⟨#[97, 100, 100]⟩ q2 = false) (hb4 : isT ⟨#[100, 114, 111, 112]⟩ q2 = true) (e5 : takeR ⟨#[99, 111, 108, 117, 109, 110]⟩ q2.tail = (some (), q5)) (e6 : nameR q5 = (some n, q6)) (w : World) (hP : PAt g v l i w) :
  Calls Tryz.prog 35 #[.pointer (some ⟨g, 0, none⟩)] w (Tells g v l i w VX (alterR (rem l i))) := by
 have hg0 := hP.g_lt
 have HO : Hid (alterR (rem l i) = (some { Stm.zero with kind := 9, table := t, name := n }, q6)) := by
  unfold Hid
  simp only [alterR, addColumnR, dropColumnR, bnd, opt, ret, e1, e2, hb3, Bool.false_eq_true, if_false, hb4, if_true, e5, e6]
 go_enter Tryz.func35, Tryz.ntmps35
 go_wp2_with (first
  | (go_at_call 55; refine (sqreadName_any hE _ hP5).mono ?_; intro e w6 hT6; obtain ⟨_, j6, rfl, hk6, hj6, hP6, hr6, rfl⟩ := tells_yes hT6 hr5 e6; have kk6 := kk5.trans hk6; have hs6 := kk6.size; have br6 := Bx.kp br5 hk6 (by omega); have lr6 := br6.lt; have bx6 := Bx.kp bx5 hk6 (by omega); have lx6 := bx6.lt; have nrx6 : ¬ w.heap.size = w2.heap.size := (by omega); have nxr6 := Ne.symm nrx6; have cx6_2 := bx6.t2; have fx6_2 := bx6.open 2; have cx6_0 := bx6.t0; have cx6_1 := bx6.t1; have cx6_3 := bx6.t3; have cx6_4 := bx6.t4; have cx6_5 := bx6.t5; have cx6_6 := bx6.t6; have cx6_7 := bx6.t7; have cx6_8 := bx6.t8; have cx6_9 := bx6.t9; obtain ⟨cr6_0, cr6_1, cr6_2, cr6_3, cr6_4, cr6_5, cr6_6, cr6_7, cr6_8, cr6_9⟩ := br6.ten; obtain ⟨fr6_0, fr6_1, fr6_2, fr6_3, fr6_4, fr6_5, fr6_6, fr6_7, fr6_8, fr6_9⟩ := br6.tenO)
  | (go_at_call 34; refine (take_1 hE (by decide) _ ((hP4.set bx4 (by decide) (by omega) 0 (.int .i64 9)).alloc _) (Bx.newB (by simp)) (by omega)).mono ?_; intro e w5 hT5; obtain ⟨_, j5, rfl, hk5, hj5, hP5, hr5, rfl⟩ := tells_yes hT5 hr4 e5; have kk5 := (kp_alloc (kp_set kk4 (by omega) 0 (.int .i64 9)) _).trans hk5; have hs5 := kk5.size; have br5 : Bx w5 (w.heap.size) 28 z10 := Bx.kp ((br4.other (by omega) 0 (.int .i64 9)).alloc _) hk5 (by omega); have lr5 := br5.lt; have bx5 : Bx w5 (w2.heap.size) 28 #[.int .i64 9, .string t, sZ, nZ, nZ, nZ, nZ, .bool false, iZ, nZ] := Bx.kp ((bx4.set 0 (.int .i64 9)).alloc _) hk5 (by omega); have lx5 := bx5.lt; have nrx5 : ¬ w.heap.size = w2.heap.size := (by omega); have nxr5 := Ne.symm nrx5)
  | (go_at_call 27; refine (took_yes hE (by decide) hb4 _ hP3 hr2).mono ?_; rintro e w4 ⟨rfl, hk4, hP4, hr4⟩; have kk4 := kk3.trans hk4; have hs4 := kk4.size; have br4 := Bx.kp br3 hk4 (by omega); have lr4 := br4.lt; have bx4 := Bx.kp bx3 hk4 (by omega); have lx4 := bx4.lt; have nrx4 : ¬ w.heap.size = w2.heap.size := (by omega); have nxr4 := Ne.symm nrx4; have cx4_0 := bx4.t0; have fx4_0 := bx4.open 0)
  | (go_at_call 27; refine (took_no hb3 _ (hP2.alloc _) hr2).mono ?_; rintro e w3 ⟨rfl, hk3, hP3⟩; have kk3 := (kp_alloc kk2 _).trans hk3; have hs3 := kk3.size; have br3 : Bx w3 (w.heap.size) 28 z10 := Bx.kp (br2.alloc _) hk3 (by omega); have lr3 := br3.lt; have bx3 : Bx w3 (w2.heap.size) 28 #[iZ, .string t, sZ, nZ, nZ, nZ, nZ, .bool false, iZ, nZ] := Bx.kp (Bx.newB (by simp) : Bx _ (w2.heap.size) 28 #[iZ, .string t, sZ, nZ, nZ, nZ, nZ, .bool false, iZ, nZ]) hk3 (by omega); have lx3 := bx3.lt; have nrx3 : ¬ w.heap.size = w2.heap.size := (by omega); have nxr3 := Ne.symm nrx3)
  | (go_at_call 55; refine (sqreadName_any hE _ hP1).mono ?_; intro e w2 hT2; obtain ⟨_, j2, rfl, hk2, hj2, hP2, hr2, rfl⟩ := tells_yes hT2 hr1 e2; have kk2 := kk1.trans hk2; have hs2 := kk2.size; have br2 := Bx.kp br1 hk2 (by omega); have lr2 := br2.lt)
  | (go_at_call 34; refine (take_1 hE (by decide) _ ((hP.alloc _).alloc _) (Bx.newB (by simp)) (by omega)).mono ?_; intro e w1 hT1; obtain ⟨_, j1, rfl, hk1, hj1, hP1, hr1, rfl⟩ := tells_yes hT1 rfl e1; have kk1 := (kp_alloc (kp_alloc (gr w g) _) _).trans hk1; have hs1 := kk1.size; have br1 : Bx w1 (w.heap.size) 28 z10 := Bx.kp ((Bx.newB (by simp) : Bx _ (w.heap.size) 28 z10).alloc _) hk1 (by omega); have lr1 := br1.lt))
 refine bodyPost_ret (v := .agg #[.int .i64 9, .string t, .string n, .slice none 0 0, .slice none 0 0, .slice none 0 0, .slice none 0 0, .bool false, .int .i64 0, .slice none 0 0]) (by simp [results, Tryz.results35, go_sem, cr6_0, cr6_1, cr6_2, cr6_3, cr6_4, cr6_5, cr6_6, cr6_7, cr6_8, cr6_9]) rfl ?_
 rw [HO.out]
 exact ⟨(kp_sets (kp_set kk6 (by omega) 2 (.string n)) (by omega) 0 [.int .i64 9, .string t, .string n, .slice none 0 0, .slice none 0 0, .slice none 0 0, .slice none 0 0, .bool false, .int .i64 0, .slice none 0 0]), j6, (by omega), (PAt.sets (hP6.set bx6 (by decide) (by omega) 2 (.string n)) (br6.other (by omega) 2 (.string n)) (by decide) (by omega) 0 [.int .i64 9, .string t, .string n, .slice none 0 0, .slice none 0 0, .slice none 0 0, .slice none 0 0, .bool false, .int .i64 0, .slice none 0 0]), hr6, _, rfl, ⟨⟨none, 0, none, 0, none, 0, none, 0, none, 0⟩, rfl, ⟨World.ownsRow_nil _ _ _ _, World.ownsRow_nil _ _ _ _, World.ownsRow_nil _ _ _ _, World.ownsRow_nil _ _ _ _, World.ownsRow_nil _ _ _ _⟩⟩⟩
theorem sqreadAlter_w11 {g : Nat} {v : Value} {l : List Tok} (hE : EndK l) {i : Nat}  {q1 : List TkC} {t : ByteArray} {q2 q5 : List TkC} (e1 : takeR ⟨#[116, 97, 98, 108, 101]⟩ (rem l i) = (some (), q1)) (e2 : nameR q1 = (some t, q2)) (hb3 : isT ⟨#[97, 100, 100]⟩ q2 = false) (hb4 : isT ⟨#[100, 114, 111, 112]⟩ q2 = false) (e5 : takesR [⟨#[97, 108, 116, 101, 114]⟩, ⟨#[99, 111, 108, 117, 109, 110]⟩] q2 = (none, q5)) (w : World) (hP : PAt g v l i w) :
  Calls Tryz.prog 35 #[.pointer (some ⟨g, 0, none⟩)] w (Tells g v l i w VX (alterR (rem l i))) := by
 have hg0 := hP.g_lt
 have HO : Hid (alterR (rem l i) = (none, q5)) := by
  unfold Hid
  simp only [alterR, addColumnR, dropColumnR, bnd, opt, ret, e1, e2, hb3, Bool.false_eq_true, if_false, hb4, e5]
 go_enter Tryz.func35, Tryz.ntmps35
 go_wp2_with (first
  | (go_at_call 34; refine (take_2 hE (by decide) (by decide) _ (hP4.alloc _) (Bx.newB (by simp)) (by omega)).mono ?_; intro e w5 hT5; obtain ⟨j5, rfl, hk5, hj5, hP5, hr5⟩ := tells_no hT5 hr2 e5)
  | (go_at_call 27; refine (took_no hb4 _ hP3 hr2).mono ?_; rintro e w4 ⟨rfl, hk4, hP4⟩; have kk4 := kk3.trans hk4; have hs4 := kk4.size; have br4 := Bx.kp br3 hk4 (by omega); have lr4 := br4.lt; have bx4 := Bx.kp bx3 hk4 (by omega); have lx4 := bx4.lt; have nrx4 : ¬ w.heap.size = w2.heap.size := (by omega); have nxr4 := Ne.symm nrx4)
  | (go_at_call 27; refine (took_no hb3 _ (hP2.alloc _) hr2).mono ?_; rintro e w3 ⟨rfl, hk3, hP3⟩; have kk3 := (kp_alloc kk2 _).trans hk3; have hs3 := kk3.size; have br3 : Bx w3 (w.heap.size) 28 z10 := Bx.kp (br2.alloc _) hk3 (by omega); have lr3 := br3.lt; have bx3 : Bx w3 (w2.heap.size) 28 #[iZ, .string t, sZ, nZ, nZ, nZ, nZ, .bool false, iZ, nZ] := Bx.kp (Bx.newB (by simp) : Bx _ (w2.heap.size) 28 #[iZ, .string t, sZ, nZ, nZ, nZ, nZ, .bool false, iZ, nZ]) hk3 (by omega); have lx3 := bx3.lt; have nrx3 : ¬ w.heap.size = w2.heap.size := (by omega); have nxr3 := Ne.symm nrx3)
  | (go_at_call 55; refine (sqreadName_any hE _ hP1).mono ?_; intro e w2 hT2; obtain ⟨_, j2, rfl, hk2, hj2, hP2, hr2, rfl⟩ := tells_yes hT2 hr1 e2; have kk2 := kk1.trans hk2; have hs2 := kk2.size; have br2 := Bx.kp br1 hk2 (by omega); have lr2 := br2.lt)
  | (go_at_call 34; refine (take_1 hE (by decide) _ ((hP.alloc _).alloc _) (Bx.newB (by simp)) (by omega)).mono ?_; intro e w1 hT1; obtain ⟨_, j1, rfl, hk1, hj1, hP1, hr1, rfl⟩ := tells_yes hT1 rfl e1; have kk1 := (kp_alloc (kp_alloc (gr w g) _) _).trans hk1; have hs1 := kk1.size; have br1 : Bx w1 (w.heap.size) 28 z10 := Bx.kp ((Bx.newB (by simp) : Bx _ (w.heap.size) 28 z10).alloc _) hk1 (by omega); have lr1 := br1.lt))
 refine ⟨rfl, ?_⟩
 rw [HO.out]
 exact ⟨(kp_alloc kk4 _).trans hk5, j5, (by omega), hP5, hr5, rfl⟩
theorem sqreadAlter_w12 {g : Nat} {v : Value} {l : List Tok} (hE : EndK l) {i : Nat}  {q1 : List TkC} {t : ByteArray} {q2 q5 q6 : List TkC} (e1 : takeR ⟨#[116, 97, 98, 108, 101]⟩ (rem l i) = (some (), q1)) (e2 : nameR q1 = (some t, q2)) (hb3 : isT ⟨#[97, 100, 100]⟩ q2 = false) (hb4 : isT ⟨#[100, 114, 111, 112]⟩ q2 = false) (e5 : takesR [⟨#[97, 108, 116, 101, 114]⟩, ⟨#[99, 111, 108, 117, 109, 110]⟩] q2 = (some (), q5)) (e6 : nameR q5 = (none, q6)) (w : World) (hP : PAt g v l i w) :
  Calls Tryz.prog 35 #[.pointer (some ⟨g, 0, none⟩)] w (Tells g v l i w VX (alterR (rem l i))) := by
 have hg0 := hP.g_lt
 have HO : Hid (alterR (rem l i) = (none, q6)) := by
  unfold Hid
  simp only [alterR, addColumnR, dropColumnR, bnd, opt, ret, e1, e2, hb3, Bool.false_eq_true, if_false, hb4, e5, e6]
 go_enter Tryz.func35, Tryz.ntmps35
 go_wp2_with (first
  | (go_at_call 55; refine (sqreadName_any hE _ hP5).mono ?_; intro e w6 hT6; obtain ⟨j6, rfl, hk6, hj6, hP6, hr6⟩ := tells_no hT6 hr5 e6)
  | (go_at_call 34; refine (take_2 hE (by decide) (by decide) _ (hP4.alloc _) (Bx.newB (by simp)) (by omega)).mono ?_; intro e w5 hT5; obtain ⟨_, j5, rfl, hk5, hj5, hP5, hr5, rfl⟩ := tells_yes hT5 hr2 e5; have kk5 := (kp_alloc kk4 _).trans hk5; have hs5 := kk5.size; have br5 : Bx w5 (w.heap.size) 28 z10 := Bx.kp (br4.alloc _) hk5 (by omega); have lr5 := br5.lt; have bx5 : Bx w5 (w2.heap.size) 28 #[iZ, .string t, sZ, nZ, nZ, nZ, nZ, .bool false, iZ, nZ] := Bx.kp (bx4.alloc _) hk5 (by omega); have lx5 := bx5.lt; have nrx5 : ¬ w.heap.size = w2.heap.size := (by omega); have nxr5 := Ne.symm nrx5)
  | (go_at_call 27; refine (took_no hb4 _ hP3 hr2).mono ?_; rintro e w4 ⟨rfl, hk4, hP4⟩; have kk4 := kk3.trans hk4; have hs4 := kk4.size; have br4 := Bx.kp br3 hk4 (by omega); have lr4 := br4.lt; have bx4 := Bx.kp bx3 hk4 (by omega); have lx4 := bx4.lt; have nrx4 : ¬ w.heap.size = w2.heap.size := (by omega); have nxr4 := Ne.symm nrx4)
  | (go_at_call 27; refine (took_no hb3 _ (hP2.alloc _) hr2).mono ?_; rintro e w3 ⟨rfl, hk3, hP3⟩; have kk3 := (kp_alloc kk2 _).trans hk3; have hs3 := kk3.size; have br3 : Bx w3 (w.heap.size) 28 z10 := Bx.kp (br2.alloc _) hk3 (by omega); have lr3 := br3.lt; have bx3 : Bx w3 (w2.heap.size) 28 #[iZ, .string t, sZ, nZ, nZ, nZ, nZ, .bool false, iZ, nZ] := Bx.kp (Bx.newB (by simp) : Bx _ (w2.heap.size) 28 #[iZ, .string t, sZ, nZ, nZ, nZ, nZ, .bool false, iZ, nZ]) hk3 (by omega); have lx3 := bx3.lt; have nrx3 : ¬ w.heap.size = w2.heap.size := (by omega); have nxr3 := Ne.symm nrx3)
  | (go_at_call 55; refine (sqreadName_any hE _ hP1).mono ?_; intro e w2 hT2; obtain ⟨_, j2, rfl, hk2, hj2, hP2, hr2, rfl⟩ := tells_yes hT2 hr1 e2; have kk2 := kk1.trans hk2; have hs2 := kk2.size; have br2 := Bx.kp br1 hk2 (by omega); have lr2 := br2.lt)
  | (go_at_call 34; refine (take_1 hE (by decide) _ ((hP.alloc _).alloc _) (Bx.newB (by simp)) (by omega)).mono ?_; intro e w1 hT1; obtain ⟨_, j1, rfl, hk1, hj1, hP1, hr1, rfl⟩ := tells_yes hT1 rfl e1; have kk1 := (kp_alloc (kp_alloc (gr w g) _) _).trans hk1; have hs1 := kk1.size; have br1 : Bx w1 (w.heap.size) 28 z10 := Bx.kp ((Bx.newB (by simp) : Bx _ (w.heap.size) 28 z10).alloc _) hk1 (by omega); have lr1 := br1.lt))
 refine ⟨rfl, ?_⟩
 rw [HO.out]
 exact ⟨kk5.trans hk6, j6, (by omega), hP6, hr6, rfl⟩
theorem sqreadAlter_w13 {g : Nat} {v : Value} {l : List Tok} (hE : EndK l) {i : Nat}  {q1 : List TkC} {t : ByteArray} {q2 q5 : List TkC} {n : ByteArray} {q6 q7 : List TkC} (e1 : takeR ⟨#[116, 97, 98, 108, 101]⟩ (rem l i) = (some (), q1)) (e2 : nameR q1 = (some t, q2)) (hb3 : isT ⟨#[97, 100, 100]⟩ q2 = false) (hb4 : isT ⟨#[100, 114, 111, 112]⟩ q2 = false) (e5 : takesR [⟨#[97, 108, 116, 101, 114]⟩, ⟨#[99, 111, 108, 117, 109, 110]⟩] q2 = (some (), q5)) (e6 : nameR q5 = (some n, q6)) (e7 : nullR q6 = (none, q7)) (w : World) (hP : PAt g v l i w) :
  Calls Tryz.prog 35 #[.pointer (some ⟨g, 0, none⟩)] w (Tells g v l i w VX (alterR (rem l i))) := by
 have hg0 := hP.g_lt
 have HO : Hid (alterR (rem l i) = (none, q7)) := by
  unfold Hid
  simp only [alterR, addColumnR, dropColumnR, bnd, opt, ret, e1, e2, hb3, Bool.false_eq_true, if_false, hb4, e5, e6, e7]
 go_enter Tryz.func35, Tryz.ntmps35
 go_wp2_with (first
  | (go_at_call 66; refine (sqreadNull_any hE _ (hP6.set bx6 (by decide) (by omega) 2 (.string n))).mono ?_; intro e w7 hT7; obtain ⟨j7, rfl, hk7, hj7, hP7, hr7⟩ := tells_no hT7 hr6 e7)
  | (go_at_call 55; refine (sqreadName_any hE _ hP5).mono ?_; intro e w6 hT6; obtain ⟨_, j6, rfl, hk6, hj6, hP6, hr6, rfl⟩ := tells_yes hT6 hr5 e6; have kk6 := kk5.trans hk6; have hs6 := kk6.size; have br6 := Bx.kp br5 hk6 (by omega); have lr6 := br6.lt; have bx6 := Bx.kp bx5 hk6 (by omega); have lx6 := bx6.lt; have nrx6 : ¬ w.heap.size = w2.heap.size := (by omega); have nxr6 := Ne.symm nrx6; have cx6_2 := bx6.t2; have fx6_2 := bx6.open 2)
  | (go_at_call 34; refine (take_2 hE (by decide) (by decide) _ (hP4.alloc _) (Bx.newB (by simp)) (by omega)).mono ?_; intro e w5 hT5; obtain ⟨_, j5, rfl, hk5, hj5, hP5, hr5, rfl⟩ := tells_yes hT5 hr2 e5; have kk5 := (kp_alloc kk4 _).trans hk5; have hs5 := kk5.size; have br5 : Bx w5 (w.heap.size) 28 z10 := Bx.kp (br4.alloc _) hk5 (by omega); have lr5 := br5.lt; have bx5 : Bx w5 (w2.heap.size) 28 #[iZ, .string t, sZ, nZ, nZ, nZ, nZ, .bool false, iZ, nZ] := Bx.kp (bx4.alloc _) hk5 (by omega); have lx5 := bx5.lt; have nrx5 : ¬ w.heap.size = w2.heap.size := (by omega); have nxr5 := Ne.symm nrx5)
  | (go_at_call 27; refine (took_no hb4 _ hP3 hr2).mono ?_; rintro e w4 ⟨rfl, hk4, hP4⟩; have kk4 := kk3.trans hk4; have hs4 := kk4.size; have br4 := Bx.kp br3 hk4 (by omega); have lr4 := br4.lt; have bx4 := Bx.kp bx3 hk4 (by omega); have lx4 := bx4.lt; have nrx4 : ¬ w.heap.size = w2.heap.size := (by omega); have nxr4 := Ne.symm nrx4)
  | (go_at_call 27; refine (took_no hb3 _ (hP2.alloc _) hr2).mono ?_; rintro e w3 ⟨rfl, hk3, hP3⟩; have kk3 := (kp_alloc kk2 _).trans hk3; have hs3 := kk3.size; have br3 : Bx w3 (w.heap.size) 28 z10 := Bx.kp (br2.alloc _) hk3 (by omega); have lr3 := br3.lt; have bx3 : Bx w3 (w2.heap.size) 28 #[iZ, .string t, sZ, nZ, nZ, nZ, nZ, .bool false, iZ, nZ] := Bx.kp (Bx.newB (by simp) : Bx _ (w2.heap.size) 28 #[iZ, .string t, sZ, nZ, nZ, nZ, nZ, .bool false, iZ, nZ]) hk3 (by omega); have lx3 := bx3.lt; have nrx3 : ¬ w.heap.size = w2.heap.size := (by omega); have nxr3 := Ne.symm nrx3)
  | (go_at_call 55; refine (sqreadName_any hE _ hP1).mono ?_; intro e w2 hT2; obtain ⟨_, j2, rfl, hk2, hj2, hP2, hr2, rfl⟩ := tells_yes hT2 hr1 e2; have kk2 := kk1.trans hk2; have hs2 := kk2.size; have br2 := Bx.kp br1 hk2 (by omega); have lr2 := br2.lt)
  | (go_at_call 34; refine (take_1 hE (by decide) _ ((hP.alloc _).alloc _) (Bx.newB (by simp)) (by omega)).mono ?_; intro e w1 hT1; obtain ⟨_, j1, rfl, hk1, hj1, hP1, hr1, rfl⟩ := tells_yes hT1 rfl e1; have kk1 := (kp_alloc (kp_alloc (gr w g) _) _).trans hk1; have hs1 := kk1.size; have br1 : Bx w1 (w.heap.size) 28 z10 := Bx.kp ((Bx.newB (by simp) : Bx _ (w.heap.size) 28 z10).alloc _) hk1 (by omega); have lr1 := br1.lt))
 refine ⟨rfl, ?_⟩
 rw [HO.out]
 exact ⟨(kp_set kk6 (by omega) 2 (.string n)).trans hk7, j7, (by omega), hP7, hr7, rfl⟩
theorem sqreadAlter_w14 {g : Nat} {v : Value} {l : List Tok} (hE : EndK l) {i : Nat}  {q1 : List TkC} {t : ByteArray} {q2 q5 : List TkC} {n : ByteArray} {q6 : List TkC} {k : Int} {q7 : List TkC} (e1 : takeR ⟨#[116, 97, 98, 108, 101]⟩ (rem l i) = (some (), q1)) (e2 : nameR q1 = (some t, q2)) (hb3 : isT ⟨#[97, 100, 100]⟩ q2 = false) (hb4 : isT ⟨#[100, 114, 111, 112]⟩ q2 = false) (e5 : takesR [⟨#[97, 108, 116, 101, 114]⟩, ⟨#[99, 111, 108, 117, 109, 110]⟩] q2 = (some (), q5)) (e6 : nameR q5 = (some n, q6)) (e7 : nullR q6 = (some k, q7)) (w : World) (hP : PAt g v l i w) :
  Calls Tryz.prog 35 #[.pointer (some ⟨g, 0, none⟩)] w (Tells g v l i w VX (alterR (rem l i))) := by
 have hg0 := hP.g_lt
 have HO : Hid (alterR (rem l i) = (some { Stm.zero with kind := k, table := t, name := n }, q7)) := by
  unfold Hid
  simp only [alterR, addColumnR, dropColumnR, bnd, opt, ret, e1, e2, hb3, Bool.false_eq_true, if_false, hb4, e5, e6, e7]
 go_enter Tryz.func35, Tryz.ntmps35
 go_wp2_with (first
  | (go_at_call 66; refine (sqreadNull_any hE _ (hP6.set bx6 (by decide) (by omega) 2 (.string n))).mono ?_; intro e w7 hT7; obtain ⟨_, j7, rfl, hk7, hj7, hP7, hr7, rfl⟩ := tells_yes hT7 hr6 e7; have kk7 := (kp_set kk6 (by omega) 2 (.string n)).trans hk7; have hs7 := kk7.size; have br7 : Bx w7 (w.heap.size) 28 z10 := Bx.kp (br6.other (by omega) 2 (.string n)) hk7 (by omega); have lr7 := br7.lt; have bx7 : Bx w7 (w2.heap.size) 28 #[iZ, .string t, .string n, nZ, nZ, nZ, nZ, .bool false, iZ, nZ] := Bx.kp (bx6.set 2 (.string n)) hk7 (by omega); have lx7 := bx7.lt; have nrx7 : ¬ w.heap.size = w2.heap.size := (by omega); have nxr7 := Ne.symm nrx7; obtain ⟨cx7_0, cx7_1, cx7_2, cx7_3, cx7_4, cx7_5, cx7_6, cx7_7, cx7_8, cx7_9⟩ := bx7.ten; have fx7_0 := bx7.open 0; obtain ⟨cr7_0, cr7_1, cr7_2, cr7_3, cr7_4, cr7_5, cr7_6, cr7_7, cr7_8, cr7_9⟩ := br7.ten; obtain ⟨fr7_0, fr7_1, fr7_2, fr7_3, fr7_4, fr7_5, fr7_6, fr7_7, fr7_8, fr7_9⟩ := br7.tenO)
  | (go_at_call 55; refine (sqreadName_any hE _ hP5).mono ?_; intro e w6 hT6; obtain ⟨_, j6, rfl, hk6, hj6, hP6, hr6, rfl⟩ := tells_yes hT6 hr5 e6; have kk6 := kk5.trans hk6; have hs6 := kk6.size; have br6 := Bx.kp br5 hk6 (by omega); have lr6 := br6.lt; have bx6 := Bx.kp bx5 hk6 (by omega); have lx6 := bx6.lt; have nrx6 : ¬ w.heap.size = w2.heap.size := (by omega); have nxr6 := Ne.symm nrx6; have cx6_2 := bx6.t2; have fx6_2 := bx6.open 2)
  | (go_at_call 34; refine (take_2 hE (by decide) (by decide) _ (hP4.alloc _) (Bx.newB (by simp)) (by omega)).mono ?_; intro e w5 hT5; obtain ⟨_, j5, rfl, hk5, hj5, hP5, hr5, rfl⟩ := tells_yes hT5 hr2 e5; have kk5 := (kp_alloc kk4 _).trans hk5; have hs5 := kk5.size; have br5 : Bx w5 (w.heap.size) 28 z10 := Bx.kp (br4.alloc _) hk5 (by omega); have lr5 := br5.lt; have bx5 : Bx w5 (w2.heap.size) 28 #[iZ, .string t, sZ, nZ, nZ, nZ, nZ, .bool false, iZ, nZ] := Bx.kp (bx4.alloc _) hk5 (by omega); have lx5 := bx5.lt; have nrx5 : ¬ w.heap.size = w2.heap.size := (by omega); have nxr5 := Ne.symm nrx5)
  | (go_at_call 27; refine (took_no hb4 _ hP3 hr2).mono ?_; rintro e w4 ⟨rfl, hk4, hP4⟩; have kk4 := kk3.trans hk4; have hs4 := kk4.size; have br4 := Bx.kp br3 hk4 (by omega); have lr4 := br4.lt; have bx4 := Bx.kp bx3 hk4 (by omega); have lx4 := bx4.lt; have nrx4 : ¬ w.heap.size = w2.heap.size := (by omega); have nxr4 := Ne.symm nrx4)
  | (go_at_call 27; refine (took_no hb3 _ (hP2.alloc _) hr2).mono ?_; rintro e w3 ⟨rfl, hk3, hP3⟩; have kk3 := (kp_alloc kk2 _).trans hk3; have hs3 := kk3.size; have br3 : Bx w3 (w.heap.size) 28 z10 := Bx.kp (br2.alloc _) hk3 (by omega); have lr3 := br3.lt; have bx3 : Bx w3 (w2.heap.size) 28 #[iZ, .string t, sZ, nZ, nZ, nZ, nZ, .bool false, iZ, nZ] := Bx.kp (Bx.newB (by simp) : Bx _ (w2.heap.size) 28 #[iZ, .string t, sZ, nZ, nZ, nZ, nZ, .bool false, iZ, nZ]) hk3 (by omega); have lx3 := bx3.lt; have nrx3 : ¬ w.heap.size = w2.heap.size := (by omega); have nxr3 := Ne.symm nrx3)
  | (go_at_call 55; refine (sqreadName_any hE _ hP1).mono ?_; intro e w2 hT2; obtain ⟨_, j2, rfl, hk2, hj2, hP2, hr2, rfl⟩ := tells_yes hT2 hr1 e2; have kk2 := kk1.trans hk2; have hs2 := kk2.size; have br2 := Bx.kp br1 hk2 (by omega); have lr2 := br2.lt)
  | (go_at_call 34; refine (take_1 hE (by decide) _ ((hP.alloc _).alloc _) (Bx.newB (by simp)) (by omega)).mono ?_; intro e w1 hT1; obtain ⟨_, j1, rfl, hk1, hj1, hP1, hr1, rfl⟩ := tells_yes hT1 rfl e1; have kk1 := (kp_alloc (kp_alloc (gr w g) _) _).trans hk1; have hs1 := kk1.size; have br1 : Bx w1 (w.heap.size) 28 z10 := Bx.kp ((Bx.newB (by simp) : Bx _ (w.heap.size) 28 z10).alloc _) hk1 (by omega); have lr1 := br1.lt))
 refine bodyPost_ret (v := .agg #[.int .i64 k, .string t, .string n, .slice none 0 0, .slice none 0 0, .slice none 0 0, .slice none 0 0, .bool false, .int .i64 0, .slice none 0 0]) (by simp [results, Tryz.results35, go_sem, cr7_0, cr7_1, cr7_2, cr7_3, cr7_4, cr7_5, cr7_6, cr7_7, cr7_8, cr7_9]) rfl ?_
 rw [HO.out]
 exact ⟨(kp_sets (kp_set kk7 (by omega) 0 (.int .i64 k)) (by omega) 0 [.int .i64 k, .string t, .string n, .slice none 0 0, .slice none 0 0, .slice none 0 0, .slice none 0 0, .bool false, .int .i64 0, .slice none 0 0]), j7, (by omega), (PAt.sets (hP7.set bx7 (by decide) (by omega) 0 (.int .i64 k)) (br7.other (by omega) 0 (.int .i64 k)) (by decide) (by omega) 0 [.int .i64 k, .string t, .string n, .slice none 0 0, .slice none 0 0, .slice none 0 0, .slice none 0 0, .bool false, .int .i64 0, .slice none 0 0]), hr7, _, rfl, ⟨⟨none, 0, none, 0, none, 0, none, 0, none, 0⟩, rfl, ⟨World.ownsRow_nil _ _ _ _, World.ownsRow_nil _ _ _ _, World.ownsRow_nil _ _ _ _, World.ownsRow_nil _ _ _ _, World.ownsRow_nil _ _ _ _⟩⟩⟩
theorem sqreadAlter_any {g : Nat} {v : Value} {l : List Tok} (hE : EndK l) {i : Nat}  (w : World) (hP : PAt g v l i w) :
  Calls Tryz.prog 35 #[.pointer (some ⟨g, 0, none⟩)] w (Tells g v l i w VX (alterR (rem l i))) := by
 rcases e1 : takeR ⟨#[116, 97, 98, 108, 101]⟩ (rem l i) with ⟨o1, q1⟩
 cases o1 with
 | none =>
  exact sqreadAlter_w0 hE e1 w hP
 | some a1 =>
  cases a1
  rcases e2 : nameR q1 with ⟨o2, q2⟩
  cases o2 with
  | none =>
   exact sqreadAlter_w1 hE e1 e2 w hP
  | some t =>
   rcases Bool.eq_false_or_eq_true (isT ⟨#[97, 100, 100]⟩ q2) with hb3 | hb3
   ·rcases e4 : takeR ⟨#[99, 111, 108, 117, 109, 110]⟩ q2.tail with ⟨o4, q4⟩
    cases o4 with
    | none =>
     exact sqreadAlter_w2 hE e1 e2 hb3 e4 w hP
    | some a4 =>
     cases a4
     rcases e5 : nameR q4 with ⟨o5, q5⟩
     cases o5 with
     | none =>
      exact sqreadAlter_w3 hE e1 e2 hb3 e4 e5 w hP
     | some n =>
      rcases e6 : typeR q5 with ⟨o6, q6⟩
      cases o6 with
      | none =>
       exact sqreadAlter_w4 hE e1 e2 hb3 e4 e5 e6 w hP
      | some k =>
       rcases Bool.eq_false_or_eq_true (isT ⟨#[100, 101, 102, 97, 117, 108, 116]⟩ q6) with hb7 | hb7
       ·rcases e8 : valueR q6.tail with ⟨o8, q8⟩
        cases o8 with
        | none =>
         exact sqreadAlter_w5 hE e1 e2 hb3 e4 e5 e6 hb7 e8 w hP
        | some a8 =>
         obtain ⟨vk, vn, vf, vs⟩ := a8
         exact sqreadAlter_w6 hE e1 e2 hb3 e4 e5 e6 hb7 e8 w hP
       ·exact sqreadAlter_w7 hE e1 e2 hb3 e4 e5 e6 hb7 w hP
   ·rcases Bool.eq_false_or_eq_true (isT ⟨#[100, 114, 111, 112]⟩ q2) with hb4 | hb4
    ·rcases e5 : takeR ⟨#[99, 111, 108, 117, 109, 110]⟩ q2.tail with ⟨o5, q5⟩
     cases o5 with
     | none =>
      exact sqreadAlter_w8 hE e1 e2 hb3 hb4 e5 w hP
     | some a5 =>
      cases a5
      rcases e6 : nameR q5 with ⟨o6, q6⟩
      cases o6 with
      | none =>
       exact sqreadAlter_w9 hE e1 e2 hb3 hb4 e5 e6 w hP
      | some n =>
       exact sqreadAlter_w10 hE e1 e2 hb3 hb4 e5 e6 w hP
    ·rcases e5 : takesR [⟨#[97, 108, 116, 101, 114]⟩, ⟨#[99, 111, 108, 117, 109, 110]⟩] q2 with ⟨o5, q5⟩
     cases o5 with
     | none =>
      exact sqreadAlter_w11 hE e1 e2 hb3 hb4 e5 w hP
     | some a5 =>
      cases a5
      rcases e6 : nameR q5 with ⟨o6, q6⟩
      cases o6 with
      | none =>
       exact sqreadAlter_w12 hE e1 e2 hb3 hb4 e5 e6 w hP
      | some n =>
       rcases e7 : nullR q6 with ⟨o7, q7⟩
       cases o7 with
       | none =>
        exact sqreadAlter_w13 hE e1 e2 hb3 hb4 e5 e6 e7 w hP
       | some k =>
        exact sqreadAlter_w14 hE e1 e2 hb3 hb4 e5 e6 e7 w hP
theorem sqreadStmt_w0 {g : Nat} {v : Value} {l : List Tok} (hE : EndK l) {i : Nat}  {q2 : List TkC} (hb1 : isT ⟨#[105, 110, 115, 101, 114, 116]⟩ (rem l i) = true) (e2 : insertR (rem l i).tail = (none, q2)) (w : World) (hP : PAt g v l i w) :
  Calls Tryz.prog 12 #[.pointer (some ⟨g, 0, none⟩)] w (Tells g v l i w VX (stmtR (rem l i))) := by
 have hg0 := hP.g_lt
 have HO : Hid (stmtR (rem l i) = (none, q2)) := by
  unfold Hid
  simp only [stmtR, bnd, opt, ret, hb1, if_true, e2]
 go_enter Tryz.func12, Tryz.ntmps12
 go_wp2_with (first
  | (go_at_call 28; refine (sqreadInsert_any hE _ hP1).mono ?_; intro e w2 hT2; obtain ⟨j2, rfl, hk2, hj2, hP2, hr2⟩ := tells_no hT2 hr1 e2)
  | (go_at_call 27; refine (took_yes hE (by decide) hb1 _ (hP.alloc _) rfl).mono ?_; rintro e w1 ⟨rfl, hk1, hP1, hr1⟩; have kk1 := (kp_alloc (gr w g) _).trans hk1; have hs1 := kk1.size; have br1 : Bx w1 (w.heap.size) 28 z10 := Bx.kp (Bx.newB (by simp) : Bx _ (w.heap.size) 28 z10) hk1 (by omega); have lr1 := br1.lt))
 refine ⟨rfl, ?_⟩
 rw [HO.out]
 exact ⟨kk1.trans hk2, j2, (by omega), hP2, hr2, rfl⟩
theorem sqreadStmt_w1 {g : Nat} {v : Value} {l : List Tok} (hE : EndK l) {i : Nat}  {x : Stm} {q2 : List TkC} (hb1 : isT ⟨#[105, 110, 115, 101, 114, 116]⟩ (rem l i) = true) (e2 : insertR (rem l i).tail = (some x, q2)) (w : World) (hP : PAt g v l i w) :
  Calls Tryz.prog 12 #[.pointer (some ⟨g, 0, none⟩)] w (Tells g v l i w VX (stmtR (rem l i))) := by
 have hg0 := hP.g_lt
 have HO : Hid (stmtR (rem l i) = (some x, q2)) := by
  unfold Hid
  simp only [stmtR, bnd, opt, ret, hb1, if_true, e2]
 go_enter Tryz.func12, Tryz.ntmps12
 go_wp2_with (first
  | (go_at_call 28; refine (sqreadInsert_any hE _ hP1).mono ?_; intro e w2 hT2; obtain ⟨u2, j2, rfl, hk2, hj2, hP2, hr2, hV2⟩ := tells_yes hT2 hr1 e2; obtain ⟨t2, hu2, hO2⟩ := hV2; subst hu2; replace hO2 := hO2.mono kk1.size; have kk2 := kk1.trans hk2; have hs2 := kk2.size; have br2 := Bx.kp br1 hk2 (by omega); have lr2 := br2.lt; obtain ⟨cr2_0, cr2_1, cr2_2, cr2_3, cr2_4, cr2_5, cr2_6, cr2_7, cr2_8, cr2_9⟩ := br2.ten; obtain ⟨fr2_0, fr2_1, fr2_2, fr2_3, fr2_4, fr2_5, fr2_6, fr2_7, fr2_8, fr2_9⟩ := br2.tenO)
  | (go_at_call 27; refine (took_yes hE (by decide) hb1 _ (hP.alloc _) rfl).mono ?_; rintro e w1 ⟨rfl, hk1, hP1, hr1⟩; have kk1 := (kp_alloc (gr w g) _).trans hk1; have hs1 := kk1.size; have br1 : Bx w1 (w.heap.size) 28 z10 := Bx.kp (Bx.newB (by simp) : Bx _ (w.heap.size) 28 z10) hk1 (by omega); have lr1 := br1.lt))
 refine bodyPost_ret (v := .agg #[.int .i64 x.kind, .string x.table, .string x.name, .slice t2.co x.cols.length t2.cc, .slice t2.vo x.vals.length t2.vc, .slice t2.so x.sets.length t2.sc, .slice t2.qo x.conds.length t2.qc, .bool x.uniq, .int .i64 x.type, .slice t2.yo x.types.length t2.yc]) (by simp [results, Tryz.results12, go_sem, cr2_0, cr2_1, cr2_2, cr2_3, cr2_4, cr2_5, cr2_6, cr2_7, cr2_8, cr2_9]) rfl ?_
 rw [HO.out]
 exact ⟨kp_sets kk2 (by omega) 0 (lX x t2), j2, (by omega), PAt.sets hP2 br2 (by decide) (by omega) 0 (lX x t2), hr2, _, rfl, ⟨t2, rfl, (OwnS.setsS hO2 br2 0 (lX x t2))⟩⟩
theorem sqreadStmt_w2 {g : Nat} {v : Value} {l : List Tok} (hE : EndK l) {i : Nat}  {q3 : List TkC} (hb1 : isT ⟨#[105, 110, 115, 101, 114, 116]⟩ (rem l i) = false) (hb2 : isT ⟨#[117, 112, 100, 97, 116, 101]⟩ (rem l i) = true) (e3 : updateR (rem l i).tail = (none, q3)) (w : World) (hP : PAt g v l i w) :
  Calls Tryz.prog 12 #[.pointer (some ⟨g, 0, none⟩)] w (Tells g v l i w VX (stmtR (rem l i))) := by
 have hg0 := hP.g_lt
 have HO : Hid (stmtR (rem l i) = (none, q3)) := by
  unfold Hid
  simp only [stmtR, bnd, opt, ret, hb1, Bool.false_eq_true, if_false, hb2, if_true, e3]
 go_enter Tryz.func12, Tryz.ntmps12
 go_wp2_with (first
  | (go_at_call 29; refine (sqreadUpdate_any hE _ hP2).mono ?_; intro e w3 hT3; obtain ⟨j3, rfl, hk3, hj3, hP3, hr3⟩ := tells_no hT3 hr2 e3)
  | (go_at_call 27; refine (took_yes hE (by decide) hb2 _ hP1 rfl).mono ?_; rintro e w2 ⟨rfl, hk2, hP2, hr2⟩; have kk2 := kk1.trans hk2; have hs2 := kk2.size; have br2 := Bx.kp br1 hk2 (by omega); have lr2 := br2.lt)
  | (go_at_call 27; refine (took_no hb1 _ (hP.alloc _) rfl).mono ?_; rintro e w1 ⟨rfl, hk1, hP1⟩; have kk1 := (kp_alloc (gr w g) _).trans hk1; have hs1 := kk1.size; have br1 : Bx w1 (w.heap.size) 28 z10 := Bx.kp (Bx.newB (by simp) : Bx _ (w.heap.size) 28 z10) hk1 (by omega); have lr1 := br1.lt))
 refine ⟨rfl, ?_⟩
 rw [HO.out]
 exact ⟨kk2.trans hk3, j3, (by omega), hP3, hr3, rfl⟩
theorem sqreadStmt_w3 {g : Nat} {v : Value} {l : List Tok} (hE : EndK l) {i : Nat}  {x : Stm} {q3 : List TkC} (hb1 : isT ⟨#[105, 110, 115, 101, 114, 116]⟩ (rem l i) = false) (hb2 : isT ⟨#[117, 112, 100, 97, 116, 101]⟩ (rem l i) = true) (e3 : updateR (rem l i).tail = (some x, q3)) (w : World) (hP : PAt g v l i w) :
  Calls Tryz.prog 12 #[.pointer (some ⟨g, 0, none⟩)] w (Tells g v l i w VX (stmtR (rem l i))) := by
 have hg0 := hP.g_lt
 have HO : Hid (stmtR (rem l i) = (some x, q3)) := by
  unfold Hid
  simp only [stmtR, bnd, opt, ret, hb1, Bool.false_eq_true, if_false, hb2, if_true, e3]
 go_enter Tryz.func12, Tryz.ntmps12
 go_wp2_with (first
  | (go_at_call 29; refine (sqreadUpdate_any hE _ hP2).mono ?_; intro e w3 hT3; obtain ⟨u3, j3, rfl, hk3, hj3, hP3, hr3, hV3⟩ := tells_yes hT3 hr2 e3; obtain ⟨t3, hu3, hO3⟩ := hV3; subst hu3; replace hO3 := hO3.mono kk2.size; have kk3 := kk2.trans hk3; have hs3 := kk3.size; have br3 := Bx.kp br2 hk3 (by omega); have lr3 := br3.lt; obtain ⟨cr3_0, cr3_1, cr3_2, cr3_3, cr3_4, cr3_5, cr3_6, cr3_7, cr3_8, cr3_9⟩ := br3.ten; obtain ⟨fr3_0, fr3_1, fr3_2, fr3_3, fr3_4, fr3_5, fr3_6, fr3_7, fr3_8, fr3_9⟩ := br3.tenO)
  | (go_at_call 27; refine (took_yes hE (by decide) hb2 _ hP1 rfl).mono ?_; rintro e w2 ⟨rfl, hk2, hP2, hr2⟩; have kk2 := kk1.trans hk2; have hs2 := kk2.size; have br2 := Bx.kp br1 hk2 (by omega); have lr2 := br2.lt)
  | (go_at_call 27; refine (took_no hb1 _ (hP.alloc _) rfl).mono ?_; rintro e w1 ⟨rfl, hk1, hP1⟩; have kk1 := (kp_alloc (gr w g) _).trans hk1; have hs1 := kk1.size; have br1 : Bx w1 (w.heap.size) 28 z10 := Bx.kp (Bx.newB (by simp) : Bx _ (w.heap.size) 28 z10) hk1 (by omega); have lr1 := br1.lt))
 refine bodyPost_ret (v := .agg #[.int .i64 x.kind, .string x.table, .string x.name, .slice t3.co x.cols.length t3.cc, .slice t3.vo x.vals.length t3.vc, .slice t3.so x.sets.length t3.sc, .slice t3.qo x.conds.length t3.qc, .bool x.uniq, .int .i64 x.type, .slice t3.yo x.types.length t3.yc]) (by simp [results, Tryz.results12, go_sem, cr3_0, cr3_1, cr3_2, cr3_3, cr3_4, cr3_5, cr3_6, cr3_7, cr3_8, cr3_9]) rfl ?_
 rw [HO.out]
 exact ⟨kp_sets kk3 (by omega) 0 (lX x t3), j3, (by omega), PAt.sets hP3 br3 (by decide) (by omega) 0 (lX x t3), hr3, _, rfl, ⟨t3, rfl, (OwnS.setsS hO3 br3 0 (lX x t3))⟩⟩
theorem sqreadStmt_w4 {g : Nat} {v : Value} {l : List Tok} (hE : EndK l) {i : Nat}  {q4 : List TkC} (hb1 : isT ⟨#[105, 110, 115, 101, 114, 116]⟩ (rem l i) = false) (hb2 : isT ⟨#[117, 112, 100, 97, 116, 101]⟩ (rem l i) = false) (hb3 : isT ⟨#[100, 101, 108, 101, 116, 101]⟩ (rem l i) = true) (e4 : deleteR (rem l i).tail = (none, q4)) (w : World) (hP : PAt g v l i w) :
  Calls Tryz.prog 12 #[.pointer (some ⟨g, 0, none⟩)] w (Tells g v l i w VX (stmtR (rem l i))) := by
 have hg0 := hP.g_lt
 have HO : Hid (stmtR (rem l i) = (none, q4)) := by
  unfold Hid
  simp only [stmtR, bnd, opt, ret, hb1, Bool.false_eq_true, if_false, hb2, hb3, if_true, e4]
 go_enter Tryz.func12, Tryz.ntmps12
 go_wp2_with (first
  | (go_at_call 30; refine (sqreadDelete_any hE _ hP3).mono ?_; intro e w4 hT4; obtain ⟨j4, rfl, hk4, hj4, hP4, hr4⟩ := tells_no hT4 hr3 e4)
  | (go_at_call 27; refine (took_yes hE (by decide) hb3 _ hP2 rfl).mono ?_; rintro e w3 ⟨rfl, hk3, hP3, hr3⟩; have kk3 := kk2.trans hk3; have hs3 := kk3.size; have br3 := Bx.kp br2 hk3 (by omega); have lr3 := br3.lt)
  | (go_at_call 27; refine (took_no hb2 _ hP1 rfl).mono ?_; rintro e w2 ⟨rfl, hk2, hP2⟩; have kk2 := kk1.trans hk2; have hs2 := kk2.size; have br2 := Bx.kp br1 hk2 (by omega); have lr2 := br2.lt)
  | (go_at_call 27; refine (took_no hb1 _ (hP.alloc _) rfl).mono ?_; rintro e w1 ⟨rfl, hk1, hP1⟩; have kk1 := (kp_alloc (gr w g) _).trans hk1; have hs1 := kk1.size; have br1 : Bx w1 (w.heap.size) 28 z10 := Bx.kp (Bx.newB (by simp) : Bx _ (w.heap.size) 28 z10) hk1 (by omega); have lr1 := br1.lt))
 refine ⟨rfl, ?_⟩
 rw [HO.out]
 exact ⟨kk3.trans hk4, j4, (by omega), hP4, hr4, rfl⟩
theorem sqreadStmt_w5 {g : Nat} {v : Value} {l : List Tok} (hE : EndK l) {i : Nat}  {x : Stm} {q4 : List TkC} (hb1 : isT ⟨#[105, 110, 115, 101, 114, 116]⟩ (rem l i) = false) (hb2 : isT ⟨#[117, 112, 100, 97, 116, 101]⟩ (rem l i) = false) (hb3 : isT ⟨#[100, 101, 108, 101, 116, 101]⟩ (rem l i) = true) (e4 : deleteR (rem l i).tail = (some x, q4)) (w : World) (hP : PAt g v l i w) :
  Calls Tryz.prog 12 #[.pointer (some ⟨g, 0, none⟩)] w (Tells g v l i w VX (stmtR (rem l i))) := by
 have hg0 := hP.g_lt
 have HO : Hid (stmtR (rem l i) = (some x, q4)) := by
  unfold Hid
  simp only [stmtR, bnd, opt, ret, hb1, Bool.false_eq_true, if_false, hb2, hb3, if_true, e4]
 go_enter Tryz.func12, Tryz.ntmps12
 go_wp2_with (first
  | (go_at_call 30; refine (sqreadDelete_any hE _ hP3).mono ?_; intro e w4 hT4; obtain ⟨u4, j4, rfl, hk4, hj4, hP4, hr4, hV4⟩ := tells_yes hT4 hr3 e4; obtain ⟨t4, hu4, hO4⟩ := hV4; subst hu4; replace hO4 := hO4.mono kk3.size; have kk4 := kk3.trans hk4; have hs4 := kk4.size; have br4 := Bx.kp br3 hk4 (by omega); have lr4 := br4.lt; obtain ⟨cr4_0, cr4_1, cr4_2, cr4_3, cr4_4, cr4_5, cr4_6, cr4_7, cr4_8, cr4_9⟩ := br4.ten; obtain ⟨fr4_0, fr4_1, fr4_2, fr4_3, fr4_4, fr4_5, fr4_6, fr4_7, fr4_8, fr4_9⟩ := br4.tenO)
  | (go_at_call 27; refine (took_yes hE (by decide) hb3 _ hP2 rfl).mono ?_; rintro e w3 ⟨rfl, hk3, hP3, hr3⟩; have kk3 := kk2.trans hk3; have hs3 := kk3.size; have br3 := Bx.kp br2 hk3 (by omega); have lr3 := br3.lt)
  | (go_at_call 27; refine (took_no hb2 _ hP1 rfl).mono ?_; rintro e w2 ⟨rfl, hk2, hP2⟩; have kk2 := kk1.trans hk2; have hs2 := kk2.size; have br2 := Bx.kp br1 hk2 (by omega); have lr2 := br2.lt)
  | (go_at_call 27; refine (took_no hb1 _ (hP.alloc _) rfl).mono ?_; rintro e w1 ⟨rfl, hk1, hP1⟩; have kk1 := (kp_alloc (gr w g) _).trans hk1; have hs1 := kk1.size; have br1 : Bx w1 (w.heap.size) 28 z10 := Bx.kp (Bx.newB (by simp) : Bx _ (w.heap.size) 28 z10) hk1 (by omega); have lr1 := br1.lt))
 refine bodyPost_ret (v := .agg #[.int .i64 x.kind, .string x.table, .string x.name, .slice t4.co x.cols.length t4.cc, .slice t4.vo x.vals.length t4.vc, .slice t4.so x.sets.length t4.sc, .slice t4.qo x.conds.length t4.qc, .bool x.uniq, .int .i64 x.type, .slice t4.yo x.types.length t4.yc]) (by simp [results, Tryz.results12, go_sem, cr4_0, cr4_1, cr4_2, cr4_3, cr4_4, cr4_5, cr4_6, cr4_7, cr4_8, cr4_9]) rfl ?_
 rw [HO.out]
 exact ⟨kp_sets kk4 (by omega) 0 (lX x t4), j4, (by omega), PAt.sets hP4 br4 (by decide) (by omega) 0 (lX x t4), hr4, _, rfl, ⟨t4, rfl, (OwnS.setsS hO4 br4 0 (lX x t4))⟩⟩
theorem sqreadStmt_w6 {g : Nat} {v : Value} {l : List Tok} (hE : EndK l) {i : Nat}  {q5 : List TkC} (hb1 : isT ⟨#[105, 110, 115, 101, 114, 116]⟩ (rem l i) = false) (hb2 : isT ⟨#[117, 112, 100, 97, 116, 101]⟩ (rem l i) = false) (hb3 : isT ⟨#[100, 101, 108, 101, 116, 101]⟩ (rem l i) = false) (hb4 : isT ⟨#[115, 101, 108, 101, 99, 116]⟩ (rem l i) = true) (e5 : selectR (rem l i).tail = (none, q5)) (w : World) (hP : PAt g v l i w) :
  Calls Tryz.prog 12 #[.pointer (some ⟨g, 0, none⟩)] w (Tells g v l i w VX (stmtR (rem l i))) := by
 have hg0 := hP.g_lt
 have HO : Hid (stmtR (rem l i) = (none, q5)) := by
  unfold Hid
  simp only [stmtR, bnd, opt, ret, hb1, Bool.false_eq_true, if_false, hb2, hb3, hb4, if_true, e5]
 go_enter Tryz.func12, Tryz.ntmps12
 go_wp2_with (first
  | (go_at_call 31; refine (sqreadSelect_any hE _ hP4).mono ?_; intro e w5 hT5; obtain ⟨j5, rfl, hk5, hj5, hP5, hr5⟩ := tells_no hT5 hr4 e5)
  | (go_at_call 27; refine (took_yes hE (by decide) hb4 _ hP3 rfl).mono ?_; rintro e w4 ⟨rfl, hk4, hP4, hr4⟩; have kk4 := kk3.trans hk4; have hs4 := kk4.size; have br4 := Bx.kp br3 hk4 (by omega); have lr4 := br4.lt)
  | (go_at_call 27; refine (took_no hb3 _ hP2 rfl).mono ?_; rintro e w3 ⟨rfl, hk3, hP3⟩; have kk3 := kk2.trans hk3; have hs3 := kk3.size; have br3 := Bx.kp br2 hk3 (by omega); have lr3 := br3.lt)
  | (go_at_call 27; refine (took_no hb2 _ hP1 rfl).mono ?_; rintro e w2 ⟨rfl, hk2, hP2⟩; have kk2 := kk1.trans hk2; have hs2 := kk2.size; have br2 := Bx.kp br1 hk2 (by omega); have lr2 := br2.lt)
  | (go_at_call 27; refine (took_no hb1 _ (hP.alloc _) rfl).mono ?_; rintro e w1 ⟨rfl, hk1, hP1⟩; have kk1 := (kp_alloc (gr w g) _).trans hk1; have hs1 := kk1.size; have br1 : Bx w1 (w.heap.size) 28 z10 := Bx.kp (Bx.newB (by simp) : Bx _ (w.heap.size) 28 z10) hk1 (by omega); have lr1 := br1.lt))
 refine ⟨rfl, ?_⟩
 rw [HO.out]
 exact ⟨kk4.trans hk5, j5, (by omega), hP5, hr5, rfl⟩
theorem sqreadStmt_w7 {g : Nat} {v : Value} {l : List Tok} (hE : EndK l) {i : Nat}  {x : Stm} {q5 : List TkC} (hb1 : isT ⟨#[105, 110, 115, 101, 114, 116]⟩ (rem l i) = false) (hb2 : isT ⟨#[117, 112, 100, 97, 116, 101]⟩ (rem l i) = false) (hb3 : isT ⟨#[100, 101, 108, 101, 116, 101]⟩ (rem l i) = false) (hb4 : isT ⟨#[115, 101, 108, 101, 99, 116]⟩ (rem l i) = true) (e5 : selectR (rem l i).tail = (some x, q5)) (w : World) (hP : PAt g v l i w) :
  Calls Tryz.prog 12 #[.pointer (some ⟨g, 0, none⟩)] w (Tells g v l i w VX (stmtR (rem l i))) := by
 have hg0 := hP.g_lt
 have HO : Hid (stmtR (rem l i) = (some x, q5)) := by
  unfold Hid
  simp only [stmtR, bnd, opt, ret, hb1, Bool.false_eq_true, if_false, hb2, hb3, hb4, if_true, e5]
 go_enter Tryz.func12, Tryz.ntmps12
 go_wp2_with (first
  | (go_at_call 31; refine (sqreadSelect_any hE _ hP4).mono ?_; intro e w5 hT5; obtain ⟨u5, j5, rfl, hk5, hj5, hP5, hr5, hV5⟩ := tells_yes hT5 hr4 e5; obtain ⟨t5, hu5, hO5⟩ := hV5; subst hu5; replace hO5 := hO5.mono kk4.size; have kk5 := kk4.trans hk5; have hs5 := kk5.size; have br5 := Bx.kp br4 hk5 (by omega); have lr5 := br5.lt; obtain ⟨cr5_0, cr5_1, cr5_2, cr5_3, cr5_4, cr5_5, cr5_6, cr5_7, cr5_8, cr5_9⟩ := br5.ten; obtain ⟨fr5_0, fr5_1, fr5_2, fr5_3, fr5_4, fr5_5, fr5_6, fr5_7, fr5_8, fr5_9⟩ := br5.tenO)
  | (go_at_call 27; refine (took_yes hE (by decide) hb4 _ hP3 rfl).mono ?_; rintro e w4 ⟨rfl, hk4, hP4, hr4⟩; have kk4 := kk3.trans hk4; have hs4 := kk4.size; have br4 := Bx.kp br3 hk4 (by omega); have lr4 := br4.lt)
  | (go_at_call 27; refine (took_no hb3 _ hP2 rfl).mono ?_; rintro e w3 ⟨rfl, hk3, hP3⟩; have kk3 := kk2.trans hk3; have hs3 := kk3.size; have br3 := Bx.kp br2 hk3 (by omega); have lr3 := br3.lt)
  | (go_at_call 27; refine (took_no hb2 _ hP1 rfl).mono ?_; rintro e w2 ⟨rfl, hk2, hP2⟩; have kk2 := kk1.trans hk2; have hs2 := kk2.size; have br2 := Bx.kp br1 hk2 (by omega); have lr2 := br2.lt)
  | (go_at_call 27; refine (took_no hb1 _ (hP.alloc _) rfl).mono ?_; rintro e w1 ⟨rfl, hk1, hP1⟩; have kk1 := (kp_alloc (gr w g) _).trans hk1; have hs1 := kk1.size; have br1 : Bx w1 (w.heap.size) 28 z10 := Bx.kp (Bx.newB (by simp) : Bx _ (w.heap.size) 28 z10) hk1 (by omega); have lr1 := br1.lt))
 refine bodyPost_ret (v := .agg #[.int .i64 x.kind, .string x.table, .string x.name, .slice t5.co x.cols.length t5.cc, .slice t5.vo x.vals.length t5.vc, .slice t5.so x.sets.length t5.sc, .slice t5.qo x.conds.length t5.qc, .bool x.uniq, .int .i64 x.type, .slice t5.yo x.types.length t5.yc]) (by simp [results, Tryz.results12, go_sem, cr5_0, cr5_1, cr5_2, cr5_3, cr5_4, cr5_5, cr5_6, cr5_7, cr5_8, cr5_9]) rfl ?_
 rw [HO.out]
 exact ⟨kp_sets kk5 (by omega) 0 (lX x t5), j5, (by omega), PAt.sets hP5 br5 (by decide) (by omega) 0 (lX x t5), hr5, _, rfl, ⟨t5, rfl, (OwnS.setsS hO5 br5 0 (lX x t5))⟩⟩
theorem sqreadStmt_w8 {g : Nat} {v : Value} {l : List Tok} (hE : EndK l) {i : Nat}  {q6 : List TkC} (hb1 : isT ⟨#[105, 110, 115, 101, 114, 116]⟩ (rem l i) = false) (hb2 : isT ⟨#[117, 112, 100, 97, 116, 101]⟩ (rem l i) = false) (hb3 : isT ⟨#[100, 101, 108, 101, 116, 101]⟩ (rem l i) = false) (hb4 : isT ⟨#[115, 101, 108, 101, 99, 116]⟩ (rem l i) = false) (hb5 : isT ⟨#[99, 114, 101, 97, 116, 101]⟩ (rem l i) = true) (e6 : createR (rem l i).tail = (none, q6)) (w : World) (hP : PAt g v l i w) :
  Calls Tryz.prog 12 #[.pointer (some ⟨g, 0, none⟩)] w (Tells g v l i w VX (stmtR (rem l i))) := by
 have hg0 := hP.g_lt
 have HO : Hid (stmtR (rem l i) = (none, q6)) := by
  unfold Hid
  simp only [stmtR, bnd, opt, ret, hb1, Bool.false_eq_true, if_false, hb2, hb3, hb4, hb5, if_true, e6]
 go_enter Tryz.func12, Tryz.ntmps12
 go_wp2_with (first
  | (go_at_call 32; refine (sqreadCreate_any hE _ hP5).mono ?_; intro e w6 hT6; obtain ⟨j6, rfl, hk6, hj6, hP6, hr6⟩ := tells_no hT6 hr5 e6)
  | (go_at_call 27; refine (took_yes hE (by decide) hb5 _ hP4 rfl).mono ?_; rintro e w5 ⟨rfl, hk5, hP5, hr5⟩; have kk5 := kk4.trans hk5; have hs5 := kk5.size; have br5 := Bx.kp br4 hk5 (by omega); have lr5 := br5.lt)
  | (go_at_call 27; refine (took_no hb4 _ hP3 rfl).mono ?_; rintro e w4 ⟨rfl, hk4, hP4⟩; have kk4 := kk3.trans hk4; have hs4 := kk4.size; have br4 := Bx.kp br3 hk4 (by omega); have lr4 := br4.lt)
  | (go_at_call 27; refine (took_no hb3 _ hP2 rfl).mono ?_; rintro e w3 ⟨rfl, hk3, hP3⟩; have kk3 := kk2.trans hk3; have hs3 := kk3.size; have br3 := Bx.kp br2 hk3 (by omega); have lr3 := br3.lt)
  | (go_at_call 27; refine (took_no hb2 _ hP1 rfl).mono ?_; rintro e w2 ⟨rfl, hk2, hP2⟩; have kk2 := kk1.trans hk2; have hs2 := kk2.size; have br2 := Bx.kp br1 hk2 (by omega); have lr2 := br2.lt)
  | (go_at_call 27; refine (took_no hb1 _ (hP.alloc _) rfl).mono ?_; rintro e w1 ⟨rfl, hk1, hP1⟩; have kk1 := (kp_alloc (gr w g) _).trans hk1; have hs1 := kk1.size; have br1 : Bx w1 (w.heap.size) 28 z10 := Bx.kp (Bx.newB (by simp) : Bx _ (w.heap.size) 28 z10) hk1 (by omega); have lr1 := br1.lt))
 refine ⟨rfl, ?_⟩
 rw [HO.out]
 exact ⟨kk5.trans hk6, j6, (by omega), hP6, hr6, rfl⟩
theorem sqreadStmt_w9 {g : Nat} {v : Value} {l : List Tok} (hE : EndK l) {i : Nat}  {x : Stm} {q6 : List TkC} (hb1 : isT ⟨#[105, 110, 115, 101, 114, 116]⟩ (rem l i) = false) (hb2 : isT ⟨#[117, 112, 100, 97, 116, 101]⟩ (rem l i) = false) (hb3 : isT ⟨#[100, 101, 108, 101, 116, 101]⟩ (rem l i) = false) (hb4 : isT ⟨#[115, 101, 108, 101, 99, 116]⟩ (rem l i) = false) (hb5 : isT ⟨#[99, 114, 101, 97, 116, 101]⟩ (rem l i) = true) (e6 : createR (rem l i).tail = (some x, q6)) (w : World) (hP : PAt g v l i w) :
  Calls Tryz.prog 12 #[.pointer (some ⟨g, 0, none⟩)] w (Tells g v l i w VX (stmtR (rem l i))) := by
 have hg0 := hP.g_lt
 have HO : Hid (stmtR (rem l i) = (some x, q6)) := by
  unfold Hid
  simp only [stmtR, bnd, opt, ret, hb1, Bool.false_eq_true, if_false, hb2, hb3, hb4, hb5, if_true, e6]
 go_enter Tryz.func12, Tryz.ntmps12
 go_wp2_with (first
  | (go_at_call 32; refine (sqreadCreate_any hE _ hP5).mono ?_; intro e w6 hT6; obtain ⟨u6, j6, rfl, hk6, hj6, hP6, hr6, hV6⟩ := tells_yes hT6 hr5 e6; obtain ⟨t6, hu6, hO6⟩ := hV6; subst hu6; replace hO6 := hO6.mono kk5.size; have kk6 := kk5.trans hk6; have hs6 := kk6.size; have br6 := Bx.kp br5 hk6 (by omega); have lr6 := br6.lt; obtain ⟨cr6_0, cr6_1, cr6_2, cr6_3, cr6_4, cr6_5, cr6_6, cr6_7, cr6_8, cr6_9⟩ := br6.ten; obtain ⟨fr6_0, fr6_1, fr6_2, fr6_3, fr6_4, fr6_5, fr6_6, fr6_7, fr6_8, fr6_9⟩ := br6.tenO)
  | (go_at_call 27; refine (took_yes hE (by decide) hb5 _ hP4 rfl).mono ?_; rintro e w5 ⟨rfl, hk5, hP5, hr5⟩; have kk5 := kk4.trans hk5; have hs5 := kk5.size; have br5 := Bx.kp br4 hk5 (by omega); have lr5 := br5.lt)
  | (go_at_call 27; refine (took_no hb4 _ hP3 rfl).mono ?_; rintro e w4 ⟨rfl, hk4, hP4⟩; have kk4 := kk3.trans hk4; have hs4 := kk4.size; have br4 := Bx.kp br3 hk4 (by omega); have lr4 := br4.lt)
  | (go_at_call 27; refine (took_no hb3 _ hP2 rfl).mono ?_; rintro e w3 ⟨rfl, hk3, hP3⟩; have kk3 := kk2.trans hk3; have hs3 := kk3.size; have br3 := Bx.kp br2 hk3 (by omega); have lr3 := br3.lt)
  | (go_at_call 27; refine (took_no hb2 _ hP1 rfl).mono ?_; rintro e w2 ⟨rfl, hk2, hP2⟩; have kk2 := kk1.trans hk2; have hs2 := kk2.size; have br2 := Bx.kp br1 hk2 (by omega); have lr2 := br2.lt)
  | (go_at_call 27; refine (took_no hb1 _ (hP.alloc _) rfl).mono ?_; rintro e w1 ⟨rfl, hk1, hP1⟩; have kk1 := (kp_alloc (gr w g) _).trans hk1; have hs1 := kk1.size; have br1 : Bx w1 (w.heap.size) 28 z10 := Bx.kp (Bx.newB (by simp) : Bx _ (w.heap.size) 28 z10) hk1 (by omega); have lr1 := br1.lt))
 refine bodyPost_ret (v := .agg #[.int .i64 x.kind, .string x.table, .string x.name, .slice t6.co x.cols.length t6.cc, .slice t6.vo x.vals.length t6.vc, .slice t6.so x.sets.length t6.sc, .slice t6.qo x.conds.length t6.qc, .bool x.uniq, .int .i64 x.type, .slice t6.yo x.types.length t6.yc]) (by simp [results, Tryz.results12, go_sem, cr6_0, cr6_1, cr6_2, cr6_3, cr6_4, cr6_5, cr6_6, cr6_7, cr6_8, cr6_9]) rfl ?_
 rw [HO.out]
 exact ⟨kp_sets kk6 (by omega) 0 (lX x t6), j6, (by omega), PAt.sets hP6 br6 (by decide) (by omega) 0 (lX x t6), hr6, _, rfl, ⟨t6, rfl, (OwnS.setsS hO6 br6 0 (lX x t6))⟩⟩
theorem sqreadStmt_w10 {g : Nat} {v : Value} {l : List Tok} (hE : EndK l) {i : Nat}  {q7 : List TkC} (hb1 : isT ⟨#[105, 110, 115, 101, 114, 116]⟩ (rem l i) = false) (hb2 : isT ⟨#[117, 112, 100, 97, 116, 101]⟩ (rem l i) = false) (hb3 : isT ⟨#[100, 101, 108, 101, 116, 101]⟩ (rem l i) = false) (hb4 : isT ⟨#[115, 101, 108, 101, 99, 116]⟩ (rem l i) = false) (hb5 : isT ⟨#[99, 114, 101, 97, 116, 101]⟩ (rem l i) = false) (hb6 : isT ⟨#[100, 114, 111, 112]⟩ (rem l i) = true) (e7 : dropIndexR (rem l i).tail = (none, q7)) (w : World) (hP : PAt g v l i w) :
  Calls Tryz.prog 12 #[.pointer (some ⟨g, 0, none⟩)] w (Tells g v l i w VX (stmtR (rem l i))) := by
 have hg0 := hP.g_lt
 have HO : Hid (stmtR (rem l i) = (none, q7)) := by
  unfold Hid
  simp only [stmtR, bnd, opt, ret, hb1, Bool.false_eq_true, if_false, hb2, hb3, hb4, hb5, hb6, if_true, e7]
 go_enter Tryz.func12, Tryz.ntmps12
 go_wp2_with (first
  | (go_at_call 33; refine (sqreadDropIndex_any hE _ hP6).mono ?_; intro e w7 hT7; obtain ⟨j7, rfl, hk7, hj7, hP7, hr7⟩ := tells_no hT7 hr6 e7)
  | (go_at_call 27; refine (took_yes hE (by decide) hb6 _ hP5 rfl).mono ?_; rintro e w6 ⟨rfl, hk6, hP6, hr6⟩; have kk6 := kk5.trans hk6; have hs6 := kk6.size; have br6 := Bx.kp br5 hk6 (by omega); have lr6 := br6.lt)
  | (go_at_call 27; refine (took_no hb5 _ hP4 rfl).mono ?_; rintro e w5 ⟨rfl, hk5, hP5⟩; have kk5 := kk4.trans hk5; have hs5 := kk5.size; have br5 := Bx.kp br4 hk5 (by omega); have lr5 := br5.lt)
  | (go_at_call 27; refine (took_no hb4 _ hP3 rfl).mono ?_; rintro e w4 ⟨rfl, hk4, hP4⟩; have kk4 := kk3.trans hk4; have hs4 := kk4.size; have br4 := Bx.kp br3 hk4 (by omega); have lr4 := br4.lt)
  | (go_at_call 27; refine (took_no hb3 _ hP2 rfl).mono ?_; rintro e w3 ⟨rfl, hk3, hP3⟩; have kk3 := kk2.trans hk3; have hs3 := kk3.size; have br3 := Bx.kp br2 hk3 (by omega); have lr3 := br3.lt)
  | (go_at_call 27; refine (took_no hb2 _ hP1 rfl).mono ?_; rintro e w2 ⟨rfl, hk2, hP2⟩; have kk2 := kk1.trans hk2; have hs2 := kk2.size; have br2 := Bx.kp br1 hk2 (by omega); have lr2 := br2.lt)
  | (go_at_call 27; refine (took_no hb1 _ (hP.alloc _) rfl).mono ?_; rintro e w1 ⟨rfl, hk1, hP1⟩; have kk1 := (kp_alloc (gr w g) _).trans hk1; have hs1 := kk1.size; have br1 : Bx w1 (w.heap.size) 28 z10 := Bx.kp (Bx.newB (by simp) : Bx _ (w.heap.size) 28 z10) hk1 (by omega); have lr1 := br1.lt))
 refine ⟨rfl, ?_⟩
 rw [HO.out]
 exact ⟨kk6.trans hk7, j7, (by omega), hP7, hr7, rfl⟩
theorem sqreadStmt_w11 {g : Nat} {v : Value} {l : List Tok} (hE : EndK l) {i : Nat}  {x : Stm} {q7 : List TkC} (hb1 : isT ⟨#[105, 110, 115, 101, 114, 116]⟩ (rem l i) = false) (hb2 : isT ⟨#[117, 112, 100, 97, 116, 101]⟩ (rem l i) = false) (hb3 : isT ⟨#[100, 101, 108, 101, 116, 101]⟩ (rem l i) = false) (hb4 : isT ⟨#[115, 101, 108, 101, 99, 116]⟩ (rem l i) = false) (hb5 : isT ⟨#[99, 114, 101, 97, 116, 101]⟩ (rem l i) = false) (hb6 : isT ⟨#[100, 114, 111, 112]⟩ (rem l i) = true) (e7 : dropIndexR (rem l i).tail = (some x, q7)) (w : World) (hP : PAt g v l i w) :
  Calls Tryz.prog 12 #[.pointer (some ⟨g, 0, none⟩)] w (Tells g v l i w VX (stmtR (rem l i))) := by
 have hg0 := hP.g_lt
 have HO : Hid (stmtR (rem l i) = (some x, q7)) := by
  unfold Hid
  simp only [stmtR, bnd, opt, ret, hb1, Bool.false_eq_true, if_false, hb2, hb3, hb4, hb5, hb6, if_true, e7]
 go_enter Tryz.func12, Tryz.ntmps12
 go_wp2_with (first
  | (go_at_call 33; refine (sqreadDropIndex_any hE _ hP6).mono ?_; intro e w7 hT7; obtain ⟨u7, j7, rfl, hk7, hj7, hP7, hr7, hV7⟩ := tells_yes hT7 hr6 e7; obtain ⟨t7, hu7, hO7⟩ := hV7; subst hu7; replace hO7 := hO7.mono kk6.size; have kk7 := kk6.trans hk7; have hs7 := kk7.size; have br7 := Bx.kp br6 hk7 (by omega); have lr7 := br7.lt; obtain ⟨cr7_0, cr7_1, cr7_2, cr7_3, cr7_4, cr7_5, cr7_6, cr7_7, cr7_8, cr7_9⟩ := br7.ten; obtain ⟨fr7_0, fr7_1, fr7_2, fr7_3, fr7_4, fr7_5, fr7_6, fr7_7, fr7_8, fr7_9⟩ := br7.tenO)
  | (go_at_call 27; refine (took_yes hE (by decide) hb6 _ hP5 rfl).mono ?_; rintro e w6 ⟨rfl, hk6, hP6, hr6⟩; have kk6 := kk5.trans hk6; have hs6 := kk6.size; have br6 := Bx.kp br5 hk6 (by omega); have lr6 := br6.lt)
  | (go_at_call 27; refine (took_no hb5 _ hP4 rfl).mono ?_; rintro e w5 ⟨rfl, hk5, hP5⟩; have kk5 := kk4.trans hk5; have hs5 := kk5.size; have br5 := Bx.kp br4 hk5 (by omega); have lr5 := br5.lt)
  | (go_at_call 27; refine (took_no hb4 _ hP3 rfl).mono ?_; rintro e w4 ⟨rfl, hk4, hP4⟩; have kk4 := kk3.trans hk4; have hs4 := kk4.size; have br4 := Bx.kp br3 hk4 (by omega); have lr4 := br4.lt)
  | (go_at_call 27; refine (took_no hb3 _ hP2 rfl).mono ?_; rintro e w3 ⟨rfl, hk3, hP3⟩; have kk3 := kk2.trans hk3; have hs3 := kk3.size; have br3 := Bx.kp br2 hk3 (by omega); have lr3 := br3.lt)
  | (go_at_call 27; refine (took_no hb2 _ hP1 rfl).mono ?_; rintro e w2 ⟨rfl, hk2, hP2⟩; have kk2 := kk1.trans hk2; have hs2 := kk2.size; have br2 := Bx.kp br1 hk2 (by omega); have lr2 := br2.lt)
  | (go_at_call 27; refine (took_no hb1 _ (hP.alloc _) rfl).mono ?_; rintro e w1 ⟨rfl, hk1, hP1⟩; have kk1 := (kp_alloc (gr w g) _).trans hk1; have hs1 := kk1.size; have br1 : Bx w1 (w.heap.size) 28 z10 := Bx.kp (Bx.newB (by simp) : Bx _ (w.heap.size) 28 z10) hk1 (by omega); have lr1 := br1.lt))
 refine bodyPost_ret (v := .agg #[.int .i64 x.kind, .string x.table, .string x.name, .slice t7.co x.cols.length t7.cc, .slice t7.vo x.vals.length t7.vc, .slice t7.so x.sets.length t7.sc, .slice t7.qo x.conds.length t7.qc, .bool x.uniq, .int .i64 x.type, .slice t7.yo x.types.length t7.yc]) (by simp [results, Tryz.results12, go_sem, cr7_0, cr7_1, cr7_2, cr7_3, cr7_4, cr7_5, cr7_6, cr7_7, cr7_8, cr7_9]) rfl ?_
 rw [HO.out]
 exact ⟨kp_sets kk7 (by omega) 0 (lX x t7), j7, (by omega), PAt.sets hP7 br7 (by decide) (by omega) 0 (lX x t7), hr7, _, rfl, ⟨t7, rfl, (OwnS.setsS hO7 br7 0 (lX x t7))⟩⟩
theorem sqreadStmt_w12 {g : Nat} {v : Value} {l : List Tok} (hE : EndK l) {i : Nat}  {q7 : List TkC} (hb1 : isT ⟨#[105, 110, 115, 101, 114, 116]⟩ (rem l i) = false) (hb2 : isT ⟨#[117, 112, 100, 97, 116, 101]⟩ (rem l i) = false) (hb3 : isT ⟨#[100, 101, 108, 101, 116, 101]⟩ (rem l i) = false) (hb4 : isT ⟨#[115, 101, 108, 101, 99, 116]⟩ (rem l i) = false) (hb5 : isT ⟨#[99, 114, 101, 97, 116, 101]⟩ (rem l i) = false) (hb6 : isT ⟨#[100, 114, 111, 112]⟩ (rem l i) = false) (e7 : takeR ⟨#[97, 108, 116, 101, 114]⟩ (rem l i) = (none, q7)) (w : World) (hP : PAt g v l i w) :
  Calls Tryz.prog 12 #[.pointer (some ⟨g, 0, none⟩)] w (Tells g v l i w VX (stmtR (rem l i))) := by
 have hg0 := hP.g_lt
 have HO : Hid (stmtR (rem l i) = (none, q7)) := by
  unfold Hid
  simp only [stmtR, bnd, opt, ret, hb1, Bool.false_eq_true, if_false, hb2, hb3, hb4, hb5, hb6, e7]
 go_enter Tryz.func12, Tryz.ntmps12
 go_wp2_with (first
  | (go_at_call 34; refine (take_1 hE (by decide) _ (hP6.alloc _) (Bx.newB (by simp)) (by omega)).mono ?_; intro e w7 hT7; obtain ⟨j7, rfl, hk7, hj7, hP7, hr7⟩ := tells_no hT7 rfl e7)
  | (go_at_call 27; refine (took_no hb6 _ hP5 rfl).mono ?_; rintro e w6 ⟨rfl, hk6, hP6⟩; have kk6 := kk5.trans hk6; have hs6 := kk6.size; have br6 := Bx.kp br5 hk6 (by omega); have lr6 := br6.lt)
  | (go_at_call 27; refine (took_no hb5 _ hP4 rfl).mono ?_; rintro e w5 ⟨rfl, hk5, hP5⟩; have kk5 := kk4.trans hk5; have hs5 := kk5.size; have br5 := Bx.kp br4 hk5 (by omega); have lr5 := br5.lt)
  | (go_at_call 27; refine (took_no hb4 _ hP3 rfl).mono ?_; rintro e w4 ⟨rfl, hk4, hP4⟩; have kk4 := kk3.trans hk4; have hs4 := kk4.size; have br4 := Bx.kp br3 hk4 (by omega); have lr4 := br4.lt)
  | (go_at_call 27; refine (took_no hb3 _ hP2 rfl).mono ?_; rintro e w3 ⟨rfl, hk3, hP3⟩; have kk3 := kk2.trans hk3; have hs3 := kk3.size; have br3 := Bx.kp br2 hk3 (by omega); have lr3 := br3.lt)
  | (go_at_call 27; refine (took_no hb2 _ hP1 rfl).mono ?_; rintro e w2 ⟨rfl, hk2, hP2⟩; have kk2 := kk1.trans hk2; have hs2 := kk2.size; have br2 := Bx.kp br1 hk2 (by omega); have lr2 := br2.lt)
  | (go_at_call 27; refine (took_no hb1 _ (hP.alloc _) rfl).mono ?_; rintro e w1 ⟨rfl, hk1, hP1⟩; have kk1 := (kp_alloc (gr w g) _).trans hk1; have hs1 := kk1.size; have br1 : Bx w1 (w.heap.size) 28 z10 := Bx.kp (Bx.newB (by simp) : Bx _ (w.heap.size) 28 z10) hk1 (by omega); have lr1 := br1.lt))
 refine ⟨rfl, ?_⟩
 rw [HO.out]
 exact ⟨(kp_alloc kk6 _).trans hk7, j7, (by omega), hP7, hr7, rfl⟩
theorem sqreadStmt_w13 {g : Nat} {v : Value} {l : List Tok} (hE : EndK l) {i : Nat}  {q7 q8 : List TkC} (hb1 : isT ⟨#[105, 110, 115, 101, 114, 116]⟩ (rem l i) = false) (hb2 : isT ⟨#[117, 112, 100, 97, 116, 101]⟩ (rem l i) = false) (hb3 : isT ⟨#[100, 101, 108, 101, 116, 101]⟩ (rem l i) = false) (hb4 : isT ⟨#[115, 101, 108, 101, 99, 116]⟩ (rem l i) = false) (hb5 : isT ⟨#[99, 114, 101, 97, 116, 101]⟩ (rem l i) = false) (hb6 : isT ⟨#[100, 114, 111, 112]⟩ (rem l i) = false) (e7 : takeR ⟨#[97, 108, 116, 101, 114]⟩ (rem l i) = (some (), q7)) (e8 : alterR q7 = (none, q8)) (w : World) (hP : PAt g v l i w) :
  Calls Tryz.prog 12 #[.pointer (some ⟨g, 0, none⟩)] w (Tells g v l i w VX (stmtR (rem l i))) := by
 have hg0 := hP.g_lt
 have HO : Hid (stmtR (rem l i) = (none, q8)) := by
  unfold Hid
  simp only [stmtR, bnd, opt, ret, hb1, Bool.false_eq_true, if_false, hb2, hb3, hb4, hb5, hb6, e7, e8]
 go_enter Tryz.func12, Tryz.ntmps12
 go_wp2_with (first
  | (go_at_call 35; refine (sqreadAlter_any hE _ hP7).mono ?_; intro e w8 hT8; obtain ⟨j8, rfl, hk8, hj8, hP8, hr8⟩ := tells_no hT8 hr7 e8)
  | (go_at_call 34; refine (take_1 hE (by decide) _ (hP6.alloc _) (Bx.newB (by simp)) (by omega)).mono ?_; intro e w7 hT7; obtain ⟨_, j7, rfl, hk7, hj7, hP7, hr7, rfl⟩ := tells_yes hT7 rfl e7; have kk7 := (kp_alloc kk6 _).trans hk7; have hs7 := kk7.size; have br7 : Bx w7 (w.heap.size) 28 z10 := Bx.kp (br6.alloc _) hk7 (by omega); have lr7 := br7.lt)
  | (go_at_call 27; refine (took_no hb6 _ hP5 rfl).mono ?_; rintro e w6 ⟨rfl, hk6, hP6⟩; have kk6 := kk5.trans hk6; have hs6 := kk6.size; have br6 := Bx.kp br5 hk6 (by omega); have lr6 := br6.lt)
  | (go_at_call 27; refine (took_no hb5 _ hP4 rfl).mono ?_; rintro e w5 ⟨rfl, hk5, hP5⟩; have kk5 := kk4.trans hk5; have hs5 := kk5.size; have br5 := Bx.kp br4 hk5 (by omega); have lr5 := br5.lt)
  | (go_at_call 27; refine (took_no hb4 _ hP3 rfl).mono ?_; rintro e w4 ⟨rfl, hk4, hP4⟩; have kk4 := kk3.trans hk4; have hs4 := kk4.size; have br4 := Bx.kp br3 hk4 (by omega); have lr4 := br4.lt)
  | (go_at_call 27; refine (took_no hb3 _ hP2 rfl).mono ?_; rintro e w3 ⟨rfl, hk3, hP3⟩; have kk3 := kk2.trans hk3; have hs3 := kk3.size; have br3 := Bx.kp br2 hk3 (by omega); have lr3 := br3.lt)
  | (go_at_call 27; refine (took_no hb2 _ hP1 rfl).mono ?_; rintro e w2 ⟨rfl, hk2, hP2⟩; have kk2 := kk1.trans hk2; have hs2 := kk2.size; have br2 := Bx.kp br1 hk2 (by omega); have lr2 := br2.lt)
  | (go_at_call 27; refine (took_no hb1 _ (hP.alloc _) rfl).mono ?_; rintro e w1 ⟨rfl, hk1, hP1⟩; have kk1 := (kp_alloc (gr w g) _).trans hk1; have hs1 := kk1.size; have br1 : Bx w1 (w.heap.size) 28 z10 := Bx.kp (Bx.newB (by simp) : Bx _ (w.heap.size) 28 z10) hk1 (by omega); have lr1 := br1.lt))
 refine ⟨rfl, ?_⟩
 rw [HO.out]
 exact ⟨kk7.trans hk8, j8, (by omega), hP8, hr8, rfl⟩
theorem sqreadStmt_w14 {g : Nat} {v : Value} {l : List Tok} (hE : EndK l) {i : Nat}  {q7 : List TkC} {x : Stm} {q8 : List TkC} (hb1 : isT ⟨#[105, 110, 115, 101, 114, 116]⟩ (rem l i) = false) (hb2 : isT ⟨#[117, 112, 100, 97, 116, 101]⟩ (rem l i) = false) (hb3 : isT ⟨#[100, 101, 108, 101, 116, 101]⟩ (rem l i) = false) (hb4 : isT ⟨#[115, 101, 108, 101, 99, 116]⟩ (rem l i) = false) (hb5 : isT ⟨#[99, 114, 101, 97, 116, 101]⟩ (rem l i) = false) (hb6 : isT ⟨#[100, 114, 111, 112]⟩ (rem l i) = false) (e7 : takeR ⟨#[97, 108, 116, 101, 114]⟩ (rem l i) = (some (), q7)) (e8 : alterR q7 = (some x, q8)) (w : World) (hP : PAt g v l i w) :
  Calls Tryz.prog 12 #[.pointer (some ⟨g, 0, none⟩)] w (Tells g v l i w VX (stmtR (rem l i))) := by
 have hg0 := hP.g_lt
 have HO : Hid (stmtR (rem l i) = (some x, q8)) := by
  unfold Hid
  simp only [stmtR, bnd, opt, ret, hb1, Bool.false_eq_true, if_false, hb2, hb3, hb4, hb5, hb6, e7, e8]
 go_enter Tryz.func12, Tryz.ntmps12
 go_wp2_with (first
  | (go_at_call 35; refine (sqreadAlter_any hE _ hP7).mono ?_; intro e w8 hT8; obtain ⟨u8, j8, rfl, hk8, hj8, hP8, hr8, hV8⟩ := tells_yes hT8 hr7 e8; obtain ⟨t8, hu8, hO8⟩ := hV8; subst hu8; replace hO8 := hO8.mono kk7.size; have kk8 := kk7.trans hk8; have hs8 := kk8.size; have br8 := Bx.kp br7 hk8 (by omega); have lr8 := br8.lt; obtain ⟨cr8_0, cr8_1, cr8_2, cr8_3, cr8_4, cr8_5, cr8_6, cr8_7, cr8_8, cr8_9⟩ := br8.ten; obtain ⟨fr8_0, fr8_1, fr8_2, fr8_3, fr8_4, fr8_5, fr8_6, fr8_7, fr8_8, fr8_9⟩ := br8.tenO)
  | (go_at_call 34; refine (take_1 hE (by decide) _ (hP6.alloc _) (Bx.newB (by simp)) (by omega)).mono ?_; intro e w7 hT7; obtain ⟨_, j7, rfl, hk7, hj7, hP7, hr7, rfl⟩ := tells_yes hT7 rfl e7; have kk7 := (kp_alloc kk6 _).trans hk7; have hs7 := kk7.size; have br7 : Bx w7 (w.heap.size) 28 z10 := Bx.kp (br6.alloc _) hk7 (by omega); have lr7 := br7.lt)
  | (go_at_call 27; refine (took_no hb6 _ hP5 rfl).mono ?_; rintro e w6 ⟨rfl, hk6, hP6⟩; have kk6 := kk5.trans hk6; have hs6 := kk6.size; have br6 := Bx.kp br5 hk6 (by omega); have lr6 := br6.lt)
  | (go_at_call 27; refine (took_no hb5 _ hP4 rfl).mono ?_; rintro e w5 ⟨rfl, hk5, hP5⟩; have kk5 := kk4.trans hk5; have hs5 := kk5.size; have br5 := Bx.kp br4 hk5 (by omega); have lr5 := br5.lt)
  | (go_at_call 27; refine (took_no hb4 _ hP3 rfl).mono ?_; rintro e w4 ⟨rfl, hk4, hP4⟩; have kk4 := kk3.trans hk4; have hs4 := kk4.size; have br4 := Bx.kp br3 hk4 (by omega); have lr4 := br4.lt)
  | (go_at_call 27; refine (took_no hb3 _ hP2 rfl).mono ?_; rintro e w3 ⟨rfl, hk3, hP3⟩; have kk3 := kk2.trans hk3; have hs3 := kk3.size; have br3 := Bx.kp br2 hk3 (by omega); have lr3 := br3.lt)
  | (go_at_call 27; refine (took_no hb2 _ hP1 rfl).mono ?_; rintro e w2 ⟨rfl, hk2, hP2⟩; have kk2 := kk1.trans hk2; have hs2 := kk2.size; have br2 := Bx.kp br1 hk2 (by omega); have lr2 := br2.lt)
  | (go_at_call 27; refine (took_no hb1 _ (hP.alloc _) rfl).mono ?_; rintro e w1 ⟨rfl, hk1, hP1⟩; have kk1 := (kp_alloc (gr w g) _).trans hk1; have hs1 := kk1.size; have br1 : Bx w1 (w.heap.size) 28 z10 := Bx.kp (Bx.newB (by simp) : Bx _ (w.heap.size) 28 z10) hk1 (by omega); have lr1 := br1.lt))
 refine bodyPost_ret (v := .agg #[.int .i64 x.kind, .string x.table, .string x.name, .slice t8.co x.cols.length t8.cc, .slice t8.vo x.vals.length t8.vc, .slice t8.so x.sets.length t8.sc, .slice t8.qo x.conds.length t8.qc, .bool x.uniq, .int .i64 x.type, .slice t8.yo x.types.length t8.yc]) (by simp [results, Tryz.results12, go_sem, cr8_0, cr8_1, cr8_2, cr8_3, cr8_4, cr8_5, cr8_6, cr8_7, cr8_8, cr8_9]) rfl ?_
 rw [HO.out]
 exact ⟨kp_sets kk8 (by omega) 0 (lX x t8), j8, (by omega), PAt.sets hP8 br8 (by decide) (by omega) 0 (lX x t8), hr8, _, rfl, ⟨t8, rfl, (OwnS.setsS hO8 br8 0 (lX x t8))⟩⟩
theorem sqreadStmt_any {g : Nat} {v : Value} {l : List Tok} (hE : EndK l) {i : Nat}  (w : World) (hP : PAt g v l i w) :
  Calls Tryz.prog 12 #[.pointer (some ⟨g, 0, none⟩)] w (Tells g v l i w VX (stmtR (rem l i))) := by
 rcases Bool.eq_false_or_eq_true (isT ⟨#[105, 110, 115, 101, 114, 116]⟩ (rem l i)) with hb1 | hb1
 ·rcases e2 : insertR (rem l i).tail with ⟨o2, q2⟩
  cases o2 with
  | none =>
   exact sqreadStmt_w0 hE hb1 e2 w hP
  | some x =>
   exact sqreadStmt_w1 hE hb1 e2 w hP
 ·rcases Bool.eq_false_or_eq_true (isT ⟨#[117, 112, 100, 97, 116, 101]⟩ (rem l i)) with hb2 | hb2
  ·rcases e3 : updateR (rem l i).tail with ⟨o3, q3⟩
   cases o3 with
   | none =>
    exact sqreadStmt_w2 hE hb1 hb2 e3 w hP
   | some x =>
    exact sqreadStmt_w3 hE hb1 hb2 e3 w hP
  ·rcases Bool.eq_false_or_eq_true (isT ⟨#[100, 101, 108, 101, 116, 101]⟩ (rem l i)) with hb3 | hb3
   ·rcases e4 : deleteR (rem l i).tail with ⟨o4, q4⟩
    cases o4 with
    | none =>
     exact sqreadStmt_w4 hE hb1 hb2 hb3 e4 w hP
    | some x =>
     exact sqreadStmt_w5 hE hb1 hb2 hb3 e4 w hP
   ·rcases Bool.eq_false_or_eq_true (isT ⟨#[115, 101, 108, 101, 99, 116]⟩ (rem l i)) with hb4 | hb4
    ·rcases e5 : selectR (rem l i).tail with ⟨o5, q5⟩
     cases o5 with
     | none =>
      exact sqreadStmt_w6 hE hb1 hb2 hb3 hb4 e5 w hP
     | some x =>
      exact sqreadStmt_w7 hE hb1 hb2 hb3 hb4 e5 w hP
    ·rcases Bool.eq_false_or_eq_true (isT ⟨#[99, 114, 101, 97, 116, 101]⟩ (rem l i)) with hb5 | hb5
     ·rcases e6 : createR (rem l i).tail with ⟨o6, q6⟩
      cases o6 with
      | none =>
       exact sqreadStmt_w8 hE hb1 hb2 hb3 hb4 hb5 e6 w hP
      | some x =>
       exact sqreadStmt_w9 hE hb1 hb2 hb3 hb4 hb5 e6 w hP
     ·rcases Bool.eq_false_or_eq_true (isT ⟨#[100, 114, 111, 112]⟩ (rem l i)) with hb6 | hb6
      ·rcases e7 : dropIndexR (rem l i).tail with ⟨o7, q7⟩
       cases o7 with
       | none =>
        exact sqreadStmt_w10 hE hb1 hb2 hb3 hb4 hb5 hb6 e7 w hP
       | some x =>
        exact sqreadStmt_w11 hE hb1 hb2 hb3 hb4 hb5 hb6 e7 w hP
      ·rcases e7 : takeR ⟨#[97, 108, 116, 101, 114]⟩ (rem l i) with ⟨o7, q7⟩
       cases o7 with
       | none =>
        exact sqreadStmt_w12 hE hb1 hb2 hb3 hb4 hb5 hb6 e7 w hP
       | some a7 =>
        cases a7
        rcases e8 : alterR q7 with ⟨o8, q8⟩
        cases o8 with
        | none =>
         exact sqreadStmt_w13 hE hb1 hb2 hb3 hb4 hb5 hb6 e7 e8 w hP
        | some x =>
         exact sqreadStmt_w14 hE hb1 hb2 hb3 hb4 hb5 hb6 e7 e8 w hP
end Go.Proofs.YtiajlhjjmlakmaaGreatDoor
