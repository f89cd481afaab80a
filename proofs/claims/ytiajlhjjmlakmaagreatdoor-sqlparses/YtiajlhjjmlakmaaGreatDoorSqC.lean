import Derived.Test.YtiajlhjjmlakmaaGreatDoorSqA
namespace Go.Proofs.YtiajlhjjmlakmaaGreatDoor
open Go.RowKit Num
set_option maxHeartbeats 1000000
set_option linter.unusedSimpArgs false
set_option linter.unusedVariables false
set_option maxRecDepth 100000

theorem Num.Bx.newB {w : World} {n : Nat} (hn : w.heap.size = n) {t : TypeId} {cs : Array Value} : Bx (w.alloc (.cells cs t)) n t cs := by
 subst hn
 exact Bx.new w t cs
def Num.setsW (w : World) (b : Nat) : Nat → List Value → World
 | _, [] => w
 | i, u :: us => setsW (w.setCell ⟨b, i, none⟩ u) b (i + 1) us
theorem Num.PAt.sets {g : Nat} {v : Value} {l : List Tok} {i : Nat} : ∀ {w : World} (h : PAt g v l i w) {b : Nat} {t : TypeId} {cs : Array Value} (hb : Bx w b t cs) (ht : t ≠ 48) (hne : b ≠ g) (k : Nat) (us : List Value), PAt g v l i (setsW w b k us)
 | _, h, _, _, _, _, _, _, _, [] => h
 | _, h, _, _, _, hb, ht, hne, k, u :: us => PAt.sets (h.set hb ht hne k u) (hb.set k u) ht hne (k + 1) us
theorem Num.PAt.of_kp {g : Nat} {v : Value} {l : List Tok} {i j : Nat} {w W : World} (h : PAt g v l i w) (hk : w.grownBy W (some g)) (hb : Bx W g 43 #[v, .int .i64 (j : Int)]) (hj : j < l.length) : PAt g v l j W := by
 obtain ⟨B, hB⟩ := h.toks
 refine ⟨hb, ⟨B, hB.kept hk ?_⟩, hj, h.sm⟩
 cases hv : v.ownBlock with
 | none => exact .inl rfl
 | some k =>
  right
  intro e
  obtain rfl := Option.some.inj e
  rcases hB.2 with ⟨rfl, _⟩ | ⟨gt, cap, cur, rfl, _, hgg, _⟩
  ·simp [Value.ownBlock] at hv
  ·obtain rfl : gt = k := by simpa [Value.ownBlock] using hv
   have hbx := h.box
   unfold Bx at hbx
   rw [hgg] at hbx
   simp only [Option.some.injEq, Obj.cells.injEq] at hbx
   exact absurd hbx.2.1 (by decide)
theorem Num.Bx.others {b c : Nat} {t : TypeId} {cs : Array Value} (hne : b ≠ c) : ∀ {w : World} (h : Bx w b t cs) (k : Nat) (us : List Value), Bx (setsW w c k us) b t cs
 | _, h, _, [] => h
 | _, h, k, u :: us => Bx.others hne (h.other hne k u) (k + 1) us
theorem kp_sets {g b : Nat} {w : World} : ∀ {W : World} (h : w.grownBy W (some g)) (hb : w.heap.size ≤ b) (k : Nat) (us : List Value), w.grownBy (setsW W b k us) (some g)
 | _, h, _, _, [] => h
 | _, h, hb, k, u :: us => kp_sets (kp_set h hb k u) hb (k + 1) us
theorem row_sets {b B E sz n : Nat} {v : Value} {xs : List Value} {t : TypeId} : ∀ {w : World} {cs : Array Value} (h : w.ownsRow B E sz v n xs) (hb : Bx w b t cs) (ht : t ≠ E) (k : Nat) (us : List Value), (setsW w b k us).ownsRow B E sz v n xs
 | _, _, h, _, _, _, [] => h
 | _, _, h, hb, ht, k, u :: us => row_sets (row_set h hb ht k u) (hb.set k u) ht (k + 1) us
theorem tells_yes {α : Type} {g : Nat} {v : Value} {l : List Tok} {i : Nat} {w : World} {V : Nat → World → Value → α → Prop} {rd : Rd α} {q q' : List TkC} {a : α} {e : Ending} {w' : World} (h : Tells g v l i w V (rd (rem l i)) e w') (hr : rem l i = q) (he : rd q = (some a, q')) :
  ∃ u j, e = .returned u ∧ w.grownBy w' (some g) ∧ i ≤ j ∧ PAt g v l j w' ∧ rem l j = q' ∧ V w.heap.size w' u a := by
 subst hr
 rw [he] at h
 obtain ⟨h1, j, h2, h3, h4, u, h5, h6⟩ := h
 exact ⟨u, j, h5, h1, h2, h3, h4, h6⟩
theorem tells_no {α : Type} {g : Nat} {v : Value} {l : List Tok} {i : Nat} {w : World} {V : Nat → World → Value → α → Prop} {rd : Rd α} {q q' : List TkC} {e : Ending} {w' : World} (h : Tells g v l i w V (rd (rem l i)) e w') (hr : rem l i = q) (he : rd q = (none, q')) :
  ∃ j, e = .panicked boomQ ∧ w.grownBy w' (some g) ∧ i ≤ j ∧ PAt g v l j w' ∧ rem l j = q' := by
 subst hr
 rw [he] at h
 obtain ⟨h1, j, h2, h3, h4, h5⟩ := h
 exact ⟨j, h5, h1, h2, h3, h4⟩
def Num.VU : Nat → World → Value → Unit → Prop := fun _ _ u _ => u = .tuple #[]
def Num.VS : Nat → World → Value → ByteArray → Prop := fun _ _ u s => u = .string s
def Num.VI : Nat → World → Value → Int → Prop := fun _ _ u n => u = .int .i64 n
def Num.VV : Nat → World → Value → Val → Prop := fun _ _ u x => u = x.v
def Num.VP : Nat → World → Value → ByteArray × Int → Prop := fun _ _ u x => u = .agg #[.string x.1, .int .i64 x.2]
def Num.VC : Nat → World → Value → Cnd → Prop := fun _ _ u x => u = .agg #[.string x.col, .int .i64 x.sign, .int .i64 x.v.k, .int .i64 x.v.n, .int .u64 (x.v.f : Int), .string x.v.s]
def Num.VT : Nat → World → Value → Sett → Prop := fun _ _ u x => u = .agg #[.string x.col, .bool x.add, .int .i64 x.v.k, .int .i64 x.v.n, .int .u64 (x.v.f : Int), .string x.v.s]
def Num.cS (s : ByteArray) : List Value := [.string s]
def Num.cV (x : Val) : List Value := [.int .i64 x.k, .int .i64 x.n, .int .u64 (x.f : Int), .string x.s]
def Num.cT (x : Sett) : List Value := [.string x.col, .bool x.add, .int .i64 x.v.k, .int .i64 x.v.n, .int .u64 (x.v.f : Int), .string x.v.s]
def Num.cC (x : Cnd) : List Value := [.string x.col, .int .i64 x.sign, .int .i64 x.v.k, .int .i64 x.v.n, .int .u64 (x.v.f : Int), .string x.v.s]
def Num.cP (x : ByteArray × Int) : List Value := [.string x.1, .int .i64 x.2]
def Num.VL {α : Type} (T sz : Nat) (cs : α → List Value) : Nat → World → Value → List α → Prop := fun B w u l => ∃ ao cap, u = .slice ao l.length cap ∧ w.ownsRow B T sz (.slice ao l.length cap) l.length (l.flatMap cs)
theorem takes_one (s : ByteArray) : takesR [s] = takeR s := by
 funext q
 show bnd (takeR s) (fun _ => ret ()) q = _
 unfold bnd takeR ret
 by_cases h : isT s q = true
 ·rw [if_pos h]
 ·rw [if_neg h]
theorem take_1 {g : Nat} {v : Value} {l : List Tok} (hE : EndK l) {i : Nat} {s : ByteArray} (hs : s ≠ ⟨#[]⟩) {b : Nat} (w : World) (hP : PAt g v l i w) (hb : Bx w b 9 #[.string s]) (hbg : b ≠ g) :
  Calls Tryz.prog 34 #[.pointer (some ⟨g, 0, none⟩), .slice (some ⟨b, 0, none⟩) 1 1] w (Tells g v l i w VU (takeR s (rem l i))) := by
 have h := take_any hE [s] (by simpa using hs) (by simp) b w hP _ hb (fun k t ht => ?_) hbg
 ·rw [takes_one] at h
  exact h
 ·cases k with
  | zero => rw [← Option.some.inj ht]; rfl
  | succ k => simp at ht
theorem take_2 {g : Nat} {v : Value} {l : List Tok} (hE : EndK l) {i : Nat} {sa sb : ByteArray} (hsa : sa ≠ ⟨#[]⟩) (hsb : sb ≠ ⟨#[]⟩) {b : Nat} (w : World) (hP : PAt g v l i w) (hb : Bx w b 9 #[.string sa, .string sb]) (hbg : b ≠ g) :
  Calls Tryz.prog 34 #[.pointer (some ⟨g, 0, none⟩), .slice (some ⟨b, 0, none⟩) 2 2] w (Tells g v l i w VU (takesR [sa, sb] (rem l i))) := by
 refine take_any hE [sa, sb] (by simpa using ⟨hsa, hsb⟩) (by simp) b w hP _ hb (fun k t ht => ?_) hbg
 match k, ht with
 | 0, ht => rw [← Option.some.inj ht]; rfl
 | 1, ht => rw [← Option.some.inj ht]; rfl
 | k + 2, ht => simp at ht
def Num.VK : Nat → World → Value → TkC → Prop := fun _ _ u x => ∃ p, u = tokV x.1 x.2.1 x.2.2 p
theorem takeKind_any {g : Nat} {v : Value} {l : List Tok} (hE : EndK l) {i : Nat} (k : Int) (hk0 : k ≠ 0) (w : World) (hP : PAt g v l i w) :
  Calls Tryz.prog 101 #[.pointer (some ⟨g, 0, none⟩), .int .i64 k] w (Tells g v l i w VK (kindR k (rem l i))) := by
 obtain ⟨x, hx⟩ := PAt.tok hP
 have hr2 := rem_at hx
 have hg0 := hP.g_lt
 have hn := fun W h => next_any (g := g) (v := v) hx W h
 have hgu := giveUp_any
 by_cases hk : x.k = k
 ·have hi : i + 1 < l.length := by
   rcases (hE i x hx).1 with h | h
   ·exact h
   ·exact absurd (hk.symm.trans h.1) hk0
  have hii : (i : Int) + 1 ≤ 1000 := by
   have := hP.sm
   omega
  have HO : Hid (kindR k (rem l i) = (some (cont x), rem l (i + 1))) := by
   unfold Hid
   rw [hr2]
   show (if x.k = k then _ else _) = _
   rw [if_pos hk]
  obtain ⟨kk, tt, vv, pp⟩ := x
  obtain rfl : kk = k := hk
  simp only at hn
  clear hr2
  go_enter Tryz.func101, Tryz.ntmps101
  go_wp2_with (go_at_call 11; refine (hn _ (hP.alloc _)).mono ?_; rintro e w1 ⟨rfl, hb1⟩; simp only [tokV]; have hP1 := (hP.alloc _).below hb1; have br := heap_next (heap_alloc_new w _) hb1; obtain ⟨q0, q1, q2, q3, q4, q5, q6⟩ := cells7 br; obtain ⟨z0, z1, z2, z3, z4, z5, z6⟩ := free7 br; have p1 : w1.cell? ⟨g, 1, none⟩ = some (.int .i64 (i : Int)) := hP1.box.cell 1 _ rfl; have z1g := hP1.box.open 1; have hs1 := (Array.getElem?_eq_some_iff.1 br).1; have hg1 := hP1.g_lt; have hg2 : ¬ w1.heap.size = g := (by omega); have hg3 := Ne.symm hg2; have hg4 : ¬ w.heap.size = g := (by omega); have hg5 := Ne.symm hg4)
  refine bodyPost_ret (v := tokV kk tt vv pp) (by simp [results, Tryz.results101, go_sem, tokV, q0, q1, q2, q3, q4, q5, q6, hs1]) rfl ?_
  have hb2 : Bx (w1.setCell ⟨g, 1, none⟩ (.int .i64 ((i : Int) + 1))) g 43 #[v, .int .i64 ((i + 1 : Nat) : Int)] := by
   have := hP1.box.set 1 (.int .i64 ((i : Int) + 1))
   rw [show ((i + 1 : Nat) : Int) = (i : Int) + 1 by omega]
   exact this
  have hK := kp_alloc (kp_sets (kp_setG (kp_below (kp_alloc (gr w g) (.cells #[.int .i64 0, .string ⟨#[]⟩, .int .i64 0, .int .i64 0, .int .u64 0, .string ⟨#[]⟩, .int .i64 0] 48)) hb1) 1 (.int .i64 ((i : Int) + 1))) (Nat.le_refl _) 0 [.int .i64 kk, .string tt, .int .i64 vv.k, .int .i64 vv.n, .int .u64 (vv.f : Int), .string vv.s, .int .i64 (pp : Int)]) (.cells #[.int .i64 kk, .string tt, .int .i64 vv.k, .int .i64 vv.n, .int .u64 (vv.f : Int), .string vv.s, .int .i64 (pp : Int)] 48)
  have hP2 := hP.of_kp hK ((Bx.others hg5 hb2 0 _).alloc _) hi
  rw [HO.out]
  exact ⟨hK, i + 1, by omega, hP2, rfl, _, rfl, (pp : Int), rfl⟩
 ·have HO : Hid (kindR k (rem l i) = (none, rem l i)) := by
   unfold Hid
   rw [hr2]
   show (if x.k = k then _ else _) = _
   rw [if_neg hk]
  have hkb : (x.k != k) = true := by simpa using hk
  obtain ⟨kk, tt, vv, pp⟩ := x
  simp only at hkb hk hn
  clear hr2 hk
  go_enter Tryz.func101, Tryz.ntmps101
  go_wp2_with (first
   | (go_at_call 36; refine (hgu _).mono ?_; rintro e w2 ⟨rfl, rfl⟩)
   | (go_at_call 11; refine (hn _ (hP.alloc _)).mono ?_; rintro e w1 ⟨rfl, hb1⟩; simp only [tokV]; have hP1 := (hP.alloc _).below hb1))
  refine ⟨rfl, ?_⟩
  rw [HO.out]
  exact ⟨kp_alloc (kp_below (kp_alloc (World.grownBy.refl _ _) _) hb1) _, i, Nat.le_refl _, hP1.alloc _, rfl, rfl⟩
theorem sqreadName_w0 {g : Nat} {v : Value} {l : List Tok} (hE : EndK l) {i : Nat}  {q1 : List TkC} (e1 : kindR 2 (rem l i) = (none, q1)) (w : World) (hP : PAt g v l i w) :
  Calls Tryz.prog 55 #[.pointer (some ⟨g, 0, none⟩)] w (Tells g v l i w VS (nameR (rem l i))) := by
 have hg0 := hP.g_lt
 have HO : Hid (nameR (rem l i) = (none, q1)) := by
  unfold Hid
  simp only [nameR, bnd, opt, ret, e1]
 go_enter Tryz.func55, Tryz.ntmps55
 go_wp2_with (first
  | (go_at_call 101; refine (takeKind_any hE 2 (by decide) _ hP).mono ?_; intro e w1 hT1; obtain ⟨j1, rfl, hk1, hj1, hP1, hr1⟩ := tells_no hT1 rfl e1))
 refine ⟨rfl, ?_⟩
 rw [HO.out]
 exact ⟨(gr w g).trans hk1, j1, (by omega), hP1, hr1, rfl⟩
theorem sqreadName_w1 {g : Nat} {v : Value} {l : List Tok} (hE : EndK l) {i : Nat}  {xk : Int} {xt : ByteArray} {xa xb : Int} {xc : Nat} {xd : ByteArray} {q1 : List TkC} (e1 : kindR 2 (rem l i) = (some (xk, xt, ⟨xa, xb, xc, xd⟩), q1)) (w : World) (hP : PAt g v l i w) :
  Calls Tryz.prog 55 #[.pointer (some ⟨g, 0, none⟩)] w (Tells g v l i w VS (nameR (rem l i))) := by
 have hg0 := hP.g_lt
 have HO : Hid (nameR (rem l i) = (some xt, q1)) := by
  unfold Hid
  simp only [nameR, bnd, opt, ret, e1]
 go_enter Tryz.func55, Tryz.ntmps55
 go_wp2_with (first
  | (go_at_call 101; refine (takeKind_any hE 2 (by decide) _ hP).mono ?_; intro e w1 hT1; obtain ⟨u1, j1, rfl, hk1, hj1, hP1, hr1, hV1⟩ := tells_yes hT1 rfl e1; obtain ⟨p1, rfl⟩ := hV1; have hf1 := tok_f1 xk xt ⟨xa, xb, xc, xd⟩ p1; have hg1 := tok_f2v xk xt xa xb xc xd p1; have kk1 := (gr w g).trans hk1; have hs1 := kk1.size))
 go_ret
 rw [HO.out]
 exact ⟨kk1, j1, (by omega), hP1, hr1, _, rfl, rfl⟩
theorem sqreadName_any {g : Nat} {v : Value} {l : List Tok} (hE : EndK l) {i : Nat}  (w : World) (hP : PAt g v l i w) :
  Calls Tryz.prog 55 #[.pointer (some ⟨g, 0, none⟩)] w (Tells g v l i w VS (nameR (rem l i))) := by
 rcases e1 : kindR 2 (rem l i) with ⟨o1, q1⟩
 cases o1 with
 | none =>
  exact sqreadName_w0 hE e1 w hP
 | some a1 =>
  obtain ⟨xk, xt, ⟨xa, xb, xc, xd⟩⟩ := a1
  exact sqreadName_w1 hE e1 w hP
theorem sqreadValue_w0 {g : Nat} {v : Value} {l : List Tok} (hE : EndK l) {i : Nat}  (hb1 : isT ⟨#[110, 117, 108, 108]⟩ (rem l i) = true) (w : World) (hP : PAt g v l i w) :
  Calls Tryz.prog 58 #[.pointer (some ⟨g, 0, none⟩)] w (Tells g v l i w VV (valueR (rem l i))) := by
 have hg0 := hP.g_lt
 have HO : Hid (valueR (rem l i) = (some ⟨0, 0, 0, ⟨#[]⟩⟩, (rem l i).tail)) := by
  unfold Hid
  simp only [valueR, bnd, opt, ret, hb1, if_true]
 go_enter Tryz.func58, Tryz.ntmps58
 go_wp2_with (first
  | (go_at_call 27; refine (took_yes hE (by decide) hb1 _ (hP.alloc _) rfl).mono ?_; rintro e w1 ⟨rfl, hk1, hP1, hr1⟩; have kk1 := (kp_alloc (gr w g) _).trans hk1; have hs1 := kk1.size; have br1 : Bx w1 (w.heap.size) 46 #[iZ, iZ, .int .u64 0, sZ] := Bx.kp (Bx.newB (by simp) : Bx _ (w.heap.size) 46 #[iZ, iZ, .int .u64 0, sZ]) hk1 (by omega); have lr1 := br1.lt; have cr1_0 := br1.f0; have fr1_0 := br1.open 0; have cr1_1 := br1.f1; have fr1_1 := br1.open 1; have cr1_2 := br1.f2; have fr1_2 := br1.open 2; have cr1_3 := br1.f3; have fr1_3 := br1.open 3))
 refine bodyPost_ret (v := .agg #[.int .i64 0, .int .i64 0, .int .u64 0, .string ⟨#[]⟩]) (by simp [results, Tryz.results58, go_sem, cr1_0, cr1_1, cr1_2, cr1_3]) rfl ?_
 rw [HO.out]
 exact ⟨(kp_set (kp_set (kp_set (kp_set kk1 (by omega) 0 (.int .i64 0)) (by omega) 1 (.int .i64 0)) (by omega) 2 (.int .u64 0)) (by omega) 3 (.string ⟨#[]⟩)), (i + 1), (Nat.le_succ_of_le (Nat.le_refl i)), ((((hP1.set br1 (by decide) (by omega) 0 (.int .i64 0)).set (br1.set 0 (.int .i64 0)) (by decide) (by omega) 1 (.int .i64 0)).set ((br1.set 0 (.int .i64 0)).set 1 (.int .i64 0)) (by decide) (by omega) 2 (.int .u64 0)).set (((br1.set 0 (.int .i64 0)).set 1 (.int .i64 0)).set 2 (.int .u64 0)) (by decide) (by omega) 3 (.string ⟨#[]⟩)), hr1, _, rfl, rfl⟩
theorem sqreadValue_w1 {g : Nat} {v : Value} {l : List Tok} (hE : EndK l) {i : Nat}  (hb1 : isT ⟨#[110, 117, 108, 108]⟩ (rem l i) = false) (hb2 : isT ⟨#[116, 114, 117, 101]⟩ (rem l i) = true) (w : World) (hP : PAt g v l i w) :
  Calls Tryz.prog 58 #[.pointer (some ⟨g, 0, none⟩)] w (Tells g v l i w VV (valueR (rem l i))) := by
 have hg0 := hP.g_lt
 have HO : Hid (valueR (rem l i) = (some ⟨1, 1, 0, ⟨#[]⟩⟩, (rem l i).tail)) := by
  unfold Hid
  simp only [valueR, bnd, opt, ret, hb1, Bool.false_eq_true, if_false, hb2, if_true]
 go_enter Tryz.func58, Tryz.ntmps58
 go_wp2_with (first
  | (go_at_call 27; refine (took_yes hE (by decide) hb2 _ hP1 rfl).mono ?_; rintro e w2 ⟨rfl, hk2, hP2, hr2⟩; have kk2 := kk1.trans hk2; have hs2 := kk2.size; have br2 := Bx.kp br1 hk2 (by omega); have lr2 := br2.lt; have cr2_0 := br2.f0; have fr2_0 := br2.open 0; have cr2_1 := br2.f1; have fr2_1 := br2.open 1; have cr2_2 := br2.f2; have fr2_2 := br2.open 2; have cr2_3 := br2.f3; have fr2_3 := br2.open 3)
  | (go_at_call 27; refine (took_no hb1 _ (hP.alloc _) rfl).mono ?_; rintro e w1 ⟨rfl, hk1, hP1⟩; have kk1 := (kp_alloc (gr w g) _).trans hk1; have hs1 := kk1.size; have br1 : Bx w1 (w.heap.size) 46 #[iZ, iZ, .int .u64 0, sZ] := Bx.kp (Bx.newB (by simp) : Bx _ (w.heap.size) 46 #[iZ, iZ, .int .u64 0, sZ]) hk1 (by omega); have lr1 := br1.lt))
 refine bodyPost_ret (v := .agg #[.int .i64 1, .int .i64 1, .int .u64 0, .string ⟨#[]⟩]) (by simp [results, Tryz.results58, go_sem, cr2_0, cr2_1, cr2_2, cr2_3]) rfl ?_
 rw [HO.out]
 exact ⟨(kp_set (kp_set (kp_set (kp_set kk2 (by omega) 0 (.int .i64 1)) (by omega) 1 (.int .i64 1)) (by omega) 2 (.int .u64 0)) (by omega) 3 (.string ⟨#[]⟩)), (i + 1), (Nat.le_succ_of_le (Nat.le_refl i)), ((((hP2.set br2 (by decide) (by omega) 0 (.int .i64 1)).set (br2.set 0 (.int .i64 1)) (by decide) (by omega) 1 (.int .i64 1)).set ((br2.set 0 (.int .i64 1)).set 1 (.int .i64 1)) (by decide) (by omega) 2 (.int .u64 0)).set (((br2.set 0 (.int .i64 1)).set 1 (.int .i64 1)).set 2 (.int .u64 0)) (by decide) (by omega) 3 (.string ⟨#[]⟩)), hr2, _, rfl, rfl⟩
theorem sqreadValue_w2 {g : Nat} {v : Value} {l : List Tok} (hE : EndK l) {i : Nat}  (hb1 : isT ⟨#[110, 117, 108, 108]⟩ (rem l i) = false) (hb2 : isT ⟨#[116, 114, 117, 101]⟩ (rem l i) = false) (hb3 : isT ⟨#[102, 97, 108, 115, 101]⟩ (rem l i) = true) (w : World) (hP : PAt g v l i w) :
  Calls Tryz.prog 58 #[.pointer (some ⟨g, 0, none⟩)] w (Tells g v l i w VV (valueR (rem l i))) := by
 have hg0 := hP.g_lt
 have HO : Hid (valueR (rem l i) = (some ⟨1, 0, 0, ⟨#[]⟩⟩, (rem l i).tail)) := by
  unfold Hid
  simp only [valueR, bnd, opt, ret, hb1, Bool.false_eq_true, if_false, hb2, hb3, if_true]
 go_enter Tryz.func58, Tryz.ntmps58
 go_wp2_with (first
  | (go_at_call 27; refine (took_yes hE (by decide) hb3 _ hP2 rfl).mono ?_; rintro e w3 ⟨rfl, hk3, hP3, hr3⟩; have kk3 := kk2.trans hk3; have hs3 := kk3.size; have br3 := Bx.kp br2 hk3 (by omega); have lr3 := br3.lt; have cr3_0 := br3.f0; have fr3_0 := br3.open 0; have cr3_1 := br3.f1; have fr3_1 := br3.open 1; have cr3_2 := br3.f2; have fr3_2 := br3.open 2; have cr3_3 := br3.f3; have fr3_3 := br3.open 3)
  | (go_at_call 27; refine (took_no hb2 _ hP1 rfl).mono ?_; rintro e w2 ⟨rfl, hk2, hP2⟩; have kk2 := kk1.trans hk2; have hs2 := kk2.size; have br2 := Bx.kp br1 hk2 (by omega); have lr2 := br2.lt)
  | (go_at_call 27; refine (took_no hb1 _ (hP.alloc _) rfl).mono ?_; rintro e w1 ⟨rfl, hk1, hP1⟩; have kk1 := (kp_alloc (gr w g) _).trans hk1; have hs1 := kk1.size; have br1 : Bx w1 (w.heap.size) 46 #[iZ, iZ, .int .u64 0, sZ] := Bx.kp (Bx.newB (by simp) : Bx _ (w.heap.size) 46 #[iZ, iZ, .int .u64 0, sZ]) hk1 (by omega); have lr1 := br1.lt))
 refine bodyPost_ret (v := .agg #[.int .i64 1, .int .i64 0, .int .u64 0, .string ⟨#[]⟩]) (by simp [results, Tryz.results58, go_sem, cr3_0, cr3_1, cr3_2, cr3_3]) rfl ?_
 rw [HO.out]
 exact ⟨(kp_set (kp_set (kp_set (kp_set kk3 (by omega) 0 (.int .i64 1)) (by omega) 1 (.int .i64 0)) (by omega) 2 (.int .u64 0)) (by omega) 3 (.string ⟨#[]⟩)), (i + 1), (Nat.le_succ_of_le (Nat.le_refl i)), ((((hP3.set br3 (by decide) (by omega) 0 (.int .i64 1)).set (br3.set 0 (.int .i64 1)) (by decide) (by omega) 1 (.int .i64 0)).set ((br3.set 0 (.int .i64 1)).set 1 (.int .i64 0)) (by decide) (by omega) 2 (.int .u64 0)).set (((br3.set 0 (.int .i64 1)).set 1 (.int .i64 0)).set 2 (.int .u64 0)) (by decide) (by omega) 3 (.string ⟨#[]⟩)), hr3, _, rfl, rfl⟩
theorem sqreadValue_w3 {g : Nat} {v : Value} {l : List Tok} (hE : EndK l) {i : Nat}  {q4 : List TkC} (hb1 : isT ⟨#[110, 117, 108, 108]⟩ (rem l i) = false) (hb2 : isT ⟨#[116, 114, 117, 101]⟩ (rem l i) = false) (hb3 : isT ⟨#[102, 97, 108, 115, 101]⟩ (rem l i) = false) (e4 : kindR 3 (rem l i) = (none, q4)) (w : World) (hP : PAt g v l i w) :
  Calls Tryz.prog 58 #[.pointer (some ⟨g, 0, none⟩)] w (Tells g v l i w VV (valueR (rem l i))) := by
 have hg0 := hP.g_lt
 have HO : Hid (valueR (rem l i) = (none, q4)) := by
  unfold Hid
  simp only [valueR, bnd, opt, ret, hb1, Bool.false_eq_true, if_false, hb2, hb3, e4]
 go_enter Tryz.func58, Tryz.ntmps58
 go_wp2_with (first
  | (go_at_call 101; refine (takeKind_any hE 3 (by decide) _ hP3).mono ?_; intro e w4 hT4; obtain ⟨j4, rfl, hk4, hj4, hP4, hr4⟩ := tells_no hT4 rfl e4)
  | (go_at_call 27; refine (took_no hb3 _ hP2 rfl).mono ?_; rintro e w3 ⟨rfl, hk3, hP3⟩; have kk3 := kk2.trans hk3; have hs3 := kk3.size; have br3 := Bx.kp br2 hk3 (by omega); have lr3 := br3.lt)
  | (go_at_call 27; refine (took_no hb2 _ hP1 rfl).mono ?_; rintro e w2 ⟨rfl, hk2, hP2⟩; have kk2 := kk1.trans hk2; have hs2 := kk2.size; have br2 := Bx.kp br1 hk2 (by omega); have lr2 := br2.lt)
  | (go_at_call 27; refine (took_no hb1 _ (hP.alloc _) rfl).mono ?_; rintro e w1 ⟨rfl, hk1, hP1⟩; have kk1 := (kp_alloc (gr w g) _).trans hk1; have hs1 := kk1.size; have br1 : Bx w1 (w.heap.size) 46 #[iZ, iZ, .int .u64 0, sZ] := Bx.kp (Bx.newB (by simp) : Bx _ (w.heap.size) 46 #[iZ, iZ, .int .u64 0, sZ]) hk1 (by omega); have lr1 := br1.lt))
 refine ⟨rfl, ?_⟩
 rw [HO.out]
 exact ⟨kk3.trans hk4, j4, (by omega), hP4, hr4, rfl⟩
theorem sqreadValue_w4 {g : Nat} {v : Value} {l : List Tok} (hE : EndK l) {i : Nat}  {xk : Int} {xt : ByteArray} {xa xb : Int} {xc : Nat} {xd : ByteArray} {q4 : List TkC} (hb1 : isT ⟨#[110, 117, 108, 108]⟩ (rem l i) = false) (hb2 : isT ⟨#[116, 114, 117, 101]⟩ (rem l i) = false) (hb3 : isT ⟨#[102, 97, 108, 115, 101]⟩ (rem l i) = false) (e4 : kindR 3 (rem l i) = (some (xk, xt, ⟨xa, xb, xc, xd⟩), q4)) (w : World) (hP : PAt g v l i w) :
  Calls Tryz.prog 58 #[.pointer (some ⟨g, 0, none⟩)] w (Tells g v l i w VV (valueR (rem l i))) := by
 have hg0 := hP.g_lt
 have HO : Hid (valueR (rem l i) = (some ⟨xa, xb, xc, xd⟩, q4)) := by
  unfold Hid
  simp only [valueR, bnd, opt, ret, hb1, Bool.false_eq_true, if_false, hb2, hb3, e4]
 go_enter Tryz.func58, Tryz.ntmps58
 go_wp2_with (first
  | (go_at_call 101; refine (takeKind_any hE 3 (by decide) _ hP3).mono ?_; intro e w4 hT4; obtain ⟨u4, j4, rfl, hk4, hj4, hP4, hr4, hV4⟩ := tells_yes hT4 rfl e4; obtain ⟨p4, rfl⟩ := hV4; have hf4 := tok_f1 xk xt ⟨xa, xb, xc, xd⟩ p4; have hg4 := tok_f2v xk xt xa xb xc xd p4; have kk4 := kk3.trans hk4; have hs4 := kk4.size; have br4 := Bx.kp br3 hk4 (by omega); have lr4 := br4.lt; have cr4_0 := br4.f0; have fr4_0 := br4.open 0; have cr4_1 := br4.f1; have fr4_1 := br4.open 1; have cr4_2 := br4.f2; have fr4_2 := br4.open 2; have cr4_3 := br4.f3; have fr4_3 := br4.open 3)
  | (go_at_call 27; refine (took_no hb3 _ hP2 rfl).mono ?_; rintro e w3 ⟨rfl, hk3, hP3⟩; have kk3 := kk2.trans hk3; have hs3 := kk3.size; have br3 := Bx.kp br2 hk3 (by omega); have lr3 := br3.lt)
  | (go_at_call 27; refine (took_no hb2 _ hP1 rfl).mono ?_; rintro e w2 ⟨rfl, hk2, hP2⟩; have kk2 := kk1.trans hk2; have hs2 := kk2.size; have br2 := Bx.kp br1 hk2 (by omega); have lr2 := br2.lt)
  | (go_at_call 27; refine (took_no hb1 _ (hP.alloc _) rfl).mono ?_; rintro e w1 ⟨rfl, hk1, hP1⟩; have kk1 := (kp_alloc (gr w g) _).trans hk1; have hs1 := kk1.size; have br1 : Bx w1 (w.heap.size) 46 #[iZ, iZ, .int .u64 0, sZ] := Bx.kp (Bx.newB (by simp) : Bx _ (w.heap.size) 46 #[iZ, iZ, .int .u64 0, sZ]) hk1 (by omega); have lr1 := br1.lt))
 refine bodyPost_ret (v := .agg #[.int .i64 xa, .int .i64 xb, .int .u64 (xc : Int), .string xd]) (by simp [results, Tryz.results58, go_sem, cr4_0, cr4_1, cr4_2, cr4_3]) rfl ?_
 rw [HO.out]
 exact ⟨(kp_set (kp_set (kp_set (kp_set kk4 (by omega) 0 (.int .i64 xa)) (by omega) 1 (.int .i64 xb)) (by omega) 2 (.int .u64 (xc : Int))) (by omega) 3 (.string xd)), j4, (by omega), ((((hP4.set br4 (by decide) (by omega) 0 (.int .i64 xa)).set (br4.set 0 (.int .i64 xa)) (by decide) (by omega) 1 (.int .i64 xb)).set ((br4.set 0 (.int .i64 xa)).set 1 (.int .i64 xb)) (by decide) (by omega) 2 (.int .u64 (xc : Int))).set (((br4.set 0 (.int .i64 xa)).set 1 (.int .i64 xb)).set 2 (.int .u64 (xc : Int))) (by decide) (by omega) 3 (.string xd)), hr4, _, rfl, rfl⟩
theorem sqreadValue_any {g : Nat} {v : Value} {l : List Tok} (hE : EndK l) {i : Nat}  (w : World) (hP : PAt g v l i w) :
  Calls Tryz.prog 58 #[.pointer (some ⟨g, 0, none⟩)] w (Tells g v l i w VV (valueR (rem l i))) := by
 rcases Bool.eq_false_or_eq_true (isT ⟨#[110, 117, 108, 108]⟩ (rem l i)) with hb1 | hb1
 ·exact sqreadValue_w0 hE hb1 w hP
 ·rcases Bool.eq_false_or_eq_true (isT ⟨#[116, 114, 117, 101]⟩ (rem l i)) with hb2 | hb2
  ·exact sqreadValue_w1 hE hb1 hb2 w hP
  ·rcases Bool.eq_false_or_eq_true (isT ⟨#[102, 97, 108, 115, 101]⟩ (rem l i)) with hb3 | hb3
   ·exact sqreadValue_w2 hE hb1 hb2 hb3 w hP
   ·rcases e4 : kindR 3 (rem l i) with ⟨o4, q4⟩
    cases o4 with
    | none =>
     exact sqreadValue_w3 hE hb1 hb2 hb3 e4 w hP
    | some a4 =>
     obtain ⟨xk, xt, ⟨xa, xb, xc, xd⟩⟩ := a4
     exact sqreadValue_w4 hE hb1 hb2 hb3 e4 w hP
theorem sqreadSign_w0 {g : Nat} {v : Value} {l : List Tok} (hE : EndK l) {i : Nat}  (hb1 : isT ⟨#[61]⟩ (rem l i) = true) (w : World) (hP : PAt g v l i w) :
  Calls Tryz.prog 129 #[.pointer (some ⟨g, 0, none⟩)] w (Tells g v l i w VI (signR (rem l i))) := by
 have hg0 := hP.g_lt
 have HO : Hid (signR (rem l i) = (some 1, (rem l i).tail)) := by
  unfold Hid
  simp only [signR, bnd, opt, ret, hb1, if_true]
 go_enter Tryz.func129, Tryz.ntmps129
 go_wp2_with (first
  | (go_at_call 27; refine (took_yes hE (by decide) hb1 _ hP rfl).mono ?_; rintro e w1 ⟨rfl, hk1, hP1, hr1⟩; have kk1 := (gr w g).trans hk1; have hs1 := kk1.size))
 go_ret
 rw [HO.out]
 exact ⟨kk1, (i + 1), (Nat.le_succ_of_le (Nat.le_refl i)), hP1, hr1, _, rfl, rfl⟩
theorem sqreadSign_w1 {g : Nat} {v : Value} {l : List Tok} (hE : EndK l) {i : Nat}  (hb1 : isT ⟨#[61]⟩ (rem l i) = false) (hb2 : isT ⟨#[60]⟩ (rem l i) = true) (w : World) (hP : PAt g v l i w) :
  Calls Tryz.prog 129 #[.pointer (some ⟨g, 0, none⟩)] w (Tells g v l i w VI (signR (rem l i))) := by
 have hg0 := hP.g_lt
 have HO : Hid (signR (rem l i) = (some 2, (rem l i).tail)) := by
  unfold Hid
  simp only [signR, bnd, opt, ret, hb1, Bool.false_eq_true, if_false, hb2, if_true]
 go_enter Tryz.func129, Tryz.ntmps129
 go_wp2_with (first
  | (go_at_call 27; refine (took_yes hE (by decide) hb2 _ hP1 rfl).mono ?_; rintro e w2 ⟨rfl, hk2, hP2, hr2⟩; have kk2 := kk1.trans hk2; have hs2 := kk2.size)
  | (go_at_call 27; refine (took_no hb1 _ hP rfl).mono ?_; rintro e w1 ⟨rfl, hk1, hP1⟩; have kk1 := (gr w g).trans hk1; have hs1 := kk1.size))
 go_ret
 rw [HO.out]
 exact ⟨kk2, (i + 1), (Nat.le_succ_of_le (Nat.le_refl i)), hP2, hr2, _, rfl, rfl⟩
theorem sqreadSign_w2 {g : Nat} {v : Value} {l : List Tok} (hE : EndK l) {i : Nat}  {q3 : List TkC} (hb1 : isT ⟨#[61]⟩ (rem l i) = false) (hb2 : isT ⟨#[60]⟩ (rem l i) = false) (e3 : takeR ⟨#[62]⟩ (rem l i) = (none, q3)) (w : World) (hP : PAt g v l i w) :
  Calls Tryz.prog 129 #[.pointer (some ⟨g, 0, none⟩)] w (Tells g v l i w VI (signR (rem l i))) := by
 have hg0 := hP.g_lt
 have HO : Hid (signR (rem l i) = (none, q3)) := by
  unfold Hid
  simp only [signR, bnd, opt, ret, hb1, Bool.false_eq_true, if_false, hb2, e3]
 go_enter Tryz.func129, Tryz.ntmps129
 go_wp2_with (first
  | (go_at_call 34; refine (take_1 hE (by decide) _ (hP2.alloc _) (Bx.newB (by simp)) (by omega)).mono ?_; intro e w3 hT3; obtain ⟨j3, rfl, hk3, hj3, hP3, hr3⟩ := tells_no hT3 rfl e3)
  | (go_at_call 27; refine (took_no hb2 _ hP1 rfl).mono ?_; rintro e w2 ⟨rfl, hk2, hP2⟩; have kk2 := kk1.trans hk2; have hs2 := kk2.size)
  | (go_at_call 27; refine (took_no hb1 _ hP rfl).mono ?_; rintro e w1 ⟨rfl, hk1, hP1⟩; have kk1 := (gr w g).trans hk1; have hs1 := kk1.size))
 refine ⟨rfl, ?_⟩
 rw [HO.out]
 exact ⟨(kp_alloc kk2 _).trans hk3, j3, (by omega), hP3, hr3, rfl⟩
theorem sqreadSign_w3 {g : Nat} {v : Value} {l : List Tok} (hE : EndK l) {i : Nat}  {q3 : List TkC} (hb1 : isT ⟨#[61]⟩ (rem l i) = false) (hb2 : isT ⟨#[60]⟩ (rem l i) = false) (e3 : takeR ⟨#[62]⟩ (rem l i) = (some (), q3)) (w : World) (hP : PAt g v l i w) :
  Calls Tryz.prog 129 #[.pointer (some ⟨g, 0, none⟩)] w (Tells g v l i w VI (signR (rem l i))) := by
 have hg0 := hP.g_lt
 have HO : Hid (signR (rem l i) = (some 3, q3)) := by
  unfold Hid
  simp only [signR, bnd, opt, ret, hb1, Bool.false_eq_true, if_false, hb2, e3]
 go_enter Tryz.func129, Tryz.ntmps129
 go_wp2_with (first
  | (go_at_call 34; refine (take_1 hE (by decide) _ (hP2.alloc _) (Bx.newB (by simp)) (by omega)).mono ?_; intro e w3 hT3; obtain ⟨_, j3, rfl, hk3, hj3, hP3, hr3, rfl⟩ := tells_yes hT3 rfl e3; have kk3 := (kp_alloc kk2 _).trans hk3; have hs3 := kk3.size)
  | (go_at_call 27; refine (took_no hb2 _ hP1 rfl).mono ?_; rintro e w2 ⟨rfl, hk2, hP2⟩; have kk2 := kk1.trans hk2; have hs2 := kk2.size)
  | (go_at_call 27; refine (took_no hb1 _ hP rfl).mono ?_; rintro e w1 ⟨rfl, hk1, hP1⟩; have kk1 := (gr w g).trans hk1; have hs1 := kk1.size))
 go_ret
 rw [HO.out]
 exact ⟨kk3, j3, (by omega), hP3, hr3, _, rfl, rfl⟩
theorem sqreadSign_any {g : Nat} {v : Value} {l : List Tok} (hE : EndK l) {i : Nat}  (w : World) (hP : PAt g v l i w) :
  Calls Tryz.prog 129 #[.pointer (some ⟨g, 0, none⟩)] w (Tells g v l i w VI (signR (rem l i))) := by
 rcases Bool.eq_false_or_eq_true (isT ⟨#[61]⟩ (rem l i)) with hb1 | hb1
 ·exact sqreadSign_w0 hE hb1 w hP
 ·rcases Bool.eq_false_or_eq_true (isT ⟨#[60]⟩ (rem l i)) with hb2 | hb2
  ·exact sqreadSign_w1 hE hb1 hb2 w hP
  ·rcases e3 : takeR ⟨#[62]⟩ (rem l i) with ⟨o3, q3⟩
   cases o3 with
   | none =>
    exact sqreadSign_w2 hE hb1 hb2 e3 w hP
   | some a3 =>
    cases a3
    exact sqreadSign_w3 hE hb1 hb2 e3 w hP
theorem sqreadType_w0 {g : Nat} {v : Value} {l : List Tok} (hE : EndK l) {i : Nat}  (hb1 : isT ⟨#[98, 111, 111, 108]⟩ (rem l i) = true) (w : World) (hP : PAt g v l i w) :
  Calls Tryz.prog 107 #[.pointer (some ⟨g, 0, none⟩)] w (Tells g v l i w VI (typeR (rem l i))) := by
 have hg0 := hP.g_lt
 have HO : Hid (typeR (rem l i) = (some 1, (rem l i).tail)) := by
  unfold Hid
  simp only [typeR, bnd, opt, ret, hb1, if_true]
 go_enter Tryz.func107, Tryz.ntmps107
 go_wp2_with (first
  | (go_at_call 27; refine (took_yes hE (by decide) hb1 _ hP rfl).mono ?_; rintro e w1 ⟨rfl, hk1, hP1, hr1⟩; have kk1 := (gr w g).trans hk1; have hs1 := kk1.size))
 go_ret
 rw [HO.out]
 exact ⟨kk1, (i + 1), (Nat.le_succ_of_le (Nat.le_refl i)), hP1, hr1, _, rfl, rfl⟩
theorem sqreadType_w1 {g : Nat} {v : Value} {l : List Tok} (hE : EndK l) {i : Nat}  (hb1 : isT ⟨#[98, 111, 111, 108]⟩ (rem l i) = false) (hb2 : isT ⟨#[105, 110, 116]⟩ (rem l i) = true) (w : World) (hP : PAt g v l i w) :
  Calls Tryz.prog 107 #[.pointer (some ⟨g, 0, none⟩)] w (Tells g v l i w VI (typeR (rem l i))) := by
 have hg0 := hP.g_lt
 have HO : Hid (typeR (rem l i) = (some 2, (rem l i).tail)) := by
  unfold Hid
  simp only [typeR, bnd, opt, ret, hb1, Bool.false_eq_true, if_false, hb2, if_true]
 go_enter Tryz.func107, Tryz.ntmps107
 go_wp2_with (first
  | (go_at_call 27; refine (took_yes hE (by decide) hb2 _ hP1 rfl).mono ?_; rintro e w2 ⟨rfl, hk2, hP2, hr2⟩; have kk2 := kk1.trans hk2; have hs2 := kk2.size)
  | (go_at_call 27; refine (took_no hb1 _ hP rfl).mono ?_; rintro e w1 ⟨rfl, hk1, hP1⟩; have kk1 := (gr w g).trans hk1; have hs1 := kk1.size))
 go_ret
 rw [HO.out]
 exact ⟨kk2, (i + 1), (Nat.le_succ_of_le (Nat.le_refl i)), hP2, hr2, _, rfl, rfl⟩
theorem sqreadType_w2 {g : Nat} {v : Value} {l : List Tok} (hE : EndK l) {i : Nat}  (hb1 : isT ⟨#[98, 111, 111, 108]⟩ (rem l i) = false) (hb2 : isT ⟨#[105, 110, 116]⟩ (rem l i) = false) (hb3 : isT ⟨#[102, 108, 111, 97, 116]⟩ (rem l i) = true) (w : World) (hP : PAt g v l i w) :
  Calls Tryz.prog 107 #[.pointer (some ⟨g, 0, none⟩)] w (Tells g v l i w VI (typeR (rem l i))) := by
 have hg0 := hP.g_lt
 have HO : Hid (typeR (rem l i) = (some 3, (rem l i).tail)) := by
  unfold Hid
  simp only [typeR, bnd, opt, ret, hb1, Bool.false_eq_true, if_false, hb2, hb3, if_true]
 go_enter Tryz.func107, Tryz.ntmps107
 go_wp2_with (first
  | (go_at_call 27; refine (took_yes hE (by decide) hb3 _ hP2 rfl).mono ?_; rintro e w3 ⟨rfl, hk3, hP3, hr3⟩; have kk3 := kk2.trans hk3; have hs3 := kk3.size)
  | (go_at_call 27; refine (took_no hb2 _ hP1 rfl).mono ?_; rintro e w2 ⟨rfl, hk2, hP2⟩; have kk2 := kk1.trans hk2; have hs2 := kk2.size)
  | (go_at_call 27; refine (took_no hb1 _ hP rfl).mono ?_; rintro e w1 ⟨rfl, hk1, hP1⟩; have kk1 := (gr w g).trans hk1; have hs1 := kk1.size))
 go_ret
 rw [HO.out]
 exact ⟨kk3, (i + 1), (Nat.le_succ_of_le (Nat.le_refl i)), hP3, hr3, _, rfl, rfl⟩
theorem sqreadType_w3 {g : Nat} {v : Value} {l : List Tok} (hE : EndK l) {i : Nat}  (hb1 : isT ⟨#[98, 111, 111, 108]⟩ (rem l i) = false) (hb2 : isT ⟨#[105, 110, 116]⟩ (rem l i) = false) (hb3 : isT ⟨#[102, 108, 111, 97, 116]⟩ (rem l i) = false) (hb4 : isT ⟨#[98, 121, 116, 101, 115]⟩ (rem l i) = true) (w : World) (hP : PAt g v l i w) :
  Calls Tryz.prog 107 #[.pointer (some ⟨g, 0, none⟩)] w (Tells g v l i w VI (typeR (rem l i))) := by
 have hg0 := hP.g_lt
 have HO : Hid (typeR (rem l i) = (some 4, (rem l i).tail)) := by
  unfold Hid
  simp only [typeR, bnd, opt, ret, hb1, Bool.false_eq_true, if_false, hb2, hb3, hb4, if_true]
 go_enter Tryz.func107, Tryz.ntmps107
 go_wp2_with (first
  | (go_at_call 27; refine (took_yes hE (by decide) hb4 _ hP3 rfl).mono ?_; rintro e w4 ⟨rfl, hk4, hP4, hr4⟩; have kk4 := kk3.trans hk4; have hs4 := kk4.size)
  | (go_at_call 27; refine (took_no hb3 _ hP2 rfl).mono ?_; rintro e w3 ⟨rfl, hk3, hP3⟩; have kk3 := kk2.trans hk3; have hs3 := kk3.size)
  | (go_at_call 27; refine (took_no hb2 _ hP1 rfl).mono ?_; rintro e w2 ⟨rfl, hk2, hP2⟩; have kk2 := kk1.trans hk2; have hs2 := kk2.size)
  | (go_at_call 27; refine (took_no hb1 _ hP rfl).mono ?_; rintro e w1 ⟨rfl, hk1, hP1⟩; have kk1 := (gr w g).trans hk1; have hs1 := kk1.size))
 go_ret
 rw [HO.out]
 exact ⟨kk4, (i + 1), (Nat.le_succ_of_le (Nat.le_refl i)), hP4, hr4, _, rfl, rfl⟩
theorem sqreadType_w4 {g : Nat} {v : Value} {l : List Tok} (hE : EndK l) {i : Nat}  {q5 : List TkC} (hb1 : isT ⟨#[98, 111, 111, 108]⟩ (rem l i) = false) (hb2 : isT ⟨#[105, 110, 116]⟩ (rem l i) = false) (hb3 : isT ⟨#[102, 108, 111, 97, 116]⟩ (rem l i) = false) (hb4 : isT ⟨#[98, 121, 116, 101, 115]⟩ (rem l i) = false) (e5 : takeR ⟨#[116, 101, 120, 116]⟩ (rem l i) = (none, q5)) (w : World) (hP : PAt g v l i w) :
  Calls Tryz.prog 107 #[.pointer (some ⟨g, 0, none⟩)] w (Tells g v l i w VI (typeR (rem l i))) := by
 have hg0 := hP.g_lt
 have HO : Hid (typeR (rem l i) = (none, q5)) := by
  unfold Hid
  simp only [typeR, bnd, opt, ret, hb1, Bool.false_eq_true, if_false, hb2, hb3, hb4, e5]
 go_enter Tryz.func107, Tryz.ntmps107
 go_wp2_with (first
  | (go_at_call 34; refine (take_1 hE (by decide) _ (hP4.alloc _) (Bx.newB (by simp)) (by omega)).mono ?_; intro e w5 hT5; obtain ⟨j5, rfl, hk5, hj5, hP5, hr5⟩ := tells_no hT5 rfl e5)
  | (go_at_call 27; refine (took_no hb4 _ hP3 rfl).mono ?_; rintro e w4 ⟨rfl, hk4, hP4⟩; have kk4 := kk3.trans hk4; have hs4 := kk4.size)
  | (go_at_call 27; refine (took_no hb3 _ hP2 rfl).mono ?_; rintro e w3 ⟨rfl, hk3, hP3⟩; have kk3 := kk2.trans hk3; have hs3 := kk3.size)
  | (go_at_call 27; refine (took_no hb2 _ hP1 rfl).mono ?_; rintro e w2 ⟨rfl, hk2, hP2⟩; have kk2 := kk1.trans hk2; have hs2 := kk2.size)
  | (go_at_call 27; refine (took_no hb1 _ hP rfl).mono ?_; rintro e w1 ⟨rfl, hk1, hP1⟩; have kk1 := (gr w g).trans hk1; have hs1 := kk1.size))
 refine ⟨rfl, ?_⟩
 rw [HO.out]
 exact ⟨(kp_alloc kk4 _).trans hk5, j5, (by omega), hP5, hr5, rfl⟩
theorem sqreadType_w5 {g : Nat} {v : Value} {l : List Tok} (hE : EndK l) {i : Nat}  {q5 : List TkC} (hb1 : isT ⟨#[98, 111, 111, 108]⟩ (rem l i) = false) (hb2 : isT ⟨#[105, 110, 116]⟩ (rem l i) = false) (hb3 : isT ⟨#[102, 108, 111, 97, 116]⟩ (rem l i) = false) (hb4 : isT ⟨#[98, 121, 116, 101, 115]⟩ (rem l i) = false) (e5 : takeR ⟨#[116, 101, 120, 116]⟩ (rem l i) = (some (), q5)) (w : World) (hP : PAt g v l i w) :
  Calls Tryz.prog 107 #[.pointer (some ⟨g, 0, none⟩)] w (Tells g v l i w VI (typeR (rem l i))) := by
 have hg0 := hP.g_lt
 have HO : Hid (typeR (rem l i) = (some 5, q5)) := by
  unfold Hid
  simp only [typeR, bnd, opt, ret, hb1, Bool.false_eq_true, if_false, hb2, hb3, hb4, e5]
 go_enter Tryz.func107, Tryz.ntmps107
 go_wp2_with (first
  | (go_at_call 34; refine (take_1 hE (by decide) _ (hP4.alloc _) (Bx.newB (by simp)) (by omega)).mono ?_; intro e w5 hT5; obtain ⟨_, j5, rfl, hk5, hj5, hP5, hr5, rfl⟩ := tells_yes hT5 rfl e5; have kk5 := (kp_alloc kk4 _).trans hk5; have hs5 := kk5.size)
  | (go_at_call 27; refine (took_no hb4 _ hP3 rfl).mono ?_; rintro e w4 ⟨rfl, hk4, hP4⟩; have kk4 := kk3.trans hk4; have hs4 := kk4.size)
  | (go_at_call 27; refine (took_no hb3 _ hP2 rfl).mono ?_; rintro e w3 ⟨rfl, hk3, hP3⟩; have kk3 := kk2.trans hk3; have hs3 := kk3.size)
  | (go_at_call 27; refine (took_no hb2 _ hP1 rfl).mono ?_; rintro e w2 ⟨rfl, hk2, hP2⟩; have kk2 := kk1.trans hk2; have hs2 := kk2.size)
  | (go_at_call 27; refine (took_no hb1 _ hP rfl).mono ?_; rintro e w1 ⟨rfl, hk1, hP1⟩; have kk1 := (gr w g).trans hk1; have hs1 := kk1.size))
 go_ret
 rw [HO.out]
 exact ⟨kk5, j5, (by omega), hP5, hr5, _, rfl, rfl⟩
theorem sqreadType_any {g : Nat} {v : Value} {l : List Tok} (hE : EndK l) {i : Nat}  (w : World) (hP : PAt g v l i w) :
  Calls Tryz.prog 107 #[.pointer (some ⟨g, 0, none⟩)] w (Tells g v l i w VI (typeR (rem l i))) := by
 rcases Bool.eq_false_or_eq_true (isT ⟨#[98, 111, 111, 108]⟩ (rem l i)) with hb1 | hb1
 ·exact sqreadType_w0 hE hb1 w hP
 ·rcases Bool.eq_false_or_eq_true (isT ⟨#[105, 110, 116]⟩ (rem l i)) with hb2 | hb2
  ·exact sqreadType_w1 hE hb1 hb2 w hP
  ·rcases Bool.eq_false_or_eq_true (isT ⟨#[102, 108, 111, 97, 116]⟩ (rem l i)) with hb3 | hb3
   ·exact sqreadType_w2 hE hb1 hb2 hb3 w hP
   ·rcases Bool.eq_false_or_eq_true (isT ⟨#[98, 121, 116, 101, 115]⟩ (rem l i)) with hb4 | hb4
    ·exact sqreadType_w3 hE hb1 hb2 hb3 hb4 w hP
    ·rcases e5 : takeR ⟨#[116, 101, 120, 116]⟩ (rem l i) with ⟨o5, q5⟩
     cases o5 with
     | none =>
      exact sqreadType_w4 hE hb1 hb2 hb3 hb4 e5 w hP
     | some a5 =>
      cases a5
      exact sqreadType_w5 hE hb1 hb2 hb3 hb4 e5 w hP
theorem sqreadCond_w0 {g : Nat} {v : Value} {l : List Tok} (hE : EndK l) {i : Nat}  {q1 : List TkC} (e1 : nameR (rem l i) = (none, q1)) (w : World) (hP : PAt g v l i w) :
  Calls Tryz.prog 104 #[.pointer (some ⟨g, 0, none⟩)] w (Tells g v l i w VC (condR (rem l i))) := by
 have hg0 := hP.g_lt
 have HO : Hid (condR (rem l i) = (none, q1)) := by
  unfold Hid
  simp only [condR, bnd, opt, ret, e1]
 go_enter Tryz.func104, Tryz.ntmps104
 go_wp2_with (first
  | (go_at_call 55; refine (sqreadName_any hE _ (hP.alloc _)).mono ?_; intro e w1 hT1; obtain ⟨j1, rfl, hk1, hj1, hP1, hr1⟩ := tells_no hT1 rfl e1))
 refine ⟨rfl, ?_⟩
 rw [HO.out]
 exact ⟨(kp_alloc (gr w g) _).trans hk1, j1, (by omega), hP1, hr1, rfl⟩
theorem sqreadCond_w1 {g : Nat} {v : Value} {l : List Tok} (hE : EndK l) {i : Nat}  {c : ByteArray} {q1 q4 : List TkC} (e1 : nameR (rem l i) = (some c, q1)) (hb2 : isT ⟨#[105, 115]⟩ q1 = true) (hb3 : isT ⟨#[110, 111, 116]⟩ q1.tail = true) (e4 : takeR ⟨#[110, 117, 108, 108]⟩ q1.tail.tail = (none, q4)) (w : World) (hP : PAt g v l i w) :
  Calls Tryz.prog 104 #[.pointer (some ⟨g, 0, none⟩)] w (Tells g v l i w VC (condR (rem l i))) := by
 have hg0 := hP.g_lt
 have HO : Hid (condR (rem l i) = (none, q4)) := by
  unfold Hid
  simp only [condR, bnd, opt, ret, e1, hb2, if_true, hb3, e4]
 go_enter Tryz.func104, Tryz.ntmps104
 go_wp2_with (first
  | (go_at_call 34; refine (take_1 hE (by decide) _ ((hP3.set bx3 (by decide) (by omega) 1 (.int .i64 5)).alloc _) (Bx.newB (by simp)) (by omega)).mono ?_; intro e w4 hT4; obtain ⟨j4, rfl, hk4, hj4, hP4, hr4⟩ := tells_no hT4 hr3 e4)
  | (go_at_call 27; refine (took_yes hE (by decide) hb3 _ (hP2.set bx2 (by decide) (by omega) 1 (.int .i64 4)) hr2).mono ?_; rintro e w3 ⟨rfl, hk3, hP3, hr3⟩; have kk3 := (kp_set kk2 (by omega) 1 (.int .i64 4)).trans hk3; have hs3 := kk3.size; have br3 : Bx w3 (w.heap.size) 67 #[sZ, iZ, iZ, iZ, .int .u64 0, sZ] := Bx.kp (br2.other (by omega) 1 (.int .i64 4)) hk3 (by omega); have lr3 := br3.lt; have bx3 : Bx w3 (w1.heap.size) 67 #[.string c, .int .i64 4, iZ, iZ, .int .u64 0, sZ] := Bx.kp (bx2.set 1 (.int .i64 4)) hk3 (by omega); have lx3 := bx3.lt; have nrx3 : ¬ w.heap.size = w1.heap.size := (by omega); have nxr3 := Ne.symm nrx3; have cx3_1 := bx3.s1; have fx3_1 := bx3.open 1)
  | (go_at_call 27; refine (took_yes hE (by decide) hb2 _ (hP1.alloc _) hr1).mono ?_; rintro e w2 ⟨rfl, hk2, hP2, hr2⟩; have kk2 := (kp_alloc kk1 _).trans hk2; have hs2 := kk2.size; have br2 : Bx w2 (w.heap.size) 67 #[sZ, iZ, iZ, iZ, .int .u64 0, sZ] := Bx.kp (br1.alloc _) hk2 (by omega); have lr2 := br2.lt; have bx2 : Bx w2 (w1.heap.size) 67 #[.string c, iZ, iZ, iZ, .int .u64 0, sZ] := Bx.kp (Bx.newB (by simp) : Bx _ (w1.heap.size) 67 #[.string c, iZ, iZ, iZ, .int .u64 0, sZ]) hk2 (by omega); have lx2 := bx2.lt; have nrx2 : ¬ w.heap.size = w1.heap.size := (by omega); have nxr2 := Ne.symm nrx2; have cx2_1 := bx2.s1; have fx2_1 := bx2.open 1)
  | (go_at_call 55; refine (sqreadName_any hE _ (hP.alloc _)).mono ?_; intro e w1 hT1; obtain ⟨_, j1, rfl, hk1, hj1, hP1, hr1, rfl⟩ := tells_yes hT1 rfl e1; have kk1 := (kp_alloc (gr w g) _).trans hk1; have hs1 := kk1.size; have br1 : Bx w1 (w.heap.size) 67 #[sZ, iZ, iZ, iZ, .int .u64 0, sZ] := Bx.kp (Bx.newB (by simp) : Bx _ (w.heap.size) 67 #[sZ, iZ, iZ, iZ, .int .u64 0, sZ]) hk1 (by omega); have lr1 := br1.lt))
 refine ⟨rfl, ?_⟩
 rw [HO.out]
 exact ⟨(kp_alloc (kp_set kk3 (by omega) 1 (.int .i64 5)) _).trans hk4, j4, (by omega), hP4, hr4, rfl⟩
theorem sqreadCond_w2 {g : Nat} {v : Value} {l : List Tok} (hE : EndK l) {i : Nat}  {c : ByteArray} {q1 q4 : List TkC} (e1 : nameR (rem l i) = (some c, q1)) (hb2 : isT ⟨#[105, 115]⟩ q1 = true) (hb3 : isT ⟨#[110, 111, 116]⟩ q1.tail = true) (e4 : takeR ⟨#[110, 117, 108, 108]⟩ q1.tail.tail = (some (), q4)) (w : World) (hP : PAt g v l i w) :
  Calls Tryz.prog 104 #[.pointer (some ⟨g, 0, none⟩)] w (Tells g v l i w VC (condR (rem l i))) := by
 have hg0 := hP.g_lt
 have HO : Hid (condR (rem l i) = (some ⟨c, 5, ⟨0, 0, 0, ⟨#[]⟩⟩⟩, q4)) := by
  unfold Hid
  simp only [condR, bnd, opt, ret, e1, hb2, if_true, hb3, e4]
 go_enter Tryz.func104, Tryz.ntmps104
 go_wp2_with (first
  | (go_at_call 34; refine (take_1 hE (by decide) _ ((hP3.set bx3 (by decide) (by omega) 1 (.int .i64 5)).alloc _) (Bx.newB (by simp)) (by omega)).mono ?_; intro e w4 hT4; obtain ⟨_, j4, rfl, hk4, hj4, hP4, hr4, rfl⟩ := tells_yes hT4 hr3 e4; have kk4 := (kp_alloc (kp_set kk3 (by omega) 1 (.int .i64 5)) _).trans hk4; have hs4 := kk4.size; have br4 : Bx w4 (w.heap.size) 67 #[sZ, iZ, iZ, iZ, .int .u64 0, sZ] := Bx.kp ((br3.other (by omega) 1 (.int .i64 5)).alloc _) hk4 (by omega); have lr4 := br4.lt; have bx4 : Bx w4 (w1.heap.size) 67 #[.string c, .int .i64 5, iZ, iZ, .int .u64 0, sZ] := Bx.kp ((bx3.set 1 (.int .i64 5)).alloc _) hk4 (by omega); have lx4 := bx4.lt; have nrx4 : ¬ w.heap.size = w1.heap.size := (by omega); have nxr4 := Ne.symm nrx4; have cx4_0 := bx4.s0; have cx4_1 := bx4.s1; have cx4_2 := bx4.s2; have cx4_3 := bx4.s3; have cx4_4 := bx4.s4; have cx4_5 := bx4.s5; have cr4_0 := br4.s0; have fr4_0 := br4.open 0; have cr4_1 := br4.s1; have fr4_1 := br4.open 1; have cr4_2 := br4.s2; have fr4_2 := br4.open 2; have cr4_3 := br4.s3; have fr4_3 := br4.open 3; have cr4_4 := br4.s4; have fr4_4 := br4.open 4; have cr4_5 := br4.s5; have fr4_5 := br4.open 5)
  | (go_at_call 27; refine (took_yes hE (by decide) hb3 _ (hP2.set bx2 (by decide) (by omega) 1 (.int .i64 4)) hr2).mono ?_; rintro e w3 ⟨rfl, hk3, hP3, hr3⟩; have kk3 := (kp_set kk2 (by omega) 1 (.int .i64 4)).trans hk3; have hs3 := kk3.size; have br3 : Bx w3 (w.heap.size) 67 #[sZ, iZ, iZ, iZ, .int .u64 0, sZ] := Bx.kp (br2.other (by omega) 1 (.int .i64 4)) hk3 (by omega); have lr3 := br3.lt; have bx3 : Bx w3 (w1.heap.size) 67 #[.string c, .int .i64 4, iZ, iZ, .int .u64 0, sZ] := Bx.kp (bx2.set 1 (.int .i64 4)) hk3 (by omega); have lx3 := bx3.lt; have nrx3 : ¬ w.heap.size = w1.heap.size := (by omega); have nxr3 := Ne.symm nrx3; have cx3_1 := bx3.s1; have fx3_1 := bx3.open 1)
  | (go_at_call 27; refine (took_yes hE (by decide) hb2 _ (hP1.alloc _) hr1).mono ?_; rintro e w2 ⟨rfl, hk2, hP2, hr2⟩; have kk2 := (kp_alloc kk1 _).trans hk2; have hs2 := kk2.size; have br2 : Bx w2 (w.heap.size) 67 #[sZ, iZ, iZ, iZ, .int .u64 0, sZ] := Bx.kp (br1.alloc _) hk2 (by omega); have lr2 := br2.lt; have bx2 : Bx w2 (w1.heap.size) 67 #[.string c, iZ, iZ, iZ, .int .u64 0, sZ] := Bx.kp (Bx.newB (by simp) : Bx _ (w1.heap.size) 67 #[.string c, iZ, iZ, iZ, .int .u64 0, sZ]) hk2 (by omega); have lx2 := bx2.lt; have nrx2 : ¬ w.heap.size = w1.heap.size := (by omega); have nxr2 := Ne.symm nrx2; have cx2_1 := bx2.s1; have fx2_1 := bx2.open 1)
  | (go_at_call 55; refine (sqreadName_any hE _ (hP.alloc _)).mono ?_; intro e w1 hT1; obtain ⟨_, j1, rfl, hk1, hj1, hP1, hr1, rfl⟩ := tells_yes hT1 rfl e1; have kk1 := (kp_alloc (gr w g) _).trans hk1; have hs1 := kk1.size; have br1 : Bx w1 (w.heap.size) 67 #[sZ, iZ, iZ, iZ, .int .u64 0, sZ] := Bx.kp (Bx.newB (by simp) : Bx _ (w.heap.size) 67 #[sZ, iZ, iZ, iZ, .int .u64 0, sZ]) hk1 (by omega); have lr1 := br1.lt))
 refine bodyPost_ret (v := .agg #[.string c, .int .i64 5, .int .i64 0, .int .i64 0, .int .u64 0, .string ⟨#[]⟩]) (by simp [results, Tryz.results104, go_sem, cr4_0, cr4_1, cr4_2, cr4_3, cr4_4, cr4_5]) rfl ?_
 rw [HO.out]
 exact ⟨(kp_sets kk4 (by omega) 0 [.string c, .int .i64 5, .int .i64 0, .int .i64 0, .int .u64 0, .string ⟨#[]⟩]), j4, (by omega), (PAt.sets hP4 br4 (by decide) (by omega) 0 [.string c, .int .i64 5, .int .i64 0, .int .i64 0, .int .u64 0, .string ⟨#[]⟩]), hr4, _, rfl, rfl⟩
theorem sqreadCond_w3 {g : Nat} {v : Value} {l : List Tok} (hE : EndK l) {i : Nat}  {c : ByteArray} {q1 q4 : List TkC} (e1 : nameR (rem l i) = (some c, q1)) (hb2 : isT ⟨#[105, 115]⟩ q1 = true) (hb3 : isT ⟨#[110, 111, 116]⟩ q1.tail = false) (e4 : takeR ⟨#[110, 117, 108, 108]⟩ q1.tail = (none, q4)) (w : World) (hP : PAt g v l i w) :
  Calls Tryz.prog 104 #[.pointer (some ⟨g, 0, none⟩)] w (Tells g v l i w VC (condR (rem l i))) := by
 have hg0 := hP.g_lt
 have HO : Hid (condR (rem l i) = (none, q4)) := by
  unfold Hid
  simp only [condR, bnd, opt, ret, e1, hb2, if_true, hb3, Bool.false_eq_true, if_false, e4]
 go_enter Tryz.func104, Tryz.ntmps104
 go_wp2_with (first
  | (go_at_call 34; refine (take_1 hE (by decide) _ (hP3.alloc _) (Bx.newB (by simp)) (by omega)).mono ?_; intro e w4 hT4; obtain ⟨j4, rfl, hk4, hj4, hP4, hr4⟩ := tells_no hT4 hr2 e4)
  | (go_at_call 27; refine (took_no hb3 _ (hP2.set bx2 (by decide) (by omega) 1 (.int .i64 4)) hr2).mono ?_; rintro e w3 ⟨rfl, hk3, hP3⟩; have kk3 := (kp_set kk2 (by omega) 1 (.int .i64 4)).trans hk3; have hs3 := kk3.size; have br3 : Bx w3 (w.heap.size) 67 #[sZ, iZ, iZ, iZ, .int .u64 0, sZ] := Bx.kp (br2.other (by omega) 1 (.int .i64 4)) hk3 (by omega); have lr3 := br3.lt; have bx3 : Bx w3 (w1.heap.size) 67 #[.string c, .int .i64 4, iZ, iZ, .int .u64 0, sZ] := Bx.kp (bx2.set 1 (.int .i64 4)) hk3 (by omega); have lx3 := bx3.lt; have nrx3 : ¬ w.heap.size = w1.heap.size := (by omega); have nxr3 := Ne.symm nrx3)
  | (go_at_call 27; refine (took_yes hE (by decide) hb2 _ (hP1.alloc _) hr1).mono ?_; rintro e w2 ⟨rfl, hk2, hP2, hr2⟩; have kk2 := (kp_alloc kk1 _).trans hk2; have hs2 := kk2.size; have br2 : Bx w2 (w.heap.size) 67 #[sZ, iZ, iZ, iZ, .int .u64 0, sZ] := Bx.kp (br1.alloc _) hk2 (by omega); have lr2 := br2.lt; have bx2 : Bx w2 (w1.heap.size) 67 #[.string c, iZ, iZ, iZ, .int .u64 0, sZ] := Bx.kp (Bx.newB (by simp) : Bx _ (w1.heap.size) 67 #[.string c, iZ, iZ, iZ, .int .u64 0, sZ]) hk2 (by omega); have lx2 := bx2.lt; have nrx2 : ¬ w.heap.size = w1.heap.size := (by omega); have nxr2 := Ne.symm nrx2; have cx2_1 := bx2.s1; have fx2_1 := bx2.open 1)
  | (go_at_call 55; refine (sqreadName_any hE _ (hP.alloc _)).mono ?_; intro e w1 hT1; obtain ⟨_, j1, rfl, hk1, hj1, hP1, hr1, rfl⟩ := tells_yes hT1 rfl e1; have kk1 := (kp_alloc (gr w g) _).trans hk1; have hs1 := kk1.size; have br1 : Bx w1 (w.heap.size) 67 #[sZ, iZ, iZ, iZ, .int .u64 0, sZ] := Bx.kp (Bx.newB (by simp) : Bx _ (w.heap.size) 67 #[sZ, iZ, iZ, iZ, .int .u64 0, sZ]) hk1 (by omega); have lr1 := br1.lt))
 refine ⟨rfl, ?_⟩
 rw [HO.out]
 exact ⟨(kp_alloc kk3 _).trans hk4, j4, (by omega), hP4, hr4, rfl⟩
theorem sqreadCond_w4 {g : Nat} {v : Value} {l : List Tok} (hE : EndK l) {i : Nat}  {c : ByteArray} {q1 q4 : List TkC} (e1 : nameR (rem l i) = (some c, q1)) (hb2 : isT ⟨#[105, 115]⟩ q1 = true) (hb3 : isT ⟨#[110, 111, 116]⟩ q1.tail = false) (e4 : takeR ⟨#[110, 117, 108, 108]⟩ q1.tail = (some (), q4)) (w : World) (hP : PAt g v l i w) :
  Calls Tryz.prog 104 #[.pointer (some ⟨g, 0, none⟩)] w (Tells g v l i w VC (condR (rem l i))) := by
 have hg0 := hP.g_lt
 have HO : Hid (condR (rem l i) = (some ⟨c, 4, ⟨0, 0, 0, ⟨#[]⟩⟩⟩, q4)) := by
  unfold Hid
  simp only [condR, bnd, opt, ret, e1, hb2, if_true, hb3, Bool.false_eq_true, if_false, e4]
 go_enter Tryz.func104, Tryz.ntmps104
 go_wp2_with (first
  | (go_at_call 34; refine (take_1 hE (by decide) _ (hP3.alloc _) (Bx.newB (by simp)) (by omega)).mono ?_; intro e w4 hT4; obtain ⟨_, j4, rfl, hk4, hj4, hP4, hr4, rfl⟩ := tells_yes hT4 hr2 e4; have kk4 := (kp_alloc kk3 _).trans hk4; have hs4 := kk4.size; have br4 : Bx w4 (w.heap.size) 67 #[sZ, iZ, iZ, iZ, .int .u64 0, sZ] := Bx.kp (br3.alloc _) hk4 (by omega); have lr4 := br4.lt; have bx4 : Bx w4 (w1.heap.size) 67 #[.string c, .int .i64 4, iZ, iZ, .int .u64 0, sZ] := Bx.kp (bx3.alloc _) hk4 (by omega); have lx4 := bx4.lt; have nrx4 : ¬ w.heap.size = w1.heap.size := (by omega); have nxr4 := Ne.symm nrx4; have cx4_0 := bx4.s0; have cx4_1 := bx4.s1; have cx4_2 := bx4.s2; have cx4_3 := bx4.s3; have cx4_4 := bx4.s4; have cx4_5 := bx4.s5; have cr4_0 := br4.s0; have fr4_0 := br4.open 0; have cr4_1 := br4.s1; have fr4_1 := br4.open 1; have cr4_2 := br4.s2; have fr4_2 := br4.open 2; have cr4_3 := br4.s3; have fr4_3 := br4.open 3; have cr4_4 := br4.s4; have fr4_4 := br4.open 4; have cr4_5 := br4.s5; have fr4_5 := br4.open 5)
  | (go_at_call 27; refine (took_no hb3 _ (hP2.set bx2 (by decide) (by omega) 1 (.int .i64 4)) hr2).mono ?_; rintro e w3 ⟨rfl, hk3, hP3⟩; have kk3 := (kp_set kk2 (by omega) 1 (.int .i64 4)).trans hk3; have hs3 := kk3.size; have br3 : Bx w3 (w.heap.size) 67 #[sZ, iZ, iZ, iZ, .int .u64 0, sZ] := Bx.kp (br2.other (by omega) 1 (.int .i64 4)) hk3 (by omega); have lr3 := br3.lt; have bx3 : Bx w3 (w1.heap.size) 67 #[.string c, .int .i64 4, iZ, iZ, .int .u64 0, sZ] := Bx.kp (bx2.set 1 (.int .i64 4)) hk3 (by omega); have lx3 := bx3.lt; have nrx3 : ¬ w.heap.size = w1.heap.size := (by omega); have nxr3 := Ne.symm nrx3)
  | (go_at_call 27; refine (took_yes hE (by decide) hb2 _ (hP1.alloc _) hr1).mono ?_; rintro e w2 ⟨rfl, hk2, hP2, hr2⟩; have kk2 := (kp_alloc kk1 _).trans hk2; have hs2 := kk2.size; have br2 : Bx w2 (w.heap.size) 67 #[sZ, iZ, iZ, iZ, .int .u64 0, sZ] := Bx.kp (br1.alloc _) hk2 (by omega); have lr2 := br2.lt; have bx2 : Bx w2 (w1.heap.size) 67 #[.string c, iZ, iZ, iZ, .int .u64 0, sZ] := Bx.kp (Bx.newB (by simp) : Bx _ (w1.heap.size) 67 #[.string c, iZ, iZ, iZ, .int .u64 0, sZ]) hk2 (by omega); have lx2 := bx2.lt; have nrx2 : ¬ w.heap.size = w1.heap.size := (by omega); have nxr2 := Ne.symm nrx2; have cx2_1 := bx2.s1; have fx2_1 := bx2.open 1)
  | (go_at_call 55; refine (sqreadName_any hE _ (hP.alloc _)).mono ?_; intro e w1 hT1; obtain ⟨_, j1, rfl, hk1, hj1, hP1, hr1, rfl⟩ := tells_yes hT1 rfl e1; have kk1 := (kp_alloc (gr w g) _).trans hk1; have hs1 := kk1.size; have br1 : Bx w1 (w.heap.size) 67 #[sZ, iZ, iZ, iZ, .int .u64 0, sZ] := Bx.kp (Bx.newB (by simp) : Bx _ (w.heap.size) 67 #[sZ, iZ, iZ, iZ, .int .u64 0, sZ]) hk1 (by omega); have lr1 := br1.lt))
 refine bodyPost_ret (v := .agg #[.string c, .int .i64 4, .int .i64 0, .int .i64 0, .int .u64 0, .string ⟨#[]⟩]) (by simp [results, Tryz.results104, go_sem, cr4_0, cr4_1, cr4_2, cr4_3, cr4_4, cr4_5]) rfl ?_
 rw [HO.out]
 exact ⟨(kp_sets kk4 (by omega) 0 [.string c, .int .i64 4, .int .i64 0, .int .i64 0, .int .u64 0, .string ⟨#[]⟩]), j4, (by omega), (PAt.sets hP4 br4 (by decide) (by omega) 0 [.string c, .int .i64 4, .int .i64 0, .int .i64 0, .int .u64 0, .string ⟨#[]⟩]), hr4, _, rfl, rfl⟩
theorem sqreadCond_w5 {g : Nat} {v : Value} {l : List Tok} (hE : EndK l) {i : Nat}  {c : ByteArray} {q1 q3 : List TkC} (e1 : nameR (rem l i) = (some c, q1)) (hb2 : isT ⟨#[105, 115]⟩ q1 = false) (e3 : signR q1 = (none, q3)) (w : World) (hP : PAt g v l i w) :
  Calls Tryz.prog 104 #[.pointer (some ⟨g, 0, none⟩)] w (Tells g v l i w VC (condR (rem l i))) := by
 have hg0 := hP.g_lt
 have HO : Hid (condR (rem l i) = (none, q3)) := by
  unfold Hid
  simp only [condR, bnd, opt, ret, e1, hb2, Bool.false_eq_true, if_false, e3]
 go_enter Tryz.func104, Tryz.ntmps104
 go_wp2_with (first
  | (go_at_call 129; refine (sqreadSign_any hE _ hP2).mono ?_; intro e w3 hT3; obtain ⟨j3, rfl, hk3, hj3, hP3, hr3⟩ := tells_no hT3 hr1 e3)
  | (go_at_call 27; refine (took_no hb2 _ (hP1.alloc _) hr1).mono ?_; rintro e w2 ⟨rfl, hk2, hP2⟩; have kk2 := (kp_alloc kk1 _).trans hk2; have hs2 := kk2.size; have br2 : Bx w2 (w.heap.size) 67 #[sZ, iZ, iZ, iZ, .int .u64 0, sZ] := Bx.kp (br1.alloc _) hk2 (by omega); have lr2 := br2.lt; have bx2 : Bx w2 (w1.heap.size) 67 #[.string c, iZ, iZ, iZ, .int .u64 0, sZ] := Bx.kp (Bx.newB (by simp) : Bx _ (w1.heap.size) 67 #[.string c, iZ, iZ, iZ, .int .u64 0, sZ]) hk2 (by omega); have lx2 := bx2.lt; have nrx2 : ¬ w.heap.size = w1.heap.size := (by omega); have nxr2 := Ne.symm nrx2)
  | (go_at_call 55; refine (sqreadName_any hE _ (hP.alloc _)).mono ?_; intro e w1 hT1; obtain ⟨_, j1, rfl, hk1, hj1, hP1, hr1, rfl⟩ := tells_yes hT1 rfl e1; have kk1 := (kp_alloc (gr w g) _).trans hk1; have hs1 := kk1.size; have br1 : Bx w1 (w.heap.size) 67 #[sZ, iZ, iZ, iZ, .int .u64 0, sZ] := Bx.kp (Bx.newB (by simp) : Bx _ (w.heap.size) 67 #[sZ, iZ, iZ, iZ, .int .u64 0, sZ]) hk1 (by omega); have lr1 := br1.lt))
 refine ⟨rfl, ?_⟩
 rw [HO.out]
 exact ⟨kk2.trans hk3, j3, (by omega), hP3, hr3, rfl⟩
theorem sqreadCond_w6 {g : Nat} {v : Value} {l : List Tok} (hE : EndK l) {i : Nat}  {c : ByteArray} {q1 : List TkC} {s : Int} {q3 q4 : List TkC} (e1 : nameR (rem l i) = (some c, q1)) (hb2 : isT ⟨#[105, 115]⟩ q1 = false) (e3 : signR q1 = (some s, q3)) (e4 : valueR q3 = (none, q4)) (w : World) (hP : PAt g v l i w) :
  Calls Tryz.prog 104 #[.pointer (some ⟨g, 0, none⟩)] w (Tells g v l i w VC (condR (rem l i))) := by
 have hg0 := hP.g_lt
 have HO : Hid (condR (rem l i) = (none, q4)) := by
  unfold Hid
  simp only [condR, bnd, opt, ret, e1, hb2, Bool.false_eq_true, if_false, e3, e4]
 go_enter Tryz.func104, Tryz.ntmps104
 go_wp2_with (first
  | (go_at_call 58; refine (sqreadValue_any hE _ (hP3.set bx3 (by decide) (by omega) 1 (.int .i64 s))).mono ?_; intro e w4 hT4; obtain ⟨j4, rfl, hk4, hj4, hP4, hr4⟩ := tells_no hT4 hr3 e4)
  | (go_at_call 129; refine (sqreadSign_any hE _ hP2).mono ?_; intro e w3 hT3; obtain ⟨_, j3, rfl, hk3, hj3, hP3, hr3, rfl⟩ := tells_yes hT3 hr1 e3; have kk3 := kk2.trans hk3; have hs3 := kk3.size; have br3 := Bx.kp br2 hk3 (by omega); have lr3 := br3.lt; have bx3 := Bx.kp bx2 hk3 (by omega); have lx3 := bx3.lt; have nrx3 : ¬ w.heap.size = w1.heap.size := (by omega); have nxr3 := Ne.symm nrx3; have cx3_1 := bx3.s1; have fx3_1 := bx3.open 1)
  | (go_at_call 27; refine (took_no hb2 _ (hP1.alloc _) hr1).mono ?_; rintro e w2 ⟨rfl, hk2, hP2⟩; have kk2 := (kp_alloc kk1 _).trans hk2; have hs2 := kk2.size; have br2 : Bx w2 (w.heap.size) 67 #[sZ, iZ, iZ, iZ, .int .u64 0, sZ] := Bx.kp (br1.alloc _) hk2 (by omega); have lr2 := br2.lt; have bx2 : Bx w2 (w1.heap.size) 67 #[.string c, iZ, iZ, iZ, .int .u64 0, sZ] := Bx.kp (Bx.newB (by simp) : Bx _ (w1.heap.size) 67 #[.string c, iZ, iZ, iZ, .int .u64 0, sZ]) hk2 (by omega); have lx2 := bx2.lt; have nrx2 : ¬ w.heap.size = w1.heap.size := (by omega); have nxr2 := Ne.symm nrx2)
  | (go_at_call 55; refine (sqreadName_any hE _ (hP.alloc _)).mono ?_; intro e w1 hT1; obtain ⟨_, j1, rfl, hk1, hj1, hP1, hr1, rfl⟩ := tells_yes hT1 rfl e1; have kk1 := (kp_alloc (gr w g) _).trans hk1; have hs1 := kk1.size; have br1 : Bx w1 (w.heap.size) 67 #[sZ, iZ, iZ, iZ, .int .u64 0, sZ] := Bx.kp (Bx.newB (by simp) : Bx _ (w.heap.size) 67 #[sZ, iZ, iZ, iZ, .int .u64 0, sZ]) hk1 (by omega); have lr1 := br1.lt))
 refine ⟨rfl, ?_⟩
 rw [HO.out]
 exact ⟨(kp_set kk3 (by omega) 1 (.int .i64 s)).trans hk4, j4, (by omega), hP4, hr4, rfl⟩
theorem sqreadCond_w7 {g : Nat} {v : Value} {l : List Tok} (hE : EndK l) {i : Nat}  {c : ByteArray} {q1 : List TkC} {s : Int} {q3 : List TkC} {vk vn : Int} {vf : Nat} {vs : ByteArray} {q4 : List TkC} (e1 : nameR (rem l i) = (some c, q1)) (hb2 : isT ⟨#[105, 115]⟩ q1 = false) (e3 : signR q1 = (some s, q3)) (e4 : valueR q3 = (some ⟨vk, vn, vf, vs⟩, q4)) (w : World) (hP : PAt g v l i w) :
  Calls Tryz.prog 104 #[.pointer (some ⟨g, 0, none⟩)] w (Tells g v l i w VC (condR (rem l i))) := by
 have hg0 := hP.g_lt
 have HO : Hid (condR (rem l i) = (some ⟨c, s, ⟨vk, vn, vf, vs⟩⟩, q4)) := by
  unfold Hid
  simp only [condR, bnd, opt, ret, e1, hb2, Bool.false_eq_true, if_false, e3, e4]
 go_enter Tryz.func104, Tryz.ntmps104
 go_wp2_with (first
  | (go_at_call 58; refine (sqreadValue_any hE _ (hP3.set bx3 (by decide) (by omega) 1 (.int .i64 s))).mono ?_; intro e w4 hT4; obtain ⟨u4, j4, rfl, hk4, hj4, hP4, hr4, hV4⟩ := tells_yes hT4 hr3 e4; obtain rfl : u4 = .agg #[.int .i64 vk, .int .i64 vn, .int .u64 (vf : Int), .string vs] := hV4; have kk4 := (kp_set kk3 (by omega) 1 (.int .i64 s)).trans hk4; have hs4 := kk4.size; have br4 : Bx w4 (w.heap.size) 67 #[sZ, iZ, iZ, iZ, .int .u64 0, sZ] := Bx.kp (br3.other (by omega) 1 (.int .i64 s)) hk4 (by omega); have lr4 := br4.lt; have bx4 : Bx w4 (w1.heap.size) 67 #[.string c, .int .i64 s, iZ, iZ, .int .u64 0, sZ] := Bx.kp (bx3.set 1 (.int .i64 s)) hk4 (by omega); have lx4 := bx4.lt; have nrx4 : ¬ w.heap.size = w1.heap.size := (by omega); have nxr4 := Ne.symm nrx4; have cx4_2 := bx4.s2; have fx4_2 := bx4.open 2; have cx4_3 := bx4.s3; have fx4_3 := bx4.open 3; have cx4_4 := bx4.s4; have fx4_4 := bx4.open 4; have cx4_5 := bx4.s5; have fx4_5 := bx4.open 5; have cx4_0 := bx4.s0; have cx4_1 := bx4.s1; have cr4_0 := br4.s0; have fr4_0 := br4.open 0; have cr4_1 := br4.s1; have fr4_1 := br4.open 1; have cr4_2 := br4.s2; have fr4_2 := br4.open 2; have cr4_3 := br4.s3; have fr4_3 := br4.open 3; have cr4_4 := br4.s4; have fr4_4 := br4.open 4; have cr4_5 := br4.s5; have fr4_5 := br4.open 5)
  | (go_at_call 129; refine (sqreadSign_any hE _ hP2).mono ?_; intro e w3 hT3; obtain ⟨_, j3, rfl, hk3, hj3, hP3, hr3, rfl⟩ := tells_yes hT3 hr1 e3; have kk3 := kk2.trans hk3; have hs3 := kk3.size; have br3 := Bx.kp br2 hk3 (by omega); have lr3 := br3.lt; have bx3 := Bx.kp bx2 hk3 (by omega); have lx3 := bx3.lt; have nrx3 : ¬ w.heap.size = w1.heap.size := (by omega); have nxr3 := Ne.symm nrx3; have cx3_1 := bx3.s1; have fx3_1 := bx3.open 1)
  | (go_at_call 27; refine (took_no hb2 _ (hP1.alloc _) hr1).mono ?_; rintro e w2 ⟨rfl, hk2, hP2⟩; have kk2 := (kp_alloc kk1 _).trans hk2; have hs2 := kk2.size; have br2 : Bx w2 (w.heap.size) 67 #[sZ, iZ, iZ, iZ, .int .u64 0, sZ] := Bx.kp (br1.alloc _) hk2 (by omega); have lr2 := br2.lt; have bx2 : Bx w2 (w1.heap.size) 67 #[.string c, iZ, iZ, iZ, .int .u64 0, sZ] := Bx.kp (Bx.newB (by simp) : Bx _ (w1.heap.size) 67 #[.string c, iZ, iZ, iZ, .int .u64 0, sZ]) hk2 (by omega); have lx2 := bx2.lt; have nrx2 : ¬ w.heap.size = w1.heap.size := (by omega); have nxr2 := Ne.symm nrx2)
  | (go_at_call 55; refine (sqreadName_any hE _ (hP.alloc _)).mono ?_; intro e w1 hT1; obtain ⟨_, j1, rfl, hk1, hj1, hP1, hr1, rfl⟩ := tells_yes hT1 rfl e1; have kk1 := (kp_alloc (gr w g) _).trans hk1; have hs1 := kk1.size; have br1 : Bx w1 (w.heap.size) 67 #[sZ, iZ, iZ, iZ, .int .u64 0, sZ] := Bx.kp (Bx.newB (by simp) : Bx _ (w.heap.size) 67 #[sZ, iZ, iZ, iZ, .int .u64 0, sZ]) hk1 (by omega); have lr1 := br1.lt))
 refine bodyPost_ret (v := .agg #[.string c, .int .i64 s, .int .i64 vk, .int .i64 vn, .int .u64 (vf : Int), .string vs]) (by simp [results, Tryz.results104, go_sem, cr4_0, cr4_1, cr4_2, cr4_3, cr4_4, cr4_5]) rfl ?_
 rw [HO.out]
 exact ⟨(kp_sets (kp_set (kp_set (kp_set (kp_set kk4 (by omega) 2 (.int .i64 vk)) (by omega) 3 (.int .i64 vn)) (by omega) 4 (.int .u64 (vf : Int))) (by omega) 5 (.string vs)) (by omega) 0 [.string c, .int .i64 s, .int .i64 vk, .int .i64 vn, .int .u64 (vf : Int), .string vs]), j4, (by omega), (PAt.sets ((((hP4.set bx4 (by decide) (by omega) 2 (.int .i64 vk)).set (bx4.set 2 (.int .i64 vk)) (by decide) (by omega) 3 (.int .i64 vn)).set ((bx4.set 2 (.int .i64 vk)).set 3 (.int .i64 vn)) (by decide) (by omega) 4 (.int .u64 (vf : Int))).set (((bx4.set 2 (.int .i64 vk)).set 3 (.int .i64 vn)).set 4 (.int .u64 (vf : Int))) (by decide) (by omega) 5 (.string vs)) ((((br4.other (by omega) 2 (.int .i64 vk)).other (by omega) 3 (.int .i64 vn)).other (by omega) 4 (.int .u64 (vf : Int))).other (by omega) 5 (.string vs)) (by decide) (by omega) 0 [.string c, .int .i64 s, .int .i64 vk, .int .i64 vn, .int .u64 (vf : Int), .string vs]), hr4, _, rfl, rfl⟩
theorem sqreadCond_any {g : Nat} {v : Value} {l : List Tok} (hE : EndK l) {i : Nat}  (w : World) (hP : PAt g v l i w) :
  Calls Tryz.prog 104 #[.pointer (some ⟨g, 0, none⟩)] w (Tells g v l i w VC (condR (rem l i))) := by
 rcases e1 : nameR (rem l i) with ⟨o1, q1⟩
 cases o1 with
 | none =>
  exact sqreadCond_w0 hE e1 w hP
 | some c =>
  rcases Bool.eq_false_or_eq_true (isT ⟨#[105, 115]⟩ q1) with hb2 | hb2
  ·rcases Bool.eq_false_or_eq_true (isT ⟨#[110, 111, 116]⟩ q1.tail) with hb3 | hb3
   ·rcases e4 : takeR ⟨#[110, 117, 108, 108]⟩ q1.tail.tail with ⟨o4, q4⟩
    cases o4 with
    | none =>
     exact sqreadCond_w1 hE e1 hb2 hb3 e4 w hP
    | some a4 =>
     cases a4
     exact sqreadCond_w2 hE e1 hb2 hb3 e4 w hP
   ·rcases e4 : takeR ⟨#[110, 117, 108, 108]⟩ q1.tail with ⟨o4, q4⟩
    cases o4 with
    | none =>
     exact sqreadCond_w3 hE e1 hb2 hb3 e4 w hP
    | some a4 =>
     cases a4
     exact sqreadCond_w4 hE e1 hb2 hb3 e4 w hP
  ·rcases e3 : signR q1 with ⟨o3, q3⟩
   cases o3 with
   | none =>
    exact sqreadCond_w5 hE e1 hb2 e3 w hP
   | some s =>
    rcases e4 : valueR q3 with ⟨o4, q4⟩
    cases o4 with
    | none =>
     exact sqreadCond_w6 hE e1 hb2 e3 e4 w hP
    | some a4 =>
     obtain ⟨vk, vn, vf, vs⟩ := a4
     exact sqreadCond_w7 hE e1 hb2 e3 e4 w hP
theorem sqreadSet_w0 {g : Nat} {v : Value} {l : List Tok} (hE : EndK l) {i : Nat}  {q1 : List TkC} (e1 : nameR (rem l i) = (none, q1)) (w : World) (hP : PAt g v l i w) :
  Calls Tryz.prog 60 #[.pointer (some ⟨g, 0, none⟩)] w (Tells g v l i w VT (setR (rem l i))) := by
 have hg0 := hP.g_lt
 have HO : Hid (setR (rem l i) = (none, q1)) := by
  unfold Hid
  simp only [setR, bnd, opt, ret, e1]
 go_enter Tryz.func60, Tryz.ntmps60
 go_wp2_with (first
  | (go_at_call 55; refine (sqreadName_any hE _ (hP.alloc _)).mono ?_; intro e w1 hT1; obtain ⟨j1, rfl, hk1, hj1, hP1, hr1⟩ := tells_no hT1 rfl e1))
 refine ⟨rfl, ?_⟩
 rw [HO.out]
 exact ⟨(kp_alloc (gr w g) _).trans hk1, j1, (by omega), hP1, hr1, rfl⟩
theorem sqreadSet_w1 {g : Nat} {v : Value} {l : List Tok} (hE : EndK l) {i : Nat}  {c : ByteArray} {q1 q2 : List TkC} (e1 : nameR (rem l i) = (some c, q1)) (e2 : takeR ⟨#[61]⟩ q1 = (none, q2)) (w : World) (hP : PAt g v l i w) :
  Calls Tryz.prog 60 #[.pointer (some ⟨g, 0, none⟩)] w (Tells g v l i w VT (setR (rem l i))) := by
 have hg0 := hP.g_lt
 have HO : Hid (setR (rem l i) = (none, q2)) := by
  unfold Hid
  simp only [setR, bnd, opt, ret, e1, e2]
 go_enter Tryz.func60, Tryz.ntmps60
 go_wp2_with (first
  | (go_at_call 34; refine (take_1 hE (by decide) _ ((hP1.alloc _).alloc _) (Bx.newB (by simp)) (by omega)).mono ?_; intro e w2 hT2; obtain ⟨j2, rfl, hk2, hj2, hP2, hr2⟩ := tells_no hT2 hr1 e2)
  | (go_at_call 55; refine (sqreadName_any hE _ (hP.alloc _)).mono ?_; intro e w1 hT1; obtain ⟨_, j1, rfl, hk1, hj1, hP1, hr1, rfl⟩ := tells_yes hT1 rfl e1; have kk1 := (kp_alloc (gr w g) _).trans hk1; have hs1 := kk1.size; have br1 : Bx w1 (w.heap.size) 65 #[sZ, .bool false, iZ, iZ, .int .u64 0, sZ] := Bx.kp (Bx.newB (by simp) : Bx _ (w.heap.size) 65 #[sZ, .bool false, iZ, iZ, .int .u64 0, sZ]) hk1 (by omega); have lr1 := br1.lt))
 refine ⟨rfl, ?_⟩
 rw [HO.out]
 exact ⟨(kp_alloc (kp_alloc kk1 _) _).trans hk2, j2, (by omega), hP2, hr2, rfl⟩
theorem sqreadSet_w2 {g : Nat} {v : Value} {l : List Tok} (hE : EndK l) {i : Nat}  {c : ByteArray} {q1 q2 q4 : List TkC} (e1 : nameR (rem l i) = (some c, q1)) (e2 : takeR ⟨#[61]⟩ q1 = (some (), q2)) (hb3 : isT c q2 = true) (e4 : takeR ⟨#[43]⟩ q2.tail = (none, q4)) (w : World) (hP : PAt g v l i w) :
  Calls Tryz.prog 60 #[.pointer (some ⟨g, 0, none⟩)] w (Tells g v l i w VT (setR (rem l i))) := by
 have hg0 := hP.g_lt
 have HO : Hid (setR (rem l i) = (none, q4)) := by
  unfold Hid
  simp only [setR, bnd, opt, ret, e1, e2, hb3, if_true, e4]
 go_enter Tryz.func60, Tryz.ntmps60
 go_wp2_with (first
  | (go_at_call 34; refine (take_1 hE (by decide) _ ((hP3.set bx3 (by decide) (by omega) 1 (.bool true)).alloc _) (Bx.newB (by simp)) (by omega)).mono ?_; intro e w4 hT4; obtain ⟨j4, rfl, hk4, hj4, hP4, hr4⟩ := tells_no hT4 hr3 e4)
  | (go_at_call 27; refine (took_yes hE (name_ne hE e1) hb3 _ hP2 hr2).mono ?_; rintro e w3 ⟨rfl, hk3, hP3, hr3⟩; have kk3 := kk2.trans hk3; have hs3 := kk3.size; have br3 := Bx.kp br2 hk3 (by omega); have lr3 := br3.lt; have bx3 := Bx.kp bx2 hk3 (by omega); have lx3 := bx3.lt; have nrx3 : ¬ w.heap.size = w1.heap.size := (by omega); have nxr3 := Ne.symm nrx3; have cx3_1 := bx3.s1; have fx3_1 := bx3.open 1)
  | (go_at_call 34; refine (take_1 hE (by decide) _ ((hP1.alloc _).alloc _) (Bx.newB (by simp)) (by omega)).mono ?_; intro e w2 hT2; obtain ⟨_, j2, rfl, hk2, hj2, hP2, hr2, rfl⟩ := tells_yes hT2 hr1 e2; have kk2 := (kp_alloc (kp_alloc kk1 _) _).trans hk2; have hs2 := kk2.size; have br2 : Bx w2 (w.heap.size) 65 #[sZ, .bool false, iZ, iZ, .int .u64 0, sZ] := Bx.kp ((br1.alloc _).alloc _) hk2 (by omega); have lr2 := br2.lt; have bx2 : Bx w2 (w1.heap.size) 65 #[.string c, .bool false, iZ, iZ, .int .u64 0, sZ] := Bx.kp ((Bx.newB (by simp) : Bx _ (w1.heap.size) 65 #[.string c, .bool false, iZ, iZ, .int .u64 0, sZ]).alloc _) hk2 (by omega); have lx2 := bx2.lt; have nrx2 : ¬ w.heap.size = w1.heap.size := (by omega); have nxr2 := Ne.symm nrx2; have cx2_0 := bx2.s0)
  | (go_at_call 55; refine (sqreadName_any hE _ (hP.alloc _)).mono ?_; intro e w1 hT1; obtain ⟨_, j1, rfl, hk1, hj1, hP1, hr1, rfl⟩ := tells_yes hT1 rfl e1; have kk1 := (kp_alloc (gr w g) _).trans hk1; have hs1 := kk1.size; have br1 : Bx w1 (w.heap.size) 65 #[sZ, .bool false, iZ, iZ, .int .u64 0, sZ] := Bx.kp (Bx.newB (by simp) : Bx _ (w.heap.size) 65 #[sZ, .bool false, iZ, iZ, .int .u64 0, sZ]) hk1 (by omega); have lr1 := br1.lt))
 refine ⟨rfl, ?_⟩
 rw [HO.out]
 exact ⟨(kp_alloc (kp_set kk3 (by omega) 1 (.bool true)) _).trans hk4, j4, (by omega), hP4, hr4, rfl⟩
theorem sqreadSet_w3 {g : Nat} {v : Value} {l : List Tok} (hE : EndK l) {i : Nat}  {c : ByteArray} {q1 q2 q4 q5 : List TkC} (e1 : nameR (rem l i) = (some c, q1)) (e2 : takeR ⟨#[61]⟩ q1 = (some (), q2)) (hb3 : isT c q2 = true) (e4 : takeR ⟨#[43]⟩ q2.tail = (some (), q4)) (e5 : valueR q4 = (none, q5)) (w : World) (hP : PAt g v l i w) :
  Calls Tryz.prog 60 #[.pointer (some ⟨g, 0, none⟩)] w (Tells g v l i w VT (setR (rem l i))) := by
 have hg0 := hP.g_lt
 have HO : Hid (setR (rem l i) = (none, q5)) := by
  unfold Hid
  simp only [setR, bnd, opt, ret, e1, e2, hb3, if_true, e4, e5]
 go_enter Tryz.func60, Tryz.ntmps60
 go_wp2_with (first
  | (go_at_call 58; refine (sqreadValue_any hE _ hP4).mono ?_; intro e w5 hT5; obtain ⟨j5, rfl, hk5, hj5, hP5, hr5⟩ := tells_no hT5 hr4 e5)
  | (go_at_call 34; refine (take_1 hE (by decide) _ ((hP3.set bx3 (by decide) (by omega) 1 (.bool true)).alloc _) (Bx.newB (by simp)) (by omega)).mono ?_; intro e w4 hT4; obtain ⟨_, j4, rfl, hk4, hj4, hP4, hr4, rfl⟩ := tells_yes hT4 hr3 e4; have kk4 := (kp_alloc (kp_set kk3 (by omega) 1 (.bool true)) _).trans hk4; have hs4 := kk4.size; have br4 : Bx w4 (w.heap.size) 65 #[sZ, .bool false, iZ, iZ, .int .u64 0, sZ] := Bx.kp ((br3.other (by omega) 1 (.bool true)).alloc _) hk4 (by omega); have lr4 := br4.lt; have bx4 : Bx w4 (w1.heap.size) 65 #[.string c, .bool true, iZ, iZ, .int .u64 0, sZ] := Bx.kp ((bx3.set 1 (.bool true)).alloc _) hk4 (by omega); have lx4 := bx4.lt; have nrx4 : ¬ w.heap.size = w1.heap.size := (by omega); have nxr4 := Ne.symm nrx4)
  | (go_at_call 27; refine (took_yes hE (name_ne hE e1) hb3 _ hP2 hr2).mono ?_; rintro e w3 ⟨rfl, hk3, hP3, hr3⟩; have kk3 := kk2.trans hk3; have hs3 := kk3.size; have br3 := Bx.kp br2 hk3 (by omega); have lr3 := br3.lt; have bx3 := Bx.kp bx2 hk3 (by omega); have lx3 := bx3.lt; have nrx3 : ¬ w.heap.size = w1.heap.size := (by omega); have nxr3 := Ne.symm nrx3; have cx3_1 := bx3.s1; have fx3_1 := bx3.open 1)
  | (go_at_call 34; refine (take_1 hE (by decide) _ ((hP1.alloc _).alloc _) (Bx.newB (by simp)) (by omega)).mono ?_; intro e w2 hT2; obtain ⟨_, j2, rfl, hk2, hj2, hP2, hr2, rfl⟩ := tells_yes hT2 hr1 e2; have kk2 := (kp_alloc (kp_alloc kk1 _) _).trans hk2; have hs2 := kk2.size; have br2 : Bx w2 (w.heap.size) 65 #[sZ, .bool false, iZ, iZ, .int .u64 0, sZ] := Bx.kp ((br1.alloc _).alloc _) hk2 (by omega); have lr2 := br2.lt; have bx2 : Bx w2 (w1.heap.size) 65 #[.string c, .bool false, iZ, iZ, .int .u64 0, sZ] := Bx.kp ((Bx.newB (by simp) : Bx _ (w1.heap.size) 65 #[.string c, .bool false, iZ, iZ, .int .u64 0, sZ]).alloc _) hk2 (by omega); have lx2 := bx2.lt; have nrx2 : ¬ w.heap.size = w1.heap.size := (by omega); have nxr2 := Ne.symm nrx2; have cx2_0 := bx2.s0)
  | (go_at_call 55; refine (sqreadName_any hE _ (hP.alloc _)).mono ?_; intro e w1 hT1; obtain ⟨_, j1, rfl, hk1, hj1, hP1, hr1, rfl⟩ := tells_yes hT1 rfl e1; have kk1 := (kp_alloc (gr w g) _).trans hk1; have hs1 := kk1.size; have br1 : Bx w1 (w.heap.size) 65 #[sZ, .bool false, iZ, iZ, .int .u64 0, sZ] := Bx.kp (Bx.newB (by simp) : Bx _ (w.heap.size) 65 #[sZ, .bool false, iZ, iZ, .int .u64 0, sZ]) hk1 (by omega); have lr1 := br1.lt))
 refine ⟨rfl, ?_⟩
 rw [HO.out]
 exact ⟨kk4.trans hk5, j5, (by omega), hP5, hr5, rfl⟩
theorem sqreadSet_w4 {g : Nat} {v : Value} {l : List Tok} (hE : EndK l) {i : Nat}  {c : ByteArray} {q1 q2 q4 : List TkC} {vk vn : Int} {vf : Nat} {vs : ByteArray} {q5 : List TkC} (e1 : nameR (rem l i) = (some c, q1)) (e2 : takeR ⟨#[61]⟩ q1 = (some (), q2)) (hb3 : isT c q2 = true) (e4 : takeR ⟨#[43]⟩ q2.tail = (some (), q4)) (e5 : valueR q4 = (some ⟨vk, vn, vf, vs⟩, q5)) (w : World) (hP : PAt g v l i w) :
  Calls Tryz.prog 60 #[.pointer (some ⟨g, 0, none⟩)] w (Tells g v l i w VT (setR (rem l i))) := by
 have hg0 := hP.g_lt
 have HO : Hid (setR (rem l i) = (some ⟨c, true, ⟨vk, vn, vf, vs⟩⟩, q5)) := by
  unfold Hid
  simp only [setR, bnd, opt, ret, e1, e2, hb3, if_true, e4, e5]
 go_enter Tryz.func60, Tryz.ntmps60
 go_wp2_with (first
  | (go_at_call 58; refine (sqreadValue_any hE _ hP4).mono ?_; intro e w5 hT5; obtain ⟨u5, j5, rfl, hk5, hj5, hP5, hr5, hV5⟩ := tells_yes hT5 hr4 e5; obtain rfl : u5 = .agg #[.int .i64 vk, .int .i64 vn, .int .u64 (vf : Int), .string vs] := hV5; have kk5 := kk4.trans hk5; have hs5 := kk5.size; have br5 := Bx.kp br4 hk5 (by omega); have lr5 := br5.lt; have bx5 := Bx.kp bx4 hk5 (by omega); have lx5 := bx5.lt; have nrx5 : ¬ w.heap.size = w1.heap.size := (by omega); have nxr5 := Ne.symm nrx5; have cx5_2 := bx5.s2; have fx5_2 := bx5.open 2; have cx5_3 := bx5.s3; have fx5_3 := bx5.open 3; have cx5_4 := bx5.s4; have fx5_4 := bx5.open 4; have cx5_5 := bx5.s5; have fx5_5 := bx5.open 5; have cx5_0 := bx5.s0; have cx5_1 := bx5.s1; have cr5_0 := br5.s0; have fr5_0 := br5.open 0; have cr5_1 := br5.s1; have fr5_1 := br5.open 1; have cr5_2 := br5.s2; have fr5_2 := br5.open 2; have cr5_3 := br5.s3; have fr5_3 := br5.open 3; have cr5_4 := br5.s4; have fr5_4 := br5.open 4; have cr5_5 := br5.s5; have fr5_5 := br5.open 5)
  | (go_at_call 34; refine (take_1 hE (by decide) _ ((hP3.set bx3 (by decide) (by omega) 1 (.bool true)).alloc _) (Bx.newB (by simp)) (by omega)).mono ?_; intro e w4 hT4; obtain ⟨_, j4, rfl, hk4, hj4, hP4, hr4, rfl⟩ := tells_yes hT4 hr3 e4; have kk4 := (kp_alloc (kp_set kk3 (by omega) 1 (.bool true)) _).trans hk4; have hs4 := kk4.size; have br4 : Bx w4 (w.heap.size) 65 #[sZ, .bool false, iZ, iZ, .int .u64 0, sZ] := Bx.kp ((br3.other (by omega) 1 (.bool true)).alloc _) hk4 (by omega); have lr4 := br4.lt; have bx4 : Bx w4 (w1.heap.size) 65 #[.string c, .bool true, iZ, iZ, .int .u64 0, sZ] := Bx.kp ((bx3.set 1 (.bool true)).alloc _) hk4 (by omega); have lx4 := bx4.lt; have nrx4 : ¬ w.heap.size = w1.heap.size := (by omega); have nxr4 := Ne.symm nrx4)
  | (go_at_call 27; refine (took_yes hE (name_ne hE e1) hb3 _ hP2 hr2).mono ?_; rintro e w3 ⟨rfl, hk3, hP3, hr3⟩; have kk3 := kk2.trans hk3; have hs3 := kk3.size; have br3 := Bx.kp br2 hk3 (by omega); have lr3 := br3.lt; have bx3 := Bx.kp bx2 hk3 (by omega); have lx3 := bx3.lt; have nrx3 : ¬ w.heap.size = w1.heap.size := (by omega); have nxr3 := Ne.symm nrx3; have cx3_1 := bx3.s1; have fx3_1 := bx3.open 1)
  | (go_at_call 34; refine (take_1 hE (by decide) _ ((hP1.alloc _).alloc _) (Bx.newB (by simp)) (by omega)).mono ?_; intro e w2 hT2; obtain ⟨_, j2, rfl, hk2, hj2, hP2, hr2, rfl⟩ := tells_yes hT2 hr1 e2; have kk2 := (kp_alloc (kp_alloc kk1 _) _).trans hk2; have hs2 := kk2.size; have br2 : Bx w2 (w.heap.size) 65 #[sZ, .bool false, iZ, iZ, .int .u64 0, sZ] := Bx.kp ((br1.alloc _).alloc _) hk2 (by omega); have lr2 := br2.lt; have bx2 : Bx w2 (w1.heap.size) 65 #[.string c, .bool false, iZ, iZ, .int .u64 0, sZ] := Bx.kp ((Bx.newB (by simp) : Bx _ (w1.heap.size) 65 #[.string c, .bool false, iZ, iZ, .int .u64 0, sZ]).alloc _) hk2 (by omega); have lx2 := bx2.lt; have nrx2 : ¬ w.heap.size = w1.heap.size := (by omega); have nxr2 := Ne.symm nrx2; have cx2_0 := bx2.s0)
  | (go_at_call 55; refine (sqreadName_any hE _ (hP.alloc _)).mono ?_; intro e w1 hT1; obtain ⟨_, j1, rfl, hk1, hj1, hP1, hr1, rfl⟩ := tells_yes hT1 rfl e1; have kk1 := (kp_alloc (gr w g) _).trans hk1; have hs1 := kk1.size; have br1 : Bx w1 (w.heap.size) 65 #[sZ, .bool false, iZ, iZ, .int .u64 0, sZ] := Bx.kp (Bx.newB (by simp) : Bx _ (w.heap.size) 65 #[sZ, .bool false, iZ, iZ, .int .u64 0, sZ]) hk1 (by omega); have lr1 := br1.lt))
 refine bodyPost_ret (v := .agg #[.string c, .bool true, .int .i64 vk, .int .i64 vn, .int .u64 (vf : Int), .string vs]) (by simp [results, Tryz.results60, go_sem, cr5_0, cr5_1, cr5_2, cr5_3, cr5_4, cr5_5]) rfl ?_
 rw [HO.out]
 exact ⟨(kp_sets (kp_set (kp_set (kp_set (kp_set kk5 (by omega) 2 (.int .i64 vk)) (by omega) 3 (.int .i64 vn)) (by omega) 4 (.int .u64 (vf : Int))) (by omega) 5 (.string vs)) (by omega) 0 [.string c, .bool true, .int .i64 vk, .int .i64 vn, .int .u64 (vf : Int), .string vs]), j5, (by omega), (PAt.sets ((((hP5.set bx5 (by decide) (by omega) 2 (.int .i64 vk)).set (bx5.set 2 (.int .i64 vk)) (by decide) (by omega) 3 (.int .i64 vn)).set ((bx5.set 2 (.int .i64 vk)).set 3 (.int .i64 vn)) (by decide) (by omega) 4 (.int .u64 (vf : Int))).set (((bx5.set 2 (.int .i64 vk)).set 3 (.int .i64 vn)).set 4 (.int .u64 (vf : Int))) (by decide) (by omega) 5 (.string vs)) ((((br5.other (by omega) 2 (.int .i64 vk)).other (by omega) 3 (.int .i64 vn)).other (by omega) 4 (.int .u64 (vf : Int))).other (by omega) 5 (.string vs)) (by decide) (by omega) 0 [.string c, .bool true, .int .i64 vk, .int .i64 vn, .int .u64 (vf : Int), .string vs]), hr5, _, rfl, rfl⟩
theorem sqreadSet_w5 {g : Nat} {v : Value} {l : List Tok} (hE : EndK l) {i : Nat}  {c : ByteArray} {q1 q2 q4 : List TkC} (e1 : nameR (rem l i) = (some c, q1)) (e2 : takeR ⟨#[61]⟩ q1 = (some (), q2)) (hb3 : isT c q2 = false) (e4 : valueR q2 = (none, q4)) (w : World) (hP : PAt g v l i w) :
  Calls Tryz.prog 60 #[.pointer (some ⟨g, 0, none⟩)] w (Tells g v l i w VT (setR (rem l i))) := by
 have hg0 := hP.g_lt
 have HO : Hid (setR (rem l i) = (none, q4)) := by
  unfold Hid
  simp only [setR, bnd, opt, ret, e1, e2, hb3, Bool.false_eq_true, if_false, e4]
 go_enter Tryz.func60, Tryz.ntmps60
 go_wp2_with (first
  | (go_at_call 58; refine (sqreadValue_any hE _ hP3).mono ?_; intro e w4 hT4; obtain ⟨j4, rfl, hk4, hj4, hP4, hr4⟩ := tells_no hT4 hr2 e4)
  | (go_at_call 27; refine (took_no hb3 _ hP2 hr2).mono ?_; rintro e w3 ⟨rfl, hk3, hP3⟩; have kk3 := kk2.trans hk3; have hs3 := kk3.size; have br3 := Bx.kp br2 hk3 (by omega); have lr3 := br3.lt; have bx3 := Bx.kp bx2 hk3 (by omega); have lx3 := bx3.lt; have nrx3 : ¬ w.heap.size = w1.heap.size := (by omega); have nxr3 := Ne.symm nrx3)
  | (go_at_call 34; refine (take_1 hE (by decide) _ ((hP1.alloc _).alloc _) (Bx.newB (by simp)) (by omega)).mono ?_; intro e w2 hT2; obtain ⟨_, j2, rfl, hk2, hj2, hP2, hr2, rfl⟩ := tells_yes hT2 hr1 e2; have kk2 := (kp_alloc (kp_alloc kk1 _) _).trans hk2; have hs2 := kk2.size; have br2 : Bx w2 (w.heap.size) 65 #[sZ, .bool false, iZ, iZ, .int .u64 0, sZ] := Bx.kp ((br1.alloc _).alloc _) hk2 (by omega); have lr2 := br2.lt; have bx2 : Bx w2 (w1.heap.size) 65 #[.string c, .bool false, iZ, iZ, .int .u64 0, sZ] := Bx.kp ((Bx.newB (by simp) : Bx _ (w1.heap.size) 65 #[.string c, .bool false, iZ, iZ, .int .u64 0, sZ]).alloc _) hk2 (by omega); have lx2 := bx2.lt; have nrx2 : ¬ w.heap.size = w1.heap.size := (by omega); have nxr2 := Ne.symm nrx2; have cx2_0 := bx2.s0)
  | (go_at_call 55; refine (sqreadName_any hE _ (hP.alloc _)).mono ?_; intro e w1 hT1; obtain ⟨_, j1, rfl, hk1, hj1, hP1, hr1, rfl⟩ := tells_yes hT1 rfl e1; have kk1 := (kp_alloc (gr w g) _).trans hk1; have hs1 := kk1.size; have br1 : Bx w1 (w.heap.size) 65 #[sZ, .bool false, iZ, iZ, .int .u64 0, sZ] := Bx.kp (Bx.newB (by simp) : Bx _ (w.heap.size) 65 #[sZ, .bool false, iZ, iZ, .int .u64 0, sZ]) hk1 (by omega); have lr1 := br1.lt))
 refine ⟨rfl, ?_⟩
 rw [HO.out]
 exact ⟨kk3.trans hk4, j4, (by omega), hP4, hr4, rfl⟩
theorem sqreadSet_w6 {g : Nat} {v : Value} {l : List Tok} (hE : EndK l) {i : Nat}  {c : ByteArray} {q1 q2 : List TkC} {vk vn : Int} {vf : Nat} {vs : ByteArray} {q4 : List TkC} (e1 : nameR (rem l i) = (some c, q1)) (e2 : takeR ⟨#[61]⟩ q1 = (some (), q2)) (hb3 : isT c q2 = false) (e4 : valueR q2 = (some ⟨vk, vn, vf, vs⟩, q4)) (w : World) (hP : PAt g v l i w) :
  Calls Tryz.prog 60 #[.pointer (some ⟨g, 0, none⟩)] w (Tells g v l i w VT (setR (rem l i))) := by
 have hg0 := hP.g_lt
 have HO : Hid (setR (rem l i) = (some ⟨c, false, ⟨vk, vn, vf, vs⟩⟩, q4)) := by
  unfold Hid
  simp only [setR, bnd, opt, ret, e1, e2, hb3, Bool.false_eq_true, if_false, e4]
 go_enter Tryz.func60, Tryz.ntmps60
 go_wp2_with (first
  | (go_at_call 58; refine (sqreadValue_any hE _ hP3).mono ?_; intro e w4 hT4; obtain ⟨u4, j4, rfl, hk4, hj4, hP4, hr4, hV4⟩ := tells_yes hT4 hr2 e4; obtain rfl : u4 = .agg #[.int .i64 vk, .int .i64 vn, .int .u64 (vf : Int), .string vs] := hV4; have kk4 := kk3.trans hk4; have hs4 := kk4.size; have br4 := Bx.kp br3 hk4 (by omega); have lr4 := br4.lt; have bx4 := Bx.kp bx3 hk4 (by omega); have lx4 := bx4.lt; have nrx4 : ¬ w.heap.size = w1.heap.size := (by omega); have nxr4 := Ne.symm nrx4; have cx4_2 := bx4.s2; have fx4_2 := bx4.open 2; have cx4_3 := bx4.s3; have fx4_3 := bx4.open 3; have cx4_4 := bx4.s4; have fx4_4 := bx4.open 4; have cx4_5 := bx4.s5; have fx4_5 := bx4.open 5; have cx4_0 := bx4.s0; have cx4_1 := bx4.s1; have cr4_0 := br4.s0; have fr4_0 := br4.open 0; have cr4_1 := br4.s1; have fr4_1 := br4.open 1; have cr4_2 := br4.s2; have fr4_2 := br4.open 2; have cr4_3 := br4.s3; have fr4_3 := br4.open 3; have cr4_4 := br4.s4; have fr4_4 := br4.open 4; have cr4_5 := br4.s5; have fr4_5 := br4.open 5)
  | (go_at_call 27; refine (took_no hb3 _ hP2 hr2).mono ?_; rintro e w3 ⟨rfl, hk3, hP3⟩; have kk3 := kk2.trans hk3; have hs3 := kk3.size; have br3 := Bx.kp br2 hk3 (by omega); have lr3 := br3.lt; have bx3 := Bx.kp bx2 hk3 (by omega); have lx3 := bx3.lt; have nrx3 : ¬ w.heap.size = w1.heap.size := (by omega); have nxr3 := Ne.symm nrx3)
  | (go_at_call 34; refine (take_1 hE (by decide) _ ((hP1.alloc _).alloc _) (Bx.newB (by simp)) (by omega)).mono ?_; intro e w2 hT2; obtain ⟨_, j2, rfl, hk2, hj2, hP2, hr2, rfl⟩ := tells_yes hT2 hr1 e2; have kk2 := (kp_alloc (kp_alloc kk1 _) _).trans hk2; have hs2 := kk2.size; have br2 : Bx w2 (w.heap.size) 65 #[sZ, .bool false, iZ, iZ, .int .u64 0, sZ] := Bx.kp ((br1.alloc _).alloc _) hk2 (by omega); have lr2 := br2.lt; have bx2 : Bx w2 (w1.heap.size) 65 #[.string c, .bool false, iZ, iZ, .int .u64 0, sZ] := Bx.kp ((Bx.newB (by simp) : Bx _ (w1.heap.size) 65 #[.string c, .bool false, iZ, iZ, .int .u64 0, sZ]).alloc _) hk2 (by omega); have lx2 := bx2.lt; have nrx2 : ¬ w.heap.size = w1.heap.size := (by omega); have nxr2 := Ne.symm nrx2; have cx2_0 := bx2.s0)
  | (go_at_call 55; refine (sqreadName_any hE _ (hP.alloc _)).mono ?_; intro e w1 hT1; obtain ⟨_, j1, rfl, hk1, hj1, hP1, hr1, rfl⟩ := tells_yes hT1 rfl e1; have kk1 := (kp_alloc (gr w g) _).trans hk1; have hs1 := kk1.size; have br1 : Bx w1 (w.heap.size) 65 #[sZ, .bool false, iZ, iZ, .int .u64 0, sZ] := Bx.kp (Bx.newB (by simp) : Bx _ (w.heap.size) 65 #[sZ, .bool false, iZ, iZ, .int .u64 0, sZ]) hk1 (by omega); have lr1 := br1.lt))
 refine bodyPost_ret (v := .agg #[.string c, .bool false, .int .i64 vk, .int .i64 vn, .int .u64 (vf : Int), .string vs]) (by simp [results, Tryz.results60, go_sem, cr4_0, cr4_1, cr4_2, cr4_3, cr4_4, cr4_5]) rfl ?_
 rw [HO.out]
 exact ⟨(kp_sets (kp_set (kp_set (kp_set (kp_set kk4 (by omega) 2 (.int .i64 vk)) (by omega) 3 (.int .i64 vn)) (by omega) 4 (.int .u64 (vf : Int))) (by omega) 5 (.string vs)) (by omega) 0 [.string c, .bool false, .int .i64 vk, .int .i64 vn, .int .u64 (vf : Int), .string vs]), j4, (by omega), (PAt.sets ((((hP4.set bx4 (by decide) (by omega) 2 (.int .i64 vk)).set (bx4.set 2 (.int .i64 vk)) (by decide) (by omega) 3 (.int .i64 vn)).set ((bx4.set 2 (.int .i64 vk)).set 3 (.int .i64 vn)) (by decide) (by omega) 4 (.int .u64 (vf : Int))).set (((bx4.set 2 (.int .i64 vk)).set 3 (.int .i64 vn)).set 4 (.int .u64 (vf : Int))) (by decide) (by omega) 5 (.string vs)) ((((br4.other (by omega) 2 (.int .i64 vk)).other (by omega) 3 (.int .i64 vn)).other (by omega) 4 (.int .u64 (vf : Int))).other (by omega) 5 (.string vs)) (by decide) (by omega) 0 [.string c, .bool false, .int .i64 vk, .int .i64 vn, .int .u64 (vf : Int), .string vs]), hr4, _, rfl, rfl⟩
theorem sqreadSet_any {g : Nat} {v : Value} {l : List Tok} (hE : EndK l) {i : Nat}  (w : World) (hP : PAt g v l i w) :
  Calls Tryz.prog 60 #[.pointer (some ⟨g, 0, none⟩)] w (Tells g v l i w VT (setR (rem l i))) := by
 rcases e1 : nameR (rem l i) with ⟨o1, q1⟩
 cases o1 with
 | none =>
  exact sqreadSet_w0 hE e1 w hP
 | some c =>
  rcases e2 : takeR ⟨#[61]⟩ q1 with ⟨o2, q2⟩
  cases o2 with
  | none =>
   exact sqreadSet_w1 hE e1 e2 w hP
  | some a2 =>
   cases a2
   rcases Bool.eq_false_or_eq_true (isT c q2) with hb3 | hb3
   ·rcases e4 : takeR ⟨#[43]⟩ q2.tail with ⟨o4, q4⟩
    cases o4 with
    | none =>
     exact sqreadSet_w2 hE e1 e2 hb3 e4 w hP
    | some a4 =>
     cases a4
     rcases e5 : valueR q4 with ⟨o5, q5⟩
     cases o5 with
     | none =>
      exact sqreadSet_w3 hE e1 e2 hb3 e4 e5 w hP
     | some a5 =>
      obtain ⟨vk, vn, vf, vs⟩ := a5
      exact sqreadSet_w4 hE e1 e2 hb3 e4 e5 w hP
   ·rcases e4 : valueR q2 with ⟨o4, q4⟩
    cases o4 with
    | none =>
     exact sqreadSet_w5 hE e1 e2 hb3 e4 w hP
    | some a4 =>
     obtain ⟨vk, vn, vf, vs⟩ := a4
     exact sqreadSet_w6 hE e1 e2 hb3 e4 w hP
theorem sqreadColumn_w0 {g : Nat} {v : Value} {l : List Tok} (hE : EndK l) {i : Nat}  {q1 : List TkC} (e1 : nameR (rem l i) = (none, q1)) (w : World) (hP : PAt g v l i w) :
  Calls Tryz.prog 105 #[.pointer (some ⟨g, 0, none⟩)] w (Tells g v l i w VP (columnR (rem l i))) := by
 have hg0 := hP.g_lt
 have HO : Hid (columnR (rem l i) = (none, q1)) := by
  unfold Hid
  simp only [columnR, bnd, opt, ret, e1]
 go_enter Tryz.func105, Tryz.ntmps105
 go_wp2_with (first
  | (go_at_call 55; refine (sqreadName_any hE _ (hP.alloc _)).mono ?_; intro e w1 hT1; obtain ⟨j1, rfl, hk1, hj1, hP1, hr1⟩ := tells_no hT1 rfl e1))
 refine ⟨rfl, ?_⟩
 rw [HO.out]
 exact ⟨(kp_alloc (gr w g) _).trans hk1, j1, (by omega), hP1, hr1, rfl⟩
theorem sqreadColumn_w1 {g : Nat} {v : Value} {l : List Tok} (hE : EndK l) {i : Nat}  {c : ByteArray} {q1 q2 : List TkC} (e1 : nameR (rem l i) = (some c, q1)) (e2 : typeR q1 = (none, q2)) (w : World) (hP : PAt g v l i w) :
  Calls Tryz.prog 105 #[.pointer (some ⟨g, 0, none⟩)] w (Tells g v l i w VP (columnR (rem l i))) := by
 have hg0 := hP.g_lt
 have HO : Hid (columnR (rem l i) = (none, q2)) := by
  unfold Hid
  simp only [columnR, bnd, opt, ret, e1, e2]
 go_enter Tryz.func105, Tryz.ntmps105
 go_wp2_with (first
  | (go_at_call 107; refine (sqreadType_any hE _ hP1).mono ?_; intro e w2 hT2; obtain ⟨j2, rfl, hk2, hj2, hP2, hr2⟩ := tells_no hT2 hr1 e2)
  | (go_at_call 55; refine (sqreadName_any hE _ (hP.alloc _)).mono ?_; intro e w1 hT1; obtain ⟨_, j1, rfl, hk1, hj1, hP1, hr1, rfl⟩ := tells_yes hT1 rfl e1; have kk1 := (kp_alloc (gr w g) _).trans hk1; have hs1 := kk1.size; have br1 : Bx w1 (w.heap.size) 126 #[sZ, iZ] := Bx.kp (Bx.newB (by simp) : Bx _ (w.heap.size) 126 #[sZ, iZ]) hk1 (by omega); have lr1 := br1.lt))
 refine ⟨rfl, ?_⟩
 rw [HO.out]
 exact ⟨kk1.trans hk2, j2, (by omega), hP2, hr2, rfl⟩
theorem sqreadColumn_w2 {g : Nat} {v : Value} {l : List Tok} (hE : EndK l) {i : Nat}  {c : ByteArray} {q1 : List TkC} {k : Int} {q2 : List TkC} (e1 : nameR (rem l i) = (some c, q1)) (e2 : typeR q1 = (some k, q2)) (w : World) (hP : PAt g v l i w) :
  Calls Tryz.prog 105 #[.pointer (some ⟨g, 0, none⟩)] w (Tells g v l i w VP (columnR (rem l i))) := by
 have hg0 := hP.g_lt
 have HO : Hid (columnR (rem l i) = (some (c, k), q2)) := by
  unfold Hid
  simp only [columnR, bnd, opt, ret, e1, e2]
 go_enter Tryz.func105, Tryz.ntmps105
 go_wp2_with (first
  | (go_at_call 107; refine (sqreadType_any hE _ hP1).mono ?_; intro e w2 hT2; obtain ⟨_, j2, rfl, hk2, hj2, hP2, hr2, rfl⟩ := tells_yes hT2 hr1 e2; have kk2 := kk1.trans hk2; have hs2 := kk2.size; have br2 := Bx.kp br1 hk2 (by omega); have lr2 := br2.lt; have cr2_0 : w2.cell? ⟨w.heap.size, 0, none⟩ = some (.string ⟨#[]⟩) := br2.cell 0 _ rfl; have fr2_0 := br2.open 0; have cr2_1 : w2.cell? ⟨w.heap.size, 1, none⟩ = some (.int .i64 0) := br2.cell 1 _ rfl; have fr2_1 := br2.open 1)
  | (go_at_call 55; refine (sqreadName_any hE _ (hP.alloc _)).mono ?_; intro e w1 hT1; obtain ⟨_, j1, rfl, hk1, hj1, hP1, hr1, rfl⟩ := tells_yes hT1 rfl e1; have kk1 := (kp_alloc (gr w g) _).trans hk1; have hs1 := kk1.size; have br1 : Bx w1 (w.heap.size) 126 #[sZ, iZ] := Bx.kp (Bx.newB (by simp) : Bx _ (w.heap.size) 126 #[sZ, iZ]) hk1 (by omega); have lr1 := br1.lt))
 refine bodyPost_ret (v := .agg #[.string c, .int .i64 k]) (by simp [results, Tryz.results105, go_sem, cr2_0, cr2_1]) rfl ?_
 rw [HO.out]
 exact ⟨(kp_set (kp_set kk2 (by omega) 0 (.string c)) (by omega) 1 (.int .i64 k)), j2, (by omega), ((hP2.set br2 (by decide) (by omega) 0 (.string c)).set (br2.set 0 (.string c)) (by decide) (by omega) 1 (.int .i64 k)), hr2, _, rfl, rfl⟩
theorem sqreadColumn_any {g : Nat} {v : Value} {l : List Tok} (hE : EndK l) {i : Nat}  (w : World) (hP : PAt g v l i w) :
  Calls Tryz.prog 105 #[.pointer (some ⟨g, 0, none⟩)] w (Tells g v l i w VP (columnR (rem l i))) := by
 rcases e1 : nameR (rem l i) with ⟨o1, q1⟩
 cases o1 with
 | none =>
  exact sqreadColumn_w0 hE e1 w hP
 | some c =>
  rcases e2 : typeR q1 with ⟨o2, q2⟩
  cases o2 with
  | none =>
   exact sqreadColumn_w1 hE e1 e2 w hP
  | some k =>
   exact sqreadColumn_w2 hE e1 e2 w hP
end Go.Proofs.YtiajlhjjmlakmaaGreatDoor
