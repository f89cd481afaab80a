/-
  Contracts: the readers of package sql: names, values, signs, types, conditions, sets, columns. (Written by mksqc.py.)
-/
import Derived.Test.YtiajlhjjmlakmaaGreatDoorSqA
namespace Go.Proofs.YtiajlhjjmlakmaaGreatDoor
open Go.RowKit Num
set_option linter.unusedSimpArgs false
set_option linter.unusedVariables false
set_option linter.unusedVariables false
set_option maxRecDepth 100000

theorem Num.Bx.newB {w : World} {n : Nat} (hn : w.heap.size = n) {t : TypeId} {cs : Array Value} : Bx (w.alloc (.cells cs t)) n t cs := by
  subst hn
  exact Bx.new w t cs
/-- Several stores into one box. -/
def Num.setsW (w : World) (b : Nat) : Nat → List Value → World
  | _, [] => w
  | i, u :: us => setsW (w.setCell ⟨b, i, none⟩ u) b (i + 1) us
theorem Num.PAt.sets {g : Nat} {v : Value} {l : List Tok} {i : Nat} : ∀ {w : World} (h : PAt g v l i w) {b : Nat} {t : TypeId} {cs : Array Value} (hb : Bx w b t cs) (ht : t ≠ 48) (hne : b ≠ g) (k : Nat) (us : List Value), PAt g v l i (setsW w b k us)
  | _, h, _, _, _, _, _, _, _, [] => h
  | _, h, _, _, _, hb, ht, hne, k, u :: us => PAt.sets (h.set hb ht hne k u) (hb.set k u) ht hne (k + 1) us
theorem Num.PAt.of_kp {g : Nat} {v : Value} {l : List Tok} {i j : Nat} {w W : World} (h : PAt g v l i w) (hk : w.grownBy W (some g)) (hb : Bx W g 43 #[v, .int .i64 (j : Int)]) (hj : j < l.length) : PAt g v l j W := by
  obtain ⟨B, hB⟩ := h.toks
  refine ⟨hb, ⟨B, hB.kept hk ?_⟩, hj, h.sm⟩
  cases hv : v.ownBlock with
  | none => exact .inl rfl
  | some k =>
    right
    intro e
    obtain rfl := Option.some.inj e
    rcases hB.2 with ⟨rfl, _⟩ | ⟨gt, cap, cur, rfl, _, hgg, _⟩
    · simp [Value.ownBlock] at hv
    · obtain rfl : gt = k := by simpa [Value.ownBlock] using hv
      have hbx := h.box
      unfold Bx at hbx
      rw [hgg] at hbx
      simp only [Option.some.injEq, Obj.cells.injEq] at hbx
      exact absurd hbx.2.1 (by decide)
theorem Num.Bx.others {b c : Nat} {t : TypeId} {cs : Array Value} (hne : b ≠ c) : ∀ {w : World} (h : Bx w b t cs) (k : Nat) (us : List Value), Bx (setsW w c k us) b t cs
  | _, h, _, [] => h
  | _, h, k, u :: us => Bx.others hne (h.other hne k u) (k + 1) us
theorem kp_sets {g b : Nat} {w : World} : ∀ {W : World} (h : w.grownBy W (some g)) (hb : w.heap.size ≤ b) (k : Nat) (us : List Value), w.grownBy (setsW W b k us) (some g)
  | _, h, _, _, [] => h
  | _, h, hb, k, u :: us => kp_sets (kp_set h hb k u) hb (k + 1) us
theorem row_sets {b B E sz n : Nat} {v : Value} {xs : List Value} {t : TypeId} : ∀ {w : World} {cs : Array Value} (h : w.ownsRow B E sz v n xs) (hb : Bx w b t cs) (ht : t ≠ E) (k : Nat) (us : List Value), (setsW w b k us).ownsRow B E sz v n xs
  | _, _, h, _, _, _, [] => h
  | _, _, h, hb, ht, k, u :: us => row_sets (row_set h hb ht k u) (hb.set k u) ht (k + 1) us
theorem tells_yes {α : Type} {g : Nat} {v : Value} {l : List Tok} {i : Nat} {w : World} {V : Nat → World → Value → α → Prop} {rd : Rd α} {q q' : List TkC} {a : α} {e : Ending} {w' : World} (h : Tells g v l i w V (rd (rem l i)) e w') (hr : rem l i = q) (he : rd q = (some a, q')) :
    ∃ u j, e = .returned u ∧ w.grownBy w' (some g) ∧ i ≤ j ∧ PAt g v l j w' ∧ rem l j = q' ∧ V w.heap.size w' u a := by
  subst hr
  rw [he] at h
  obtain ⟨h1, j, h2, h3, h4, u, h5, h6⟩ := h
  exact ⟨u, j, h5, h1, h2, h3, h4, h6⟩
theorem tells_no {α : Type} {g : Nat} {v : Value} {l : List Tok} {i : Nat} {w : World} {V : Nat → World → Value → α → Prop} {rd : Rd α} {q q' : List TkC} {e : Ending} {w' : World} (h : Tells g v l i w V (rd (rem l i)) e w') (hr : rem l i = q) (he : rd q = (none, q')) :
    ∃ j, e = .panicked boomQ ∧ w.grownBy w' (some g) ∧ i ≤ j ∧ PAt g v l j w' ∧ rem l j = q' := by
  subst hr
  rw [he] at h
  obtain ⟨h1, j, h2, h3, h4, h5⟩ := h
  exact ⟨j, h5, h1, h2, h3, h4⟩
/-! What readers tell, as values. -/
def Num.VU : Nat → World → Value → Unit → Prop := fun _ _ u _ => u = .tuple #[]
def Num.VS : Nat → World → Value → ByteArray → Prop := fun _ _ u s => u = .string s
def Num.VI : Nat → World → Value → Int → Prop := fun _ _ u n => u = .int .i64 n
def Num.VV : Nat → World → Value → Val → Prop := fun _ _ u x => u = x.v
def Num.VP : Nat → World → Value → ByteArray × Int → Prop := fun _ _ u x => u = .agg #[.string x.1, .int .i64 x.2]
def Num.VC : Nat → World → Value → Cnd → Prop := fun _ _ u x => u = .agg #[.string x.col, .int .i64 x.sign, .int .i64 x.v.k, .int .i64 x.v.n, .int .u64 (x.v.f : Int), .string x.v.s]
def Num.VT : Nat → World → Value → Sett → Prop := fun _ _ u x => u = .agg #[.string x.col, .bool x.add, .int .i64 x.v.k, .int .i64 x.v.n, .int .u64 (x.v.f : Int), .string x.v.s]
def Num.cS (s : ByteArray) : List Value := [.string s]
def Num.cV (x : Val) : List Value := [.int .i64 x.k, .int .i64 x.n, .int .u64 (x.f : Int), .string x.s]
def Num.cT (x : Sett) : List Value := [.string x.col, .bool x.add, .int .i64 x.v.k, .int .i64 x.v.n, .int .u64 (x.v.f : Int), .string x.v.s]
def Num.cC (x : Cnd) : List Value := [.string x.col, .int .i64 x.sign, .int .i64 x.v.k, .int .i64 x.v.n, .int .u64 (x.v.f : Int), .string x.v.s]
def Num.cP (x : ByteArray × Int) : List Value := [.string x.1, .int .i64 x.2]
def Num.VL {α : Type} (T sz : Nat) (cs : α → List Value) : Nat → World → Value → List α → Prop := fun B w u l => ∃ ao cap, u = .slice ao l.length cap ∧ w.ownsRow B T sz (.slice ao l.length cap) l.length (l.flatMap cs)
theorem takes_one (s : ByteArray) : takesR [s] = takeR s := by
  funext q
  show bnd (takeR s) (fun _ => ret ()) q = _
  unfold bnd takeR ret
  by_cases h : isT s q = true
  · rw [if_pos h]
  · rw [if_neg h]
theorem take_1 {g : Nat} {v : Value} {l : List Tok} (hE : EndK l) {i : Nat} {s : ByteArray} (hs : s ≠ ⟨#[]⟩) {b : Nat} (w : World) (hP : PAt g v l i w) (hb : Bx w b 9 #[.string s]) (hbg : b ≠ g) :
    Calls Tryz.prog 34 #[.pointer (some ⟨g, 0, none⟩), .slice (some ⟨b, 0, none⟩) 1 1] w (Tells g v l i w VU (takeR s (rem l i))) := by
  have h := take_any hE [s] (by simpa using hs) (by simp) b w hP _ hb (fun k t ht => ?_) hbg
  · rw [takes_one] at h
    exact h
  · cases k with
    | zero => rw [← Option.some.inj ht]; rfl
    | succ k => simp at ht
theorem take_2 {g : Nat} {v : Value} {l : List Tok} (hE : EndK l) {i : Nat} {sa sb : ByteArray} (hsa : sa ≠ ⟨#[]⟩) (hsb : sb ≠ ⟨#[]⟩) {b : Nat} (w : World) (hP : PAt g v l i w) (hb : Bx w b 9 #[.string sa, .string sb]) (hbg : b ≠ g) :
    Calls Tryz.prog 34 #[.pointer (some ⟨g, 0, none⟩), .slice (some ⟨b, 0, none⟩) 2 2] w (Tells g v l i w VU (takesR [sa, sb] (rem l i))) := by
  refine take_any hE [sa, sb] (by simpa using ⟨hsa, hsb⟩) (by simp) b w hP _ hb (fun k t ht => ?_) hbg
  match k, ht with
  | 0, ht => rw [← Option.some.inj ht]; rfl
  | 1, ht => rw [← Option.some.inj ht]; rfl
  | k + 2, ht => simp at ht
theorem tok_cells {W : World} {b : Nat} {k : Int} {t : ByteArray} {v : Val} {p : Int} (h : Bx W b 48 #[.int .i64 k, .string t, .int .i64 v.k, .int .i64 v.n, .int .u64 (v.f : Int), .string v.s, .int .i64 p]) :
    W.cell? ⟨b, 0, none⟩ = some (.int .i64 k) ∧ W.cell? ⟨b, 1, none⟩ = some (.string t) ∧ W.cell? ⟨b, 2, none⟩ = some (.int .i64 v.k) ∧ W.cell? ⟨b, 3, none⟩ = some (.int .i64 v.n) ∧ W.cell? ⟨b, 4, none⟩ = some (.int .u64 (v.f : Int)) ∧ W.cell? ⟨b, 5, none⟩ = some (.string v.s) ∧ W.cell? ⟨b, 6, none⟩ = some (.int .i64 p) := cells7 h
/-- What takeKind tells: a token of that kind. -/
def Num.VK : Nat → World → Value → TkC → Prop := fun _ _ u x => ∃ p, u = tokV x.1 x.2.1 x.2.2 p
set_option maxHeartbeats 1000000 in
theorem takeKind_any {g : Nat} {v : Value} {l : List Tok} (hE : EndK l) {i : Nat} (k : Int) (hk0 : k ≠ 0) (w : World) (hP : PAt g v l i w) :
    Calls Tryz.prog 101 #[.pointer (some ⟨g, 0, none⟩), .int .i64 k] w (Tells g v l i w VK (kindR k (rem l i))) := by
  obtain ⟨x, hx⟩ := PAt.tok hP
  have hr2 := rem_at hx
  have hg0 := hP.g_lt
  have hn := fun W h => next_any (g := g) (v := v) hx W h
  have hgu := giveUp_any
  by_cases hk : x.k = k
  · have hi : i + 1 < l.length := by
      rcases (hE i x hx).1 with h | h
      · exact h
      · exact absurd (hk.symm.trans h.1) hk0
    have hii : (i : Int) + 1 ≤ 1000 := by
      have := hP.sm
      omega
    have HO : Hid (kindR k (rem l i) = (some (cont x), rem l (i + 1))) := by
      unfold Hid
      rw [hr2]
      show (if x.k = k then _ else _) = _
      rw [if_pos hk]
    obtain ⟨kk, tt, vv, pp⟩ := x
    obtain rfl : kk = k := hk
    simp only at hn
    clear hr2
    go_enter Tryz.func101, Tryz.ntmps101
    go_wp2_with (go_at_call 11; refine (hn _ (hP.alloc _)).mono ?_; rintro e w1 ⟨rfl, hb1⟩; simp only [tokV]; have hP1 := (hP.alloc _).below hb1; have br := heap_next (heap_alloc_new w _) hb1; obtain ⟨q0, q1, q2, q3, q4, q5, q6⟩ := cells7 br; obtain ⟨z0, z1, z2, z3, z4, z5, z6⟩ := free7 br; have p1 : w1.cell? ⟨g, 1, none⟩ = some (.int .i64 (i : Int)) := hP1.box.cell 1 _ rfl; have z1g := hP1.box.open 1; have hs1 := (Array.getElem?_eq_some_iff.1 br).1; have hg1 := hP1.g_lt; have hg2 : ¬ w1.heap.size = g := (by omega); have hg3 : ¬ g = w1.heap.size := (by omega); have hg4 : ¬ w.heap.size = g := (by omega); have hg5 : ¬ g = w.heap.size := (by omega))
    refine bodyPost_ret (v := tokV kk tt vv pp) (by simp [results, Tryz.results101, go_sem, tokV, q0, q1, q2, q3, q4, q5, q6, hs1]) rfl ?_
    have hb2 : Bx (w1.setCell ⟨g, 1, none⟩ (.int .i64 ((i : Int) + 1))) g 43 #[v, .int .i64 ((i + 1 : Nat) : Int)] := by
      have := hP1.box.set 1 (.int .i64 ((i : Int) + 1))
      rw [show ((i + 1 : Nat) : Int) = (i : Int) + 1 by omega]
      exact this
    have hK := kp_alloc (kp_sets (kp_setG (kp_below (kp_alloc (World.grownBy.refl w (some g)) (.cells #[.int .i64 0, .string ⟨#[]⟩, .int .i64 0, .int .i64 0, .int .u64 0, .string ⟨#[]⟩, .int .i64 0] 48)) hb1) 1 (.int .i64 ((i : Int) + 1))) (Nat.le_refl _) 0 [.int .i64 kk, .string tt, .int .i64 vv.k, .int .i64 vv.n, .int .u64 (vv.f : Int), .string vv.s, .int .i64 (pp : Int)]) (.cells #[.int .i64 kk, .string tt, .int .i64 vv.k, .int .i64 vv.n, .int .u64 (vv.f : Int), .string vv.s, .int .i64 (pp : Int)] 48)
    have hP2 := hP.of_kp hK ((Bx.others hg5 hb2 0 _).alloc _) hi
    rw [HO.out]
    exact ⟨hK, i + 1, by omega, hP2, rfl, _, rfl, (pp : Int), rfl⟩
  · have HO : Hid (kindR k (rem l i) = (none, rem l i)) := by
      unfold Hid
      rw [hr2]
      show (if x.k = k then _ else _) = _
      rw [if_neg hk]
    have hkb : (x.k != k) = true := by simpa using hk
    obtain ⟨kk, tt, vv, pp⟩ := x
    simp only at hkb hk hn
    clear hr2 hk
    go_enter Tryz.func101, Tryz.ntmps101
    go_wp2_with (first
      | (go_at_call 36; refine (hgu _).mono ?_; rintro e w2 ⟨rfl, rfl⟩)
      | (go_at_call 11; refine (hn _ (hP.alloc _)).mono ?_; rintro e w1 ⟨rfl, hb1⟩; simp only [tokV]; have hP1 := (hP.alloc _).below hb1))
    refine ⟨rfl, ?_⟩
    rw [HO.out]
    exact ⟨kp_alloc (kp_below (kp_alloc (World.grownBy.refl _ _) _) hb1) _, i, Nat.le_refl _, hP1.alloc _, rfl, rfl⟩
set_option maxHeartbeats 400000 in
theorem sqreadName_w0 {g : Nat} {v : Value} {l : List Tok} (hE : EndK l) {i : Nat}  {q1 : List TkC} (e1 : kindR 2 (rem l i) = (none, q1)) (w : World) (hP : PAt g v l i w) :
    Calls Tryz.prog 55 #[.pointer (some ⟨g, 0, none⟩)] w (Tells g v l i w VS (nameR (rem l i))) := by
  have hg0 := hP.g_lt
  have HO : Hid (nameR (rem l i) = (none, q1)) := by
    unfold Hid
    simp only [nameR, bnd, opt, ret, e1]
  go_enter Tryz.func55, Tryz.ntmps55
  go_wp2_with (first
    | (go_at_call 101; refine (takeKind_any hE 2 (by decide) _ hP).mono ?_; intro e w1 hT1; obtain ⟨j1, rfl, hk1, hj1, hP1, hr1⟩ := tells_no hT1 rfl e1))
  refine ⟨rfl, ?_⟩
  rw [HO.out]
  exact ⟨(World.grownBy.refl w (some g)).trans hk1, j1, Nat.le_trans (Nat.le_refl i) hj1, hP1, hr1, rfl⟩
set_option maxHeartbeats 400000 in
theorem sqreadName_w1 {g : Nat} {v : Value} {l : List Tok} (hE : EndK l) {i : Nat}  {xk : Int} {xt : ByteArray} {xa : Int} {xb : Int} {xc : Nat} {xd : ByteArray} {q1 : List TkC} (e1 : kindR 2 (rem l i) = (some (xk, xt, ⟨xa, xb, xc, xd⟩), q1)) (w : World) (hP : PAt g v l i w) :
    Calls Tryz.prog 55 #[.pointer (some ⟨g, 0, none⟩)] w (Tells g v l i w VS (nameR (rem l i))) := by
  have hg0 := hP.g_lt
  have HO : Hid (nameR (rem l i) = (some xt, q1)) := by
    unfold Hid
    simp only [nameR, bnd, opt, ret, e1]
  go_enter Tryz.func55, Tryz.ntmps55
  go_wp2_with (first
    | (go_at_call 101; refine (takeKind_any hE 2 (by decide) _ hP).mono ?_; intro e w1 hT1; obtain ⟨u1, j1, rfl, hk1, hj1, hP1, hr1, hV1⟩ := tells_yes hT1 rfl e1; obtain ⟨p1, rfl⟩ := hV1; have hf1 := tok_f1 xk xt ⟨xa, xb, xc, xd⟩ p1; have hg1 := tok_f2v xk xt xa xb xc xd p1; have kk1 : w.grownBy w1 (some g) := (World.grownBy.refl w (some g)).trans hk1; have hs1 : w.heap.size ≤ w1.heap.size := kk1.size))
  go_ret
  rw [HO.out]
  exact ⟨kk1, j1, (Nat.le_trans (Nat.le_refl i) hj1), hP1, hr1, _, rfl, rfl⟩
theorem sqreadName_any {g : Nat} {v : Value} {l : List Tok} (hE : EndK l) {i : Nat}  (w : World) (hP : PAt g v l i w) :
    Calls Tryz.prog 55 #[.pointer (some ⟨g, 0, none⟩)] w (Tells g v l i w VS (nameR (rem l i))) := by
  rcases e1 : kindR 2 (rem l i) with ⟨o1, q1⟩
  cases o1 with
  | none =>
    exact sqreadName_w0 hE e1 w hP
  | some a1 =>
    obtain ⟨xk, xt, ⟨xa, xb, xc, xd⟩⟩ := a1
    exact sqreadName_w1 hE e1 w hP
set_option maxHeartbeats 400000 in
theorem sqreadValue_w0 {g : Nat} {v : Value} {l : List Tok} (hE : EndK l) {i : Nat}  (hb1 : isT ⟨#[110, 117, 108, 108]⟩ (rem l i) = true) (w : World) (hP : PAt g v l i w) :
    Calls Tryz.prog 58 #[.pointer (some ⟨g, 0, none⟩)] w (Tells g v l i w VV (valueR (rem l i))) := by
  have hg0 := hP.g_lt
  have HO : Hid (valueR (rem l i) = (some ⟨0, 0, 0, ⟨#[]⟩⟩, (rem l i).tail)) := by
    unfold Hid
    simp only [valueR, bnd, opt, ret, hb1, if_true]
  go_enter Tryz.func58, Tryz.ntmps58
  go_wp2_with (first
    | (go_at_call 27; refine (took_yes hE (by decide) hb1 _ (hP.alloc _) rfl).mono ?_; rintro e w1 ⟨rfl, hk1, hP1, hr1⟩; have kk1 : w.grownBy w1 (some g) := (kp_alloc (World.grownBy.refl w (some g)) _).trans hk1; have hs1 : w.heap.size ≤ w1.heap.size := kk1.size; have br1 : Bx w1 (w.heap.size) 46 #[.int .i64 0, .int .i64 0, .int .u64 0, .string ⟨#[]⟩] := Bx.kp (Bx.newB (by simp) : Bx _ (w.heap.size) 46 #[.int .i64 0, .int .i64 0, .int .u64 0, .string ⟨#[]⟩]) hk1 (by omega); have lr1 := br1.lt; have cr1_0 : w1.cell? ⟨w.heap.size, 0, none⟩ = some (.int .i64 0) := br1.cell 0 _ rfl; have fr1_0 := br1.open 0; have cr1_1 : w1.cell? ⟨w.heap.size, 1, none⟩ = some (.int .i64 0) := br1.cell 1 _ rfl; have fr1_1 := br1.open 1; have cr1_2 : w1.cell? ⟨w.heap.size, 2, none⟩ = some (.int .u64 0) := br1.cell 2 _ rfl; have fr1_2 := br1.open 2; have cr1_3 : w1.cell? ⟨w.heap.size, 3, none⟩ = some (.string ⟨#[]⟩) := br1.cell 3 _ rfl; have fr1_3 := br1.open 3))
  refine bodyPost_ret (v := .agg #[.int .i64 0, .int .i64 0, .int .u64 0, .string ⟨#[]⟩]) (by simp [results, Tryz.results58, go_sem, cr1_0, cr1_1, cr1_2, cr1_3]) rfl ?_
  rw [HO.out]
  exact ⟨(kp_set (kp_set (kp_set (kp_set kk1 (by omega) 0 (.int .i64 0)) (by omega) 1 (.int .i64 0)) (by omega) 2 (.int .u64 0)) (by omega) 3 (.string ⟨#[]⟩)), (i + 1), (Nat.le_succ_of_le (Nat.le_refl i)), ((((hP1.set br1 (by decide) (by omega) 0 (.int .i64 0)).set (br1.set 0 (.int .i64 0)) (by decide) (by omega) 1 (.int .i64 0)).set ((br1.set 0 (.int .i64 0)).set 1 (.int .i64 0)) (by decide) (by omega) 2 (.int .u64 0)).set (((br1.set 0 (.int .i64 0)).set 1 (.int .i64 0)).set 2 (.int .u64 0)) (by decide) (by omega) 3 (.string ⟨#[]⟩)), hr1, _, rfl, rfl⟩
set_option maxHeartbeats 400000 in
theorem sqreadValue_w1 {g : Nat} {v : Value} {l : List Tok} (hE : EndK l) {i : Nat}  (hb1 : isT ⟨#[110, 117, 108, 108]⟩ (rem l i) = false) (hb2 : isT ⟨#[116, 114, 117, 101]⟩ (rem l i) = true) (w : World) (hP : PAt g v l i w) :
    Calls Tryz.prog 58 #[.pointer (some ⟨g, 0, none⟩)] w (Tells g v l i w VV (valueR (rem l i))) := by
  have hg0 := hP.g_lt
  have HO : Hid (valueR (rem l i) = (some ⟨1, 1, 0, ⟨#[]⟩⟩, (rem l i).tail)) := by
    unfold Hid
    simp only [valueR, bnd, opt, ret, hb1, Bool.false_eq_true, if_false, hb2, if_true]
  go_enter Tryz.func58, Tryz.ntmps58
  go_wp2_with (first
    | (go_at_call 27; have hz := kk1; clear hz; refine (took_yes hE (by decide) hb2 _ hP1 rfl).mono ?_; rintro e w2 ⟨rfl, hk2, hP2, hr2⟩; have kk2 : w.grownBy w2 (some g) := kk1.trans hk2; have hs2 : w.heap.size ≤ w2.heap.size := kk2.size; have br2 : Bx w2 (w.heap.size) 46 #[.int .i64 0, .int .i64 0, .int .u64 0, .string ⟨#[]⟩] := Bx.kp br1 hk2 (by omega); have lr2 := br2.lt; have cr2_0 : w2.cell? ⟨w.heap.size, 0, none⟩ = some (.int .i64 0) := br2.cell 0 _ rfl; have fr2_0 := br2.open 0; have cr2_1 : w2.cell? ⟨w.heap.size, 1, none⟩ = some (.int .i64 0) := br2.cell 1 _ rfl; have fr2_1 := br2.open 1; have cr2_2 : w2.cell? ⟨w.heap.size, 2, none⟩ = some (.int .u64 0) := br2.cell 2 _ rfl; have fr2_2 := br2.open 2; have cr2_3 : w2.cell? ⟨w.heap.size, 3, none⟩ = some (.string ⟨#[]⟩) := br2.cell 3 _ rfl; have fr2_3 := br2.open 3)
    | (go_at_call 27; refine (took_no hb1 _ (hP.alloc _) rfl).mono ?_; rintro e w1 ⟨rfl, hk1, hP1⟩; have kk1 : w.grownBy w1 (some g) := (kp_alloc (World.grownBy.refl w (some g)) _).trans hk1; have hs1 : w.heap.size ≤ w1.heap.size := kk1.size; have br1 : Bx w1 (w.heap.size) 46 #[.int .i64 0, .int .i64 0, .int .u64 0, .string ⟨#[]⟩] := Bx.kp (Bx.newB (by simp) : Bx _ (w.heap.size) 46 #[.int .i64 0, .int .i64 0, .int .u64 0, .string ⟨#[]⟩]) hk1 (by omega); have lr1 := br1.lt))
  refine bodyPost_ret (v := .agg #[.int .i64 1, .int .i64 1, .int .u64 0, .string ⟨#[]⟩]) (by simp [results, Tryz.results58, go_sem, cr2_0, cr2_1, cr2_2, cr2_3]) rfl ?_
  rw [HO.out]
  exact ⟨(kp_set (kp_set (kp_set (kp_set kk2 (by omega) 0 (.int .i64 1)) (by omega) 1 (.int .i64 1)) (by omega) 2 (.int .u64 0)) (by omega) 3 (.string ⟨#[]⟩)), (i + 1), (Nat.le_succ_of_le (Nat.le_refl i)), ((((hP2.set br2 (by decide) (by omega) 0 (.int .i64 1)).set (br2.set 0 (.int .i64 1)) (by decide) (by omega) 1 (.int .i64 1)).set ((br2.set 0 (.int .i64 1)).set 1 (.int .i64 1)) (by decide) (by omega) 2 (.int .u64 0)).set (((br2.set 0 (.int .i64 1)).set 1 (.int .i64 1)).set 2 (.int .u64 0)) (by decide) (by omega) 3 (.string ⟨#[]⟩)), hr2, _, rfl, rfl⟩
set_option maxHeartbeats 400000 in
theorem sqreadValue_w2 {g : Nat} {v : Value} {l : List Tok} (hE : EndK l) {i : Nat}  (hb1 : isT ⟨#[110, 117, 108, 108]⟩ (rem l i) = false) (hb2 : isT ⟨#[116, 114, 117, 101]⟩ (rem l i) = false) (hb3 : isT ⟨#[102, 97, 108, 115, 101]⟩ (rem l i) = true) (w : World) (hP : PAt g v l i w) :
    Calls Tryz.prog 58 #[.pointer (some ⟨g, 0, none⟩)] w (Tells g v l i w VV (valueR (rem l i))) := by
  have hg0 := hP.g_lt
  have HO : Hid (valueR (rem l i) = (some ⟨1, 0, 0, ⟨#[]⟩⟩, (rem l i).tail)) := by
    unfold Hid
    simp only [valueR, bnd, opt, ret, hb1, Bool.false_eq_true, if_false, hb2, hb3, if_true]
  go_enter Tryz.func58, Tryz.ntmps58
  go_wp2_with (first
    | (go_at_call 27; have hz := kk2; clear hz; refine (took_yes hE (by decide) hb3 _ hP2 rfl).mono ?_; rintro e w3 ⟨rfl, hk3, hP3, hr3⟩; have kk3 : w.grownBy w3 (some g) := kk2.trans hk3; have hs3 : w.heap.size ≤ w3.heap.size := kk3.size; have br3 : Bx w3 (w.heap.size) 46 #[.int .i64 0, .int .i64 0, .int .u64 0, .string ⟨#[]⟩] := Bx.kp br2 hk3 (by omega); have lr3 := br3.lt; have cr3_0 : w3.cell? ⟨w.heap.size, 0, none⟩ = some (.int .i64 0) := br3.cell 0 _ rfl; have fr3_0 := br3.open 0; have cr3_1 : w3.cell? ⟨w.heap.size, 1, none⟩ = some (.int .i64 0) := br3.cell 1 _ rfl; have fr3_1 := br3.open 1; have cr3_2 : w3.cell? ⟨w.heap.size, 2, none⟩ = some (.int .u64 0) := br3.cell 2 _ rfl; have fr3_2 := br3.open 2; have cr3_3 : w3.cell? ⟨w.heap.size, 3, none⟩ = some (.string ⟨#[]⟩) := br3.cell 3 _ rfl; have fr3_3 := br3.open 3)
    | (go_at_call 27; have hz := kk1; clear hz; refine (took_no hb2 _ hP1 rfl).mono ?_; rintro e w2 ⟨rfl, hk2, hP2⟩; have kk2 : w.grownBy w2 (some g) := kk1.trans hk2; have hs2 : w.heap.size ≤ w2.heap.size := kk2.size; have br2 : Bx w2 (w.heap.size) 46 #[.int .i64 0, .int .i64 0, .int .u64 0, .string ⟨#[]⟩] := Bx.kp br1 hk2 (by omega); have lr2 := br2.lt)
    | (go_at_call 27; refine (took_no hb1 _ (hP.alloc _) rfl).mono ?_; rintro e w1 ⟨rfl, hk1, hP1⟩; have kk1 : w.grownBy w1 (some g) := (kp_alloc (World.grownBy.refl w (some g)) _).trans hk1; have hs1 : w.heap.size ≤ w1.heap.size := kk1.size; have br1 : Bx w1 (w.heap.size) 46 #[.int .i64 0, .int .i64 0, .int .u64 0, .string ⟨#[]⟩] := Bx.kp (Bx.newB (by simp) : Bx _ (w.heap.size) 46 #[.int .i64 0, .int .i64 0, .int .u64 0, .string ⟨#[]⟩]) hk1 (by omega); have lr1 := br1.lt))
  refine bodyPost_ret (v := .agg #[.int .i64 1, .int .i64 0, .int .u64 0, .string ⟨#[]⟩]) (by simp [results, Tryz.results58, go_sem, cr3_0, cr3_1, cr3_2, cr3_3]) rfl ?_
  rw [HO.out]
  exact ⟨(kp_set (kp_set (kp_set (kp_set kk3 (by omega) 0 (.int .i64 1)) (by omega) 1 (.int .i64 0)) (by omega) 2 (.int .u64 0)) (by omega) 3 (.string ⟨#[]⟩)), (i + 1), (Nat.le_succ_of_le (Nat.le_refl i)), ((((hP3.set br3 (by decide) (by omega) 0 (.int .i64 1)).set (br3.set 0 (.int .i64 1)) (by decide) (by omega) 1 (.int .i64 0)).set ((br3.set 0 (.int .i64 1)).set 1 (.int .i64 0)) (by decide) (by omega) 2 (.int .u64 0)).set (((br3.set 0 (.int .i64 1)).set 1 (.int .i64 0)).set 2 (.int .u64 0)) (by decide) (by omega) 3 (.string ⟨#[]⟩)), hr3, _, rfl, rfl⟩
set_option maxHeartbeats 400000 in
theorem sqreadValue_w3 {g : Nat} {v : Value} {l : List Tok} (hE : EndK l) {i : Nat}  {q4 : List TkC} (hb1 : isT ⟨#[110, 117, 108, 108]⟩ (rem l i) = false) (hb2 : isT ⟨#[116, 114, 117, 101]⟩ (rem l i) = false) (hb3 : isT ⟨#[102, 97, 108, 115, 101]⟩ (rem l i) = false) (e4 : kindR 3 (rem l i) = (none, q4)) (w : World) (hP : PAt g v l i w) :
    Calls Tryz.prog 58 #[.pointer (some ⟨g, 0, none⟩)] w (Tells g v l i w VV (valueR (rem l i))) := by
  have hg0 := hP.g_lt
  have HO : Hid (valueR (rem l i) = (none, q4)) := by
    unfold Hid
    simp only [valueR, bnd, opt, ret, hb1, Bool.false_eq_true, if_false, hb2, hb3, e4]
  go_enter Tryz.func58, Tryz.ntmps58
  go_wp2_with (first
    | (go_at_call 101; have hz := kk3; clear hz; refine (takeKind_any hE 3 (by decide) _ hP3).mono ?_; intro e w4 hT4; obtain ⟨j4, rfl, hk4, hj4, hP4, hr4⟩ := tells_no hT4 rfl e4)
    | (go_at_call 27; have hz := kk2; clear hz; refine (took_no hb3 _ hP2 rfl).mono ?_; rintro e w3 ⟨rfl, hk3, hP3⟩; have kk3 : w.grownBy w3 (some g) := kk2.trans hk3; have hs3 : w.heap.size ≤ w3.heap.size := kk3.size; have br3 : Bx w3 (w.heap.size) 46 #[.int .i64 0, .int .i64 0, .int .u64 0, .string ⟨#[]⟩] := Bx.kp br2 hk3 (by omega); have lr3 := br3.lt)
    | (go_at_call 27; have hz := kk1; clear hz; refine (took_no hb2 _ hP1 rfl).mono ?_; rintro e w2 ⟨rfl, hk2, hP2⟩; have kk2 : w.grownBy w2 (some g) := kk1.trans hk2; have hs2 : w.heap.size ≤ w2.heap.size := kk2.size; have br2 : Bx w2 (w.heap.size) 46 #[.int .i64 0, .int .i64 0, .int .u64 0, .string ⟨#[]⟩] := Bx.kp br1 hk2 (by omega); have lr2 := br2.lt)
    | (go_at_call 27; refine (took_no hb1 _ (hP.alloc _) rfl).mono ?_; rintro e w1 ⟨rfl, hk1, hP1⟩; have kk1 : w.grownBy w1 (some g) := (kp_alloc (World.grownBy.refl w (some g)) _).trans hk1; have hs1 : w.heap.size ≤ w1.heap.size := kk1.size; have br1 : Bx w1 (w.heap.size) 46 #[.int .i64 0, .int .i64 0, .int .u64 0, .string ⟨#[]⟩] := Bx.kp (Bx.newB (by simp) : Bx _ (w.heap.size) 46 #[.int .i64 0, .int .i64 0, .int .u64 0, .string ⟨#[]⟩]) hk1 (by omega); have lr1 := br1.lt))
  refine ⟨rfl, ?_⟩
  rw [HO.out]
  exact ⟨kk3.trans hk4, j4, Nat.le_trans (Nat.le_refl i) hj4, hP4, hr4, rfl⟩
set_option maxHeartbeats 400000 in
theorem sqreadValue_w4 {g : Nat} {v : Value} {l : List Tok} (hE : EndK l) {i : Nat}  {xk : Int} {xt : ByteArray} {xa : Int} {xb : Int} {xc : Nat} {xd : ByteArray} {q4 : List TkC} (hb1 : isT ⟨#[110, 117, 108, 108]⟩ (rem l i) = false) (hb2 : isT ⟨#[116, 114, 117, 101]⟩ (rem l i) = false) (hb3 : isT ⟨#[102, 97, 108, 115, 101]⟩ (rem l i) = false) (e4 : kindR 3 (rem l i) = (some (xk, xt, ⟨xa, xb, xc, xd⟩), q4)) (w : World) (hP : PAt g v l i w) :
    Calls Tryz.prog 58 #[.pointer (some ⟨g, 0, none⟩)] w (Tells g v l i w VV (valueR (rem l i))) := by
  have hg0 := hP.g_lt
  have HO : Hid (valueR (rem l i) = (some ⟨xa, xb, xc, xd⟩, q4)) := by
    unfold Hid
    simp only [valueR, bnd, opt, ret, hb1, Bool.false_eq_true, if_false, hb2, hb3, e4]
  go_enter Tryz.func58, Tryz.ntmps58
  go_wp2_with (first
    | (go_at_call 101; have hz := kk3; clear hz; refine (takeKind_any hE 3 (by decide) _ hP3).mono ?_; intro e w4 hT4; obtain ⟨u4, j4, rfl, hk4, hj4, hP4, hr4, hV4⟩ := tells_yes hT4 rfl e4; obtain ⟨p4, rfl⟩ := hV4; have hf4 := tok_f1 xk xt ⟨xa, xb, xc, xd⟩ p4; have hg4 := tok_f2v xk xt xa xb xc xd p4; have kk4 : w.grownBy w4 (some g) := kk3.trans hk4; have hs4 : w.heap.size ≤ w4.heap.size := kk4.size; have br4 : Bx w4 (w.heap.size) 46 #[.int .i64 0, .int .i64 0, .int .u64 0, .string ⟨#[]⟩] := Bx.kp br3 hk4 (by omega); have lr4 := br4.lt; have cr4_0 : w4.cell? ⟨w.heap.size, 0, none⟩ = some (.int .i64 0) := br4.cell 0 _ rfl; have fr4_0 := br4.open 0; have cr4_1 : w4.cell? ⟨w.heap.size, 1, none⟩ = some (.int .i64 0) := br4.cell 1 _ rfl; have fr4_1 := br4.open 1; have cr4_2 : w4.cell? ⟨w.heap.size, 2, none⟩ = some (.int .u64 0) := br4.cell 2 _ rfl; have fr4_2 := br4.open 2; have cr4_3 : w4.cell? ⟨w.heap.size, 3, none⟩ = some (.string ⟨#[]⟩) := br4.cell 3 _ rfl; have fr4_3 := br4.open 3)
    | (go_at_call 27; have hz := kk2; clear hz; refine (took_no hb3 _ hP2 rfl).mono ?_; rintro e w3 ⟨rfl, hk3, hP3⟩; have kk3 : w.grownBy w3 (some g) := kk2.trans hk3; have hs3 : w.heap.size ≤ w3.heap.size := kk3.size; have br3 : Bx w3 (w.heap.size) 46 #[.int .i64 0, .int .i64 0, .int .u64 0, .string ⟨#[]⟩] := Bx.kp br2 hk3 (by omega); have lr3 := br3.lt)
    | (go_at_call 27; have hz := kk1; clear hz; refine (took_no hb2 _ hP1 rfl).mono ?_; rintro e w2 ⟨rfl, hk2, hP2⟩; have kk2 : w.grownBy w2 (some g) := kk1.trans hk2; have hs2 : w.heap.size ≤ w2.heap.size := kk2.size; have br2 : Bx w2 (w.heap.size) 46 #[.int .i64 0, .int .i64 0, .int .u64 0, .string ⟨#[]⟩] := Bx.kp br1 hk2 (by omega); have lr2 := br2.lt)
    | (go_at_call 27; refine (took_no hb1 _ (hP.alloc _) rfl).mono ?_; rintro e w1 ⟨rfl, hk1, hP1⟩; have kk1 : w.grownBy w1 (some g) := (kp_alloc (World.grownBy.refl w (some g)) _).trans hk1; have hs1 : w.heap.size ≤ w1.heap.size := kk1.size; have br1 : Bx w1 (w.heap.size) 46 #[.int .i64 0, .int .i64 0, .int .u64 0, .string ⟨#[]⟩] := Bx.kp (Bx.newB (by simp) : Bx _ (w.heap.size) 46 #[.int .i64 0, .int .i64 0, .int .u64 0, .string ⟨#[]⟩]) hk1 (by omega); have lr1 := br1.lt))
  refine bodyPost_ret (v := .agg #[.int .i64 xa, .int .i64 xb, .int .u64 (xc : Int), .string xd]) (by simp [results, Tryz.results58, go_sem, cr4_0, cr4_1, cr4_2, cr4_3]) rfl ?_
  rw [HO.out]
  exact ⟨(kp_set (kp_set (kp_set (kp_set kk4 (by omega) 0 (.int .i64 xa)) (by omega) 1 (.int .i64 xb)) (by omega) 2 (.int .u64 (xc : Int))) (by omega) 3 (.string xd)), j4, (Nat.le_trans (Nat.le_refl i) hj4), ((((hP4.set br4 (by decide) (by omega) 0 (.int .i64 xa)).set (br4.set 0 (.int .i64 xa)) (by decide) (by omega) 1 (.int .i64 xb)).set ((br4.set 0 (.int .i64 xa)).set 1 (.int .i64 xb)) (by decide) (by omega) 2 (.int .u64 (xc : Int))).set (((br4.set 0 (.int .i64 xa)).set 1 (.int .i64 xb)).set 2 (.int .u64 (xc : Int))) (by decide) (by omega) 3 (.string xd)), hr4, _, rfl, rfl⟩
theorem sqreadValue_any {g : Nat} {v : Value} {l : List Tok} (hE : EndK l) {i : Nat}  (w : World) (hP : PAt g v l i w) :
    Calls Tryz.prog 58 #[.pointer (some ⟨g, 0, none⟩)] w (Tells g v l i w VV (valueR (rem l i))) := by
  rcases Bool.eq_false_or_eq_true (isT ⟨#[110, 117, 108, 108]⟩ (rem l i)) with hb1 | hb1
  · exact sqreadValue_w0 hE hb1 w hP
  · rcases Bool.eq_false_or_eq_true (isT ⟨#[116, 114, 117, 101]⟩ (rem l i)) with hb2 | hb2
    · exact sqreadValue_w1 hE hb1 hb2 w hP
    · rcases Bool.eq_false_or_eq_true (isT ⟨#[102, 97, 108, 115, 101]⟩ (rem l i)) with hb3 | hb3
      · exact sqreadValue_w2 hE hb1 hb2 hb3 w hP
      · rcases e4 : kindR 3 (rem l i) with ⟨o4, q4⟩
        cases o4 with
        | none =>
          exact sqreadValue_w3 hE hb1 hb2 hb3 e4 w hP
        | some a4 =>
          obtain ⟨xk, xt, ⟨xa, xb, xc, xd⟩⟩ := a4
          exact sqreadValue_w4 hE hb1 hb2 hb3 e4 w hP
set_option maxHeartbeats 400000 in
theorem sqreadSign_w0 {g : Nat} {v : Value} {l : List Tok} (hE : EndK l) {i : Nat}  (hb1 : isT ⟨#[61]⟩ (rem l i) = true) (w : World) (hP : PAt g v l i w) :
    Calls Tryz.prog 129 #[.pointer (some ⟨g, 0, none⟩)] w (Tells g v l i w VI (signR (rem l i))) := by
  have hg0 := hP.g_lt
  have HO : Hid (signR (rem l i) = (some 1, (rem l i).tail)) := by
    unfold Hid
    simp only [signR, bnd, opt, ret, hb1, if_true]
  go_enter Tryz.func129, Tryz.ntmps129
  go_wp2_with (first
    | (go_at_call 27; refine (took_yes hE (by decide) hb1 _ hP rfl).mono ?_; rintro e w1 ⟨rfl, hk1, hP1, hr1⟩; have kk1 : w.grownBy w1 (some g) := (World.grownBy.refl w (some g)).trans hk1; have hs1 : w.heap.size ≤ w1.heap.size := kk1.size))
  go_ret
  rw [HO.out]
  exact ⟨kk1, (i + 1), (Nat.le_succ_of_le (Nat.le_refl i)), hP1, hr1, _, rfl, rfl⟩
set_option maxHeartbeats 400000 in
theorem sqreadSign_w1 {g : Nat} {v : Value} {l : List Tok} (hE : EndK l) {i : Nat}  (hb1 : isT ⟨#[61]⟩ (rem l i) = false) (hb2 : isT ⟨#[60]⟩ (rem l i) = true) (w : World) (hP : PAt g v l i w) :
    Calls Tryz.prog 129 #[.pointer (some ⟨g, 0, none⟩)] w (Tells g v l i w VI (signR (rem l i))) := by
  have hg0 := hP.g_lt
  have HO : Hid (signR (rem l i) = (some 2, (rem l i).tail)) := by
    unfold Hid
    simp only [signR, bnd, opt, ret, hb1, Bool.false_eq_true, if_false, hb2, if_true]
  go_enter Tryz.func129, Tryz.ntmps129
  go_wp2_with (first
    | (go_at_call 27; have hz := kk1; clear hz; refine (took_yes hE (by decide) hb2 _ hP1 rfl).mono ?_; rintro e w2 ⟨rfl, hk2, hP2, hr2⟩; have kk2 : w.grownBy w2 (some g) := kk1.trans hk2; have hs2 : w.heap.size ≤ w2.heap.size := kk2.size)
    | (go_at_call 27; refine (took_no hb1 _ hP rfl).mono ?_; rintro e w1 ⟨rfl, hk1, hP1⟩; have kk1 : w.grownBy w1 (some g) := (World.grownBy.refl w (some g)).trans hk1; have hs1 : w.heap.size ≤ w1.heap.size := kk1.size))
  go_ret
  rw [HO.out]
  exact ⟨kk2, (i + 1), (Nat.le_succ_of_le (Nat.le_refl i)), hP2, hr2, _, rfl, rfl⟩
set_option maxHeartbeats 400000 in
theorem sqreadSign_w2 {g : Nat} {v : Value} {l : List Tok} (hE : EndK l) {i : Nat}  {q3 : List TkC} (hb1 : isT ⟨#[61]⟩ (rem l i) = false) (hb2 : isT ⟨#[60]⟩ (rem l i) = false) (e3 : takeR ⟨#[62]⟩ (rem l i) = (none, q3)) (w : World) (hP : PAt g v l i w) :
    Calls Tryz.prog 129 #[.pointer (some ⟨g, 0, none⟩)] w (Tells g v l i w VI (signR (rem l i))) := by
  have hg0 := hP.g_lt
  have HO : Hid (signR (rem l i) = (none, q3)) := by
    unfold Hid
    simp only [signR, bnd, opt, ret, hb1, Bool.false_eq_true, if_false, hb2, e3]
  go_enter Tryz.func129, Tryz.ntmps129
  go_wp2_with (first
    | (go_at_call 34; have hz := kk2; clear hz; refine (take_1 hE (by decide) _ (hP2.alloc _) (Bx.newB (by simp)) (by omega)).mono ?_; intro e w3 hT3; obtain ⟨j3, rfl, hk3, hj3, hP3, hr3⟩ := tells_no hT3 rfl e3)
    | (go_at_call 27; have hz := kk1; clear hz; refine (took_no hb2 _ hP1 rfl).mono ?_; rintro e w2 ⟨rfl, hk2, hP2⟩; have kk2 : w.grownBy w2 (some g) := kk1.trans hk2; have hs2 : w.heap.size ≤ w2.heap.size := kk2.size)
    | (go_at_call 27; refine (took_no hb1 _ hP rfl).mono ?_; rintro e w1 ⟨rfl, hk1, hP1⟩; have kk1 : w.grownBy w1 (some g) := (World.grownBy.refl w (some g)).trans hk1; have hs1 : w.heap.size ≤ w1.heap.size := kk1.size))
  refine ⟨rfl, ?_⟩
  rw [HO.out]
  exact ⟨(kp_alloc kk2 _).trans hk3, j3, Nat.le_trans (Nat.le_refl i) hj3, hP3, hr3, rfl⟩
set_option maxHeartbeats 400000 in
theorem sqreadSign_w3 {g : Nat} {v : Value} {l : List Tok} (hE : EndK l) {i : Nat}  {q3 : List TkC} (hb1 : isT ⟨#[61]⟩ (rem l i) = false) (hb2 : isT ⟨#[60]⟩ (rem l i) = false) (e3 : takeR ⟨#[62]⟩ (rem l i) = (some (), q3)) (w : World) (hP : PAt g v l i w) :
    Calls Tryz.prog 129 #[.pointer (some ⟨g, 0, none⟩)] w (Tells g v l i w VI (signR (rem l i))) := by
  have hg0 := hP.g_lt
  have HO : Hid (signR (rem l i) = (some 3, q3)) := by
    unfold Hid
    simp only [signR, bnd, opt, ret, hb1, Bool.false_eq_true, if_false, hb2, e3]
  go_enter Tryz.func129, Tryz.ntmps129
  go_wp2_with (first
    | (go_at_call 34; have hz := kk2; clear hz; refine (take_1 hE (by decide) _ (hP2.alloc _) (Bx.newB (by simp)) (by omega)).mono ?_; intro e w3 hT3; obtain ⟨u3, j3, rfl, hk3, hj3, hP3, hr3, hV3⟩ := tells_yes hT3 rfl e3; obtain rfl : u3 = .tuple #[] := hV3; have kk3 : w.grownBy w3 (some g) := (kp_alloc kk2 _).trans hk3; have hs3 : w.heap.size ≤ w3.heap.size := kk3.size)
    | (go_at_call 27; have hz := kk1; clear hz; refine (took_no hb2 _ hP1 rfl).mono ?_; rintro e w2 ⟨rfl, hk2, hP2⟩; have kk2 : w.grownBy w2 (some g) := kk1.trans hk2; have hs2 : w.heap.size ≤ w2.heap.size := kk2.size)
    | (go_at_call 27; refine (took_no hb1 _ hP rfl).mono ?_; rintro e w1 ⟨rfl, hk1, hP1⟩; have kk1 : w.grownBy w1 (some g) := (World.grownBy.refl w (some g)).trans hk1; have hs1 : w.heap.size ≤ w1.heap.size := kk1.size))
  go_ret
  rw [HO.out]
  exact ⟨kk3, j3, (Nat.le_trans (Nat.le_refl i) hj3), hP3, hr3, _, rfl, rfl⟩
theorem sqreadSign_any {g : Nat} {v : Value} {l : List Tok} (hE : EndK l) {i : Nat}  (w : World) (hP : PAt g v l i w) :
    Calls Tryz.prog 129 #[.pointer (some ⟨g, 0, none⟩)] w (Tells g v l i w VI (signR (rem l i))) := by
  rcases Bool.eq_false_or_eq_true (isT ⟨#[61]⟩ (rem l i)) with hb1 | hb1
  · exact sqreadSign_w0 hE hb1 w hP
  · rcases Bool.eq_false_or_eq_true (isT ⟨#[60]⟩ (rem l i)) with hb2 | hb2
    · exact sqreadSign_w1 hE hb1 hb2 w hP
    · rcases e3 : takeR ⟨#[62]⟩ (rem l i) with ⟨o3, q3⟩
      cases o3 with
      | none =>
        exact sqreadSign_w2 hE hb1 hb2 e3 w hP
      | some a3 =>
        cases a3
        exact sqreadSign_w3 hE hb1 hb2 e3 w hP
set_option maxHeartbeats 400000 in
theorem sqreadType_w0 {g : Nat} {v : Value} {l : List Tok} (hE : EndK l) {i : Nat}  (hb1 : isT ⟨#[98, 111, 111, 108]⟩ (rem l i) = true) (w : World) (hP : PAt g v l i w) :
    Calls Tryz.prog 107 #[.pointer (some ⟨g, 0, none⟩)] w (Tells g v l i w VI (typeR (rem l i))) := by
  have hg0 := hP.g_lt
  have HO : Hid (typeR (rem l i) = (some 1, (rem l i).tail)) := by
    unfold Hid
    simp only [typeR, bnd, opt, ret, hb1, if_true]
  go_enter Tryz.func107, Tryz.ntmps107
  go_wp2_with (first
    | (go_at_call 27; refine (took_yes hE (by decide) hb1 _ hP rfl).mono ?_; rintro e w1 ⟨rfl, hk1, hP1, hr1⟩; have kk1 : w.grownBy w1 (some g) := (World.grownBy.refl w (some g)).trans hk1; have hs1 : w.heap.size ≤ w1.heap.size := kk1.size))
  go_ret
  rw [HO.out]
  exact ⟨kk1, (i + 1), (Nat.le_succ_of_le (Nat.le_refl i)), hP1, hr1, _, rfl, rfl⟩
set_option maxHeartbeats 400000 in
theorem sqreadType_w1 {g : Nat} {v : Value} {l : List Tok} (hE : EndK l) {i : Nat}  (hb1 : isT ⟨#[98, 111, 111, 108]⟩ (rem l i) = false) (hb2 : isT ⟨#[105, 110, 116]⟩ (rem l i) = true) (w : World) (hP : PAt g v l i w) :
    Calls Tryz.prog 107 #[.pointer (some ⟨g, 0, none⟩)] w (Tells g v l i w VI (typeR (rem l i))) := by
  have hg0 := hP.g_lt
  have HO : Hid (typeR (rem l i) = (some 2, (rem l i).tail)) := by
    unfold Hid
    simp only [typeR, bnd, opt, ret, hb1, Bool.false_eq_true, if_false, hb2, if_true]
  go_enter Tryz.func107, Tryz.ntmps107
  go_wp2_with (first
    | (go_at_call 27; have hz := kk1; clear hz; refine (took_yes hE (by decide) hb2 _ hP1 rfl).mono ?_; rintro e w2 ⟨rfl, hk2, hP2, hr2⟩; have kk2 : w.grownBy w2 (some g) := kk1.trans hk2; have hs2 : w.heap.size ≤ w2.heap.size := kk2.size)
    | (go_at_call 27; refine (took_no hb1 _ hP rfl).mono ?_; rintro e w1 ⟨rfl, hk1, hP1⟩; have kk1 : w.grownBy w1 (some g) := (World.grownBy.refl w (some g)).trans hk1; have hs1 : w.heap.size ≤ w1.heap.size := kk1.size))
  go_ret
  rw [HO.out]
  exact ⟨kk2, (i + 1), (Nat.le_succ_of_le (Nat.le_refl i)), hP2, hr2, _, rfl, rfl⟩
set_option maxHeartbeats 400000 in
theorem sqreadType_w2 {g : Nat} {v : Value} {l : List Tok} (hE : EndK l) {i : Nat}  (hb1 : isT ⟨#[98, 111, 111, 108]⟩ (rem l i) = false) (hb2 : isT ⟨#[105, 110, 116]⟩ (rem l i) = false) (hb3 : isT ⟨#[102, 108, 111, 97, 116]⟩ (rem l i) = true) (w : World) (hP : PAt g v l i w) :
    Calls Tryz.prog 107 #[.pointer (some ⟨g, 0, none⟩)] w (Tells g v l i w VI (typeR (rem l i))) := by
  have hg0 := hP.g_lt
  have HO : Hid (typeR (rem l i) = (some 3, (rem l i).tail)) := by
    unfold Hid
    simp only [typeR, bnd, opt, ret, hb1, Bool.false_eq_true, if_false, hb2, hb3, if_true]
  go_enter Tryz.func107, Tryz.ntmps107
  go_wp2_with (first
    | (go_at_call 27; have hz := kk2; clear hz; refine (took_yes hE (by decide) hb3 _ hP2 rfl).mono ?_; rintro e w3 ⟨rfl, hk3, hP3, hr3⟩; have kk3 : w.grownBy w3 (some g) := kk2.trans hk3; have hs3 : w.heap.size ≤ w3.heap.size := kk3.size)
    | (go_at_call 27; have hz := kk1; clear hz; refine (took_no hb2 _ hP1 rfl).mono ?_; rintro e w2 ⟨rfl, hk2, hP2⟩; have kk2 : w.grownBy w2 (some g) := kk1.trans hk2; have hs2 : w.heap.size ≤ w2.heap.size := kk2.size)
    | (go_at_call 27; refine (took_no hb1 _ hP rfl).mono ?_; rintro e w1 ⟨rfl, hk1, hP1⟩; have kk1 : w.grownBy w1 (some g) := (World.grownBy.refl w (some g)).trans hk1; have hs1 : w.heap.size ≤ w1.heap.size := kk1.size))
  go_ret
  rw [HO.out]
  exact ⟨kk3, (i + 1), (Nat.le_succ_of_le (Nat.le_refl i)), hP3, hr3, _, rfl, rfl⟩
set_option maxHeartbeats 400000 in
theorem sqreadType_w3 {g : Nat} {v : Value} {l : List Tok} (hE : EndK l) {i : Nat}  (hb1 : isT ⟨#[98, 111, 111, 108]⟩ (rem l i) = false) (hb2 : isT ⟨#[105, 110, 116]⟩ (rem l i) = false) (hb3 : isT ⟨#[102, 108, 111, 97, 116]⟩ (rem l i) = false) (hb4 : isT ⟨#[98, 121, 116, 101, 115]⟩ (rem l i) = true) (w : World) (hP : PAt g v l i w) :
    Calls Tryz.prog 107 #[.pointer (some ⟨g, 0, none⟩)] w (Tells g v l i w VI (typeR (rem l i))) := by
  have hg0 := hP.g_lt
  have HO : Hid (typeR (rem l i) = (some 4, (rem l i).tail)) := by
    unfold Hid
    simp only [typeR, bnd, opt, ret, hb1, Bool.false_eq_true, if_false, hb2, hb3, hb4, if_true]
  go_enter Tryz.func107, Tryz.ntmps107
  go_wp2_with (first
    | (go_at_call 27; have hz := kk3; clear hz; refine (took_yes hE (by decide) hb4 _ hP3 rfl).mono ?_; rintro e w4 ⟨rfl, hk4, hP4, hr4⟩; have kk4 : w.grownBy w4 (some g) := kk3.trans hk4; have hs4 : w.heap.size ≤ w4.heap.size := kk4.size)
    | (go_at_call 27; have hz := kk2; clear hz; refine (took_no hb3 _ hP2 rfl).mono ?_; rintro e w3 ⟨rfl, hk3, hP3⟩; have kk3 : w.grownBy w3 (some g) := kk2.trans hk3; have hs3 : w.heap.size ≤ w3.heap.size := kk3.size)
    | (go_at_call 27; have hz := kk1; clear hz; refine (took_no hb2 _ hP1 rfl).mono ?_; rintro e w2 ⟨rfl, hk2, hP2⟩; have kk2 : w.grownBy w2 (some g) := kk1.trans hk2; have hs2 : w.heap.size ≤ w2.heap.size := kk2.size)
    | (go_at_call 27; refine (took_no hb1 _ hP rfl).mono ?_; rintro e w1 ⟨rfl, hk1, hP1⟩; have kk1 : w.grownBy w1 (some g) := (World.grownBy.refl w (some g)).trans hk1; have hs1 : w.heap.size ≤ w1.heap.size := kk1.size))
  go_ret
  rw [HO.out]
  exact ⟨kk4, (i + 1), (Nat.le_succ_of_le (Nat.le_refl i)), hP4, hr4, _, rfl, rfl⟩
set_option maxHeartbeats 400000 in
theorem sqreadType_w4 {g : Nat} {v : Value} {l : List Tok} (hE : EndK l) {i : Nat}  {q5 : List TkC} (hb1 : isT ⟨#[98, 111, 111, 108]⟩ (rem l i) = false) (hb2 : isT ⟨#[105, 110, 116]⟩ (rem l i) = false) (hb3 : isT ⟨#[102, 108, 111, 97, 116]⟩ (rem l i) = false) (hb4 : isT ⟨#[98, 121, 116, 101, 115]⟩ (rem l i) = false) (e5 : takeR ⟨#[116, 101, 120, 116]⟩ (rem l i) = (none, q5)) (w : World) (hP : PAt g v l i w) :
    Calls Tryz.prog 107 #[.pointer (some ⟨g, 0, none⟩)] w (Tells g v l i w VI (typeR (rem l i))) := by
  have hg0 := hP.g_lt
  have HO : Hid (typeR (rem l i) = (none, q5)) := by
    unfold Hid
    simp only [typeR, bnd, opt, ret, hb1, Bool.false_eq_true, if_false, hb2, hb3, hb4, e5]
  go_enter Tryz.func107, Tryz.ntmps107
  go_wp2_with (first
    | (go_at_call 34; have hz := kk4; clear hz; refine (take_1 hE (by decide) _ (hP4.alloc _) (Bx.newB (by simp)) (by omega)).mono ?_; intro e w5 hT5; obtain ⟨j5, rfl, hk5, hj5, hP5, hr5⟩ := tells_no hT5 rfl e5)
    | (go_at_call 27; have hz := kk3; clear hz; refine (took_no hb4 _ hP3 rfl).mono ?_; rintro e w4 ⟨rfl, hk4, hP4⟩; have kk4 : w.grownBy w4 (some g) := kk3.trans hk4; have hs4 : w.heap.size ≤ w4.heap.size := kk4.size)
    | (go_at_call 27; have hz := kk2; clear hz; refine (took_no hb3 _ hP2 rfl).mono ?_; rintro e w3 ⟨rfl, hk3, hP3⟩; have kk3 : w.grownBy w3 (some g) := kk2.trans hk3; have hs3 : w.heap.size ≤ w3.heap.size := kk3.size)
    | (go_at_call 27; have hz := kk1; clear hz; refine (took_no hb2 _ hP1 rfl).mono ?_; rintro e w2 ⟨rfl, hk2, hP2⟩; have kk2 : w.grownBy w2 (some g) := kk1.trans hk2; have hs2 : w.heap.size ≤ w2.heap.size := kk2.size)
    | (go_at_call 27; refine (took_no hb1 _ hP rfl).mono ?_; rintro e w1 ⟨rfl, hk1, hP1⟩; have kk1 : w.grownBy w1 (some g) := (World.grownBy.refl w (some g)).trans hk1; have hs1 : w.heap.size ≤ w1.heap.size := kk1.size))
  refine ⟨rfl, ?_⟩
  rw [HO.out]
  exact ⟨(kp_alloc kk4 _).trans hk5, j5, Nat.le_trans (Nat.le_refl i) hj5, hP5, hr5, rfl⟩
set_option maxHeartbeats 400000 in
theorem sqreadType_w5 {g : Nat} {v : Value} {l : List Tok} (hE : EndK l) {i : Nat}  {q5 : List TkC} (hb1 : isT ⟨#[98, 111, 111, 108]⟩ (rem l i) = false) (hb2 : isT ⟨#[105, 110, 116]⟩ (rem l i) = false) (hb3 : isT ⟨#[102, 108, 111, 97, 116]⟩ (rem l i) = false) (hb4 : isT ⟨#[98, 121, 116, 101, 115]⟩ (rem l i) = false) (e5 : takeR ⟨#[116, 101, 120, 116]⟩ (rem l i) = (some (), q5)) (w : World) (hP : PAt g v l i w) :
    Calls Tryz.prog 107 #[.pointer (some ⟨g, 0, none⟩)] w (Tells g v l i w VI (typeR (rem l i))) := by
  have hg0 := hP.g_lt
  have HO : Hid (typeR (rem l i) = (some 5, q5)) := by
    unfold Hid
    simp only [typeR, bnd, opt, ret, hb1, Bool.false_eq_true, if_false, hb2, hb3, hb4, e5]
  go_enter Tryz.func107, Tryz.ntmps107
  go_wp2_with (first
    | (go_at_call 34; have hz := kk4; clear hz; refine (take_1 hE (by decide) _ (hP4.alloc _) (Bx.newB (by simp)) (by omega)).mono ?_; intro e w5 hT5; obtain ⟨u5, j5, rfl, hk5, hj5, hP5, hr5, hV5⟩ := tells_yes hT5 rfl e5; obtain rfl : u5 = .tuple #[] := hV5; have kk5 : w.grownBy w5 (some g) := (kp_alloc kk4 _).trans hk5; have hs5 : w.heap.size ≤ w5.heap.size := kk5.size)
    | (go_at_call 27; have hz := kk3; clear hz; refine (took_no hb4 _ hP3 rfl).mono ?_; rintro e w4 ⟨rfl, hk4, hP4⟩; have kk4 : w.grownBy w4 (some g) := kk3.trans hk4; have hs4 : w.heap.size ≤ w4.heap.size := kk4.size)
    | (go_at_call 27; have hz := kk2; clear hz; refine (took_no hb3 _ hP2 rfl).mono ?_; rintro e w3 ⟨rfl, hk3, hP3⟩; have kk3 : w.grownBy w3 (some g) := kk2.trans hk3; have hs3 : w.heap.size ≤ w3.heap.size := kk3.size)
    | (go_at_call 27; have hz := kk1; clear hz; refine (took_no hb2 _ hP1 rfl).mono ?_; rintro e w2 ⟨rfl, hk2, hP2⟩; have kk2 : w.grownBy w2 (some g) := kk1.trans hk2; have hs2 : w.heap.size ≤ w2.heap.size := kk2.size)
    | (go_at_call 27; refine (took_no hb1 _ hP rfl).mono ?_; rintro e w1 ⟨rfl, hk1, hP1⟩; have kk1 : w.grownBy w1 (some g) := (World.grownBy.refl w (some g)).trans hk1; have hs1 : w.heap.size ≤ w1.heap.size := kk1.size))
  go_ret
  rw [HO.out]
  exact ⟨kk5, j5, (Nat.le_trans (Nat.le_refl i) hj5), hP5, hr5, _, rfl, rfl⟩
theorem sqreadType_any {g : Nat} {v : Value} {l : List Tok} (hE : EndK l) {i : Nat}  (w : World) (hP : PAt g v l i w) :
    Calls Tryz.prog 107 #[.pointer (some ⟨g, 0, none⟩)] w (Tells g v l i w VI (typeR (rem l i))) := by
  rcases Bool.eq_false_or_eq_true (isT ⟨#[98, 111, 111, 108]⟩ (rem l i)) with hb1 | hb1
  · exact sqreadType_w0 hE hb1 w hP
  · rcases Bool.eq_false_or_eq_true (isT ⟨#[105, 110, 116]⟩ (rem l i)) with hb2 | hb2
    · exact sqreadType_w1 hE hb1 hb2 w hP
    · rcases Bool.eq_false_or_eq_true (isT ⟨#[102, 108, 111, 97, 116]⟩ (rem l i)) with hb3 | hb3
      · exact sqreadType_w2 hE hb1 hb2 hb3 w hP
      · rcases Bool.eq_false_or_eq_true (isT ⟨#[98, 121, 116, 101, 115]⟩ (rem l i)) with hb4 | hb4
        · exact sqreadType_w3 hE hb1 hb2 hb3 hb4 w hP
        · rcases e5 : takeR ⟨#[116, 101, 120, 116]⟩ (rem l i) with ⟨o5, q5⟩
          cases o5 with
          | none =>
            exact sqreadType_w4 hE hb1 hb2 hb3 hb4 e5 w hP
          | some a5 =>
            cases a5
            exact sqreadType_w5 hE hb1 hb2 hb3 hb4 e5 w hP
set_option maxHeartbeats 1000000 in
theorem sqreadCond_w0 {g : Nat} {v : Value} {l : List Tok} (hE : EndK l) {i : Nat}  {q1 : List TkC} (e1 : nameR (rem l i) = (none, q1)) (w : World) (hP : PAt g v l i w) :
    Calls Tryz.prog 104 #[.pointer (some ⟨g, 0, none⟩)] w (Tells g v l i w VC (condR (rem l i))) := by
  have hg0 := hP.g_lt
  have HO : Hid (condR (rem l i) = (none, q1)) := by
    unfold Hid
    simp only [condR, bnd, opt, ret, e1]
  go_enter Tryz.func104, Tryz.ntmps104
  go_wp2_with (first
    | (go_at_call 55; refine (sqreadName_any hE _ (hP.alloc _)).mono ?_; intro e w1 hT1; obtain ⟨j1, rfl, hk1, hj1, hP1, hr1⟩ := tells_no hT1 rfl e1))
  refine ⟨rfl, ?_⟩
  rw [HO.out]
  exact ⟨(kp_alloc (World.grownBy.refl w (some g)) _).trans hk1, j1, Nat.le_trans (Nat.le_refl i) hj1, hP1, hr1, rfl⟩
set_option maxHeartbeats 1000000 in
theorem sqreadCond_w1 {g : Nat} {v : Value} {l : List Tok} (hE : EndK l) {i : Nat}  {c : ByteArray} {q1 : List TkC} {q4 : List TkC} (e1 : nameR (rem l i) = (some c, q1)) (hb2 : isT ⟨#[105, 115]⟩ q1 = true) (hb3 : isT ⟨#[110, 111, 116]⟩ q1.tail = true) (e4 : takeR ⟨#[110, 117, 108, 108]⟩ q1.tail.tail = (none, q4)) (w : World) (hP : PAt g v l i w) :
    Calls Tryz.prog 104 #[.pointer (some ⟨g, 0, none⟩)] w (Tells g v l i w VC (condR (rem l i))) := by
  have hg0 := hP.g_lt
  have HO : Hid (condR (rem l i) = (none, q4)) := by
    unfold Hid
    simp only [condR, bnd, opt, ret, e1, hb2, if_true, hb3, e4]
  go_enter Tryz.func104, Tryz.ntmps104
  go_wp2_with (first
    | (go_at_call 34; have hz := kk3; clear hz; refine (take_1 hE (by decide) _ ((hP3.set bx3 (by decide) (by omega) 1 (.int .i64 5)).alloc _) (Bx.newB (by simp)) (by omega)).mono ?_; intro e w4 hT4; obtain ⟨j4, rfl, hk4, hj4, hP4, hr4⟩ := tells_no hT4 hr3 e4)
    | (go_at_call 27; have hz := kk2; clear hz; refine (took_yes hE (by decide) hb3 _ (hP2.set bx2 (by decide) (by omega) 1 (.int .i64 4)) hr2).mono ?_; rintro e w3 ⟨rfl, hk3, hP3, hr3⟩; have kk3 : w.grownBy w3 (some g) := (kp_set kk2 (by omega) 1 (.int .i64 4)).trans hk3; have hs3 : w.heap.size ≤ w3.heap.size := kk3.size; have br3 : Bx w3 (w.heap.size) 67 #[.string ⟨#[]⟩, .int .i64 0, .int .i64 0, .int .i64 0, .int .u64 0, .string ⟨#[]⟩] := Bx.kp (br2.other (by omega) 1 (.int .i64 4)) hk3 (by omega); have lr3 := br3.lt; have bx3 : Bx w3 (w1.heap.size) 67 #[.string c, .int .i64 4, .int .i64 0, .int .i64 0, .int .u64 0, .string ⟨#[]⟩] := Bx.kp (bx2.set 1 (.int .i64 4)) hk3 (by omega); have lx3 := bx3.lt; have nrx3 : ¬ w.heap.size = w1.heap.size := (by omega); have nxr3 : ¬ w1.heap.size = w.heap.size := (by omega); have cx3_1 : w3.cell? ⟨w1.heap.size, 1, none⟩ = some (.int .i64 4) := bx3.cell 1 _ rfl; have fx3_1 := bx3.open 1)
    | (go_at_call 27; have hz := kk1; clear hz; refine (took_yes hE (by decide) hb2 _ (hP1.alloc _) hr1).mono ?_; rintro e w2 ⟨rfl, hk2, hP2, hr2⟩; have kk2 : w.grownBy w2 (some g) := (kp_alloc kk1 _).trans hk2; have hs2 : w.heap.size ≤ w2.heap.size := kk2.size; have br2 : Bx w2 (w.heap.size) 67 #[.string ⟨#[]⟩, .int .i64 0, .int .i64 0, .int .i64 0, .int .u64 0, .string ⟨#[]⟩] := Bx.kp (br1.alloc _) hk2 (by omega); have lr2 := br2.lt; have bx2 : Bx w2 (w1.heap.size) 67 #[.string c, .int .i64 0, .int .i64 0, .int .i64 0, .int .u64 0, .string ⟨#[]⟩] := Bx.kp (Bx.newB (by simp) : Bx _ (w1.heap.size) 67 #[.string c, .int .i64 0, .int .i64 0, .int .i64 0, .int .u64 0, .string ⟨#[]⟩]) hk2 (by omega); have lx2 := bx2.lt; have nrx2 : ¬ w.heap.size = w1.heap.size := (by omega); have nxr2 : ¬ w1.heap.size = w.heap.size := (by omega); have cx2_1 : w2.cell? ⟨w1.heap.size, 1, none⟩ = some (.int .i64 0) := bx2.cell 1 _ rfl; have fx2_1 := bx2.open 1)
    | (go_at_call 55; refine (sqreadName_any hE _ (hP.alloc _)).mono ?_; intro e w1 hT1; obtain ⟨u1, j1, rfl, hk1, hj1, hP1, hr1, hV1⟩ := tells_yes hT1 rfl e1; obtain rfl : u1 = .string c := hV1; have kk1 : w.grownBy w1 (some g) := (kp_alloc (World.grownBy.refl w (some g)) _).trans hk1; have hs1 : w.heap.size ≤ w1.heap.size := kk1.size; have br1 : Bx w1 (w.heap.size) 67 #[.string ⟨#[]⟩, .int .i64 0, .int .i64 0, .int .i64 0, .int .u64 0, .string ⟨#[]⟩] := Bx.kp (Bx.newB (by simp) : Bx _ (w.heap.size) 67 #[.string ⟨#[]⟩, .int .i64 0, .int .i64 0, .int .i64 0, .int .u64 0, .string ⟨#[]⟩]) hk1 (by omega); have lr1 := br1.lt))
  refine ⟨rfl, ?_⟩
  rw [HO.out]
  exact ⟨(kp_alloc (kp_set kk3 (by omega) 1 (.int .i64 5)) _).trans hk4, j4, Nat.le_trans (Nat.le_succ_of_le (Nat.le_succ_of_le (Nat.le_trans (Nat.le_refl i) hj1))) hj4, hP4, hr4, rfl⟩
set_option maxHeartbeats 1000000 in
theorem sqreadCond_w2 {g : Nat} {v : Value} {l : List Tok} (hE : EndK l) {i : Nat}  {c : ByteArray} {q1 : List TkC} {q4 : List TkC} (e1 : nameR (rem l i) = (some c, q1)) (hb2 : isT ⟨#[105, 115]⟩ q1 = true) (hb3 : isT ⟨#[110, 111, 116]⟩ q1.tail = true) (e4 : takeR ⟨#[110, 117, 108, 108]⟩ q1.tail.tail = (some (), q4)) (w : World) (hP : PAt g v l i w) :
    Calls Tryz.prog 104 #[.pointer (some ⟨g, 0, none⟩)] w (Tells g v l i w VC (condR (rem l i))) := by
  have hg0 := hP.g_lt
  have HO : Hid (condR (rem l i) = (some ⟨c, 5, ⟨0, 0, 0, ⟨#[]⟩⟩⟩, q4)) := by
    unfold Hid
    simp only [condR, bnd, opt, ret, e1, hb2, if_true, hb3, e4]
  go_enter Tryz.func104, Tryz.ntmps104
  go_wp2_with (first
    | (go_at_call 34; have hz := kk3; clear hz; refine (take_1 hE (by decide) _ ((hP3.set bx3 (by decide) (by omega) 1 (.int .i64 5)).alloc _) (Bx.newB (by simp)) (by omega)).mono ?_; intro e w4 hT4; obtain ⟨u4, j4, rfl, hk4, hj4, hP4, hr4, hV4⟩ := tells_yes hT4 hr3 e4; obtain rfl : u4 = .tuple #[] := hV4; have kk4 : w.grownBy w4 (some g) := (kp_alloc (kp_set kk3 (by omega) 1 (.int .i64 5)) _).trans hk4; have hs4 : w.heap.size ≤ w4.heap.size := kk4.size; have br4 : Bx w4 (w.heap.size) 67 #[.string ⟨#[]⟩, .int .i64 0, .int .i64 0, .int .i64 0, .int .u64 0, .string ⟨#[]⟩] := Bx.kp ((br3.other (by omega) 1 (.int .i64 5)).alloc _) hk4 (by omega); have lr4 := br4.lt; have bx4 : Bx w4 (w1.heap.size) 67 #[.string c, .int .i64 5, .int .i64 0, .int .i64 0, .int .u64 0, .string ⟨#[]⟩] := Bx.kp ((bx3.set 1 (.int .i64 5)).alloc _) hk4 (by omega); have lx4 := bx4.lt; have nrx4 : ¬ w.heap.size = w1.heap.size := (by omega); have nxr4 : ¬ w1.heap.size = w.heap.size := (by omega); have cx4_0 : w4.cell? ⟨w1.heap.size, 0, none⟩ = some (.string c) := bx4.cell 0 _ rfl; have cx4_1 : w4.cell? ⟨w1.heap.size, 1, none⟩ = some (.int .i64 5) := bx4.cell 1 _ rfl; have cx4_2 : w4.cell? ⟨w1.heap.size, 2, none⟩ = some (.int .i64 0) := bx4.cell 2 _ rfl; have cx4_3 : w4.cell? ⟨w1.heap.size, 3, none⟩ = some (.int .i64 0) := bx4.cell 3 _ rfl; have cx4_4 : w4.cell? ⟨w1.heap.size, 4, none⟩ = some (.int .u64 0) := bx4.cell 4 _ rfl; have cx4_5 : w4.cell? ⟨w1.heap.size, 5, none⟩ = some (.string ⟨#[]⟩) := bx4.cell 5 _ rfl; have cr4_0 : w4.cell? ⟨w.heap.size, 0, none⟩ = some (.string ⟨#[]⟩) := br4.cell 0 _ rfl; have fr4_0 := br4.open 0; have cr4_1 : w4.cell? ⟨w.heap.size, 1, none⟩ = some (.int .i64 0) := br4.cell 1 _ rfl; have fr4_1 := br4.open 1; have cr4_2 : w4.cell? ⟨w.heap.size, 2, none⟩ = some (.int .i64 0) := br4.cell 2 _ rfl; have fr4_2 := br4.open 2; have cr4_3 : w4.cell? ⟨w.heap.size, 3, none⟩ = some (.int .i64 0) := br4.cell 3 _ rfl; have fr4_3 := br4.open 3; have cr4_4 : w4.cell? ⟨w.heap.size, 4, none⟩ = some (.int .u64 0) := br4.cell 4 _ rfl; have fr4_4 := br4.open 4; have cr4_5 : w4.cell? ⟨w.heap.size, 5, none⟩ = some (.string ⟨#[]⟩) := br4.cell 5 _ rfl; have fr4_5 := br4.open 5)
    | (go_at_call 27; have hz := kk2; clear hz; refine (took_yes hE (by decide) hb3 _ (hP2.set bx2 (by decide) (by omega) 1 (.int .i64 4)) hr2).mono ?_; rintro e w3 ⟨rfl, hk3, hP3, hr3⟩; have kk3 : w.grownBy w3 (some g) := (kp_set kk2 (by omega) 1 (.int .i64 4)).trans hk3; have hs3 : w.heap.size ≤ w3.heap.size := kk3.size; have br3 : Bx w3 (w.heap.size) 67 #[.string ⟨#[]⟩, .int .i64 0, .int .i64 0, .int .i64 0, .int .u64 0, .string ⟨#[]⟩] := Bx.kp (br2.other (by omega) 1 (.int .i64 4)) hk3 (by omega); have lr3 := br3.lt; have bx3 : Bx w3 (w1.heap.size) 67 #[.string c, .int .i64 4, .int .i64 0, .int .i64 0, .int .u64 0, .string ⟨#[]⟩] := Bx.kp (bx2.set 1 (.int .i64 4)) hk3 (by omega); have lx3 := bx3.lt; have nrx3 : ¬ w.heap.size = w1.heap.size := (by omega); have nxr3 : ¬ w1.heap.size = w.heap.size := (by omega); have cx3_1 : w3.cell? ⟨w1.heap.size, 1, none⟩ = some (.int .i64 4) := bx3.cell 1 _ rfl; have fx3_1 := bx3.open 1)
    | (go_at_call 27; have hz := kk1; clear hz; refine (took_yes hE (by decide) hb2 _ (hP1.alloc _) hr1).mono ?_; rintro e w2 ⟨rfl, hk2, hP2, hr2⟩; have kk2 : w.grownBy w2 (some g) := (kp_alloc kk1 _).trans hk2; have hs2 : w.heap.size ≤ w2.heap.size := kk2.size; have br2 : Bx w2 (w.heap.size) 67 #[.string ⟨#[]⟩, .int .i64 0, .int .i64 0, .int .i64 0, .int .u64 0, .string ⟨#[]⟩] := Bx.kp (br1.alloc _) hk2 (by omega); have lr2 := br2.lt; have bx2 : Bx w2 (w1.heap.size) 67 #[.string c, .int .i64 0, .int .i64 0, .int .i64 0, .int .u64 0, .string ⟨#[]⟩] := Bx.kp (Bx.newB (by simp) : Bx _ (w1.heap.size) 67 #[.string c, .int .i64 0, .int .i64 0, .int .i64 0, .int .u64 0, .string ⟨#[]⟩]) hk2 (by omega); have lx2 := bx2.lt; have nrx2 : ¬ w.heap.size = w1.heap.size := (by omega); have nxr2 : ¬ w1.heap.size = w.heap.size := (by omega); have cx2_1 : w2.cell? ⟨w1.heap.size, 1, none⟩ = some (.int .i64 0) := bx2.cell 1 _ rfl; have fx2_1 := bx2.open 1)
    | (go_at_call 55; refine (sqreadName_any hE _ (hP.alloc _)).mono ?_; intro e w1 hT1; obtain ⟨u1, j1, rfl, hk1, hj1, hP1, hr1, hV1⟩ := tells_yes hT1 rfl e1; obtain rfl : u1 = .string c := hV1; have kk1 : w.grownBy w1 (some g) := (kp_alloc (World.grownBy.refl w (some g)) _).trans hk1; have hs1 : w.heap.size ≤ w1.heap.size := kk1.size; have br1 : Bx w1 (w.heap.size) 67 #[.string ⟨#[]⟩, .int .i64 0, .int .i64 0, .int .i64 0, .int .u64 0, .string ⟨#[]⟩] := Bx.kp (Bx.newB (by simp) : Bx _ (w.heap.size) 67 #[.string ⟨#[]⟩, .int .i64 0, .int .i64 0, .int .i64 0, .int .u64 0, .string ⟨#[]⟩]) hk1 (by omega); have lr1 := br1.lt))
  refine bodyPost_ret (v := .agg #[.string c, .int .i64 5, .int .i64 0, .int .i64 0, .int .u64 0, .string ⟨#[]⟩]) (by simp [results, Tryz.results104, go_sem, cr4_0, cr4_1, cr4_2, cr4_3, cr4_4, cr4_5]) rfl ?_
  rw [HO.out]
  exact ⟨(kp_sets kk4 (by omega) 0 [.string c, .int .i64 5, .int .i64 0, .int .i64 0, .int .u64 0, .string ⟨#[]⟩]), j4, (Nat.le_trans (Nat.le_succ_of_le (Nat.le_succ_of_le (Nat.le_trans (Nat.le_refl i) hj1))) hj4), (PAt.sets hP4 br4 (by decide) (by omega) 0 [.string c, .int .i64 5, .int .i64 0, .int .i64 0, .int .u64 0, .string ⟨#[]⟩]), hr4, _, rfl, rfl⟩
set_option maxHeartbeats 1000000 in
theorem sqreadCond_w3 {g : Nat} {v : Value} {l : List Tok} (hE : EndK l) {i : Nat}  {c : ByteArray} {q1 : List TkC} {q4 : List TkC} (e1 : nameR (rem l i) = (some c, q1)) (hb2 : isT ⟨#[105, 115]⟩ q1 = true) (hb3 : isT ⟨#[110, 111, 116]⟩ q1.tail = false) (e4 : takeR ⟨#[110, 117, 108, 108]⟩ q1.tail = (none, q4)) (w : World) (hP : PAt g v l i w) :
    Calls Tryz.prog 104 #[.pointer (some ⟨g, 0, none⟩)] w (Tells g v l i w VC (condR (rem l i))) := by
  have hg0 := hP.g_lt
  have HO : Hid (condR (rem l i) = (none, q4)) := by
    unfold Hid
    simp only [condR, bnd, opt, ret, e1, hb2, if_true, hb3, Bool.false_eq_true, if_false, e4]
  go_enter Tryz.func104, Tryz.ntmps104
  go_wp2_with (first
    | (go_at_call 34; have hz := kk3; clear hz; refine (take_1 hE (by decide) _ (hP3.alloc _) (Bx.newB (by simp)) (by omega)).mono ?_; intro e w4 hT4; obtain ⟨j4, rfl, hk4, hj4, hP4, hr4⟩ := tells_no hT4 hr2 e4)
    | (go_at_call 27; have hz := kk2; clear hz; refine (took_no hb3 _ (hP2.set bx2 (by decide) (by omega) 1 (.int .i64 4)) hr2).mono ?_; rintro e w3 ⟨rfl, hk3, hP3⟩; have kk3 : w.grownBy w3 (some g) := (kp_set kk2 (by omega) 1 (.int .i64 4)).trans hk3; have hs3 : w.heap.size ≤ w3.heap.size := kk3.size; have br3 : Bx w3 (w.heap.size) 67 #[.string ⟨#[]⟩, .int .i64 0, .int .i64 0, .int .i64 0, .int .u64 0, .string ⟨#[]⟩] := Bx.kp (br2.other (by omega) 1 (.int .i64 4)) hk3 (by omega); have lr3 := br3.lt; have bx3 : Bx w3 (w1.heap.size) 67 #[.string c, .int .i64 4, .int .i64 0, .int .i64 0, .int .u64 0, .string ⟨#[]⟩] := Bx.kp (bx2.set 1 (.int .i64 4)) hk3 (by omega); have lx3 := bx3.lt; have nrx3 : ¬ w.heap.size = w1.heap.size := (by omega); have nxr3 : ¬ w1.heap.size = w.heap.size := (by omega))
    | (go_at_call 27; have hz := kk1; clear hz; refine (took_yes hE (by decide) hb2 _ (hP1.alloc _) hr1).mono ?_; rintro e w2 ⟨rfl, hk2, hP2, hr2⟩; have kk2 : w.grownBy w2 (some g) := (kp_alloc kk1 _).trans hk2; have hs2 : w.heap.size ≤ w2.heap.size := kk2.size; have br2 : Bx w2 (w.heap.size) 67 #[.string ⟨#[]⟩, .int .i64 0, .int .i64 0, .int .i64 0, .int .u64 0, .string ⟨#[]⟩] := Bx.kp (br1.alloc _) hk2 (by omega); have lr2 := br2.lt; have bx2 : Bx w2 (w1.heap.size) 67 #[.string c, .int .i64 0, .int .i64 0, .int .i64 0, .int .u64 0, .string ⟨#[]⟩] := Bx.kp (Bx.newB (by simp) : Bx _ (w1.heap.size) 67 #[.string c, .int .i64 0, .int .i64 0, .int .i64 0, .int .u64 0, .string ⟨#[]⟩]) hk2 (by omega); have lx2 := bx2.lt; have nrx2 : ¬ w.heap.size = w1.heap.size := (by omega); have nxr2 : ¬ w1.heap.size = w.heap.size := (by omega); have cx2_1 : w2.cell? ⟨w1.heap.size, 1, none⟩ = some (.int .i64 0) := bx2.cell 1 _ rfl; have fx2_1 := bx2.open 1)
    | (go_at_call 55; refine (sqreadName_any hE _ (hP.alloc _)).mono ?_; intro e w1 hT1; obtain ⟨u1, j1, rfl, hk1, hj1, hP1, hr1, hV1⟩ := tells_yes hT1 rfl e1; obtain rfl : u1 = .string c := hV1; have kk1 : w.grownBy w1 (some g) := (kp_alloc (World.grownBy.refl w (some g)) _).trans hk1; have hs1 : w.heap.size ≤ w1.heap.size := kk1.size; have br1 : Bx w1 (w.heap.size) 67 #[.string ⟨#[]⟩, .int .i64 0, .int .i64 0, .int .i64 0, .int .u64 0, .string ⟨#[]⟩] := Bx.kp (Bx.newB (by simp) : Bx _ (w.heap.size) 67 #[.string ⟨#[]⟩, .int .i64 0, .int .i64 0, .int .i64 0, .int .u64 0, .string ⟨#[]⟩]) hk1 (by omega); have lr1 := br1.lt))
  refine ⟨rfl, ?_⟩
  rw [HO.out]
  exact ⟨(kp_alloc kk3 _).trans hk4, j4, Nat.le_trans (Nat.le_succ_of_le (Nat.le_trans (Nat.le_refl i) hj1)) hj4, hP4, hr4, rfl⟩
set_option maxHeartbeats 1000000 in
theorem sqreadCond_w4 {g : Nat} {v : Value} {l : List Tok} (hE : EndK l) {i : Nat}  {c : ByteArray} {q1 : List TkC} {q4 : List TkC} (e1 : nameR (rem l i) = (some c, q1)) (hb2 : isT ⟨#[105, 115]⟩ q1 = true) (hb3 : isT ⟨#[110, 111, 116]⟩ q1.tail = false) (e4 : takeR ⟨#[110, 117, 108, 108]⟩ q1.tail = (some (), q4)) (w : World) (hP : PAt g v l i w) :
    Calls Tryz.prog 104 #[.pointer (some ⟨g, 0, none⟩)] w (Tells g v l i w VC (condR (rem l i))) := by
  have hg0 := hP.g_lt
  have HO : Hid (condR (rem l i) = (some ⟨c, 4, ⟨0, 0, 0, ⟨#[]⟩⟩⟩, q4)) := by
    unfold Hid
    simp only [condR, bnd, opt, ret, e1, hb2, if_true, hb3, Bool.false_eq_true, if_false, e4]
  go_enter Tryz.func104, Tryz.ntmps104
  go_wp2_with (first
    | (go_at_call 34; have hz := kk3; clear hz; refine (take_1 hE (by decide) _ (hP3.alloc _) (Bx.newB (by simp)) (by omega)).mono ?_; intro e w4 hT4; obtain ⟨u4, j4, rfl, hk4, hj4, hP4, hr4, hV4⟩ := tells_yes hT4 hr2 e4; obtain rfl : u4 = .tuple #[] := hV4; have kk4 : w.grownBy w4 (some g) := (kp_alloc kk3 _).trans hk4; have hs4 : w.heap.size ≤ w4.heap.size := kk4.size; have br4 : Bx w4 (w.heap.size) 67 #[.string ⟨#[]⟩, .int .i64 0, .int .i64 0, .int .i64 0, .int .u64 0, .string ⟨#[]⟩] := Bx.kp (br3.alloc _) hk4 (by omega); have lr4 := br4.lt; have bx4 : Bx w4 (w1.heap.size) 67 #[.string c, .int .i64 4, .int .i64 0, .int .i64 0, .int .u64 0, .string ⟨#[]⟩] := Bx.kp (bx3.alloc _) hk4 (by omega); have lx4 := bx4.lt; have nrx4 : ¬ w.heap.size = w1.heap.size := (by omega); have nxr4 : ¬ w1.heap.size = w.heap.size := (by omega); have cx4_0 : w4.cell? ⟨w1.heap.size, 0, none⟩ = some (.string c) := bx4.cell 0 _ rfl; have cx4_1 : w4.cell? ⟨w1.heap.size, 1, none⟩ = some (.int .i64 4) := bx4.cell 1 _ rfl; have cx4_2 : w4.cell? ⟨w1.heap.size, 2, none⟩ = some (.int .i64 0) := bx4.cell 2 _ rfl; have cx4_3 : w4.cell? ⟨w1.heap.size, 3, none⟩ = some (.int .i64 0) := bx4.cell 3 _ rfl; have cx4_4 : w4.cell? ⟨w1.heap.size, 4, none⟩ = some (.int .u64 0) := bx4.cell 4 _ rfl; have cx4_5 : w4.cell? ⟨w1.heap.size, 5, none⟩ = some (.string ⟨#[]⟩) := bx4.cell 5 _ rfl; have cr4_0 : w4.cell? ⟨w.heap.size, 0, none⟩ = some (.string ⟨#[]⟩) := br4.cell 0 _ rfl; have fr4_0 := br4.open 0; have cr4_1 : w4.cell? ⟨w.heap.size, 1, none⟩ = some (.int .i64 0) := br4.cell 1 _ rfl; have fr4_1 := br4.open 1; have cr4_2 : w4.cell? ⟨w.heap.size, 2, none⟩ = some (.int .i64 0) := br4.cell 2 _ rfl; have fr4_2 := br4.open 2; have cr4_3 : w4.cell? ⟨w.heap.size, 3, none⟩ = some (.int .i64 0) := br4.cell 3 _ rfl; have fr4_3 := br4.open 3; have cr4_4 : w4.cell? ⟨w.heap.size, 4, none⟩ = some (.int .u64 0) := br4.cell 4 _ rfl; have fr4_4 := br4.open 4; have cr4_5 : w4.cell? ⟨w.heap.size, 5, none⟩ = some (.string ⟨#[]⟩) := br4.cell 5 _ rfl; have fr4_5 := br4.open 5)
    | (go_at_call 27; have hz := kk2; clear hz; refine (took_no hb3 _ (hP2.set bx2 (by decide) (by omega) 1 (.int .i64 4)) hr2).mono ?_; rintro e w3 ⟨rfl, hk3, hP3⟩; have kk3 : w.grownBy w3 (some g) := (kp_set kk2 (by omega) 1 (.int .i64 4)).trans hk3; have hs3 : w.heap.size ≤ w3.heap.size := kk3.size; have br3 : Bx w3 (w.heap.size) 67 #[.string ⟨#[]⟩, .int .i64 0, .int .i64 0, .int .i64 0, .int .u64 0, .string ⟨#[]⟩] := Bx.kp (br2.other (by omega) 1 (.int .i64 4)) hk3 (by omega); have lr3 := br3.lt; have bx3 : Bx w3 (w1.heap.size) 67 #[.string c, .int .i64 4, .int .i64 0, .int .i64 0, .int .u64 0, .string ⟨#[]⟩] := Bx.kp (bx2.set 1 (.int .i64 4)) hk3 (by omega); have lx3 := bx3.lt; have nrx3 : ¬ w.heap.size = w1.heap.size := (by omega); have nxr3 : ¬ w1.heap.size = w.heap.size := (by omega))
    | (go_at_call 27; have hz := kk1; clear hz; refine (took_yes hE (by decide) hb2 _ (hP1.alloc _) hr1).mono ?_; rintro e w2 ⟨rfl, hk2, hP2, hr2⟩; have kk2 : w.grownBy w2 (some g) := (kp_alloc kk1 _).trans hk2; have hs2 : w.heap.size ≤ w2.heap.size := kk2.size; have br2 : Bx w2 (w.heap.size) 67 #[.string ⟨#[]⟩, .int .i64 0, .int .i64 0, .int .i64 0, .int .u64 0, .string ⟨#[]⟩] := Bx.kp (br1.alloc _) hk2 (by omega); have lr2 := br2.lt; have bx2 : Bx w2 (w1.heap.size) 67 #[.string c, .int .i64 0, .int .i64 0, .int .i64 0, .int .u64 0, .string ⟨#[]⟩] := Bx.kp (Bx.newB (by simp) : Bx _ (w1.heap.size) 67 #[.string c, .int .i64 0, .int .i64 0, .int .i64 0, .int .u64 0, .string ⟨#[]⟩]) hk2 (by omega); have lx2 := bx2.lt; have nrx2 : ¬ w.heap.size = w1.heap.size := (by omega); have nxr2 : ¬ w1.heap.size = w.heap.size := (by omega); have cx2_1 : w2.cell? ⟨w1.heap.size, 1, none⟩ = some (.int .i64 0) := bx2.cell 1 _ rfl; have fx2_1 := bx2.open 1)
    | (go_at_call 55; refine (sqreadName_any hE _ (hP.alloc _)).mono ?_; intro e w1 hT1; obtain ⟨u1, j1, rfl, hk1, hj1, hP1, hr1, hV1⟩ := tells_yes hT1 rfl e1; obtain rfl : u1 = .string c := hV1; have kk1 : w.grownBy w1 (some g) := (kp_alloc (World.grownBy.refl w (some g)) _).trans hk1; have hs1 : w.heap.size ≤ w1.heap.size := kk1.size; have br1 : Bx w1 (w.heap.size) 67 #[.string ⟨#[]⟩, .int .i64 0, .int .i64 0, .int .i64 0, .int .u64 0, .string ⟨#[]⟩] := Bx.kp (Bx.newB (by simp) : Bx _ (w.heap.size) 67 #[.string ⟨#[]⟩, .int .i64 0, .int .i64 0, .int .i64 0, .int .u64 0, .string ⟨#[]⟩]) hk1 (by omega); have lr1 := br1.lt))
  refine bodyPost_ret (v := .agg #[.string c, .int .i64 4, .int .i64 0, .int .i64 0, .int .u64 0, .string ⟨#[]⟩]) (by simp [results, Tryz.results104, go_sem, cr4_0, cr4_1, cr4_2, cr4_3, cr4_4, cr4_5]) rfl ?_
  rw [HO.out]
  exact ⟨(kp_sets kk4 (by omega) 0 [.string c, .int .i64 4, .int .i64 0, .int .i64 0, .int .u64 0, .string ⟨#[]⟩]), j4, (Nat.le_trans (Nat.le_succ_of_le (Nat.le_trans (Nat.le_refl i) hj1)) hj4), (PAt.sets hP4 br4 (by decide) (by omega) 0 [.string c, .int .i64 4, .int .i64 0, .int .i64 0, .int .u64 0, .string ⟨#[]⟩]), hr4, _, rfl, rfl⟩
set_option maxHeartbeats 1000000 in
theorem sqreadCond_w5 {g : Nat} {v : Value} {l : List Tok} (hE : EndK l) {i : Nat}  {c : ByteArray} {q1 : List TkC} {q3 : List TkC} (e1 : nameR (rem l i) = (some c, q1)) (hb2 : isT ⟨#[105, 115]⟩ q1 = false) (e3 : signR q1 = (none, q3)) (w : World) (hP : PAt g v l i w) :
    Calls Tryz.prog 104 #[.pointer (some ⟨g, 0, none⟩)] w (Tells g v l i w VC (condR (rem l i))) := by
  have hg0 := hP.g_lt
  have HO : Hid (condR (rem l i) = (none, q3)) := by
    unfold Hid
    simp only [condR, bnd, opt, ret, e1, hb2, Bool.false_eq_true, if_false, e3]
  go_enter Tryz.func104, Tryz.ntmps104
  go_wp2_with (first
    | (go_at_call 129; have hz := kk2; clear hz; refine (sqreadSign_any hE _ hP2).mono ?_; intro e w3 hT3; obtain ⟨j3, rfl, hk3, hj3, hP3, hr3⟩ := tells_no hT3 hr1 e3)
    | (go_at_call 27; have hz := kk1; clear hz; refine (took_no hb2 _ (hP1.alloc _) hr1).mono ?_; rintro e w2 ⟨rfl, hk2, hP2⟩; have kk2 : w.grownBy w2 (some g) := (kp_alloc kk1 _).trans hk2; have hs2 : w.heap.size ≤ w2.heap.size := kk2.size; have br2 : Bx w2 (w.heap.size) 67 #[.string ⟨#[]⟩, .int .i64 0, .int .i64 0, .int .i64 0, .int .u64 0, .string ⟨#[]⟩] := Bx.kp (br1.alloc _) hk2 (by omega); have lr2 := br2.lt; have bx2 : Bx w2 (w1.heap.size) 67 #[.string c, .int .i64 0, .int .i64 0, .int .i64 0, .int .u64 0, .string ⟨#[]⟩] := Bx.kp (Bx.newB (by simp) : Bx _ (w1.heap.size) 67 #[.string c, .int .i64 0, .int .i64 0, .int .i64 0, .int .u64 0, .string ⟨#[]⟩]) hk2 (by omega); have lx2 := bx2.lt; have nrx2 : ¬ w.heap.size = w1.heap.size := (by omega); have nxr2 : ¬ w1.heap.size = w.heap.size := (by omega))
    | (go_at_call 55; refine (sqreadName_any hE _ (hP.alloc _)).mono ?_; intro e w1 hT1; obtain ⟨u1, j1, rfl, hk1, hj1, hP1, hr1, hV1⟩ := tells_yes hT1 rfl e1; obtain rfl : u1 = .string c := hV1; have kk1 : w.grownBy w1 (some g) := (kp_alloc (World.grownBy.refl w (some g)) _).trans hk1; have hs1 : w.heap.size ≤ w1.heap.size := kk1.size; have br1 : Bx w1 (w.heap.size) 67 #[.string ⟨#[]⟩, .int .i64 0, .int .i64 0, .int .i64 0, .int .u64 0, .string ⟨#[]⟩] := Bx.kp (Bx.newB (by simp) : Bx _ (w.heap.size) 67 #[.string ⟨#[]⟩, .int .i64 0, .int .i64 0, .int .i64 0, .int .u64 0, .string ⟨#[]⟩]) hk1 (by omega); have lr1 := br1.lt))
  refine ⟨rfl, ?_⟩
  rw [HO.out]
  exact ⟨kk2.trans hk3, j3, Nat.le_trans (Nat.le_trans (Nat.le_refl i) hj1) hj3, hP3, hr3, rfl⟩
set_option maxHeartbeats 1000000 in
theorem sqreadCond_w6 {g : Nat} {v : Value} {l : List Tok} (hE : EndK l) {i : Nat}  {c : ByteArray} {q1 : List TkC} {s : Int} {q3 : List TkC} {q4 : List TkC} (e1 : nameR (rem l i) = (some c, q1)) (hb2 : isT ⟨#[105, 115]⟩ q1 = false) (e3 : signR q1 = (some s, q3)) (e4 : valueR q3 = (none, q4)) (w : World) (hP : PAt g v l i w) :
    Calls Tryz.prog 104 #[.pointer (some ⟨g, 0, none⟩)] w (Tells g v l i w VC (condR (rem l i))) := by
  have hg0 := hP.g_lt
  have HO : Hid (condR (rem l i) = (none, q4)) := by
    unfold Hid
    simp only [condR, bnd, opt, ret, e1, hb2, Bool.false_eq_true, if_false, e3, e4]
  go_enter Tryz.func104, Tryz.ntmps104
  go_wp2_with (first
    | (go_at_call 58; have hz := kk3; clear hz; refine (sqreadValue_any hE _ (hP3.set bx3 (by decide) (by omega) 1 (.int .i64 s))).mono ?_; intro e w4 hT4; obtain ⟨j4, rfl, hk4, hj4, hP4, hr4⟩ := tells_no hT4 hr3 e4)
    | (go_at_call 129; have hz := kk2; clear hz; refine (sqreadSign_any hE _ hP2).mono ?_; intro e w3 hT3; obtain ⟨u3, j3, rfl, hk3, hj3, hP3, hr3, hV3⟩ := tells_yes hT3 hr1 e3; obtain rfl : u3 = .int .i64 s := hV3; have kk3 : w.grownBy w3 (some g) := kk2.trans hk3; have hs3 : w.heap.size ≤ w3.heap.size := kk3.size; have br3 : Bx w3 (w.heap.size) 67 #[.string ⟨#[]⟩, .int .i64 0, .int .i64 0, .int .i64 0, .int .u64 0, .string ⟨#[]⟩] := Bx.kp br2 hk3 (by omega); have lr3 := br3.lt; have bx3 : Bx w3 (w1.heap.size) 67 #[.string c, .int .i64 0, .int .i64 0, .int .i64 0, .int .u64 0, .string ⟨#[]⟩] := Bx.kp bx2 hk3 (by omega); have lx3 := bx3.lt; have nrx3 : ¬ w.heap.size = w1.heap.size := (by omega); have nxr3 : ¬ w1.heap.size = w.heap.size := (by omega); have cx3_1 : w3.cell? ⟨w1.heap.size, 1, none⟩ = some (.int .i64 0) := bx3.cell 1 _ rfl; have fx3_1 := bx3.open 1)
    | (go_at_call 27; have hz := kk1; clear hz; refine (took_no hb2 _ (hP1.alloc _) hr1).mono ?_; rintro e w2 ⟨rfl, hk2, hP2⟩; have kk2 : w.grownBy w2 (some g) := (kp_alloc kk1 _).trans hk2; have hs2 : w.heap.size ≤ w2.heap.size := kk2.size; have br2 : Bx w2 (w.heap.size) 67 #[.string ⟨#[]⟩, .int .i64 0, .int .i64 0, .int .i64 0, .int .u64 0, .string ⟨#[]⟩] := Bx.kp (br1.alloc _) hk2 (by omega); have lr2 := br2.lt; have bx2 : Bx w2 (w1.heap.size) 67 #[.string c, .int .i64 0, .int .i64 0, .int .i64 0, .int .u64 0, .string ⟨#[]⟩] := Bx.kp (Bx.newB (by simp) : Bx _ (w1.heap.size) 67 #[.string c, .int .i64 0, .int .i64 0, .int .i64 0, .int .u64 0, .string ⟨#[]⟩]) hk2 (by omega); have lx2 := bx2.lt; have nrx2 : ¬ w.heap.size = w1.heap.size := (by omega); have nxr2 : ¬ w1.heap.size = w.heap.size := (by omega))
    | (go_at_call 55; refine (sqreadName_any hE _ (hP.alloc _)).mono ?_; intro e w1 hT1; obtain ⟨u1, j1, rfl, hk1, hj1, hP1, hr1, hV1⟩ := tells_yes hT1 rfl e1; obtain rfl : u1 = .string c := hV1; have kk1 : w.grownBy w1 (some g) := (kp_alloc (World.grownBy.refl w (some g)) _).trans hk1; have hs1 : w.heap.size ≤ w1.heap.size := kk1.size; have br1 : Bx w1 (w.heap.size) 67 #[.string ⟨#[]⟩, .int .i64 0, .int .i64 0, .int .i64 0, .int .u64 0, .string ⟨#[]⟩] := Bx.kp (Bx.newB (by simp) : Bx _ (w.heap.size) 67 #[.string ⟨#[]⟩, .int .i64 0, .int .i64 0, .int .i64 0, .int .u64 0, .string ⟨#[]⟩]) hk1 (by omega); have lr1 := br1.lt))
  refine ⟨rfl, ?_⟩
  rw [HO.out]
  exact ⟨(kp_set kk3 (by omega) 1 (.int .i64 s)).trans hk4, j4, Nat.le_trans (Nat.le_trans (Nat.le_trans (Nat.le_refl i) hj1) hj3) hj4, hP4, hr4, rfl⟩
set_option maxHeartbeats 1000000 in
theorem sqreadCond_w7 {g : Nat} {v : Value} {l : List Tok} (hE : EndK l) {i : Nat}  {c : ByteArray} {q1 : List TkC} {s : Int} {q3 : List TkC} {vk : Int} {vn : Int} {vf : Nat} {vs : ByteArray} {q4 : List TkC} (e1 : nameR (rem l i) = (some c, q1)) (hb2 : isT ⟨#[105, 115]⟩ q1 = false) (e3 : signR q1 = (some s, q3)) (e4 : valueR q3 = (some ⟨vk, vn, vf, vs⟩, q4)) (w : World) (hP : PAt g v l i w) :
    Calls Tryz.prog 104 #[.pointer (some ⟨g, 0, none⟩)] w (Tells g v l i w VC (condR (rem l i))) := by
  have hg0 := hP.g_lt
  have HO : Hid (condR (rem l i) = (some ⟨c, s, ⟨vk, vn, vf, vs⟩⟩, q4)) := by
    unfold Hid
    simp only [condR, bnd, opt, ret, e1, hb2, Bool.false_eq_true, if_false, e3, e4]
  go_enter Tryz.func104, Tryz.ntmps104
  go_wp2_with (first
    | (go_at_call 58; have hz := kk3; clear hz; refine (sqreadValue_any hE _ (hP3.set bx3 (by decide) (by omega) 1 (.int .i64 s))).mono ?_; intro e w4 hT4; obtain ⟨u4, j4, rfl, hk4, hj4, hP4, hr4, hV4⟩ := tells_yes hT4 hr3 e4; obtain rfl : u4 = .agg #[.int .i64 vk, .int .i64 vn, .int .u64 (vf : Int), .string vs] := hV4; have kk4 : w.grownBy w4 (some g) := (kp_set kk3 (by omega) 1 (.int .i64 s)).trans hk4; have hs4 : w.heap.size ≤ w4.heap.size := kk4.size; have br4 : Bx w4 (w.heap.size) 67 #[.string ⟨#[]⟩, .int .i64 0, .int .i64 0, .int .i64 0, .int .u64 0, .string ⟨#[]⟩] := Bx.kp (br3.other (by omega) 1 (.int .i64 s)) hk4 (by omega); have lr4 := br4.lt; have bx4 : Bx w4 (w1.heap.size) 67 #[.string c, .int .i64 s, .int .i64 0, .int .i64 0, .int .u64 0, .string ⟨#[]⟩] := Bx.kp (bx3.set 1 (.int .i64 s)) hk4 (by omega); have lx4 := bx4.lt; have nrx4 : ¬ w.heap.size = w1.heap.size := (by omega); have nxr4 : ¬ w1.heap.size = w.heap.size := (by omega); have cx4_2 : w4.cell? ⟨w1.heap.size, 2, none⟩ = some (.int .i64 0) := bx4.cell 2 _ rfl; have fx4_2 := bx4.open 2; have cx4_3 : w4.cell? ⟨w1.heap.size, 3, none⟩ = some (.int .i64 0) := bx4.cell 3 _ rfl; have fx4_3 := bx4.open 3; have cx4_4 : w4.cell? ⟨w1.heap.size, 4, none⟩ = some (.int .u64 0) := bx4.cell 4 _ rfl; have fx4_4 := bx4.open 4; have cx4_5 : w4.cell? ⟨w1.heap.size, 5, none⟩ = some (.string ⟨#[]⟩) := bx4.cell 5 _ rfl; have fx4_5 := bx4.open 5; have cx4_0 : w4.cell? ⟨w1.heap.size, 0, none⟩ = some (.string c) := bx4.cell 0 _ rfl; have cx4_1 : w4.cell? ⟨w1.heap.size, 1, none⟩ = some (.int .i64 s) := bx4.cell 1 _ rfl; have cr4_0 : w4.cell? ⟨w.heap.size, 0, none⟩ = some (.string ⟨#[]⟩) := br4.cell 0 _ rfl; have fr4_0 := br4.open 0; have cr4_1 : w4.cell? ⟨w.heap.size, 1, none⟩ = some (.int .i64 0) := br4.cell 1 _ rfl; have fr4_1 := br4.open 1; have cr4_2 : w4.cell? ⟨w.heap.size, 2, none⟩ = some (.int .i64 0) := br4.cell 2 _ rfl; have fr4_2 := br4.open 2; have cr4_3 : w4.cell? ⟨w.heap.size, 3, none⟩ = some (.int .i64 0) := br4.cell 3 _ rfl; have fr4_3 := br4.open 3; have cr4_4 : w4.cell? ⟨w.heap.size, 4, none⟩ = some (.int .u64 0) := br4.cell 4 _ rfl; have fr4_4 := br4.open 4; have cr4_5 : w4.cell? ⟨w.heap.size, 5, none⟩ = some (.string ⟨#[]⟩) := br4.cell 5 _ rfl; have fr4_5 := br4.open 5)
    | (go_at_call 129; have hz := kk2; clear hz; refine (sqreadSign_any hE _ hP2).mono ?_; intro e w3 hT3; obtain ⟨u3, j3, rfl, hk3, hj3, hP3, hr3, hV3⟩ := tells_yes hT3 hr1 e3; obtain rfl : u3 = .int .i64 s := hV3; have kk3 : w.grownBy w3 (some g) := kk2.trans hk3; have hs3 : w.heap.size ≤ w3.heap.size := kk3.size; have br3 : Bx w3 (w.heap.size) 67 #[.string ⟨#[]⟩, .int .i64 0, .int .i64 0, .int .i64 0, .int .u64 0, .string ⟨#[]⟩] := Bx.kp br2 hk3 (by omega); have lr3 := br3.lt; have bx3 : Bx w3 (w1.heap.size) 67 #[.string c, .int .i64 0, .int .i64 0, .int .i64 0, .int .u64 0, .string ⟨#[]⟩] := Bx.kp bx2 hk3 (by omega); have lx3 := bx3.lt; have nrx3 : ¬ w.heap.size = w1.heap.size := (by omega); have nxr3 : ¬ w1.heap.size = w.heap.size := (by omega); have cx3_1 : w3.cell? ⟨w1.heap.size, 1, none⟩ = some (.int .i64 0) := bx3.cell 1 _ rfl; have fx3_1 := bx3.open 1)
    | (go_at_call 27; have hz := kk1; clear hz; refine (took_no hb2 _ (hP1.alloc _) hr1).mono ?_; rintro e w2 ⟨rfl, hk2, hP2⟩; have kk2 : w.grownBy w2 (some g) := (kp_alloc kk1 _).trans hk2; have hs2 : w.heap.size ≤ w2.heap.size := kk2.size; have br2 : Bx w2 (w.heap.size) 67 #[.string ⟨#[]⟩, .int .i64 0, .int .i64 0, .int .i64 0, .int .u64 0, .string ⟨#[]⟩] := Bx.kp (br1.alloc _) hk2 (by omega); have lr2 := br2.lt; have bx2 : Bx w2 (w1.heap.size) 67 #[.string c, .int .i64 0, .int .i64 0, .int .i64 0, .int .u64 0, .string ⟨#[]⟩] := Bx.kp (Bx.newB (by simp) : Bx _ (w1.heap.size) 67 #[.string c, .int .i64 0, .int .i64 0, .int .i64 0, .int .u64 0, .string ⟨#[]⟩]) hk2 (by omega); have lx2 := bx2.lt; have nrx2 : ¬ w.heap.size = w1.heap.size := (by omega); have nxr2 : ¬ w1.heap.size = w.heap.size := (by omega))
    | (go_at_call 55; refine (sqreadName_any hE _ (hP.alloc _)).mono ?_; intro e w1 hT1; obtain ⟨u1, j1, rfl, hk1, hj1, hP1, hr1, hV1⟩ := tells_yes hT1 rfl e1; obtain rfl : u1 = .string c := hV1; have kk1 : w.grownBy w1 (some g) := (kp_alloc (World.grownBy.refl w (some g)) _).trans hk1; have hs1 : w.heap.size ≤ w1.heap.size := kk1.size; have br1 : Bx w1 (w.heap.size) 67 #[.string ⟨#[]⟩, .int .i64 0, .int .i64 0, .int .i64 0, .int .u64 0, .string ⟨#[]⟩] := Bx.kp (Bx.newB (by simp) : Bx _ (w.heap.size) 67 #[.string ⟨#[]⟩, .int .i64 0, .int .i64 0, .int .i64 0, .int .u64 0, .string ⟨#[]⟩]) hk1 (by omega); have lr1 := br1.lt))
  refine bodyPost_ret (v := .agg #[.string c, .int .i64 s, .int .i64 vk, .int .i64 vn, .int .u64 (vf : Int), .string vs]) (by simp [results, Tryz.results104, go_sem, cr4_0, cr4_1, cr4_2, cr4_3, cr4_4, cr4_5]) rfl ?_
  rw [HO.out]
  exact ⟨(kp_sets (kp_set (kp_set (kp_set (kp_set kk4 (by omega) 2 (.int .i64 vk)) (by omega) 3 (.int .i64 vn)) (by omega) 4 (.int .u64 (vf : Int))) (by omega) 5 (.string vs)) (by omega) 0 [.string c, .int .i64 s, .int .i64 vk, .int .i64 vn, .int .u64 (vf : Int), .string vs]), j4, (Nat.le_trans (Nat.le_trans (Nat.le_trans (Nat.le_refl i) hj1) hj3) hj4), (PAt.sets ((((hP4.set bx4 (by decide) (by omega) 2 (.int .i64 vk)).set (bx4.set 2 (.int .i64 vk)) (by decide) (by omega) 3 (.int .i64 vn)).set ((bx4.set 2 (.int .i64 vk)).set 3 (.int .i64 vn)) (by decide) (by omega) 4 (.int .u64 (vf : Int))).set (((bx4.set 2 (.int .i64 vk)).set 3 (.int .i64 vn)).set 4 (.int .u64 (vf : Int))) (by decide) (by omega) 5 (.string vs)) ((((br4.other (by omega) 2 (.int .i64 vk)).other (by omega) 3 (.int .i64 vn)).other (by omega) 4 (.int .u64 (vf : Int))).other (by omega) 5 (.string vs)) (by decide) (by omega) 0 [.string c, .int .i64 s, .int .i64 vk, .int .i64 vn, .int .u64 (vf : Int), .string vs]), hr4, _, rfl, rfl⟩
theorem sqreadCond_any {g : Nat} {v : Value} {l : List Tok} (hE : EndK l) {i : Nat}  (w : World) (hP : PAt g v l i w) :
    Calls Tryz.prog 104 #[.pointer (some ⟨g, 0, none⟩)] w (Tells g v l i w VC (condR (rem l i))) := by
  rcases e1 : nameR (rem l i) with ⟨o1, q1⟩
  cases o1 with
  | none =>
    exact sqreadCond_w0 hE e1 w hP
  | some c =>
    rcases Bool.eq_false_or_eq_true (isT ⟨#[105, 115]⟩ q1) with hb2 | hb2
    · rcases Bool.eq_false_or_eq_true (isT ⟨#[110, 111, 116]⟩ q1.tail) with hb3 | hb3
      · rcases e4 : takeR ⟨#[110, 117, 108, 108]⟩ q1.tail.tail with ⟨o4, q4⟩
        cases o4 with
        | none =>
          exact sqreadCond_w1 hE e1 hb2 hb3 e4 w hP
        | some a4 =>
          cases a4
          exact sqreadCond_w2 hE e1 hb2 hb3 e4 w hP
      · rcases e4 : takeR ⟨#[110, 117, 108, 108]⟩ q1.tail with ⟨o4, q4⟩
        cases o4 with
        | none =>
          exact sqreadCond_w3 hE e1 hb2 hb3 e4 w hP
        | some a4 =>
          cases a4
          exact sqreadCond_w4 hE e1 hb2 hb3 e4 w hP
    · rcases e3 : signR q1 with ⟨o3, q3⟩
      cases o3 with
      | none =>
        exact sqreadCond_w5 hE e1 hb2 e3 w hP
      | some s =>
        rcases e4 : valueR q3 with ⟨o4, q4⟩
        cases o4 with
        | none =>
          exact sqreadCond_w6 hE e1 hb2 e3 e4 w hP
        | some a4 =>
          obtain ⟨vk, vn, vf, vs⟩ := a4
          exact sqreadCond_w7 hE e1 hb2 e3 e4 w hP
set_option maxHeartbeats 1000000 in
theorem sqreadSet_w0 {g : Nat} {v : Value} {l : List Tok} (hE : EndK l) {i : Nat}  {q1 : List TkC} (e1 : nameR (rem l i) = (none, q1)) (w : World) (hP : PAt g v l i w) :
    Calls Tryz.prog 60 #[.pointer (some ⟨g, 0, none⟩)] w (Tells g v l i w VT (setR (rem l i))) := by
  have hg0 := hP.g_lt
  have HO : Hid (setR (rem l i) = (none, q1)) := by
    unfold Hid
    simp only [setR, bnd, opt, ret, e1]
  go_enter Tryz.func60, Tryz.ntmps60
  go_wp2_with (first
    | (go_at_call 55; refine (sqreadName_any hE _ (hP.alloc _)).mono ?_; intro e w1 hT1; obtain ⟨j1, rfl, hk1, hj1, hP1, hr1⟩ := tells_no hT1 rfl e1))
  refine ⟨rfl, ?_⟩
  rw [HO.out]
  exact ⟨(kp_alloc (World.grownBy.refl w (some g)) _).trans hk1, j1, Nat.le_trans (Nat.le_refl i) hj1, hP1, hr1, rfl⟩
set_option maxHeartbeats 1000000 in
theorem sqreadSet_w1 {g : Nat} {v : Value} {l : List Tok} (hE : EndK l) {i : Nat}  {c : ByteArray} {q1 : List TkC} {q2 : List TkC} (e1 : nameR (rem l i) = (some c, q1)) (e2 : takeR ⟨#[61]⟩ q1 = (none, q2)) (w : World) (hP : PAt g v l i w) :
    Calls Tryz.prog 60 #[.pointer (some ⟨g, 0, none⟩)] w (Tells g v l i w VT (setR (rem l i))) := by
  have hg0 := hP.g_lt
  have HO : Hid (setR (rem l i) = (none, q2)) := by
    unfold Hid
    simp only [setR, bnd, opt, ret, e1, e2]
  go_enter Tryz.func60, Tryz.ntmps60
  go_wp2_with (first
    | (go_at_call 34; have hz := kk1; clear hz; refine (take_1 hE (by decide) _ ((hP1.alloc _).alloc _) (Bx.newB (by simp)) (by omega)).mono ?_; intro e w2 hT2; obtain ⟨j2, rfl, hk2, hj2, hP2, hr2⟩ := tells_no hT2 hr1 e2)
    | (go_at_call 55; refine (sqreadName_any hE _ (hP.alloc _)).mono ?_; intro e w1 hT1; obtain ⟨u1, j1, rfl, hk1, hj1, hP1, hr1, hV1⟩ := tells_yes hT1 rfl e1; obtain rfl : u1 = .string c := hV1; have kk1 : w.grownBy w1 (some g) := (kp_alloc (World.grownBy.refl w (some g)) _).trans hk1; have hs1 : w.heap.size ≤ w1.heap.size := kk1.size; have br1 : Bx w1 (w.heap.size) 65 #[.string ⟨#[]⟩, .bool false, .int .i64 0, .int .i64 0, .int .u64 0, .string ⟨#[]⟩] := Bx.kp (Bx.newB (by simp) : Bx _ (w.heap.size) 65 #[.string ⟨#[]⟩, .bool false, .int .i64 0, .int .i64 0, .int .u64 0, .string ⟨#[]⟩]) hk1 (by omega); have lr1 := br1.lt))
  refine ⟨rfl, ?_⟩
  rw [HO.out]
  exact ⟨(kp_alloc (kp_alloc kk1 _) _).trans hk2, j2, Nat.le_trans (Nat.le_trans (Nat.le_refl i) hj1) hj2, hP2, hr2, rfl⟩
set_option maxHeartbeats 1000000 in
theorem sqreadSet_w2 {g : Nat} {v : Value} {l : List Tok} (hE : EndK l) {i : Nat}  {c : ByteArray} {q1 : List TkC} {q2 : List TkC} {q4 : List TkC} (e1 : nameR (rem l i) = (some c, q1)) (e2 : takeR ⟨#[61]⟩ q1 = (some (), q2)) (hb3 : isT c q2 = true) (e4 : takeR ⟨#[43]⟩ q2.tail = (none, q4)) (w : World) (hP : PAt g v l i w) :
    Calls Tryz.prog 60 #[.pointer (some ⟨g, 0, none⟩)] w (Tells g v l i w VT (setR (rem l i))) := by
  have hg0 := hP.g_lt
  have HO : Hid (setR (rem l i) = (none, q4)) := by
    unfold Hid
    simp only [setR, bnd, opt, ret, e1, e2, hb3, if_true, e4]
  go_enter Tryz.func60, Tryz.ntmps60
  go_wp2_with (first
    | (go_at_call 34; have hz := kk3; clear hz; refine (take_1 hE (by decide) _ ((hP3.set bx3 (by decide) (by omega) 1 (.bool true)).alloc _) (Bx.newB (by simp)) (by omega)).mono ?_; intro e w4 hT4; obtain ⟨j4, rfl, hk4, hj4, hP4, hr4⟩ := tells_no hT4 hr3 e4)
    | (go_at_call 27; have hz := kk2; clear hz; refine (took_yes hE (name_ne hE e1) hb3 _ hP2 hr2).mono ?_; rintro e w3 ⟨rfl, hk3, hP3, hr3⟩; have kk3 : w.grownBy w3 (some g) := kk2.trans hk3; have hs3 : w.heap.size ≤ w3.heap.size := kk3.size; have br3 : Bx w3 (w.heap.size) 65 #[.string ⟨#[]⟩, .bool false, .int .i64 0, .int .i64 0, .int .u64 0, .string ⟨#[]⟩] := Bx.kp br2 hk3 (by omega); have lr3 := br3.lt; have bx3 : Bx w3 (w1.heap.size) 65 #[.string c, .bool false, .int .i64 0, .int .i64 0, .int .u64 0, .string ⟨#[]⟩] := Bx.kp bx2 hk3 (by omega); have lx3 := bx3.lt; have nrx3 : ¬ w.heap.size = w1.heap.size := (by omega); have nxr3 : ¬ w1.heap.size = w.heap.size := (by omega); have cx3_1 : w3.cell? ⟨w1.heap.size, 1, none⟩ = some (.bool false) := bx3.cell 1 _ rfl; have fx3_1 := bx3.open 1)
    | (go_at_call 34; have hz := kk1; clear hz; refine (take_1 hE (by decide) _ ((hP1.alloc _).alloc _) (Bx.newB (by simp)) (by omega)).mono ?_; intro e w2 hT2; obtain ⟨u2, j2, rfl, hk2, hj2, hP2, hr2, hV2⟩ := tells_yes hT2 hr1 e2; obtain rfl : u2 = .tuple #[] := hV2; have kk2 : w.grownBy w2 (some g) := (kp_alloc (kp_alloc kk1 _) _).trans hk2; have hs2 : w.heap.size ≤ w2.heap.size := kk2.size; have br2 : Bx w2 (w.heap.size) 65 #[.string ⟨#[]⟩, .bool false, .int .i64 0, .int .i64 0, .int .u64 0, .string ⟨#[]⟩] := Bx.kp ((br1.alloc _).alloc _) hk2 (by omega); have lr2 := br2.lt; have bx2 : Bx w2 (w1.heap.size) 65 #[.string c, .bool false, .int .i64 0, .int .i64 0, .int .u64 0, .string ⟨#[]⟩] := Bx.kp ((Bx.newB (by simp) : Bx _ (w1.heap.size) 65 #[.string c, .bool false, .int .i64 0, .int .i64 0, .int .u64 0, .string ⟨#[]⟩]).alloc _) hk2 (by omega); have lx2 := bx2.lt; have nrx2 : ¬ w.heap.size = w1.heap.size := (by omega); have nxr2 : ¬ w1.heap.size = w.heap.size := (by omega); have cx2_0 : w2.cell? ⟨w1.heap.size, 0, none⟩ = some (.string c) := bx2.cell 0 _ rfl)
    | (go_at_call 55; refine (sqreadName_any hE _ (hP.alloc _)).mono ?_; intro e w1 hT1; obtain ⟨u1, j1, rfl, hk1, hj1, hP1, hr1, hV1⟩ := tells_yes hT1 rfl e1; obtain rfl : u1 = .string c := hV1; have kk1 : w.grownBy w1 (some g) := (kp_alloc (World.grownBy.refl w (some g)) _).trans hk1; have hs1 : w.heap.size ≤ w1.heap.size := kk1.size; have br1 : Bx w1 (w.heap.size) 65 #[.string ⟨#[]⟩, .bool false, .int .i64 0, .int .i64 0, .int .u64 0, .string ⟨#[]⟩] := Bx.kp (Bx.newB (by simp) : Bx _ (w.heap.size) 65 #[.string ⟨#[]⟩, .bool false, .int .i64 0, .int .i64 0, .int .u64 0, .string ⟨#[]⟩]) hk1 (by omega); have lr1 := br1.lt))
  refine ⟨rfl, ?_⟩
  rw [HO.out]
  exact ⟨(kp_alloc (kp_set kk3 (by omega) 1 (.bool true)) _).trans hk4, j4, Nat.le_trans (Nat.le_succ_of_le (Nat.le_trans (Nat.le_trans (Nat.le_refl i) hj1) hj2)) hj4, hP4, hr4, rfl⟩
set_option maxHeartbeats 1000000 in
theorem sqreadSet_w3 {g : Nat} {v : Value} {l : List Tok} (hE : EndK l) {i : Nat}  {c : ByteArray} {q1 : List TkC} {q2 : List TkC} {q4 : List TkC} {q5 : List TkC} (e1 : nameR (rem l i) = (some c, q1)) (e2 : takeR ⟨#[61]⟩ q1 = (some (), q2)) (hb3 : isT c q2 = true) (e4 : takeR ⟨#[43]⟩ q2.tail = (some (), q4)) (e5 : valueR q4 = (none, q5)) (w : World) (hP : PAt g v l i w) :
    Calls Tryz.prog 60 #[.pointer (some ⟨g, 0, none⟩)] w (Tells g v l i w VT (setR (rem l i))) := by
  have hg0 := hP.g_lt
  have HO : Hid (setR (rem l i) = (none, q5)) := by
    unfold Hid
    simp only [setR, bnd, opt, ret, e1, e2, hb3, if_true, e4, e5]
  go_enter Tryz.func60, Tryz.ntmps60
  go_wp2_with (first
    | (go_at_call 58; have hz := kk4; clear hz; refine (sqreadValue_any hE _ hP4).mono ?_; intro e w5 hT5; obtain ⟨j5, rfl, hk5, hj5, hP5, hr5⟩ := tells_no hT5 hr4 e5)
    | (go_at_call 34; have hz := kk3; clear hz; refine (take_1 hE (by decide) _ ((hP3.set bx3 (by decide) (by omega) 1 (.bool true)).alloc _) (Bx.newB (by simp)) (by omega)).mono ?_; intro e w4 hT4; obtain ⟨u4, j4, rfl, hk4, hj4, hP4, hr4, hV4⟩ := tells_yes hT4 hr3 e4; obtain rfl : u4 = .tuple #[] := hV4; have kk4 : w.grownBy w4 (some g) := (kp_alloc (kp_set kk3 (by omega) 1 (.bool true)) _).trans hk4; have hs4 : w.heap.size ≤ w4.heap.size := kk4.size; have br4 : Bx w4 (w.heap.size) 65 #[.string ⟨#[]⟩, .bool false, .int .i64 0, .int .i64 0, .int .u64 0, .string ⟨#[]⟩] := Bx.kp ((br3.other (by omega) 1 (.bool true)).alloc _) hk4 (by omega); have lr4 := br4.lt; have bx4 : Bx w4 (w1.heap.size) 65 #[.string c, .bool true, .int .i64 0, .int .i64 0, .int .u64 0, .string ⟨#[]⟩] := Bx.kp ((bx3.set 1 (.bool true)).alloc _) hk4 (by omega); have lx4 := bx4.lt; have nrx4 : ¬ w.heap.size = w1.heap.size := (by omega); have nxr4 : ¬ w1.heap.size = w.heap.size := (by omega))
    | (go_at_call 27; have hz := kk2; clear hz; refine (took_yes hE (name_ne hE e1) hb3 _ hP2 hr2).mono ?_; rintro e w3 ⟨rfl, hk3, hP3, hr3⟩; have kk3 : w.grownBy w3 (some g) := kk2.trans hk3; have hs3 : w.heap.size ≤ w3.heap.size := kk3.size; have br3 : Bx w3 (w.heap.size) 65 #[.string ⟨#[]⟩, .bool false, .int .i64 0, .int .i64 0, .int .u64 0, .string ⟨#[]⟩] := Bx.kp br2 hk3 (by omega); have lr3 := br3.lt; have bx3 : Bx w3 (w1.heap.size) 65 #[.string c, .bool false, .int .i64 0, .int .i64 0, .int .u64 0, .string ⟨#[]⟩] := Bx.kp bx2 hk3 (by omega); have lx3 := bx3.lt; have nrx3 : ¬ w.heap.size = w1.heap.size := (by omega); have nxr3 : ¬ w1.heap.size = w.heap.size := (by omega); have cx3_1 : w3.cell? ⟨w1.heap.size, 1, none⟩ = some (.bool false) := bx3.cell 1 _ rfl; have fx3_1 := bx3.open 1)
    | (go_at_call 34; have hz := kk1; clear hz; refine (take_1 hE (by decide) _ ((hP1.alloc _).alloc _) (Bx.newB (by simp)) (by omega)).mono ?_; intro e w2 hT2; obtain ⟨u2, j2, rfl, hk2, hj2, hP2, hr2, hV2⟩ := tells_yes hT2 hr1 e2; obtain rfl : u2 = .tuple #[] := hV2; have kk2 : w.grownBy w2 (some g) := (kp_alloc (kp_alloc kk1 _) _).trans hk2; have hs2 : w.heap.size ≤ w2.heap.size := kk2.size; have br2 : Bx w2 (w.heap.size) 65 #[.string ⟨#[]⟩, .bool false, .int .i64 0, .int .i64 0, .int .u64 0, .string ⟨#[]⟩] := Bx.kp ((br1.alloc _).alloc _) hk2 (by omega); have lr2 := br2.lt; have bx2 : Bx w2 (w1.heap.size) 65 #[.string c, .bool false, .int .i64 0, .int .i64 0, .int .u64 0, .string ⟨#[]⟩] := Bx.kp ((Bx.newB (by simp) : Bx _ (w1.heap.size) 65 #[.string c, .bool false, .int .i64 0, .int .i64 0, .int .u64 0, .string ⟨#[]⟩]).alloc _) hk2 (by omega); have lx2 := bx2.lt; have nrx2 : ¬ w.heap.size = w1.heap.size := (by omega); have nxr2 : ¬ w1.heap.size = w.heap.size := (by omega); have cx2_0 : w2.cell? ⟨w1.heap.size, 0, none⟩ = some (.string c) := bx2.cell 0 _ rfl)
    | (go_at_call 55; refine (sqreadName_any hE _ (hP.alloc _)).mono ?_; intro e w1 hT1; obtain ⟨u1, j1, rfl, hk1, hj1, hP1, hr1, hV1⟩ := tells_yes hT1 rfl e1; obtain rfl : u1 = .string c := hV1; have kk1 : w.grownBy w1 (some g) := (kp_alloc (World.grownBy.refl w (some g)) _).trans hk1; have hs1 : w.heap.size ≤ w1.heap.size := kk1.size; have br1 : Bx w1 (w.heap.size) 65 #[.string ⟨#[]⟩, .bool false, .int .i64 0, .int .i64 0, .int .u64 0, .string ⟨#[]⟩] := Bx.kp (Bx.newB (by simp) : Bx _ (w.heap.size) 65 #[.string ⟨#[]⟩, .bool false, .int .i64 0, .int .i64 0, .int .u64 0, .string ⟨#[]⟩]) hk1 (by omega); have lr1 := br1.lt))
  refine ⟨rfl, ?_⟩
  rw [HO.out]
  exact ⟨kk4.trans hk5, j5, Nat.le_trans (Nat.le_trans (Nat.le_succ_of_le (Nat.le_trans (Nat.le_trans (Nat.le_refl i) hj1) hj2)) hj4) hj5, hP5, hr5, rfl⟩
set_option maxHeartbeats 1000000 in
theorem sqreadSet_w4 {g : Nat} {v : Value} {l : List Tok} (hE : EndK l) {i : Nat}  {c : ByteArray} {q1 : List TkC} {q2 : List TkC} {q4 : List TkC} {vk : Int} {vn : Int} {vf : Nat} {vs : ByteArray} {q5 : List TkC} (e1 : nameR (rem l i) = (some c, q1)) (e2 : takeR ⟨#[61]⟩ q1 = (some (), q2)) (hb3 : isT c q2 = true) (e4 : takeR ⟨#[43]⟩ q2.tail = (some (), q4)) (e5 : valueR q4 = (some ⟨vk, vn, vf, vs⟩, q5)) (w : World) (hP : PAt g v l i w) :
    Calls Tryz.prog 60 #[.pointer (some ⟨g, 0, none⟩)] w (Tells g v l i w VT (setR (rem l i))) := by
  have hg0 := hP.g_lt
  have HO : Hid (setR (rem l i) = (some ⟨c, true, ⟨vk, vn, vf, vs⟩⟩, q5)) := by
    unfold Hid
    simp only [setR, bnd, opt, ret, e1, e2, hb3, if_true, e4, e5]
  go_enter Tryz.func60, Tryz.ntmps60
  go_wp2_with (first
    | (go_at_call 58; have hz := kk4; clear hz; refine (sqreadValue_any hE _ hP4).mono ?_; intro e w5 hT5; obtain ⟨u5, j5, rfl, hk5, hj5, hP5, hr5, hV5⟩ := tells_yes hT5 hr4 e5; obtain rfl : u5 = .agg #[.int .i64 vk, .int .i64 vn, .int .u64 (vf : Int), .string vs] := hV5; have kk5 : w.grownBy w5 (some g) := kk4.trans hk5; have hs5 : w.heap.size ≤ w5.heap.size := kk5.size; have br5 : Bx w5 (w.heap.size) 65 #[.string ⟨#[]⟩, .bool false, .int .i64 0, .int .i64 0, .int .u64 0, .string ⟨#[]⟩] := Bx.kp br4 hk5 (by omega); have lr5 := br5.lt; have bx5 : Bx w5 (w1.heap.size) 65 #[.string c, .bool true, .int .i64 0, .int .i64 0, .int .u64 0, .string ⟨#[]⟩] := Bx.kp bx4 hk5 (by omega); have lx5 := bx5.lt; have nrx5 : ¬ w.heap.size = w1.heap.size := (by omega); have nxr5 : ¬ w1.heap.size = w.heap.size := (by omega); have cx5_2 : w5.cell? ⟨w1.heap.size, 2, none⟩ = some (.int .i64 0) := bx5.cell 2 _ rfl; have fx5_2 := bx5.open 2; have cx5_3 : w5.cell? ⟨w1.heap.size, 3, none⟩ = some (.int .i64 0) := bx5.cell 3 _ rfl; have fx5_3 := bx5.open 3; have cx5_4 : w5.cell? ⟨w1.heap.size, 4, none⟩ = some (.int .u64 0) := bx5.cell 4 _ rfl; have fx5_4 := bx5.open 4; have cx5_5 : w5.cell? ⟨w1.heap.size, 5, none⟩ = some (.string ⟨#[]⟩) := bx5.cell 5 _ rfl; have fx5_5 := bx5.open 5; have cx5_0 : w5.cell? ⟨w1.heap.size, 0, none⟩ = some (.string c) := bx5.cell 0 _ rfl; have cx5_1 : w5.cell? ⟨w1.heap.size, 1, none⟩ = some (.bool true) := bx5.cell 1 _ rfl; have cr5_0 : w5.cell? ⟨w.heap.size, 0, none⟩ = some (.string ⟨#[]⟩) := br5.cell 0 _ rfl; have fr5_0 := br5.open 0; have cr5_1 : w5.cell? ⟨w.heap.size, 1, none⟩ = some (.bool false) := br5.cell 1 _ rfl; have fr5_1 := br5.open 1; have cr5_2 : w5.cell? ⟨w.heap.size, 2, none⟩ = some (.int .i64 0) := br5.cell 2 _ rfl; have fr5_2 := br5.open 2; have cr5_3 : w5.cell? ⟨w.heap.size, 3, none⟩ = some (.int .i64 0) := br5.cell 3 _ rfl; have fr5_3 := br5.open 3; have cr5_4 : w5.cell? ⟨w.heap.size, 4, none⟩ = some (.int .u64 0) := br5.cell 4 _ rfl; have fr5_4 := br5.open 4; have cr5_5 : w5.cell? ⟨w.heap.size, 5, none⟩ = some (.string ⟨#[]⟩) := br5.cell 5 _ rfl; have fr5_5 := br5.open 5)
    | (go_at_call 34; have hz := kk3; clear hz; refine (take_1 hE (by decide) _ ((hP3.set bx3 (by decide) (by omega) 1 (.bool true)).alloc _) (Bx.newB (by simp)) (by omega)).mono ?_; intro e w4 hT4; obtain ⟨u4, j4, rfl, hk4, hj4, hP4, hr4, hV4⟩ := tells_yes hT4 hr3 e4; obtain rfl : u4 = .tuple #[] := hV4; have kk4 : w.grownBy w4 (some g) := (kp_alloc (kp_set kk3 (by omega) 1 (.bool true)) _).trans hk4; have hs4 : w.heap.size ≤ w4.heap.size := kk4.size; have br4 : Bx w4 (w.heap.size) 65 #[.string ⟨#[]⟩, .bool false, .int .i64 0, .int .i64 0, .int .u64 0, .string ⟨#[]⟩] := Bx.kp ((br3.other (by omega) 1 (.bool true)).alloc _) hk4 (by omega); have lr4 := br4.lt; have bx4 : Bx w4 (w1.heap.size) 65 #[.string c, .bool true, .int .i64 0, .int .i64 0, .int .u64 0, .string ⟨#[]⟩] := Bx.kp ((bx3.set 1 (.bool true)).alloc _) hk4 (by omega); have lx4 := bx4.lt; have nrx4 : ¬ w.heap.size = w1.heap.size := (by omega); have nxr4 : ¬ w1.heap.size = w.heap.size := (by omega))
    | (go_at_call 27; have hz := kk2; clear hz; refine (took_yes hE (name_ne hE e1) hb3 _ hP2 hr2).mono ?_; rintro e w3 ⟨rfl, hk3, hP3, hr3⟩; have kk3 : w.grownBy w3 (some g) := kk2.trans hk3; have hs3 : w.heap.size ≤ w3.heap.size := kk3.size; have br3 : Bx w3 (w.heap.size) 65 #[.string ⟨#[]⟩, .bool false, .int .i64 0, .int .i64 0, .int .u64 0, .string ⟨#[]⟩] := Bx.kp br2 hk3 (by omega); have lr3 := br3.lt; have bx3 : Bx w3 (w1.heap.size) 65 #[.string c, .bool false, .int .i64 0, .int .i64 0, .int .u64 0, .string ⟨#[]⟩] := Bx.kp bx2 hk3 (by omega); have lx3 := bx3.lt; have nrx3 : ¬ w.heap.size = w1.heap.size := (by omega); have nxr3 : ¬ w1.heap.size = w.heap.size := (by omega); have cx3_1 : w3.cell? ⟨w1.heap.size, 1, none⟩ = some (.bool false) := bx3.cell 1 _ rfl; have fx3_1 := bx3.open 1)
    | (go_at_call 34; have hz := kk1; clear hz; refine (take_1 hE (by decide) _ ((hP1.alloc _).alloc _) (Bx.newB (by simp)) (by omega)).mono ?_; intro e w2 hT2; obtain ⟨u2, j2, rfl, hk2, hj2, hP2, hr2, hV2⟩ := tells_yes hT2 hr1 e2; obtain rfl : u2 = .tuple #[] := hV2; have kk2 : w.grownBy w2 (some g) := (kp_alloc (kp_alloc kk1 _) _).trans hk2; have hs2 : w.heap.size ≤ w2.heap.size := kk2.size; have br2 : Bx w2 (w.heap.size) 65 #[.string ⟨#[]⟩, .bool false, .int .i64 0, .int .i64 0, .int .u64 0, .string ⟨#[]⟩] := Bx.kp ((br1.alloc _).alloc _) hk2 (by omega); have lr2 := br2.lt; have bx2 : Bx w2 (w1.heap.size) 65 #[.string c, .bool false, .int .i64 0, .int .i64 0, .int .u64 0, .string ⟨#[]⟩] := Bx.kp ((Bx.newB (by simp) : Bx _ (w1.heap.size) 65 #[.string c, .bool false, .int .i64 0, .int .i64 0, .int .u64 0, .string ⟨#[]⟩]).alloc _) hk2 (by omega); have lx2 := bx2.lt; have nrx2 : ¬ w.heap.size = w1.heap.size := (by omega); have nxr2 : ¬ w1.heap.size = w.heap.size := (by omega); have cx2_0 : w2.cell? ⟨w1.heap.size, 0, none⟩ = some (.string c) := bx2.cell 0 _ rfl)
    | (go_at_call 55; refine (sqreadName_any hE _ (hP.alloc _)).mono ?_; intro e w1 hT1; obtain ⟨u1, j1, rfl, hk1, hj1, hP1, hr1, hV1⟩ := tells_yes hT1 rfl e1; obtain rfl : u1 = .string c := hV1; have kk1 : w.grownBy w1 (some g) := (kp_alloc (World.grownBy.refl w (some g)) _).trans hk1; have hs1 : w.heap.size ≤ w1.heap.size := kk1.size; have br1 : Bx w1 (w.heap.size) 65 #[.string ⟨#[]⟩, .bool false, .int .i64 0, .int .i64 0, .int .u64 0, .string ⟨#[]⟩] := Bx.kp (Bx.newB (by simp) : Bx _ (w.heap.size) 65 #[.string ⟨#[]⟩, .bool false, .int .i64 0, .int .i64 0, .int .u64 0, .string ⟨#[]⟩]) hk1 (by omega); have lr1 := br1.lt))
  refine bodyPost_ret (v := .agg #[.string c, .bool true, .int .i64 vk, .int .i64 vn, .int .u64 (vf : Int), .string vs]) (by simp [results, Tryz.results60, go_sem, cr5_0, cr5_1, cr5_2, cr5_3, cr5_4, cr5_5]) rfl ?_
  rw [HO.out]
  exact ⟨(kp_sets (kp_set (kp_set (kp_set (kp_set kk5 (by omega) 2 (.int .i64 vk)) (by omega) 3 (.int .i64 vn)) (by omega) 4 (.int .u64 (vf : Int))) (by omega) 5 (.string vs)) (by omega) 0 [.string c, .bool true, .int .i64 vk, .int .i64 vn, .int .u64 (vf : Int), .string vs]), j5, (Nat.le_trans (Nat.le_trans (Nat.le_succ_of_le (Nat.le_trans (Nat.le_trans (Nat.le_refl i) hj1) hj2)) hj4) hj5), (PAt.sets ((((hP5.set bx5 (by decide) (by omega) 2 (.int .i64 vk)).set (bx5.set 2 (.int .i64 vk)) (by decide) (by omega) 3 (.int .i64 vn)).set ((bx5.set 2 (.int .i64 vk)).set 3 (.int .i64 vn)) (by decide) (by omega) 4 (.int .u64 (vf : Int))).set (((bx5.set 2 (.int .i64 vk)).set 3 (.int .i64 vn)).set 4 (.int .u64 (vf : Int))) (by decide) (by omega) 5 (.string vs)) ((((br5.other (by omega) 2 (.int .i64 vk)).other (by omega) 3 (.int .i64 vn)).other (by omega) 4 (.int .u64 (vf : Int))).other (by omega) 5 (.string vs)) (by decide) (by omega) 0 [.string c, .bool true, .int .i64 vk, .int .i64 vn, .int .u64 (vf : Int), .string vs]), hr5, _, rfl, rfl⟩
set_option maxHeartbeats 1000000 in
theorem sqreadSet_w5 {g : Nat} {v : Value} {l : List Tok} (hE : EndK l) {i : Nat}  {c : ByteArray} {q1 : List TkC} {q2 : List TkC} {q4 : List TkC} (e1 : nameR (rem l i) = (some c, q1)) (e2 : takeR ⟨#[61]⟩ q1 = (some (), q2)) (hb3 : isT c q2 = false) (e4 : valueR q2 = (none, q4)) (w : World) (hP : PAt g v l i w) :
    Calls Tryz.prog 60 #[.pointer (some ⟨g, 0, none⟩)] w (Tells g v l i w VT (setR (rem l i))) := by
  have hg0 := hP.g_lt
  have HO : Hid (setR (rem l i) = (none, q4)) := by
    unfold Hid
    simp only [setR, bnd, opt, ret, e1, e2, hb3, Bool.false_eq_true, if_false, e4]
  go_enter Tryz.func60, Tryz.ntmps60
  go_wp2_with (first
    | (go_at_call 58; have hz := kk3; clear hz; refine (sqreadValue_any hE _ hP3).mono ?_; intro e w4 hT4; obtain ⟨j4, rfl, hk4, hj4, hP4, hr4⟩ := tells_no hT4 hr2 e4)
    | (go_at_call 27; have hz := kk2; clear hz; refine (took_no hb3 _ hP2 hr2).mono ?_; rintro e w3 ⟨rfl, hk3, hP3⟩; have kk3 : w.grownBy w3 (some g) := kk2.trans hk3; have hs3 : w.heap.size ≤ w3.heap.size := kk3.size; have br3 : Bx w3 (w.heap.size) 65 #[.string ⟨#[]⟩, .bool false, .int .i64 0, .int .i64 0, .int .u64 0, .string ⟨#[]⟩] := Bx.kp br2 hk3 (by omega); have lr3 := br3.lt; have bx3 : Bx w3 (w1.heap.size) 65 #[.string c, .bool false, .int .i64 0, .int .i64 0, .int .u64 0, .string ⟨#[]⟩] := Bx.kp bx2 hk3 (by omega); have lx3 := bx3.lt; have nrx3 : ¬ w.heap.size = w1.heap.size := (by omega); have nxr3 : ¬ w1.heap.size = w.heap.size := (by omega))
    | (go_at_call 34; have hz := kk1; clear hz; refine (take_1 hE (by decide) _ ((hP1.alloc _).alloc _) (Bx.newB (by simp)) (by omega)).mono ?_; intro e w2 hT2; obtain ⟨u2, j2, rfl, hk2, hj2, hP2, hr2, hV2⟩ := tells_yes hT2 hr1 e2; obtain rfl : u2 = .tuple #[] := hV2; have kk2 : w.grownBy w2 (some g) := (kp_alloc (kp_alloc kk1 _) _).trans hk2; have hs2 : w.heap.size ≤ w2.heap.size := kk2.size; have br2 : Bx w2 (w.heap.size) 65 #[.string ⟨#[]⟩, .bool false, .int .i64 0, .int .i64 0, .int .u64 0, .string ⟨#[]⟩] := Bx.kp ((br1.alloc _).alloc _) hk2 (by omega); have lr2 := br2.lt; have bx2 : Bx w2 (w1.heap.size) 65 #[.string c, .bool false, .int .i64 0, .int .i64 0, .int .u64 0, .string ⟨#[]⟩] := Bx.kp ((Bx.newB (by simp) : Bx _ (w1.heap.size) 65 #[.string c, .bool false, .int .i64 0, .int .i64 0, .int .u64 0, .string ⟨#[]⟩]).alloc _) hk2 (by omega); have lx2 := bx2.lt; have nrx2 : ¬ w.heap.size = w1.heap.size := (by omega); have nxr2 : ¬ w1.heap.size = w.heap.size := (by omega); have cx2_0 : w2.cell? ⟨w1.heap.size, 0, none⟩ = some (.string c) := bx2.cell 0 _ rfl)
    | (go_at_call 55; refine (sqreadName_any hE _ (hP.alloc _)).mono ?_; intro e w1 hT1; obtain ⟨u1, j1, rfl, hk1, hj1, hP1, hr1, hV1⟩ := tells_yes hT1 rfl e1; obtain rfl : u1 = .string c := hV1; have kk1 : w.grownBy w1 (some g) := (kp_alloc (World.grownBy.refl w (some g)) _).trans hk1; have hs1 : w.heap.size ≤ w1.heap.size := kk1.size; have br1 : Bx w1 (w.heap.size) 65 #[.string ⟨#[]⟩, .bool false, .int .i64 0, .int .i64 0, .int .u64 0, .string ⟨#[]⟩] := Bx.kp (Bx.newB (by simp) : Bx _ (w.heap.size) 65 #[.string ⟨#[]⟩, .bool false, .int .i64 0, .int .i64 0, .int .u64 0, .string ⟨#[]⟩]) hk1 (by omega); have lr1 := br1.lt))
  refine ⟨rfl, ?_⟩
  rw [HO.out]
  exact ⟨kk3.trans hk4, j4, Nat.le_trans (Nat.le_trans (Nat.le_trans (Nat.le_refl i) hj1) hj2) hj4, hP4, hr4, rfl⟩
set_option maxHeartbeats 1000000 in
theorem sqreadSet_w6 {g : Nat} {v : Value} {l : List Tok} (hE : EndK l) {i : Nat}  {c : ByteArray} {q1 : List TkC} {q2 : List TkC} {vk : Int} {vn : Int} {vf : Nat} {vs : ByteArray} {q4 : List TkC} (e1 : nameR (rem l i) = (some c, q1)) (e2 : takeR ⟨#[61]⟩ q1 = (some (), q2)) (hb3 : isT c q2 = false) (e4 : valueR q2 = (some ⟨vk, vn, vf, vs⟩, q4)) (w : World) (hP : PAt g v l i w) :
    Calls Tryz.prog 60 #[.pointer (some ⟨g, 0, none⟩)] w (Tells g v l i w VT (setR (rem l i))) := by
  have hg0 := hP.g_lt
  have HO : Hid (setR (rem l i) = (some ⟨c, false, ⟨vk, vn, vf, vs⟩⟩, q4)) := by
    unfold Hid
    simp only [setR, bnd, opt, ret, e1, e2, hb3, Bool.false_eq_true, if_false, e4]
  go_enter Tryz.func60, Tryz.ntmps60
  go_wp2_with (first
    | (go_at_call 58; have hz := kk3; clear hz; refine (sqreadValue_any hE _ hP3).mono ?_; intro e w4 hT4; obtain ⟨u4, j4, rfl, hk4, hj4, hP4, hr4, hV4⟩ := tells_yes hT4 hr2 e4; obtain rfl : u4 = .agg #[.int .i64 vk, .int .i64 vn, .int .u64 (vf : Int), .string vs] := hV4; have kk4 : w.grownBy w4 (some g) := kk3.trans hk4; have hs4 : w.heap.size ≤ w4.heap.size := kk4.size; have br4 : Bx w4 (w.heap.size) 65 #[.string ⟨#[]⟩, .bool false, .int .i64 0, .int .i64 0, .int .u64 0, .string ⟨#[]⟩] := Bx.kp br3 hk4 (by omega); have lr4 := br4.lt; have bx4 : Bx w4 (w1.heap.size) 65 #[.string c, .bool false, .int .i64 0, .int .i64 0, .int .u64 0, .string ⟨#[]⟩] := Bx.kp bx3 hk4 (by omega); have lx4 := bx4.lt; have nrx4 : ¬ w.heap.size = w1.heap.size := (by omega); have nxr4 : ¬ w1.heap.size = w.heap.size := (by omega); have cx4_2 : w4.cell? ⟨w1.heap.size, 2, none⟩ = some (.int .i64 0) := bx4.cell 2 _ rfl; have fx4_2 := bx4.open 2; have cx4_3 : w4.cell? ⟨w1.heap.size, 3, none⟩ = some (.int .i64 0) := bx4.cell 3 _ rfl; have fx4_3 := bx4.open 3; have cx4_4 : w4.cell? ⟨w1.heap.size, 4, none⟩ = some (.int .u64 0) := bx4.cell 4 _ rfl; have fx4_4 := bx4.open 4; have cx4_5 : w4.cell? ⟨w1.heap.size, 5, none⟩ = some (.string ⟨#[]⟩) := bx4.cell 5 _ rfl; have fx4_5 := bx4.open 5; have cx4_0 : w4.cell? ⟨w1.heap.size, 0, none⟩ = some (.string c) := bx4.cell 0 _ rfl; have cx4_1 : w4.cell? ⟨w1.heap.size, 1, none⟩ = some (.bool false) := bx4.cell 1 _ rfl; have cr4_0 : w4.cell? ⟨w.heap.size, 0, none⟩ = some (.string ⟨#[]⟩) := br4.cell 0 _ rfl; have fr4_0 := br4.open 0; have cr4_1 : w4.cell? ⟨w.heap.size, 1, none⟩ = some (.bool false) := br4.cell 1 _ rfl; have fr4_1 := br4.open 1; have cr4_2 : w4.cell? ⟨w.heap.size, 2, none⟩ = some (.int .i64 0) := br4.cell 2 _ rfl; have fr4_2 := br4.open 2; have cr4_3 : w4.cell? ⟨w.heap.size, 3, none⟩ = some (.int .i64 0) := br4.cell 3 _ rfl; have fr4_3 := br4.open 3; have cr4_4 : w4.cell? ⟨w.heap.size, 4, none⟩ = some (.int .u64 0) := br4.cell 4 _ rfl; have fr4_4 := br4.open 4; have cr4_5 : w4.cell? ⟨w.heap.size, 5, none⟩ = some (.string ⟨#[]⟩) := br4.cell 5 _ rfl; have fr4_5 := br4.open 5)
    | (go_at_call 27; have hz := kk2; clear hz; refine (took_no hb3 _ hP2 hr2).mono ?_; rintro e w3 ⟨rfl, hk3, hP3⟩; have kk3 : w.grownBy w3 (some g) := kk2.trans hk3; have hs3 : w.heap.size ≤ w3.heap.size := kk3.size; have br3 : Bx w3 (w.heap.size) 65 #[.string ⟨#[]⟩, .bool false, .int .i64 0, .int .i64 0, .int .u64 0, .string ⟨#[]⟩] := Bx.kp br2 hk3 (by omega); have lr3 := br3.lt; have bx3 : Bx w3 (w1.heap.size) 65 #[.string c, .bool false, .int .i64 0, .int .i64 0, .int .u64 0, .string ⟨#[]⟩] := Bx.kp bx2 hk3 (by omega); have lx3 := bx3.lt; have nrx3 : ¬ w.heap.size = w1.heap.size := (by omega); have nxr3 : ¬ w1.heap.size = w.heap.size := (by omega))
    | (go_at_call 34; have hz := kk1; clear hz; refine (take_1 hE (by decide) _ ((hP1.alloc _).alloc _) (Bx.newB (by simp)) (by omega)).mono ?_; intro e w2 hT2; obtain ⟨u2, j2, rfl, hk2, hj2, hP2, hr2, hV2⟩ := tells_yes hT2 hr1 e2; obtain rfl : u2 = .tuple #[] := hV2; have kk2 : w.grownBy w2 (some g) := (kp_alloc (kp_alloc kk1 _) _).trans hk2; have hs2 : w.heap.size ≤ w2.heap.size := kk2.size; have br2 : Bx w2 (w.heap.size) 65 #[.string ⟨#[]⟩, .bool false, .int .i64 0, .int .i64 0, .int .u64 0, .string ⟨#[]⟩] := Bx.kp ((br1.alloc _).alloc _) hk2 (by omega); have lr2 := br2.lt; have bx2 : Bx w2 (w1.heap.size) 65 #[.string c, .bool false, .int .i64 0, .int .i64 0, .int .u64 0, .string ⟨#[]⟩] := Bx.kp ((Bx.newB (by simp) : Bx _ (w1.heap.size) 65 #[.string c, .bool false, .int .i64 0, .int .i64 0, .int .u64 0, .string ⟨#[]⟩]).alloc _) hk2 (by omega); have lx2 := bx2.lt; have nrx2 : ¬ w.heap.size = w1.heap.size := (by omega); have nxr2 : ¬ w1.heap.size = w.heap.size := (by omega); have cx2_0 : w2.cell? ⟨w1.heap.size, 0, none⟩ = some (.string c) := bx2.cell 0 _ rfl)
    | (go_at_call 55; refine (sqreadName_any hE _ (hP.alloc _)).mono ?_; intro e w1 hT1; obtain ⟨u1, j1, rfl, hk1, hj1, hP1, hr1, hV1⟩ := tells_yes hT1 rfl e1; obtain rfl : u1 = .string c := hV1; have kk1 : w.grownBy w1 (some g) := (kp_alloc (World.grownBy.refl w (some g)) _).trans hk1; have hs1 : w.heap.size ≤ w1.heap.size := kk1.size; have br1 : Bx w1 (w.heap.size) 65 #[.string ⟨#[]⟩, .bool false, .int .i64 0, .int .i64 0, .int .u64 0, .string ⟨#[]⟩] := Bx.kp (Bx.newB (by simp) : Bx _ (w.heap.size) 65 #[.string ⟨#[]⟩, .bool false, .int .i64 0, .int .i64 0, .int .u64 0, .string ⟨#[]⟩]) hk1 (by omega); have lr1 := br1.lt))
  refine bodyPost_ret (v := .agg #[.string c, .bool false, .int .i64 vk, .int .i64 vn, .int .u64 (vf : Int), .string vs]) (by simp [results, Tryz.results60, go_sem, cr4_0, cr4_1, cr4_2, cr4_3, cr4_4, cr4_5]) rfl ?_
  rw [HO.out]
  exact ⟨(kp_sets (kp_set (kp_set (kp_set (kp_set kk4 (by omega) 2 (.int .i64 vk)) (by omega) 3 (.int .i64 vn)) (by omega) 4 (.int .u64 (vf : Int))) (by omega) 5 (.string vs)) (by omega) 0 [.string c, .bool false, .int .i64 vk, .int .i64 vn, .int .u64 (vf : Int), .string vs]), j4, (Nat.le_trans (Nat.le_trans (Nat.le_trans (Nat.le_refl i) hj1) hj2) hj4), (PAt.sets ((((hP4.set bx4 (by decide) (by omega) 2 (.int .i64 vk)).set (bx4.set 2 (.int .i64 vk)) (by decide) (by omega) 3 (.int .i64 vn)).set ((bx4.set 2 (.int .i64 vk)).set 3 (.int .i64 vn)) (by decide) (by omega) 4 (.int .u64 (vf : Int))).set (((bx4.set 2 (.int .i64 vk)).set 3 (.int .i64 vn)).set 4 (.int .u64 (vf : Int))) (by decide) (by omega) 5 (.string vs)) ((((br4.other (by omega) 2 (.int .i64 vk)).other (by omega) 3 (.int .i64 vn)).other (by omega) 4 (.int .u64 (vf : Int))).other (by omega) 5 (.string vs)) (by decide) (by omega) 0 [.string c, .bool false, .int .i64 vk, .int .i64 vn, .int .u64 (vf : Int), .string vs]), hr4, _, rfl, rfl⟩
theorem sqreadSet_any {g : Nat} {v : Value} {l : List Tok} (hE : EndK l) {i : Nat}  (w : World) (hP : PAt g v l i w) :
    Calls Tryz.prog 60 #[.pointer (some ⟨g, 0, none⟩)] w (Tells g v l i w VT (setR (rem l i))) := by
  rcases e1 : nameR (rem l i) with ⟨o1, q1⟩
  cases o1 with
  | none =>
    exact sqreadSet_w0 hE e1 w hP
  | some c =>
    rcases e2 : takeR ⟨#[61]⟩ q1 with ⟨o2, q2⟩
    cases o2 with
    | none =>
      exact sqreadSet_w1 hE e1 e2 w hP
    | some a2 =>
      cases a2
      rcases Bool.eq_false_or_eq_true (isT c q2) with hb3 | hb3
      · rcases e4 : takeR ⟨#[43]⟩ q2.tail with ⟨o4, q4⟩
        cases o4 with
        | none =>
          exact sqreadSet_w2 hE e1 e2 hb3 e4 w hP
        | some a4 =>
          cases a4
          rcases e5 : valueR q4 with ⟨o5, q5⟩
          cases o5 with
          | none =>
            exact sqreadSet_w3 hE e1 e2 hb3 e4 e5 w hP
          | some a5 =>
            obtain ⟨vk, vn, vf, vs⟩ := a5
            exact sqreadSet_w4 hE e1 e2 hb3 e4 e5 w hP
      · rcases e4 : valueR q2 with ⟨o4, q4⟩
        cases o4 with
        | none =>
          exact sqreadSet_w5 hE e1 e2 hb3 e4 w hP
        | some a4 =>
          obtain ⟨vk, vn, vf, vs⟩ := a4
          exact sqreadSet_w6 hE e1 e2 hb3 e4 w hP
set_option maxHeartbeats 400000 in
theorem sqreadColumn_w0 {g : Nat} {v : Value} {l : List Tok} (hE : EndK l) {i : Nat}  {q1 : List TkC} (e1 : nameR (rem l i) = (none, q1)) (w : World) (hP : PAt g v l i w) :
    Calls Tryz.prog 105 #[.pointer (some ⟨g, 0, none⟩)] w (Tells g v l i w VP (columnR (rem l i))) := by
  have hg0 := hP.g_lt
  have HO : Hid (columnR (rem l i) = (none, q1)) := by
    unfold Hid
    simp only [columnR, bnd, opt, ret, e1]
  go_enter Tryz.func105, Tryz.ntmps105
  go_wp2_with (first
    | (go_at_call 55; refine (sqreadName_any hE _ (hP.alloc _)).mono ?_; intro e w1 hT1; obtain ⟨j1, rfl, hk1, hj1, hP1, hr1⟩ := tells_no hT1 rfl e1))
  refine ⟨rfl, ?_⟩
  rw [HO.out]
  exact ⟨(kp_alloc (World.grownBy.refl w (some g)) _).trans hk1, j1, Nat.le_trans (Nat.le_refl i) hj1, hP1, hr1, rfl⟩
set_option maxHeartbeats 400000 in
theorem sqreadColumn_w1 {g : Nat} {v : Value} {l : List Tok} (hE : EndK l) {i : Nat}  {c : ByteArray} {q1 : List TkC} {q2 : List TkC} (e1 : nameR (rem l i) = (some c, q1)) (e2 : typeR q1 = (none, q2)) (w : World) (hP : PAt g v l i w) :
    Calls Tryz.prog 105 #[.pointer (some ⟨g, 0, none⟩)] w (Tells g v l i w VP (columnR (rem l i))) := by
  have hg0 := hP.g_lt
  have HO : Hid (columnR (rem l i) = (none, q2)) := by
    unfold Hid
    simp only [columnR, bnd, opt, ret, e1, e2]
  go_enter Tryz.func105, Tryz.ntmps105
  go_wp2_with (first
    | (go_at_call 107; have hz := kk1; clear hz; refine (sqreadType_any hE _ hP1).mono ?_; intro e w2 hT2; obtain ⟨j2, rfl, hk2, hj2, hP2, hr2⟩ := tells_no hT2 hr1 e2)
    | (go_at_call 55; refine (sqreadName_any hE _ (hP.alloc _)).mono ?_; intro e w1 hT1; obtain ⟨u1, j1, rfl, hk1, hj1, hP1, hr1, hV1⟩ := tells_yes hT1 rfl e1; obtain rfl : u1 = .string c := hV1; have kk1 : w.grownBy w1 (some g) := (kp_alloc (World.grownBy.refl w (some g)) _).trans hk1; have hs1 : w.heap.size ≤ w1.heap.size := kk1.size; have br1 : Bx w1 (w.heap.size) 126 #[.string ⟨#[]⟩, .int .i64 0] := Bx.kp (Bx.newB (by simp) : Bx _ (w.heap.size) 126 #[.string ⟨#[]⟩, .int .i64 0]) hk1 (by omega); have lr1 := br1.lt))
  refine ⟨rfl, ?_⟩
  rw [HO.out]
  exact ⟨kk1.trans hk2, j2, Nat.le_trans (Nat.le_trans (Nat.le_refl i) hj1) hj2, hP2, hr2, rfl⟩
set_option maxHeartbeats 400000 in
theorem sqreadColumn_w2 {g : Nat} {v : Value} {l : List Tok} (hE : EndK l) {i : Nat}  {c : ByteArray} {q1 : List TkC} {k : Int} {q2 : List TkC} (e1 : nameR (rem l i) = (some c, q1)) (e2 : typeR q1 = (some k, q2)) (w : World) (hP : PAt g v l i w) :
    Calls Tryz.prog 105 #[.pointer (some ⟨g, 0, none⟩)] w (Tells g v l i w VP (columnR (rem l i))) := by
  have hg0 := hP.g_lt
  have HO : Hid (columnR (rem l i) = (some (c, k), q2)) := by
    unfold Hid
    simp only [columnR, bnd, opt, ret, e1, e2]
  go_enter Tryz.func105, Tryz.ntmps105
  go_wp2_with (first
    | (go_at_call 107; have hz := kk1; clear hz; refine (sqreadType_any hE _ hP1).mono ?_; intro e w2 hT2; obtain ⟨u2, j2, rfl, hk2, hj2, hP2, hr2, hV2⟩ := tells_yes hT2 hr1 e2; obtain rfl : u2 = .int .i64 k := hV2; have kk2 : w.grownBy w2 (some g) := kk1.trans hk2; have hs2 : w.heap.size ≤ w2.heap.size := kk2.size; have br2 : Bx w2 (w.heap.size) 126 #[.string ⟨#[]⟩, .int .i64 0] := Bx.kp br1 hk2 (by omega); have lr2 := br2.lt; have cr2_0 : w2.cell? ⟨w.heap.size, 0, none⟩ = some (.string ⟨#[]⟩) := br2.cell 0 _ rfl; have fr2_0 := br2.open 0; have cr2_1 : w2.cell? ⟨w.heap.size, 1, none⟩ = some (.int .i64 0) := br2.cell 1 _ rfl; have fr2_1 := br2.open 1)
    | (go_at_call 55; refine (sqreadName_any hE _ (hP.alloc _)).mono ?_; intro e w1 hT1; obtain ⟨u1, j1, rfl, hk1, hj1, hP1, hr1, hV1⟩ := tells_yes hT1 rfl e1; obtain rfl : u1 = .string c := hV1; have kk1 : w.grownBy w1 (some g) := (kp_alloc (World.grownBy.refl w (some g)) _).trans hk1; have hs1 : w.heap.size ≤ w1.heap.size := kk1.size; have br1 : Bx w1 (w.heap.size) 126 #[.string ⟨#[]⟩, .int .i64 0] := Bx.kp (Bx.newB (by simp) : Bx _ (w.heap.size) 126 #[.string ⟨#[]⟩, .int .i64 0]) hk1 (by omega); have lr1 := br1.lt))
  refine bodyPost_ret (v := .agg #[.string c, .int .i64 k]) (by simp [results, Tryz.results105, go_sem, cr2_0, cr2_1]) rfl ?_
  rw [HO.out]
  exact ⟨(kp_set (kp_set kk2 (by omega) 0 (.string c)) (by omega) 1 (.int .i64 k)), j2, (Nat.le_trans (Nat.le_trans (Nat.le_refl i) hj1) hj2), ((hP2.set br2 (by decide) (by omega) 0 (.string c)).set (br2.set 0 (.string c)) (by decide) (by omega) 1 (.int .i64 k)), hr2, _, rfl, rfl⟩
theorem sqreadColumn_any {g : Nat} {v : Value} {l : List Tok} (hE : EndK l) {i : Nat}  (w : World) (hP : PAt g v l i w) :
    Calls Tryz.prog 105 #[.pointer (some ⟨g, 0, none⟩)] w (Tells g v l i w VP (columnR (rem l i))) := by
  rcases e1 : nameR (rem l i) with ⟨o1, q1⟩
  cases o1 with
  | none =>
    exact sqreadColumn_w0 hE e1 w hP
  | some c =>
    rcases e2 : typeR q1 with ⟨o2, q2⟩
    cases o2 with
    | none =>
      exact sqreadColumn_w1 hE e1 e2 w hP
    | some k =>
      exact sqreadColumn_w2 hE e1 e2 w hP
end Go.Proofs.YtiajlhjjmlakmaaGreatDoor
