import Derived.Test.YtiajlhjjmlakmaaGreatDoorSqE
namespace Go.Proofs.YtiajlhjjmlakmaaGreatDoor
open Go.RowKit Num
set_option maxHeartbeats 4000000
set_option linter.unusedSimpArgs false
set_option linter.unusedVariables false
set_option maxRecDepth 100000

theorem listN_len {α : Type} {sep : ByteArray} {rd : Rd α} : ∀ (n : Nat) (acc : List α) (q : List TkC) {xs : List α} {q' : List TkC}, listN sep rd n acc q = (some xs, q') → acc.length ≤ xs.length ∧ xs.length ≤ acc.length + n
  | 0, acc, q, xs, q', h => by
    have h : (some acc, q) = (some xs, q') := h
    obtain rfl := Option.some.inj (congrArg Prod.fst h)
    omega
  | n + 1, acc, q, xs, q', h => by
    have h : opt sep (bnd rd fun a => listN sep rd n (acc ++ [a])) (ret acc) q = (some xs, q') := h
    unfold opt at h
    split at h
    · unfold bnd at h
      split at h
      · have := listN_len n _ _ h
        simp only [List.length_append, List.length_cons, List.length_nil] at this
        omega
      · simp at h
    · have h : (some acc, q) = (some xs, q') := h
      obtain rfl := Option.some.inj (congrArg Prod.fst h)
      omega
theorem listR_both {α : Type} {sep : ByteArray} {rd : Rd α} {q q' : List TkC} {xs : List α} (h : listR sep rd q = (some xs, q')) : 0 < xs.length ∧ xs.length ≤ 1 + q.length := by
  unfold listR bnd at h
  split at h
  · have := listN_len _ _ _ h
    simp only [List.length_cons, List.length_nil] at this
    omega
  · simp at h
theorem listR_pos {α : Type} {sep : ByteArray} {rd : Rd α} {q q' : List TkC} {xs : List α} (h : listR sep rd q = (some xs, q')) : 0 < xs.length := (listR_both h).1
theorem listR_len {α : Type} {sep : ByteArray} {rd : Rd α} {q q' : List TkC} {xs : List α} (h : listR sep rd q = (some xs, q')) {m : Nat} (hm : q.length ≤ m) : xs.length ≤ 1 + m := Nat.le_trans (listR_both h).2 (by omega)
theorem Num.Bx.row {w w' : World} {b B E sz n : Nat} {v : Value} {xs : List Value} {t : TypeId} {cs : Array Value} (h : Bx w b t cs) (hown : w.ownsRow B E sz v n xs) (hk : w.grownBy w' v.ownBlock) (ht : t ≠ E) : Bx w' b t cs := by
  refine (hk.block b h.lt ?_).trans h
  intro e
  rcases hown.2 with ⟨rfl, _⟩ | ⟨gt, cap, cur, rfl, _, hgg, _⟩
  · simp [Value.ownBlock] at e
  · obtain rfl : b = gt := by simpa [Value.ownBlock] using e
    unfold Bx at h
    rw [hgg] at h
    simp only [Option.some.injEq, Obj.cells.injEq] at h
    exact ht h.2.1.symm
theorem row_row {w w' : World} {B B' E E' sz sz' n n' : Nat} {v v' : Value} {xs xs' : List Value} (h : w.ownsRow B E sz v n xs) (hown : w.ownsRow B' E' sz' v' n' xs') (hk : w.grownBy w' v'.ownBlock) (ht : E ≠ E') : w'.ownsRow B E sz v n xs := by
  refine h.kept hk ?_
  rcases h.2 with ⟨rfl, _⟩ | ⟨gt, cap, cur, rfl, _, hgg, _⟩
  · exact .inl rfl
  · right
    intro e
    rcases hown.2 with ⟨rfl, _⟩ | ⟨gt', cap', cur', rfl, _, hgg', _⟩
    · simp [Value.ownBlock] at e
    · obtain rfl : gt = gt' := by simpa [Value.ownBlock] using e
      rw [hgg] at hgg'
      simp only [Option.some.injEq, Obj.cells.injEq] at hgg'
      exact ht hgg'.2.1
theorem colC_at : ∀ (l : List (ByteArray × Int)) (j : Nat) (x : ByteArray × Int), l[j]? = some x → ∀ c (u : Value), (cP x)[c]? = some u → (l.flatMap cP)[j * 2 + c]? = some u
  | [], _, _, h, _, _, _ => by simp at h
  | y :: l, 0, x, h, c, u, hu => by
    have h : some y = some x := h
    obtain rfl := Option.some.inj h
    have hc : c < 2 := (List.getElem?_eq_some_iff.1 hu).1
    show (cP y ++ l.flatMap cP)[0 * 2 + c]? = some u
    rw [Nat.zero_mul, Nat.zero_add, List.getElem?_append_left hc]
    exact hu
  | y :: l, j + 1, x, h, c, u, hu => by
    have ih := colC_at l j x (by simpa using h) c u hu
    show (cP y ++ l.flatMap cP)[(j + 1) * 2 + c]? = some u
    have e : (j + 1) * 2 + c = (cP y).length + (j * 2 + c) := by
      show (j + 1) * 2 + c = 2 + (j * 2 + c)
      omega
    rw [e, List.getElem?_append_right (by omega), Nat.add_sub_cancel_left]
    exact ih
theorem col_at {w : World} {B E n g cap : Nat} {l : List (ByteArray × Int)} (h : w.ownsRow B E 2 (.slice (some ⟨g, 0, none⟩) n cap) n (l.flatMap cP)) {j : Nat} {x : ByteArray × Int} (hx : l[j]? = some x) :
    w.cell? ⟨g, j * 2, none⟩ = some (.string x.1) ∧ w.cell? ⟨g, j * 2 + 1, none⟩ = some (.int .i64 x.2) := by
  have key : ∀ c u, (cP x)[c]? = some u → w.cell? ⟨g, j * 2 + c, none⟩ = some u := by
    intro c u hu
    have := h.cells (g := g) rfl _ _ (colC_at l j x hx c u hu)
    rw [Addr.add_lit, Nat.zero_add] at this
    exact this
  exact ⟨key 0 _ rfl, key 1 _ rfl⟩
theorem setsW_size (b : Nat) : ∀ (W : World) (k : Nat) (us : List Value), (setsW W b k us).heap.size = W.heap.size
  | _, _, [] => rfl
  | W, k, u :: us => (setsW_size b _ (k + 1) us).trans (by show (W.heap.modify _ _).size = _; simp)
theorem row_litB {W : World} {n base e sz : Nat} (cs : Array Value) (hn : W.heap.size = n) (hb : base ≤ n) (hs : cs.size = 1 * sz) : (W.alloc (.cells cs e)).ownsRow base e sz (.slice (some ⟨n, 0, none⟩) 1 1) 1 cs.toList := by
  subst hn
  exact World.ownsRow_lit W cs 1 hb (by decide) hs
theorem Tryz.infoQ_int : (Tryz.prog.info? 3).map (fun i => (i.zero, i.size, i.bytes)) = some (some (.int .i64 0), 1, 8) := by kernel_rfl
theorem appG_str {ops : Array Oper} {rest : List Oper} {o : Oper} {a : Act} {Q : Exit → Act → World → Prop} (w : World) (hgd : o.guard = none) (s x : Operand)
    (ho : o.op = .call { callee := .builtin .append, args := #[s, x], argTypes := #[22, 22] })
    (base : Nat) (v : Value) (n : Nat) (xs : List Value) (hs : a.eval s = v) (hown : w.ownsRow base 9 1 v n xs)
    (g c : Nat) (y : ByteArray) (hx : a.eval x = .slice (some ⟨g, 0, none⟩) 1 c) (hg : Bx w g 9 #[.string y])
    (hb : n ≤ 100000) (hbase : base ≤ w.heap.size)
    (h : ∀ v' w', w'.ownsRow base 9 1 v' (n + 1) (xs ++ [.string y]) → Below base w w' → w.grownBy w' v.ownBlock → wpList Tryz.prog ops Q rest (a.put o.dst v') w') : wpList Tryz.prog ops Q (o :: rest) a w := by
  obtain ⟨i0, hi, hz0, hz1, hz2⟩ := info_parts Tryz.infoQ_str
  refine wpList_append_own w hgd s x 22 ho base 9 i0 _ 1 16 Tryz.underlying22 hi hz0 hz1 hz2 rfl (by decide) v n xs hs hown ⟨g, 0, none⟩ 1 c [.string y] hx rfl ?_ ?_ (by unfold maxLen; omega) (by omega) hbase ?_
  · intro j u hj
    rw [Addr.add_lit, Nat.zero_add]
    exact hg.cell j u (by simpa using hj)
  · intro u hu
    simp only [List.mem_cons, List.not_mem_nil, or_false] at hu
    subst hu
    rfl
  · intro v' w' hown' hgrow _
    exact h v' w' hown' (Below.grown (Below.refl base w) hgrow hbase (fun k hk => (hown.lt k hk).1)) hgrow
theorem appG_int {ops : Array Oper} {rest : List Oper} {o : Oper} {a : Act} {Q : Exit → Act → World → Prop} (w : World) (hgd : o.guard = none) (s x : Operand)
    (ho : o.op = .call { callee := .builtin .append, args := #[s, x], argTypes := #[26, 26] })
    (base : Nat) (v : Value) (n : Nat) (xs : List Value) (hs : a.eval s = v) (hown : w.ownsRow base 3 1 v n xs)
    (g c : Nat) (y : Int) (hx : a.eval x = .slice (some ⟨g, 0, none⟩) 1 c) (hg : Bx w g 3 #[.int .i64 y])
    (hb : n ≤ 100000) (hbase : base ≤ w.heap.size)
    (h : ∀ v' w', w'.ownsRow base 3 1 v' (n + 1) (xs ++ [.int .i64 y]) → Below base w w' → w.grownBy w' v.ownBlock → wpList Tryz.prog ops Q rest (a.put o.dst v') w') : wpList Tryz.prog ops Q (o :: rest) a w := by
  obtain ⟨i0, hi, hz0, hz1, hz2⟩ := info_parts Tryz.infoQ_int
  refine wpList_append_own w hgd s x 26 ho base 3 i0 _ 1 8 Tryz.underlying26 hi hz0 hz1 hz2 rfl (by decide) v n xs hs hown ⟨g, 0, none⟩ 1 c [.int .i64 y] hx rfl ?_ ?_ (by unfold maxLen; omega) (by omega) hbase ?_
  · intro j u hj
    rw [Addr.add_lit, Nat.zero_add]
    exact hg.cell j u (by simpa using hj)
  · intro u hu
    simp only [List.mem_cons, List.not_mem_nil, or_false] at hu
    subst hu
    rfl
  · intro v' w' hown' hgrow _
    exact h v' w' hown' (Below.grown (Below.refl base w) hgrow hbase (fun k hk => (hown.lt k hk).1)) hgrow
theorem appL_col {ops : Array Oper} {rest : List Oper} {o : Oper} {a : Act} {Q : Exit → Act → World → Prop} (w : World) (hgd : o.guard = none) (s x : Operand)
    (ho : o.op = .call { callee := .builtin .append, args := #[s, x], argTypes := #[128, 128] })
    (base : Nat) (v : Value) (l : List (ByteArray × Int)) (hs : a.eval s = v) (hown : w.ownsRow base 126 2 v l.length (l.flatMap cP))
    (g c : Nat) (ys : List (ByteArray × Int)) (hx : a.eval x = .slice (some ⟨g, 0, none⟩) ys.length c) (hg : w.ownsRow base 126 2 (.slice (some ⟨g, 0, none⟩) ys.length c) ys.length (ys.flatMap cP))
    (hb : l.length + ys.length ≤ 100000) (hbase : base ≤ w.heap.size)
    (h : ∀ v' w', w'.ownsRow base 126 2 v' (l ++ ys).length ((l ++ ys).flatMap cP) → Below base w w' → w.grownBy w' v.ownBlock → wpList Tryz.prog ops Q rest (a.put o.dst v') w') : wpList Tryz.prog ops Q (o :: rest) a w := by
  obtain ⟨i0, hi, hz0, hz1, hz2⟩ := info_parts Tryz.infoQ_col
  refine wpList_append_own w hgd s x 128 ho base 126 i0 _ 2 24 Tryz.underlying128 hi hz0 hz1 hz2 rfl (by decide) v l.length (l.flatMap cP) hs hown ⟨g, 0, none⟩ ys.length c (ys.flatMap cP) hx (by have := hg.1; omega) ?_ ?_ (by unfold maxLen; omega) (by omega) hbase ?_
  · intro j u hj
    exact hg.cells (g := g) rfl j u hj
  · intro u hu
    obtain ⟨e, _, he⟩ := List.mem_flatMap.1 hu
    simp only [cP, List.mem_cons, List.not_mem_nil, or_false] at he
    rcases he with rfl | rfl <;> rfl
  · intro v' w' hown' hgrow _
    rw [← List.flatMap_append, ← List.length_append] at hown'
    exact h v' w' hown' (Below.grown (Below.refl base w) hgrow hbase (fun k hk => (hown.lt k hk).1)) hgrow
theorem sqreadTable_w0 {g : Nat} {v : Value} {l : List Tok} (hE : EndK l) {i : Nat}  {q1 : List TkC} (e1 : nameR (rem l i) = (none, q1)) (w : World) (hP : PAt g v l i w) :
    Calls Tryz.prog 63 #[.pointer (some ⟨g, 0, none⟩)] w (Tells g v l i w VX (tableR (rem l i))) := by
  have hg0 := hP.g_lt
  have HO : Hid (tableR (rem l i) = (none, q1)) := by
    unfold Hid
    simp only [tableR, bnd, opt, ret, e1]
  go_enter Tryz.func63, Tryz.ntmps63
  go_wp2_with (first
    | (go_at_call 55; refine (sqreadName_any hE _ ((hP.alloc _).alloc _)).mono ?_; intro e w1 hT1; obtain ⟨j1, rfl, hk1, hj1, hP1, hr1⟩ := tells_no hT1 rfl e1))
  refine ⟨rfl, ?_⟩
  rw [HO.out]
  exact ⟨(kp_alloc (kp_alloc (gr w g) _) _).trans hk1, j1, (by omega), hP1, hr1, rfl⟩
theorem sqreadTable_w1 {g : Nat} {v : Value} {l : List Tok} (hE : EndK l) {i : Nat}  {t : ByteArray} {q1 q2 : List TkC} (e1 : nameR (rem l i) = (some t, q1)) (e2 : takeR ⟨#[40]⟩ q1 = (none, q2)) (w : World) (hP : PAt g v l i w) :
    Calls Tryz.prog 63 #[.pointer (some ⟨g, 0, none⟩)] w (Tells g v l i w VX (tableR (rem l i))) := by
  have hg0 := hP.g_lt
  have HO : Hid (tableR (rem l i) = (none, q2)) := by
    unfold Hid
    simp only [tableR, bnd, opt, ret, e1, e2]
  go_enter Tryz.func63, Tryz.ntmps63
  go_wp2_with (first
    | (go_at_call 34; refine (take_1 hE (by decide) _ ((hP1.set bx1 (by decide) (by omega) 1 (.string t)).alloc _) (Bx.newB (by simp)) (by omega)).mono ?_; intro e w2 hT2; obtain ⟨j2, rfl, hk2, hj2, hP2, hr2⟩ := tells_no hT2 hr1 e2)
    | (go_at_call 55; refine (sqreadName_any hE _ ((hP.alloc _).alloc _)).mono ?_; intro e w1 hT1; obtain ⟨_, j1, rfl, hk1, hj1, hP1, hr1, rfl⟩ := tells_yes hT1 rfl e1; have kk1 := (kp_alloc (kp_alloc (gr w g) _) _).trans hk1; have hs1 := kk1.size; have br1 : Bx w1 (w.heap.size) 28 z10 := Bx.kp ((Bx.newB (by simp) : Bx _ (w.heap.size) 28 z10).alloc _) hk1 (by omega); have lr1 := br1.lt; have bx1 : Bx w1 (w.heap.size + 1) 28 #[.int .i64 5, sZ, sZ, nZ, nZ, nZ, nZ, .bool false, iZ, nZ] := Bx.kp (Bx.newB (by simp) : Bx _ (w.heap.size + 1) 28 #[.int .i64 5, sZ, sZ, nZ, nZ, nZ, nZ, .bool false, iZ, nZ]) hk1 (by omega); have lx1 := bx1.lt; have cx1_1 := bx1.t1; have fx1_1 := bx1.open 1))
  refine ⟨rfl, ?_⟩
  rw [HO.out]
  exact ⟨(kp_alloc (kp_set kk1 (by omega) 1 (.string t)) _).trans hk2, j2, (by omega), hP2, hr2, rfl⟩
theorem sqreadTable_w2 {g : Nat} {v : Value} {l : List Tok} (hE : EndK l) {i : Nat}  {t : ByteArray} {q1 q2 q3 : List TkC} (e1 : nameR (rem l i) = (some t, q1)) (e2 : takeR ⟨#[40]⟩ q1 = (some (), q2)) (e3 : columnR q2 = (none, q3)) (w : World) (hP : PAt g v l i w) :
    Calls Tryz.prog 63 #[.pointer (some ⟨g, 0, none⟩)] w (Tells g v l i w VX (tableR (rem l i))) := by
  have hg0 := hP.g_lt
  have HO : Hid (tableR (rem l i) = (none, q3)) := by
    unfold Hid
    simp only [tableR, bnd, opt, ret, e1, e2, e3]
  go_enter Tryz.func63, Tryz.ntmps63
  go_wp2_with (first
    | (go_at_call 105; refine (sqreadColumn_any hE _ hP2).mono ?_; intro e w3 hT3; obtain ⟨j3, rfl, hk3, hj3, hP3, hr3⟩ := tells_no hT3 hr2 e3)
    | (go_at_call 34; refine (take_1 hE (by decide) _ ((hP1.set bx1 (by decide) (by omega) 1 (.string t)).alloc _) (Bx.newB (by simp)) (by omega)).mono ?_; intro e w2 hT2; obtain ⟨_, j2, rfl, hk2, hj2, hP2, hr2, rfl⟩ := tells_yes hT2 hr1 e2; have kk2 := (kp_alloc (kp_set kk1 (by omega) 1 (.string t)) _).trans hk2; have hs2 := kk2.size; have br2 : Bx w2 (w.heap.size) 28 z10 := Bx.kp ((br1.other (by omega) 1 (.string t)).alloc _) hk2 (by omega); have lr2 := br2.lt; have bx2 : Bx w2 (w.heap.size + 1) 28 #[.int .i64 5, .string t, sZ, nZ, nZ, nZ, nZ, .bool false, iZ, nZ] := Bx.kp ((bx1.set 1 (.string t)).alloc _) hk2 (by omega); have lx2 := bx2.lt)
    | (go_at_call 55; refine (sqreadName_any hE _ ((hP.alloc _).alloc _)).mono ?_; intro e w1 hT1; obtain ⟨_, j1, rfl, hk1, hj1, hP1, hr1, rfl⟩ := tells_yes hT1 rfl e1; have kk1 := (kp_alloc (kp_alloc (gr w g) _) _).trans hk1; have hs1 := kk1.size; have br1 : Bx w1 (w.heap.size) 28 z10 := Bx.kp ((Bx.newB (by simp) : Bx _ (w.heap.size) 28 z10).alloc _) hk1 (by omega); have lr1 := br1.lt; have bx1 : Bx w1 (w.heap.size + 1) 28 #[.int .i64 5, sZ, sZ, nZ, nZ, nZ, nZ, .bool false, iZ, nZ] := Bx.kp (Bx.newB (by simp) : Bx _ (w.heap.size + 1) 28 #[.int .i64 5, sZ, sZ, nZ, nZ, nZ, nZ, .bool false, iZ, nZ]) hk1 (by omega); have lx1 := bx1.lt; have cx1_1 := bx1.t1; have fx1_1 := bx1.open 1))
  refine ⟨rfl, ?_⟩
  rw [HO.out]
  exact ⟨kk2.trans hk3, j3, (by omega), hP3, hr3, rfl⟩
theorem sqreadTable_w3 {g : Nat} {v : Value} {l : List Tok} (hE : EndK l) {i : Nat}  {t : ByteArray} {q1 q2 : List TkC} {c1 : ByteArray} {c2 : Int} {q3 q4 : List TkC} (e1 : nameR (rem l i) = (some t, q1)) (e2 : takeR ⟨#[40]⟩ q1 = (some (), q2)) (e3 : columnR q2 = (some (c1, c2), q3)) (e4 : takesR [⟨#[112, 114, 105, 109, 97, 114, 121]⟩, ⟨#[107, 101, 121]⟩] q3 = (none, q4)) (w : World) (hP : PAt g v l i w) :
    Calls Tryz.prog 63 #[.pointer (some ⟨g, 0, none⟩)] w (Tells g v l i w VX (tableR (rem l i))) := by
  have hg0 := hP.g_lt
  have HO : Hid (tableR (rem l i) = (none, q4)) := by
    unfold Hid
    simp only [tableR, bnd, opt, ret, e1, e2, e3, e4]
  go_enter Tryz.func63, Tryz.ntmps63
  go_wp2_with (first
    | (go_at_call 34; refine (take_2 hE (by decide) (by decide) _ ((hP3.alloc (.cells #[.string c1, .int .i64 c2] 126)).alloc _) (Bx.newB (by simp)) (by omega)).mono ?_; intro e w4 hT4; obtain ⟨j4, rfl, hk4, hj4, hP4, hr4⟩ := tells_no hT4 hr3 e4)
    | (go_at_call 105; refine (sqreadColumn_any hE _ hP2).mono ?_; intro e w3 hT3; obtain ⟨u3, j3, rfl, hk3, hj3, hP3, hr3, hV3⟩ := tells_yes hT3 hr2 e3; obtain rfl : u3 = .agg #[.string c1, .int .i64 c2] := hV3; have kk3 := kk2.trans hk3; have hs3 := kk3.size; have br3 := Bx.kp br2 hk3 (by omega); have lr3 := br3.lt; have bx3 := Bx.kp bx2 hk3 (by omega); have lx3 := bx3.lt)
    | (go_at_call 34; refine (take_1 hE (by decide) _ ((hP1.set bx1 (by decide) (by omega) 1 (.string t)).alloc _) (Bx.newB (by simp)) (by omega)).mono ?_; intro e w2 hT2; obtain ⟨_, j2, rfl, hk2, hj2, hP2, hr2, rfl⟩ := tells_yes hT2 hr1 e2; have kk2 := (kp_alloc (kp_set kk1 (by omega) 1 (.string t)) _).trans hk2; have hs2 := kk2.size; have br2 : Bx w2 (w.heap.size) 28 z10 := Bx.kp ((br1.other (by omega) 1 (.string t)).alloc _) hk2 (by omega); have lr2 := br2.lt; have bx2 : Bx w2 (w.heap.size + 1) 28 #[.int .i64 5, .string t, sZ, nZ, nZ, nZ, nZ, .bool false, iZ, nZ] := Bx.kp ((bx1.set 1 (.string t)).alloc _) hk2 (by omega); have lx2 := bx2.lt)
    | (go_at_call 55; refine (sqreadName_any hE _ ((hP.alloc _).alloc _)).mono ?_; intro e w1 hT1; obtain ⟨_, j1, rfl, hk1, hj1, hP1, hr1, rfl⟩ := tells_yes hT1 rfl e1; have kk1 := (kp_alloc (kp_alloc (gr w g) _) _).trans hk1; have hs1 := kk1.size; have br1 : Bx w1 (w.heap.size) 28 z10 := Bx.kp ((Bx.newB (by simp) : Bx _ (w.heap.size) 28 z10).alloc _) hk1 (by omega); have lr1 := br1.lt; have bx1 : Bx w1 (w.heap.size + 1) 28 #[.int .i64 5, sZ, sZ, nZ, nZ, nZ, nZ, .bool false, iZ, nZ] := Bx.kp (Bx.newB (by simp) : Bx _ (w.heap.size + 1) 28 #[.int .i64 5, sZ, sZ, nZ, nZ, nZ, nZ, .bool false, iZ, nZ]) hk1 (by omega); have lx1 := bx1.lt; have cx1_1 := bx1.t1; have fx1_1 := bx1.open 1))
  refine ⟨rfl, ?_⟩
  rw [HO.out]
  exact ⟨(kp_alloc (kp_alloc kk3 _) _).trans hk4, j4, (by omega), hP4, hr4, rfl⟩
theorem sqreadTable_w4 {g : Nat} {v : Value} {l : List Tok} (hE : EndK l) {i : Nat}  {t : ByteArray} {q1 q2 : List TkC} {c1 : ByteArray} {c2 : Int} {q3 q4 q6 : List TkC} (e1 : nameR (rem l i) = (some t, q1)) (e2 : takeR ⟨#[40]⟩ q1 = (some (), q2)) (e3 : columnR q2 = (some (c1, c2), q3)) (e4 : takesR [⟨#[112, 114, 105, 109, 97, 114, 121]⟩, ⟨#[107, 101, 121]⟩] q3 = (some (), q4)) (hb5 : isT ⟨#[44]⟩ q4 = true) (e6 : listR ⟨#[44]⟩ columnR q4.tail = (none, q6)) (w : World) (hP : PAt g v l i w) :
    Calls Tryz.prog 63 #[.pointer (some ⟨g, 0, none⟩)] w (Tells g v l i w VX (tableR (rem l i))) := by
  have hg0 := hP.g_lt
  have HO : Hid (tableR (rem l i) = (none, q6)) := by
    unfold Hid
    simp only [tableR, bnd, opt, ret, e1, e2, e3, e4, hb5, if_true, e6]
  go_enter Tryz.func63, Tryz.ntmps63
  go_wp2_with (first
    | (go_at_call 106; refine (sqreadList_col_any hE ⟨#[44]⟩ (by decide) _ hP5).mono ?_; intro e w6 hT6; obtain ⟨j6, rfl, hk6, hj6, hP6, hr6⟩ := tells_no hT6 hr5 e6)
    | (go_at_call 27; refine (took_yes hE (by decide) hb5 _ hP4 hr4).mono ?_; rintro e w5 ⟨rfl, hk5, hP5, hr5⟩; have kk5 := kk4.trans hk5; have hs5 := kk5.size; have br5 := Bx.kp br4 hk5 (by omega); have lr5 := br5.lt; have bx5 := Bx.kp bx4 hk5 (by omega); have lx5 := bx5.lt; have ol5 := row_kp ol4 hk5 hg0)
    | (go_at_call 34; refine (take_2 hE (by decide) (by decide) _ ((hP3.alloc (.cells #[.string c1, .int .i64 c2] 126)).alloc _) (Bx.newB (by simp)) (by omega)).mono ?_; intro e w4 hT4; obtain ⟨_, j4, rfl, hk4, hj4, hP4, hr4, rfl⟩ := tells_yes hT4 hr3 e4; have kk4 := (kp_alloc (kp_alloc kk3 _) _).trans hk4; have hs4 := kk4.size; have br4 : Bx w4 (w.heap.size) 28 z10 := Bx.kp ((br3.alloc (.cells #[.string c1, .int .i64 c2] 126)).alloc _) hk4 (by omega); have lr4 := br4.lt; have bx4 : Bx w4 (w.heap.size + 1) 28 #[.int .i64 5, .string t, sZ, nZ, nZ, nZ, nZ, .bool false, iZ, nZ] := Bx.kp ((bx3.alloc (.cells #[.string c1, .int .i64 c2] 126)).alloc _) hk4 (by omega); have lx4 := bx4.lt; have ol4 := row_kp ((World.ownsRow_lit w3 #[.string c1, .int .i64 c2] 1 hs3 (by decide) rfl : (w3.alloc (.cells #[.string c1, .int .i64 c2] 126)).ownsRow w.heap.size 126 2 (.slice (some ⟨w3.heap.size, 0, none⟩) 1 1) 1 [.string c1, .int .i64 c2]).alloc _) hk4 hg0)
    | (go_at_call 105; refine (sqreadColumn_any hE _ hP2).mono ?_; intro e w3 hT3; obtain ⟨u3, j3, rfl, hk3, hj3, hP3, hr3, hV3⟩ := tells_yes hT3 hr2 e3; obtain rfl : u3 = .agg #[.string c1, .int .i64 c2] := hV3; have kk3 := kk2.trans hk3; have hs3 := kk3.size; have br3 := Bx.kp br2 hk3 (by omega); have lr3 := br3.lt; have bx3 := Bx.kp bx2 hk3 (by omega); have lx3 := bx3.lt)
    | (go_at_call 34; refine (take_1 hE (by decide) _ ((hP1.set bx1 (by decide) (by omega) 1 (.string t)).alloc _) (Bx.newB (by simp)) (by omega)).mono ?_; intro e w2 hT2; obtain ⟨_, j2, rfl, hk2, hj2, hP2, hr2, rfl⟩ := tells_yes hT2 hr1 e2; have kk2 := (kp_alloc (kp_set kk1 (by omega) 1 (.string t)) _).trans hk2; have hs2 := kk2.size; have br2 : Bx w2 (w.heap.size) 28 z10 := Bx.kp ((br1.other (by omega) 1 (.string t)).alloc _) hk2 (by omega); have lr2 := br2.lt; have bx2 : Bx w2 (w.heap.size + 1) 28 #[.int .i64 5, .string t, sZ, nZ, nZ, nZ, nZ, .bool false, iZ, nZ] := Bx.kp ((bx1.set 1 (.string t)).alloc _) hk2 (by omega); have lx2 := bx2.lt)
    | (go_at_call 55; refine (sqreadName_any hE _ ((hP.alloc _).alloc _)).mono ?_; intro e w1 hT1; obtain ⟨_, j1, rfl, hk1, hj1, hP1, hr1, rfl⟩ := tells_yes hT1 rfl e1; have kk1 := (kp_alloc (kp_alloc (gr w g) _) _).trans hk1; have hs1 := kk1.size; have br1 : Bx w1 (w.heap.size) 28 z10 := Bx.kp ((Bx.newB (by simp) : Bx _ (w.heap.size) 28 z10).alloc _) hk1 (by omega); have lr1 := br1.lt; have bx1 : Bx w1 (w.heap.size + 1) 28 #[.int .i64 5, sZ, sZ, nZ, nZ, nZ, nZ, .bool false, iZ, nZ] := Bx.kp (Bx.newB (by simp) : Bx _ (w.heap.size + 1) 28 #[.int .i64 5, sZ, sZ, nZ, nZ, nZ, nZ, .bool false, iZ, nZ]) hk1 (by omega); have lx1 := bx1.lt; have cx1_1 := bx1.t1; have fx1_1 := bx1.open 1))
  refine ⟨rfl, ?_⟩
  rw [HO.out]
  exact ⟨kk5.trans hk6, j6, (by omega), hP6, hr6, rfl⟩
theorem sqreadTable_w5 {g : Nat} {v : Value} {l : List Tok} (hE : EndK l) {i : Nat}  {t : ByteArray} {q1 q2 : List TkC} {c1 : ByteArray} {c2 : Int} {q3 q4 : List TkC} {cs : List (ByteArray × Int)} {q6 q7 : List TkC} (e1 : nameR (rem l i) = (some t, q1)) (e2 : takeR ⟨#[40]⟩ q1 = (some (), q2)) (e3 : columnR q2 = (some (c1, c2), q3)) (e4 : takesR [⟨#[112, 114, 105, 109, 97, 114, 121]⟩, ⟨#[107, 101, 121]⟩] q3 = (some (), q4)) (hb5 : isT ⟨#[44]⟩ q4 = true) (e6 : listR ⟨#[44]⟩ columnR q4.tail = (some cs, q6)) (e7 : takeR ⟨#[41]⟩ q6 = (none, q7)) (w : World) (hP : PAt g v l i w) :
    Calls Tryz.prog 63 #[.pointer (some ⟨g, 0, none⟩)] w (Tells g v l i w VX (tableR (rem l i))) := by
  have hg0 := hP.g_lt
  have HO : Hid (tableR (rem l i) = (none, q7)) := by
    unfold Hid
    simp only [tableR, bnd, opt, ret, e1, e2, e3, e4, hb5, if_true, e6, e7]
  go_enter Tryz.func63, Tryz.ntmps63
  go_wp2_with (first
    | (go_at_call 34; refine (take_1 hE (by decide) _ (hP7.alloc _) (Bx.newB (by simp)) (by omega)).mono ?_; intro e w8 hT8; obtain ⟨j8, rfl, hk8, hj8, hP8, hr8⟩ := tells_no hT8 hr6 e7)
    | (at_builtin; have hz := kk6; clear hz; refine appL_col _ rfl _ _ rfl w.heap.size _ [(c1, c2)] rfl ol6 _ _ cs rfl oo6 (by have h1 := hcs2; have h2 := hP.sm; simp only [List.length_cons, List.length_nil]; omega) hs6 ?_; intro v7 w7 hown7 hbel7 hgr7; obtain ⟨nL, hnL⟩ : ∃ nL, ([(c1, c2)] ++ cs).length = nL := ⟨_, rfl⟩; rw [hnL] at hown7; obtain ⟨cb, cc0, rfl, hcb1, hcb2⟩ := hown7.form (by rw [← hnL]; simp); have kk7 := kp_belowB kk6 hbel7 (Nat.le_refl _); have hs7 := kk7.size; have br7 := br6.row ol6 hgr7 (by decide); have bx7 := bx6.row ol6 hgr7 (by decide); have ol7 := hown7; have lx7 := bx7.lt; have hP7 : PAt g v l j6 w7 := hP.of_kp kk7 ((hbel7.block g hg0).trans hP6.box) hP6.lt)
    | (go_at_call 106; refine (sqreadList_col_any hE ⟨#[44]⟩ (by decide) _ hP5).mono ?_; intro e w6 hT6; obtain ⟨u6, j6, rfl, hk6, hj6, hP6, hr6, hV6⟩ := tells_yes hT6 hr5 e6; obtain ⟨cs_o, cs_c, rfl, ho6⟩ := hV6; have oo6 := row_mono ho6 kk5.size; have kk6 := kk5.trans hk6; have hs6 := kk6.size; have br6 := Bx.kp br5 hk6 (by omega); have lr6 := br6.lt; have bx6 := Bx.kp bx5 hk6 (by omega); have lx6 := bx6.lt; have ol6 := row_kp ol5 hk6 hg0; have hcs2 := listR_len e6 (by rw [← hr5, rem_len]; exact Nat.sub_le _ _); obtain ⟨gb, gc, hge, _⟩ := oo6.form (listR_pos e6); obtain ⟨rfl, _, rfl⟩ := Value.slice.inj hge)
    | (go_at_call 27; refine (took_yes hE (by decide) hb5 _ hP4 hr4).mono ?_; rintro e w5 ⟨rfl, hk5, hP5, hr5⟩; have kk5 := kk4.trans hk5; have hs5 := kk5.size; have br5 := Bx.kp br4 hk5 (by omega); have lr5 := br5.lt; have bx5 := Bx.kp bx4 hk5 (by omega); have lx5 := bx5.lt; have ol5 := row_kp ol4 hk5 hg0)
    | (go_at_call 34; refine (take_2 hE (by decide) (by decide) _ ((hP3.alloc (.cells #[.string c1, .int .i64 c2] 126)).alloc _) (Bx.newB (by simp)) (by omega)).mono ?_; intro e w4 hT4; obtain ⟨_, j4, rfl, hk4, hj4, hP4, hr4, rfl⟩ := tells_yes hT4 hr3 e4; have kk4 := (kp_alloc (kp_alloc kk3 _) _).trans hk4; have hs4 := kk4.size; have br4 : Bx w4 (w.heap.size) 28 z10 := Bx.kp ((br3.alloc (.cells #[.string c1, .int .i64 c2] 126)).alloc _) hk4 (by omega); have lr4 := br4.lt; have bx4 : Bx w4 (w.heap.size + 1) 28 #[.int .i64 5, .string t, sZ, nZ, nZ, nZ, nZ, .bool false, iZ, nZ] := Bx.kp ((bx3.alloc (.cells #[.string c1, .int .i64 c2] 126)).alloc _) hk4 (by omega); have lx4 := bx4.lt; have ol4 := row_kp ((World.ownsRow_lit w3 #[.string c1, .int .i64 c2] 1 hs3 (by decide) rfl : (w3.alloc (.cells #[.string c1, .int .i64 c2] 126)).ownsRow w.heap.size 126 2 (.slice (some ⟨w3.heap.size, 0, none⟩) 1 1) 1 [.string c1, .int .i64 c2]).alloc _) hk4 hg0)
    | (go_at_call 105; refine (sqreadColumn_any hE _ hP2).mono ?_; intro e w3 hT3; obtain ⟨u3, j3, rfl, hk3, hj3, hP3, hr3, hV3⟩ := tells_yes hT3 hr2 e3; obtain rfl : u3 = .agg #[.string c1, .int .i64 c2] := hV3; have kk3 := kk2.trans hk3; have hs3 := kk3.size; have br3 := Bx.kp br2 hk3 (by omega); have lr3 := br3.lt; have bx3 := Bx.kp bx2 hk3 (by omega); have lx3 := bx3.lt)
    | (go_at_call 34; refine (take_1 hE (by decide) _ ((hP1.set bx1 (by decide) (by omega) 1 (.string t)).alloc _) (Bx.newB (by simp)) (by omega)).mono ?_; intro e w2 hT2; obtain ⟨_, j2, rfl, hk2, hj2, hP2, hr2, rfl⟩ := tells_yes hT2 hr1 e2; have kk2 := (kp_alloc (kp_set kk1 (by omega) 1 (.string t)) _).trans hk2; have hs2 := kk2.size; have br2 : Bx w2 (w.heap.size) 28 z10 := Bx.kp ((br1.other (by omega) 1 (.string t)).alloc _) hk2 (by omega); have lr2 := br2.lt; have bx2 : Bx w2 (w.heap.size + 1) 28 #[.int .i64 5, .string t, sZ, nZ, nZ, nZ, nZ, .bool false, iZ, nZ] := Bx.kp ((bx1.set 1 (.string t)).alloc _) hk2 (by omega); have lx2 := bx2.lt)
    | (go_at_call 55; refine (sqreadName_any hE _ ((hP.alloc _).alloc _)).mono ?_; intro e w1 hT1; obtain ⟨_, j1, rfl, hk1, hj1, hP1, hr1, rfl⟩ := tells_yes hT1 rfl e1; have kk1 := (kp_alloc (kp_alloc (gr w g) _) _).trans hk1; have hs1 := kk1.size; have br1 : Bx w1 (w.heap.size) 28 z10 := Bx.kp ((Bx.newB (by simp) : Bx _ (w.heap.size) 28 z10).alloc _) hk1 (by omega); have lr1 := br1.lt; have bx1 : Bx w1 (w.heap.size + 1) 28 #[.int .i64 5, sZ, sZ, nZ, nZ, nZ, nZ, .bool false, iZ, nZ] := Bx.kp (Bx.newB (by simp) : Bx _ (w.heap.size + 1) 28 #[.int .i64 5, sZ, sZ, nZ, nZ, nZ, nZ, .bool false, iZ, nZ]) hk1 (by omega); have lx1 := bx1.lt; have cx1_1 := bx1.t1; have fx1_1 := bx1.open 1))
  refine ⟨rfl, ?_⟩
  rw [HO.out]
  exact ⟨(kp_alloc kk7 _).trans hk8, j8, (by omega), hP8, hr8, rfl⟩
theorem sqreadTable_w6 {g : Nat} {v : Value} {l : List Tok} (hE : EndK l) {i : Nat}  {t : ByteArray} {q1 q2 : List TkC} {c1 : ByteArray} {c2 : Int} {q3 q4 : List TkC} {cs : List (ByteArray × Int)} {q6 q7 : List TkC} (e1 : nameR (rem l i) = (some t, q1)) (e2 : takeR ⟨#[40]⟩ q1 = (some (), q2)) (e3 : columnR q2 = (some (c1, c2), q3)) (e4 : takesR [⟨#[112, 114, 105, 109, 97, 114, 121]⟩, ⟨#[107, 101, 121]⟩] q3 = (some (), q4)) (hb5 : isT ⟨#[44]⟩ q4 = true) (e6 : listR ⟨#[44]⟩ columnR q4.tail = (some cs, q6)) (e7 : takeR ⟨#[41]⟩ q6 = (some (), q7)) (w : World) (hP : PAt g v l i w) :
    Calls Tryz.prog 63 #[.pointer (some ⟨g, 0, none⟩)] w (Tells g v l i w VX (tableR (rem l i))) := by
  have hg0 := hP.g_lt
  have HO : Hid (tableR (rem l i) = (some { Stm.zero with kind := 5, table := t, cols := ([(c1, c2)] ++ cs).map (·.1), types := ([(c1, c2)] ++ cs).map (·.2) }, q7)) := by
    unfold Hid
    simp only [tableR, List.singleton_append, bnd, opt, ret, e1, e2, e3, e4, hb5, if_true, e6, e7]
  go_enter Tryz.func63, Tryz.ntmps63
  go_wp2_with (first
    | (go_at_call 34; refine (take_1 hE (by decide) _ (hP7.alloc _) (Bx.newB (by simp)) (by omega)).mono ?_; intro e w8 hT8; obtain ⟨_, j8, rfl, hk8, hj8, hP8, hr8, rfl⟩ := tells_yes hT8 hr6 e7; have kk8 := (kp_alloc kk7 _).trans hk8; have hs8 := kk8.size; have br8 : Bx w8 (w.heap.size) 28 z10 := Bx.kp (br7.alloc _) hk8 (by omega); have lr8 := br8.lt; have bx8 : Bx w8 (w.heap.size + 1) 28 #[.int .i64 5, .string t, sZ, nZ, nZ, nZ, nZ, .bool false, iZ, nZ] := Bx.kp (bx7.alloc _) hk8 (by omega); have lx8 := bx8.lt; have ol8 := row_kp (ol7.alloc _) hk8 hg0)
    | (at_builtin; have hz := kk6; clear hz; refine appL_col _ rfl _ _ rfl w.heap.size _ [(c1, c2)] rfl ol6 _ _ cs rfl oo6 (by have h1 := hcs2; have h2 := hP.sm; simp only [List.length_cons, List.length_nil]; omega) hs6 ?_; intro v7 w7 hown7 hbel7 hgr7; obtain ⟨nL, hnL⟩ : ∃ nL, ([(c1, c2)] ++ cs).length = nL := ⟨_, rfl⟩; rw [hnL] at hown7; obtain ⟨cb, cc0, rfl, hcb1, hcb2⟩ := hown7.form (by rw [← hnL]; simp); have kk7 := kp_belowB kk6 hbel7 (Nat.le_refl _); have hs7 := kk7.size; have br7 := br6.row ol6 hgr7 (by decide); have bx7 := bx6.row ol6 hgr7 (by decide); have ol7 := hown7; have lx7 := bx7.lt; have hP7 : PAt g v l j6 w7 := hP.of_kp kk7 ((hbel7.block g hg0).trans hP6.box) hP6.lt)
    | (go_at_call 106; refine (sqreadList_col_any hE ⟨#[44]⟩ (by decide) _ hP5).mono ?_; intro e w6 hT6; obtain ⟨u6, j6, rfl, hk6, hj6, hP6, hr6, hV6⟩ := tells_yes hT6 hr5 e6; obtain ⟨cs_o, cs_c, rfl, ho6⟩ := hV6; have oo6 := row_mono ho6 kk5.size; have kk6 := kk5.trans hk6; have hs6 := kk6.size; have br6 := Bx.kp br5 hk6 (by omega); have lr6 := br6.lt; have bx6 := Bx.kp bx5 hk6 (by omega); have lx6 := bx6.lt; have ol6 := row_kp ol5 hk6 hg0; have hcs2 := listR_len e6 (by rw [← hr5, rem_len]; exact Nat.sub_le _ _); obtain ⟨gb, gc, hge, _⟩ := oo6.form (listR_pos e6); obtain ⟨rfl, _, rfl⟩ := Value.slice.inj hge)
    | (go_at_call 27; refine (took_yes hE (by decide) hb5 _ hP4 hr4).mono ?_; rintro e w5 ⟨rfl, hk5, hP5, hr5⟩; have kk5 := kk4.trans hk5; have hs5 := kk5.size; have br5 := Bx.kp br4 hk5 (by omega); have lr5 := br5.lt; have bx5 := Bx.kp bx4 hk5 (by omega); have lx5 := bx5.lt; have ol5 := row_kp ol4 hk5 hg0)
    | (go_at_call 34; refine (take_2 hE (by decide) (by decide) _ ((hP3.alloc (.cells #[.string c1, .int .i64 c2] 126)).alloc _) (Bx.newB (by simp)) (by omega)).mono ?_; intro e w4 hT4; obtain ⟨_, j4, rfl, hk4, hj4, hP4, hr4, rfl⟩ := tells_yes hT4 hr3 e4; have kk4 := (kp_alloc (kp_alloc kk3 _) _).trans hk4; have hs4 := kk4.size; have br4 : Bx w4 (w.heap.size) 28 z10 := Bx.kp ((br3.alloc (.cells #[.string c1, .int .i64 c2] 126)).alloc _) hk4 (by omega); have lr4 := br4.lt; have bx4 : Bx w4 (w.heap.size + 1) 28 #[.int .i64 5, .string t, sZ, nZ, nZ, nZ, nZ, .bool false, iZ, nZ] := Bx.kp ((bx3.alloc (.cells #[.string c1, .int .i64 c2] 126)).alloc _) hk4 (by omega); have lx4 := bx4.lt; have ol4 := row_kp ((World.ownsRow_lit w3 #[.string c1, .int .i64 c2] 1 hs3 (by decide) rfl : (w3.alloc (.cells #[.string c1, .int .i64 c2] 126)).ownsRow w.heap.size 126 2 (.slice (some ⟨w3.heap.size, 0, none⟩) 1 1) 1 [.string c1, .int .i64 c2]).alloc _) hk4 hg0)
    | (go_at_call 105; refine (sqreadColumn_any hE _ hP2).mono ?_; intro e w3 hT3; obtain ⟨u3, j3, rfl, hk3, hj3, hP3, hr3, hV3⟩ := tells_yes hT3 hr2 e3; obtain rfl : u3 = .agg #[.string c1, .int .i64 c2] := hV3; have kk3 := kk2.trans hk3; have hs3 := kk3.size; have br3 := Bx.kp br2 hk3 (by omega); have lr3 := br3.lt; have bx3 := Bx.kp bx2 hk3 (by omega); have lx3 := bx3.lt)
    | (go_at_call 34; refine (take_1 hE (by decide) _ ((hP1.set bx1 (by decide) (by omega) 1 (.string t)).alloc _) (Bx.newB (by simp)) (by omega)).mono ?_; intro e w2 hT2; obtain ⟨_, j2, rfl, hk2, hj2, hP2, hr2, rfl⟩ := tells_yes hT2 hr1 e2; have kk2 := (kp_alloc (kp_set kk1 (by omega) 1 (.string t)) _).trans hk2; have hs2 := kk2.size; have br2 : Bx w2 (w.heap.size) 28 z10 := Bx.kp ((br1.other (by omega) 1 (.string t)).alloc _) hk2 (by omega); have lr2 := br2.lt; have bx2 : Bx w2 (w.heap.size + 1) 28 #[.int .i64 5, .string t, sZ, nZ, nZ, nZ, nZ, .bool false, iZ, nZ] := Bx.kp ((bx1.set 1 (.string t)).alloc _) hk2 (by omega); have lx2 := bx2.lt)
    | (go_at_call 55; refine (sqreadName_any hE _ ((hP.alloc _).alloc _)).mono ?_; intro e w1 hT1; obtain ⟨_, j1, rfl, hk1, hj1, hP1, hr1, rfl⟩ := tells_yes hT1 rfl e1; have kk1 := (kp_alloc (kp_alloc (gr w g) _) _).trans hk1; have hs1 := kk1.size; have br1 : Bx w1 (w.heap.size) 28 z10 := Bx.kp ((Bx.newB (by simp) : Bx _ (w.heap.size) 28 z10).alloc _) hk1 (by omega); have lr1 := br1.lt; have bx1 : Bx w1 (w.heap.size + 1) 28 #[.int .i64 5, sZ, sZ, nZ, nZ, nZ, nZ, .bool false, iZ, nZ] := Bx.kp (Bx.newB (by simp) : Bx _ (w.heap.size + 1) 28 #[.int .i64 5, sZ, sZ, nZ, nZ, nZ, nZ, .bool false, iZ, nZ]) hk1 (by omega); have lx1 := bx1.lt; have cx1_1 := bx1.t1; have fx1_1 := bx1.open 1))
  obtain ⟨L, hL⟩ : ∃ L : List (ByteArray × Int), ([(c1, c2)] ++ cs) = L := ⟨_, rfl⟩
  have HL : Hid (tableR (rem l i) = (some { Stm.zero with kind := 5, table := t, cols := L.map (·.1), types := L.map (·.2) }, q7)) := by
    rw [← hL]
    exact HO
  have hrow : w8.ownsRow w.heap.size 126 2 (.slice (some ⟨cb, 0, none⟩) L.length cc0) L.length (L.flatMap cP) := by
    rw [← hL]
    exact hnL ▸ ol8
  have hLs : L.length ≤ 2000 := by
    rw [← hL]
    have := hP.sm; simp only [List.length_append, List.length_cons, List.length_nil]; omega
  have hLl : Hid ((nL : Int) = (L.length : Int)) := by
    unfold Hid
    rw [← hL]
    rw [hnL]
  have hpr := j8
  clear hL ol8 HO
  go_loopw [6, 31, 32, 33, 34, 35, 36, 37, 38, 39, 40, 41, 42, 43, 44, 45, 46, 47, 48, 49] (fun _ k _ _ _ _ _ _ _ _ _ _ _ _ _ _ _ _ _ _ wr => ∃ (m : Nat) (ca ya : Option Addr) (cc yc : Nat), m ≤ L.length ∧ k = .int .i64 (m : Int) ∧ Hid (PAt g v l j8 wr) ∧ Hid (w.grownBy wr (some g)) ∧ Hid (Bx wr (w.heap.size) 28 z10) ∧ Hid (Bx wr (w.heap.size + 1) 28 #[.int .i64 5, .string t, sZ, .slice ca m cc, nZ, nZ, nZ, .bool false, iZ, .slice ya m yc])
    ∧ Hid (wr.ownsRow w.heap.size 9 1 (.slice ca m cc) m ((L.take m).flatMap fun x => cS x.1)) ∧ Hid (wr.ownsRow w.heap.size 3 1 (.slice ya m yc) m ((L.take m).flatMap fun x => cI x.2)) ∧ Hid (wr.ownsRow w.heap.size 126 2 (.slice (some ⟨cb, 0, none⟩) L.length cc0) L.length (L.flatMap cP))) (fun _ k _ _ _ _ _ _ _ _ _ _ _ _ _ _ _ _ _ _ _ => L.length - (intOf k).toNat)
  case atStart => exact ⟨0, none, none, 0, 0, by omega, rfl, hP8, kk8, br8, bx8, World.ownsRow_nil _ _ _ _, World.ownsRow_nil _ _ _ _, hrow⟩
  case round =>
    obtain ⟨m, ca, ya, cc, yc, hm, rfl, HP, HK, HR, HX, Hc, Hy, Ho⟩ := hrel
    have hsr : w.heap.size ≤ wr.heap.size := HK.out.size
    have hlx := HX.out.lt
    have hLo := hLl.out
    by_cases hml : m < L.length
    · obtain ⟨e, he⟩ : ∃ e, L[m]? = some e := ⟨_, List.getElem?_eq_getElem hml⟩
      obtain ⟨d0, d1⟩ := col_at Ho.out he
      have hcb := (Ho.out.lt cb rfl).2
      have htk : L.take (m + 1) = L.take m ++ [e] := by rw [List.take_add_one, he]; rfl
      have cx3 : wr.cell? ⟨w.heap.size + 1, 3, none⟩ = some (.slice ca m cc) := HX.out.cell 3 _ rfl
      obtain ⟨ec, et⟩ := e
      simp only at d0 d1
      have hmi : (m : Int) + 1 ≤ 2001 := by omega
      have hml2 : m ≤ 100000 := by omega
      have hTc : Hid ((L.take (m + 1)).flatMap (fun x => cS x.1) = (L.take m).flatMap (fun x => cS x.1) ++ [.string ec]) := by unfold Hid; rw [htk]; simp [cS]
      have hTy : Hid ((L.take (m + 1)).flatMap (fun x => cI x.2) = (L.take m).flatMap (fun x => cI x.2) ++ [.int .i64 et]) := by unfold Hid; rw [htk]; simp [cI]
      have hgd : (m : Int) < (nL : Int) := by omega
      clear he htk hLo
      go_wp2_with (first
        | (at_builtin; have hz := kkA; clear hz; refine appG_int _ rfl _ _ rfl w.heap.size _ m _ rfl ((row_set oAy bxA (by decide) 3 _).alloc _) _ _ et rfl (Bx.newB (by simp)) hml2 (by simp; omega) ?_; intro vB wB hownB hbelB hgrB; obtain ⟨yaB, ycB, rfl⟩ := own_formQ hownB
           have kkB := kp_belowB (kp_alloc (kp_set kkA (by omega) 3 _) _) hbelB (Nat.le_refl _)
           have bxB := ((bxA.set 3 _).alloc _).row ((row_set oAy bxA (by decide) 3 _).alloc _) hgrB (by decide)
           have brB := ((brA.other (by omega) 3 _).alloc _).row ((row_set oAy bxA (by decide) 3 _).alloc _) hgrB (by decide)
           have oBc := row_row ((row_set hownA bxA (by decide) 3 _).alloc _) ((row_set oAy bxA (by decide) 3 _).alloc _) hgrB (by decide)
           have oBl := row_row ((row_set oAl bxA (by decide) 3 _).alloc _) ((row_set oAy bxA (by decide) 3 _).alloc _) hgrB (by decide)
           have cx9 : wB.cell? ⟨w.heap.size + 1, 9, none⟩ = some (.slice ya m yc) := bxB.cell 9 _ rfl
           have fx9 := bxB.open 9
           have hlxB := bxB.lt
           have hsAB : wA.heap.size ≤ wB.heap.size := (by have := hbelB.size; simp at this; omega))
        | (at_builtin; refine appG_str _ rfl _ _ rfl w.heap.size _ m _ rfl ((Hc.out.alloc _).alloc _) _ _ ec rfl (Bx.newB (by simp)) hml2 (by simp; omega) ?_; intro vA wA hownA hbelA hgrA; obtain ⟨caA, ccA, rfl⟩ := own_formQ hownA
           have kkA := kp_belowB (kp_alloc (kp_alloc HK.out _) _) hbelA (Nat.le_refl _)
           have bxA := ((HX.out.alloc _).alloc _).row ((Hc.out.alloc _).alloc _) hgrA (by decide)
           have brA := ((HR.out.alloc _).alloc _).row ((Hc.out.alloc _).alloc _) hgrA (by decide)
           have beA := ((Bx.new wr 126 #[.string ec, .int .i64 et]).alloc _).row ((Hc.out.alloc _).alloc _) hgrA (by decide)
           have oAy := row_row ((Hy.out.alloc _).alloc _) ((Hc.out.alloc _).alloc _) hgrA (by decide)
           have oAl := row_row ((Ho.out.alloc _).alloc _) ((Hc.out.alloc _).alloc _) hgrA (by decide)
           have hsA : wr.heap.size < wA.heap.size := beA.lt
           have cx9 : wA.cell? ⟨w.heap.size + 1, 9, none⟩ = some (.slice ya m yc) := bxA.cell 9 _ rfl
           have cx3b : wA.cell? ⟨w.heap.size + 1, 3, none⟩ = some (.slice ca m cc) := bxA.cell 3 _ rfl
           have fx3 := bxA.open 3
           have ce1 : wA.cell? ⟨wr.heap.size, 1, none⟩ = some (.int .i64 et) := beA.cell 1 _ rfl
           have nee : ¬ wr.heap.size = w.heap.size + 1 := (by omega)
           have nee2 : ¬ w.heap.size + 1 = wr.heap.size := (by omega)
           have hlxA := bxA.lt))
      go_roundw
      case rel =>
        refine ⟨m + 1, caA, yaB, ccA, ycB, by omega, by go_num, ?_, kp_set kkB (by omega) 9 _, brB.other (by omega) 9 _, bxB.set 9 _, ?_, ?_, row_set oBl bxB (by decide) 9 _⟩
        · exact hP.of_kp (kp_set kkB (by omega) 9 _) (((hbelB.block g (by omega)).trans (((hbelA.block g (by omega)).trans (((HP.out.alloc _).alloc _).box) |> fun h => (Bx.other (w := wA) h (by omega) 3 _)).alloc _)) |> fun h => Bx.other (w := wB) h (by omega) 9 _) HP.out.lt
        · unfold Hid
          rw [hTc.out]
          exact row_set oBc bxB (by decide) 9 _
        · unfold Hid
          rw [hTy.out]
          exact row_set hownB bxB (by decide) 9 _
      case measure => simp [intOf]; omega
    · have HM : Hid (m = L.length) := by unfold Hid; omega
      have cx := HX.out
      have cr := HR.out
      have cx0 : wr.cell? ⟨w.heap.size + 1, 0, none⟩ = some (.int .i64 5) := cx.cell 0 _ rfl
      have cx1 : wr.cell? ⟨w.heap.size + 1, 1, none⟩ = some (.string t) := cx.cell 1 _ rfl
      have cx2 : wr.cell? ⟨w.heap.size + 1, 2, none⟩ = some (.string ⟨#[]⟩) := cx.cell 2 _ rfl
      have cx3 : wr.cell? ⟨w.heap.size + 1, 3, none⟩ = some (.slice ca m cc) := cx.cell 3 _ rfl
      have cx4 : wr.cell? ⟨w.heap.size + 1, 4, none⟩ = some (.slice none 0 0) := cx.cell 4 _ rfl
      have cx5 : wr.cell? ⟨w.heap.size + 1, 5, none⟩ = some (.slice none 0 0) := cx.cell 5 _ rfl
      have cx6 : wr.cell? ⟨w.heap.size + 1, 6, none⟩ = some (.slice none 0 0) := cx.cell 6 _ rfl
      have cx7 : wr.cell? ⟨w.heap.size + 1, 7, none⟩ = some (.bool false) := cx.cell 7 _ rfl
      have cx8 : wr.cell? ⟨w.heap.size + 1, 8, none⟩ = some (.int .i64 0) := cx.cell 8 _ rfl
      have cx9 : wr.cell? ⟨w.heap.size + 1, 9, none⟩ = some (.slice ya m yc) := cx.cell 9 _ rfl
      have cr0 : wr.cell? ⟨w.heap.size, 0, none⟩ = some (.int .i64 0) := cr.cell 0 _ rfl
      have cr1 : wr.cell? ⟨w.heap.size, 1, none⟩ = some (.string ⟨#[]⟩) := cr.cell 1 _ rfl
      have cr2 : wr.cell? ⟨w.heap.size, 2, none⟩ = some (.string ⟨#[]⟩) := cr.cell 2 _ rfl
      have cr3 : wr.cell? ⟨w.heap.size, 3, none⟩ = some (.slice none 0 0) := cr.cell 3 _ rfl
      have cr4 : wr.cell? ⟨w.heap.size, 4, none⟩ = some (.slice none 0 0) := cr.cell 4 _ rfl
      have cr5 : wr.cell? ⟨w.heap.size, 5, none⟩ = some (.slice none 0 0) := cr.cell 5 _ rfl
      have cr6 : wr.cell? ⟨w.heap.size, 6, none⟩ = some (.slice none 0 0) := cr.cell 6 _ rfl
      have cr7 : wr.cell? ⟨w.heap.size, 7, none⟩ = some (.bool false) := cr.cell 7 _ rfl
      have cr8 : wr.cell? ⟨w.heap.size, 8, none⟩ = some (.int .i64 0) := cr.cell 8 _ rfl
      have cr9 : wr.cell? ⟨w.heap.size, 9, none⟩ = some (.slice none 0 0) := cr.cell 9 _ rfl
      have fr0 := cr.open 0
      have fr1 := cr.open 1
      have fr2 := cr.open 2
      have fr3 := cr.open 3
      have fr4 := cr.open 4
      have fr5 := cr.open 5
      have fr6 := cr.open 6
      have fr7 := cr.open 7
      have fr8 := cr.open 8
      have fr9 := cr.open 9
      have lr := cr.lt
      have hgd : ¬ (m : Int) < (nL : Int) := by omega
      clear cx cr hLo hml hm
      go_wp2
      refine bodyPost_ret (v := .agg #[.int .i64 5, .string t, .string ⟨#[]⟩, .slice ca m cc, .slice none 0 0, .slice none 0 0, .slice none 0 0, .bool false, .int .i64 0, .slice ya m yc]) (by simp [results, Tryz.results63, go_sem, cr0, cr1, cr2, cr3, cr4, cr5, cr6, cr7, cr8, cr9]) rfl ?_
      have hm2 := HM.out
      rw [HL.out]
      refine ⟨kp_sets HK.out (Nat.le_refl _) 0 [.int .i64 5, .string t, .string ⟨#[]⟩, .slice ca m cc, .slice none 0 0, .slice none 0 0, .slice none 0 0, .bool false, .int .i64 0, .slice ya m yc], j8, (by omega), PAt.sets HP.out HR.out (by decide) (by omega) 0 [.int .i64 5, .string t, .string ⟨#[]⟩, .slice ca m cc, .slice none 0 0, .slice none 0 0, .slice none 0 0, .bool false, .int .i64 0, .slice ya m yc], hr8, _, rfl, ⟨ca, cc, none, 0, none, 0, none, 0, ya, yc⟩, by rw [show (L.map (·.1)).length = m by rw [List.length_map]; exact hm2.symm, show (L.map (·.2)).length = m by rw [List.length_map]; exact hm2.symm]; rfl, ?_⟩
      refine ⟨?_, World.ownsRow_nil _ _ _ _, World.ownsRow_nil _ _ _ _, World.ownsRow_nil _ _ _ _, ?_⟩
      · have hrs := row_sets Hc.out HR.out (by decide) 0 [.int .i64 5, .string t, .string ⟨#[]⟩, .slice ca m cc, .slice none 0 0, .slice none 0 0, .slice none 0 0, .bool false, .int .i64 0, .slice ya m yc]
        rw [List.take_of_length_le (show L.length ≤ m by omega)] at hrs
        show World.ownsRow _ _ _ 1 (.slice ca (L.map (·.1)).length cc) (L.map (·.1)).length ((L.map (·.1)).flatMap cS)
        rw [List.length_map, ← hm2, List.flatMap_map]
        exact hrs
      · have hrs := row_sets Hy.out HR.out (by decide) 0 [.int .i64 5, .string t, .string ⟨#[]⟩, .slice ca m cc, .slice none 0 0, .slice none 0 0, .slice none 0 0, .bool false, .int .i64 0, .slice ya m yc]
        rw [List.take_of_length_le (show L.length ≤ m by omega)] at hrs
        show World.ownsRow _ _ _ 1 (.slice ya (L.map (·.2)).length yc) (L.map (·.2)).length ((L.map (·.2)).flatMap cI)
        rw [List.length_map, ← hm2, List.flatMap_map]
        exact hrs
theorem sqreadTable_w7 {g : Nat} {v : Value} {l : List Tok} (hE : EndK l) {i : Nat}  {t : ByteArray} {q1 q2 : List TkC} {c1 : ByteArray} {c2 : Int} {q3 q4 q6 : List TkC} (e1 : nameR (rem l i) = (some t, q1)) (e2 : takeR ⟨#[40]⟩ q1 = (some (), q2)) (e3 : columnR q2 = (some (c1, c2), q3)) (e4 : takesR [⟨#[112, 114, 105, 109, 97, 114, 121]⟩, ⟨#[107, 101, 121]⟩] q3 = (some (), q4)) (hb5 : isT ⟨#[44]⟩ q4 = false) (e6 : takeR ⟨#[41]⟩ q4 = (none, q6)) (w : World) (hP : PAt g v l i w) :
    Calls Tryz.prog 63 #[.pointer (some ⟨g, 0, none⟩)] w (Tells g v l i w VX (tableR (rem l i))) := by
  have hg0 := hP.g_lt
  have HO : Hid (tableR (rem l i) = (none, q6)) := by
    unfold Hid
    simp only [tableR, bnd, opt, ret, e1, e2, e3, e4, hb5, Bool.false_eq_true, if_false, e6]
  go_enter Tryz.func63, Tryz.ntmps63
  go_wp2_with (first
    | (go_at_call 34; refine (take_1 hE (by decide) _ (hP5.alloc _) (Bx.newB (by simp)) (by omega)).mono ?_; intro e w6 hT6; obtain ⟨j6, rfl, hk6, hj6, hP6, hr6⟩ := tells_no hT6 hr4 e6)
    | (go_at_call 27; refine (took_no hb5 _ hP4 hr4).mono ?_; rintro e w5 ⟨rfl, hk5, hP5⟩; have kk5 := kk4.trans hk5; have hs5 := kk5.size; have br5 := Bx.kp br4 hk5 (by omega); have lr5 := br5.lt; have bx5 := Bx.kp bx4 hk5 (by omega); have lx5 := bx5.lt; have ol5 := row_kp ol4 hk5 hg0)
    | (go_at_call 34; refine (take_2 hE (by decide) (by decide) _ ((hP3.alloc (.cells #[.string c1, .int .i64 c2] 126)).alloc _) (Bx.newB (by simp)) (by omega)).mono ?_; intro e w4 hT4; obtain ⟨_, j4, rfl, hk4, hj4, hP4, hr4, rfl⟩ := tells_yes hT4 hr3 e4; have kk4 := (kp_alloc (kp_alloc kk3 _) _).trans hk4; have hs4 := kk4.size; have br4 : Bx w4 (w.heap.size) 28 z10 := Bx.kp ((br3.alloc (.cells #[.string c1, .int .i64 c2] 126)).alloc _) hk4 (by omega); have lr4 := br4.lt; have bx4 : Bx w4 (w.heap.size + 1) 28 #[.int .i64 5, .string t, sZ, nZ, nZ, nZ, nZ, .bool false, iZ, nZ] := Bx.kp ((bx3.alloc (.cells #[.string c1, .int .i64 c2] 126)).alloc _) hk4 (by omega); have lx4 := bx4.lt; have ol4 := row_kp ((World.ownsRow_lit w3 #[.string c1, .int .i64 c2] 1 hs3 (by decide) rfl : (w3.alloc (.cells #[.string c1, .int .i64 c2] 126)).ownsRow w.heap.size 126 2 (.slice (some ⟨w3.heap.size, 0, none⟩) 1 1) 1 [.string c1, .int .i64 c2]).alloc _) hk4 hg0)
    | (go_at_call 105; refine (sqreadColumn_any hE _ hP2).mono ?_; intro e w3 hT3; obtain ⟨u3, j3, rfl, hk3, hj3, hP3, hr3, hV3⟩ := tells_yes hT3 hr2 e3; obtain rfl : u3 = .agg #[.string c1, .int .i64 c2] := hV3; have kk3 := kk2.trans hk3; have hs3 := kk3.size; have br3 := Bx.kp br2 hk3 (by omega); have lr3 := br3.lt; have bx3 := Bx.kp bx2 hk3 (by omega); have lx3 := bx3.lt)
    | (go_at_call 34; refine (take_1 hE (by decide) _ ((hP1.set bx1 (by decide) (by omega) 1 (.string t)).alloc _) (Bx.newB (by simp)) (by omega)).mono ?_; intro e w2 hT2; obtain ⟨_, j2, rfl, hk2, hj2, hP2, hr2, rfl⟩ := tells_yes hT2 hr1 e2; have kk2 := (kp_alloc (kp_set kk1 (by omega) 1 (.string t)) _).trans hk2; have hs2 := kk2.size; have br2 : Bx w2 (w.heap.size) 28 z10 := Bx.kp ((br1.other (by omega) 1 (.string t)).alloc _) hk2 (by omega); have lr2 := br2.lt; have bx2 : Bx w2 (w.heap.size + 1) 28 #[.int .i64 5, .string t, sZ, nZ, nZ, nZ, nZ, .bool false, iZ, nZ] := Bx.kp ((bx1.set 1 (.string t)).alloc _) hk2 (by omega); have lx2 := bx2.lt)
    | (go_at_call 55; refine (sqreadName_any hE _ ((hP.alloc _).alloc _)).mono ?_; intro e w1 hT1; obtain ⟨_, j1, rfl, hk1, hj1, hP1, hr1, rfl⟩ := tells_yes hT1 rfl e1; have kk1 := (kp_alloc (kp_alloc (gr w g) _) _).trans hk1; have hs1 := kk1.size; have br1 : Bx w1 (w.heap.size) 28 z10 := Bx.kp ((Bx.newB (by simp) : Bx _ (w.heap.size) 28 z10).alloc _) hk1 (by omega); have lr1 := br1.lt; have bx1 : Bx w1 (w.heap.size + 1) 28 #[.int .i64 5, sZ, sZ, nZ, nZ, nZ, nZ, .bool false, iZ, nZ] := Bx.kp (Bx.newB (by simp) : Bx _ (w.heap.size + 1) 28 #[.int .i64 5, sZ, sZ, nZ, nZ, nZ, nZ, .bool false, iZ, nZ]) hk1 (by omega); have lx1 := bx1.lt; have cx1_1 := bx1.t1; have fx1_1 := bx1.open 1))
  refine ⟨rfl, ?_⟩
  rw [HO.out]
  exact ⟨(kp_alloc kk5 _).trans hk6, j6, (by omega), hP6, hr6, rfl⟩
theorem sqreadTable_w8 {g : Nat} {v : Value} {l : List Tok} (hE : EndK l) {i : Nat}  {t : ByteArray} {q1 q2 : List TkC} {c1 : ByteArray} {c2 : Int} {q3 q4 q6 : List TkC} (e1 : nameR (rem l i) = (some t, q1)) (e2 : takeR ⟨#[40]⟩ q1 = (some (), q2)) (e3 : columnR q2 = (some (c1, c2), q3)) (e4 : takesR [⟨#[112, 114, 105, 109, 97, 114, 121]⟩, ⟨#[107, 101, 121]⟩] q3 = (some (), q4)) (hb5 : isT ⟨#[44]⟩ q4 = false) (e6 : takeR ⟨#[41]⟩ q4 = (some (), q6)) (w : World) (hP : PAt g v l i w) :
    Calls Tryz.prog 63 #[.pointer (some ⟨g, 0, none⟩)] w (Tells g v l i w VX (tableR (rem l i))) := by
  have hg0 := hP.g_lt
  have HO : Hid (tableR (rem l i) = (some { Stm.zero with kind := 5, table := t, cols := ([(c1, c2)] : List (ByteArray × Int)).map (·.1), types := ([(c1, c2)] : List (ByteArray × Int)).map (·.2) }, q6)) := by
    unfold Hid
    simp only [tableR, bnd, opt, ret, e1, e2, e3, e4, hb5, Bool.false_eq_true, if_false, e6]
  go_enter Tryz.func63, Tryz.ntmps63
  go_wp2_with (first
    | (go_at_call 34; refine (take_1 hE (by decide) _ (hP5.alloc _) (Bx.newB (by simp)) (by omega)).mono ?_; intro e w6 hT6; obtain ⟨_, j6, rfl, hk6, hj6, hP6, hr6, rfl⟩ := tells_yes hT6 hr4 e6; have kk6 := (kp_alloc kk5 _).trans hk6; have hs6 := kk6.size; have br6 : Bx w6 (w.heap.size) 28 z10 := Bx.kp (br5.alloc _) hk6 (by omega); have lr6 := br6.lt; have bx6 : Bx w6 (w.heap.size + 1) 28 #[.int .i64 5, .string t, sZ, nZ, nZ, nZ, nZ, .bool false, iZ, nZ] := Bx.kp (bx5.alloc _) hk6 (by omega); have lx6 := bx6.lt; have ol6 := row_kp (ol5.alloc _) hk6 hg0)
    | (go_at_call 27; refine (took_no hb5 _ hP4 hr4).mono ?_; rintro e w5 ⟨rfl, hk5, hP5⟩; have kk5 := kk4.trans hk5; have hs5 := kk5.size; have br5 := Bx.kp br4 hk5 (by omega); have lr5 := br5.lt; have bx5 := Bx.kp bx4 hk5 (by omega); have lx5 := bx5.lt; have ol5 := row_kp ol4 hk5 hg0)
    | (go_at_call 34; refine (take_2 hE (by decide) (by decide) _ ((hP3.alloc (.cells #[.string c1, .int .i64 c2] 126)).alloc _) (Bx.newB (by simp)) (by omega)).mono ?_; intro e w4 hT4; obtain ⟨_, j4, rfl, hk4, hj4, hP4, hr4, rfl⟩ := tells_yes hT4 hr3 e4; have kk4 := (kp_alloc (kp_alloc kk3 _) _).trans hk4; have hs4 := kk4.size; have br4 : Bx w4 (w.heap.size) 28 z10 := Bx.kp ((br3.alloc (.cells #[.string c1, .int .i64 c2] 126)).alloc _) hk4 (by omega); have lr4 := br4.lt; have bx4 : Bx w4 (w.heap.size + 1) 28 #[.int .i64 5, .string t, sZ, nZ, nZ, nZ, nZ, .bool false, iZ, nZ] := Bx.kp ((bx3.alloc (.cells #[.string c1, .int .i64 c2] 126)).alloc _) hk4 (by omega); have lx4 := bx4.lt; have ol4 := row_kp ((World.ownsRow_lit w3 #[.string c1, .int .i64 c2] 1 hs3 (by decide) rfl : (w3.alloc (.cells #[.string c1, .int .i64 c2] 126)).ownsRow w.heap.size 126 2 (.slice (some ⟨w3.heap.size, 0, none⟩) 1 1) 1 [.string c1, .int .i64 c2]).alloc _) hk4 hg0)
    | (go_at_call 105; refine (sqreadColumn_any hE _ hP2).mono ?_; intro e w3 hT3; obtain ⟨u3, j3, rfl, hk3, hj3, hP3, hr3, hV3⟩ := tells_yes hT3 hr2 e3; obtain rfl : u3 = .agg #[.string c1, .int .i64 c2] := hV3; have kk3 := kk2.trans hk3; have hs3 := kk3.size; have br3 := Bx.kp br2 hk3 (by omega); have lr3 := br3.lt; have bx3 := Bx.kp bx2 hk3 (by omega); have lx3 := bx3.lt)
    | (go_at_call 34; refine (take_1 hE (by decide) _ ((hP1.set bx1 (by decide) (by omega) 1 (.string t)).alloc _) (Bx.newB (by simp)) (by omega)).mono ?_; intro e w2 hT2; obtain ⟨_, j2, rfl, hk2, hj2, hP2, hr2, rfl⟩ := tells_yes hT2 hr1 e2; have kk2 := (kp_alloc (kp_set kk1 (by omega) 1 (.string t)) _).trans hk2; have hs2 := kk2.size; have br2 : Bx w2 (w.heap.size) 28 z10 := Bx.kp ((br1.other (by omega) 1 (.string t)).alloc _) hk2 (by omega); have lr2 := br2.lt; have bx2 : Bx w2 (w.heap.size + 1) 28 #[.int .i64 5, .string t, sZ, nZ, nZ, nZ, nZ, .bool false, iZ, nZ] := Bx.kp ((bx1.set 1 (.string t)).alloc _) hk2 (by omega); have lx2 := bx2.lt)
    | (go_at_call 55; refine (sqreadName_any hE _ ((hP.alloc _).alloc _)).mono ?_; intro e w1 hT1; obtain ⟨_, j1, rfl, hk1, hj1, hP1, hr1, rfl⟩ := tells_yes hT1 rfl e1; have kk1 := (kp_alloc (kp_alloc (gr w g) _) _).trans hk1; have hs1 := kk1.size; have br1 : Bx w1 (w.heap.size) 28 z10 := Bx.kp ((Bx.newB (by simp) : Bx _ (w.heap.size) 28 z10).alloc _) hk1 (by omega); have lr1 := br1.lt; have bx1 : Bx w1 (w.heap.size + 1) 28 #[.int .i64 5, sZ, sZ, nZ, nZ, nZ, nZ, .bool false, iZ, nZ] := Bx.kp (Bx.newB (by simp) : Bx _ (w.heap.size + 1) 28 #[.int .i64 5, sZ, sZ, nZ, nZ, nZ, nZ, .bool false, iZ, nZ]) hk1 (by omega); have lx1 := bx1.lt; have cx1_1 := bx1.t1; have fx1_1 := bx1.open 1))
  obtain ⟨L, hL⟩ : ∃ L : List (ByteArray × Int), ([(c1, c2)] : List (ByteArray × Int)) = L := ⟨_, rfl⟩
  have HL : Hid (tableR (rem l i) = (some { Stm.zero with kind := 5, table := t, cols := L.map (·.1), types := L.map (·.2) }, q6)) := by
    rw [← hL]
    exact HO
  have hrow : w6.ownsRow w.heap.size 126 2 (.slice (some ⟨w3.heap.size, 0, none⟩) L.length 1) L.length (L.flatMap cP) := by
    rw [← hL]
    exact ol6
  have hLs : L.length ≤ 2000 := by
    rw [← hL]
    exact (by decide : (1 : Nat) ≤ 2000)
  have hLl : Hid ((1 : Int) = (L.length : Int)) := by
    unfold Hid
    rw [← hL]
    rfl
  have hpr := j6
  clear hL ol6 HO
  go_loopw [6, 31, 32, 33, 34, 35, 36, 37, 38, 39, 40, 41, 42, 43, 44, 45, 46, 47, 48, 49] (fun _ k _ _ _ _ _ _ _ _ _ _ _ _ _ _ _ _ _ _ wr => ∃ (m : Nat) (ca ya : Option Addr) (cc yc : Nat), m ≤ L.length ∧ k = .int .i64 (m : Int) ∧ Hid (PAt g v l j6 wr) ∧ Hid (w.grownBy wr (some g)) ∧ Hid (Bx wr (w.heap.size) 28 z10) ∧ Hid (Bx wr (w.heap.size + 1) 28 #[.int .i64 5, .string t, sZ, .slice ca m cc, nZ, nZ, nZ, .bool false, iZ, .slice ya m yc])
    ∧ Hid (wr.ownsRow w.heap.size 9 1 (.slice ca m cc) m ((L.take m).flatMap fun x => cS x.1)) ∧ Hid (wr.ownsRow w.heap.size 3 1 (.slice ya m yc) m ((L.take m).flatMap fun x => cI x.2)) ∧ Hid (wr.ownsRow w.heap.size 126 2 (.slice (some ⟨w3.heap.size, 0, none⟩) L.length 1) L.length (L.flatMap cP))) (fun _ k _ _ _ _ _ _ _ _ _ _ _ _ _ _ _ _ _ _ _ => L.length - (intOf k).toNat)
  case atStart => exact ⟨0, none, none, 0, 0, by omega, rfl, hP6, kk6, br6, bx6, World.ownsRow_nil _ _ _ _, World.ownsRow_nil _ _ _ _, hrow⟩
  case round =>
    obtain ⟨m, ca, ya, cc, yc, hm, rfl, HP, HK, HR, HX, Hc, Hy, Ho⟩ := hrel
    have hsr : w.heap.size ≤ wr.heap.size := HK.out.size
    have hlx := HX.out.lt
    have hLo := hLl.out
    by_cases hml : m < L.length
    · obtain rfl : m = 0 := by omega 
      obtain ⟨e, he⟩ : ∃ e, L[0]? = some e := ⟨_, List.getElem?_eq_getElem hml⟩
      obtain ⟨d0, d1⟩ := col_at Ho.out he
      have hcb := (Ho.out.lt w3.heap.size rfl).2
      have htk : L.take (0 + 1) = L.take 0 ++ [e] := by rw [List.take_add_one, he]; rfl
      have cx3 : wr.cell? ⟨w.heap.size + 1, 3, none⟩ = some (.slice ca 0 cc) := HX.out.cell 3 _ rfl
      obtain ⟨ec, et⟩ := e
      simp only at d0 d1
      replace d0 : wr.cell? ⟨w3.heap.size, 0, none⟩ = some (.string ec) := d0
      replace d1 : wr.cell? ⟨w3.heap.size, 1, none⟩ = some (.int .i64 et) := d1
      have hml2 : 0 ≤ 100000 := by omega
      have hTc : Hid ((L.take (0 + 1)).flatMap (fun x => cS x.1) = (L.take 0).flatMap (fun x => cS x.1) ++ [.string ec]) := by unfold Hid; rw [htk]; simp [cS]
      have hTy : Hid ((L.take (0 + 1)).flatMap (fun x => cI x.2) = (L.take 0).flatMap (fun x => cI x.2) ++ [.int .i64 et]) := by unfold Hid; rw [htk]; simp [cI]

      clear he htk hLo
      go_wp2_with (first
        | (at_builtin; have hz := kkA; clear hz; refine appG_int _ rfl _ _ rfl w.heap.size _ 0 _ rfl ((row_set oAy bxA (by decide) 3 _).alloc _) _ _ et rfl (Bx.newB (by simp)) hml2 (by simp; omega) ?_; intro vB wB hownB hbelB hgrB; obtain ⟨yaB, ycB, rfl⟩ := own_formQ hownB
           have kkB := kp_belowB (kp_alloc (kp_set kkA (by omega) 3 _) _) hbelB (Nat.le_refl _)
           have bxB := ((bxA.set 3 _).alloc _).row ((row_set oAy bxA (by decide) 3 _).alloc _) hgrB (by decide)
           have brB := ((brA.other (by omega) 3 _).alloc _).row ((row_set oAy bxA (by decide) 3 _).alloc _) hgrB (by decide)
           have oBc := row_row ((row_set hownA bxA (by decide) 3 _).alloc _) ((row_set oAy bxA (by decide) 3 _).alloc _) hgrB (by decide)
           have oBl := row_row ((row_set oAl bxA (by decide) 3 _).alloc _) ((row_set oAy bxA (by decide) 3 _).alloc _) hgrB (by decide)
           have cx9 : wB.cell? ⟨w.heap.size + 1, 9, none⟩ = some (.slice ya 0 yc) := bxB.cell 9 _ rfl
           have fx9 := bxB.open 9
           have hlxB := bxB.lt
           have hsAB : wA.heap.size ≤ wB.heap.size := (by have := hbelB.size; simp at this; omega))
        | (at_builtin; refine appG_str _ rfl _ _ rfl w.heap.size _ 0 _ rfl ((Hc.out.alloc _).alloc _) _ _ ec rfl (Bx.newB (by simp)) hml2 (by simp; omega) ?_; intro vA wA hownA hbelA hgrA; obtain ⟨caA, ccA, rfl⟩ := own_formQ hownA
           have kkA := kp_belowB (kp_alloc (kp_alloc HK.out _) _) hbelA (Nat.le_refl _)
           have bxA := ((HX.out.alloc _).alloc _).row ((Hc.out.alloc _).alloc _) hgrA (by decide)
           have brA := ((HR.out.alloc _).alloc _).row ((Hc.out.alloc _).alloc _) hgrA (by decide)
           have beA := ((Bx.new wr 126 #[.string ec, .int .i64 et]).alloc _).row ((Hc.out.alloc _).alloc _) hgrA (by decide)
           have oAy := row_row ((Hy.out.alloc _).alloc _) ((Hc.out.alloc _).alloc _) hgrA (by decide)
           have oAl := row_row ((Ho.out.alloc _).alloc _) ((Hc.out.alloc _).alloc _) hgrA (by decide)
           have hsA : wr.heap.size < wA.heap.size := beA.lt
           have cx9 : wA.cell? ⟨w.heap.size + 1, 9, none⟩ = some (.slice ya 0 yc) := bxA.cell 9 _ rfl
           have cx3b : wA.cell? ⟨w.heap.size + 1, 3, none⟩ = some (.slice ca 0 cc) := bxA.cell 3 _ rfl
           have fx3 := bxA.open 3
           have ce1 : wA.cell? ⟨wr.heap.size, 1, none⟩ = some (.int .i64 et) := beA.cell 1 _ rfl
           have nee : ¬ wr.heap.size = w.heap.size + 1 := (by omega)
           have nee2 : ¬ w.heap.size + 1 = wr.heap.size := (by omega)
           have hlxA := bxA.lt))
      go_roundw
      case rel =>
        refine ⟨0 + 1, caA, yaB, ccA, ycB, by omega, by go_num, ?_, kp_set kkB (by omega) 9 _, brB.other (by omega) 9 _, bxB.set 9 _, ?_, ?_, row_set oBl bxB (by decide) 9 _⟩
        · exact hP.of_kp (kp_set kkB (by omega) 9 _) (((hbelB.block g (by omega)).trans (((hbelA.block g (by omega)).trans (((HP.out.alloc _).alloc _).box) |> fun h => (Bx.other (w := wA) h (by omega) 3 _)).alloc _)) |> fun h => Bx.other (w := wB) h (by omega) 9 _) HP.out.lt
        · unfold Hid
          rw [hTc.out]
          exact row_set oBc bxB (by decide) 9 _
        · unfold Hid
          rw [hTy.out]
          exact row_set hownB bxB (by decide) 9 _
      case measure => simp [intOf]; omega
    · obtain rfl : m = 1 := by omega
      have HM : Hid (1 = L.length) := by unfold Hid; omega
      have cx := HX.out
      have cr := HR.out
      have cx0 : wr.cell? ⟨w.heap.size + 1, 0, none⟩ = some (.int .i64 5) := cx.cell 0 _ rfl
      have cx1 : wr.cell? ⟨w.heap.size + 1, 1, none⟩ = some (.string t) := cx.cell 1 _ rfl
      have cx2 : wr.cell? ⟨w.heap.size + 1, 2, none⟩ = some (.string ⟨#[]⟩) := cx.cell 2 _ rfl
      have cx3 : wr.cell? ⟨w.heap.size + 1, 3, none⟩ = some (.slice ca 1 cc) := cx.cell 3 _ rfl
      have cx4 : wr.cell? ⟨w.heap.size + 1, 4, none⟩ = some (.slice none 0 0) := cx.cell 4 _ rfl
      have cx5 : wr.cell? ⟨w.heap.size + 1, 5, none⟩ = some (.slice none 0 0) := cx.cell 5 _ rfl
      have cx6 : wr.cell? ⟨w.heap.size + 1, 6, none⟩ = some (.slice none 0 0) := cx.cell 6 _ rfl
      have cx7 : wr.cell? ⟨w.heap.size + 1, 7, none⟩ = some (.bool false) := cx.cell 7 _ rfl
      have cx8 : wr.cell? ⟨w.heap.size + 1, 8, none⟩ = some (.int .i64 0) := cx.cell 8 _ rfl
      have cx9 : wr.cell? ⟨w.heap.size + 1, 9, none⟩ = some (.slice ya 1 yc) := cx.cell 9 _ rfl
      have cr0 : wr.cell? ⟨w.heap.size, 0, none⟩ = some (.int .i64 0) := cr.cell 0 _ rfl
      have cr1 : wr.cell? ⟨w.heap.size, 1, none⟩ = some (.string ⟨#[]⟩) := cr.cell 1 _ rfl
      have cr2 : wr.cell? ⟨w.heap.size, 2, none⟩ = some (.string ⟨#[]⟩) := cr.cell 2 _ rfl
      have cr3 : wr.cell? ⟨w.heap.size, 3, none⟩ = some (.slice none 0 0) := cr.cell 3 _ rfl
      have cr4 : wr.cell? ⟨w.heap.size, 4, none⟩ = some (.slice none 0 0) := cr.cell 4 _ rfl
      have cr5 : wr.cell? ⟨w.heap.size, 5, none⟩ = some (.slice none 0 0) := cr.cell 5 _ rfl
      have cr6 : wr.cell? ⟨w.heap.size, 6, none⟩ = some (.slice none 0 0) := cr.cell 6 _ rfl
      have cr7 : wr.cell? ⟨w.heap.size, 7, none⟩ = some (.bool false) := cr.cell 7 _ rfl
      have cr8 : wr.cell? ⟨w.heap.size, 8, none⟩ = some (.int .i64 0) := cr.cell 8 _ rfl
      have cr9 : wr.cell? ⟨w.heap.size, 9, none⟩ = some (.slice none 0 0) := cr.cell 9 _ rfl
      have fr0 := cr.open 0
      have fr1 := cr.open 1
      have fr2 := cr.open 2
      have fr3 := cr.open 3
      have fr4 := cr.open 4
      have fr5 := cr.open 5
      have fr6 := cr.open 6
      have fr7 := cr.open 7
      have fr8 := cr.open 8
      have fr9 := cr.open 9
      have lr := cr.lt

      clear cx cr hLo hml hm
      go_wp2
      refine bodyPost_ret (v := .agg #[.int .i64 5, .string t, .string ⟨#[]⟩, .slice ca 1 cc, .slice none 0 0, .slice none 0 0, .slice none 0 0, .bool false, .int .i64 0, .slice ya 1 yc]) (by simp [results, Tryz.results63, go_sem, cr0, cr1, cr2, cr3, cr4, cr5, cr6, cr7, cr8, cr9]) rfl ?_
      have hm2 := HM.out
      rw [HL.out]
      refine ⟨kp_sets HK.out (Nat.le_refl _) 0 [.int .i64 5, .string t, .string ⟨#[]⟩, .slice ca 1 cc, .slice none 0 0, .slice none 0 0, .slice none 0 0, .bool false, .int .i64 0, .slice ya 1 yc], j6, (by omega), PAt.sets HP.out HR.out (by decide) (by omega) 0 [.int .i64 5, .string t, .string ⟨#[]⟩, .slice ca 1 cc, .slice none 0 0, .slice none 0 0, .slice none 0 0, .bool false, .int .i64 0, .slice ya 1 yc], hr6, _, rfl, ⟨ca, cc, none, 0, none, 0, none, 0, ya, yc⟩, by rw [show (L.map (·.1)).length = 1 by rw [List.length_map]; exact hm2.symm, show (L.map (·.2)).length = 1 by rw [List.length_map]; exact hm2.symm]; rfl, ?_⟩
      refine ⟨?_, World.ownsRow_nil _ _ _ _, World.ownsRow_nil _ _ _ _, World.ownsRow_nil _ _ _ _, ?_⟩
      · have hrs := row_sets Hc.out HR.out (by decide) 0 [.int .i64 5, .string t, .string ⟨#[]⟩, .slice ca 1 cc, .slice none 0 0, .slice none 0 0, .slice none 0 0, .bool false, .int .i64 0, .slice ya 1 yc]
        rw [List.take_of_length_le (show L.length ≤ 1 by omega)] at hrs
        show World.ownsRow _ _ _ 1 (.slice ca (L.map (·.1)).length cc) (L.map (·.1)).length ((L.map (·.1)).flatMap cS)
        rw [List.length_map, ← hm2, List.flatMap_map]
        exact hrs
      · have hrs := row_sets Hy.out HR.out (by decide) 0 [.int .i64 5, .string t, .string ⟨#[]⟩, .slice ca 1 cc, .slice none 0 0, .slice none 0 0, .slice none 0 0, .bool false, .int .i64 0, .slice ya 1 yc]
        rw [List.take_of_length_le (show L.length ≤ 1 by omega)] at hrs
        show World.ownsRow _ _ _ 1 (.slice ya (L.map (·.2)).length yc) (L.map (·.2)).length ((L.map (·.2)).flatMap cI)
        rw [List.length_map, ← hm2, List.flatMap_map]
        exact hrs
theorem sqreadTable_any {g : Nat} {v : Value} {l : List Tok} (hE : EndK l) {i : Nat}  (w : World) (hP : PAt g v l i w) :
    Calls Tryz.prog 63 #[.pointer (some ⟨g, 0, none⟩)] w (Tells g v l i w VX (tableR (rem l i))) := by
  rcases e1 : nameR (rem l i) with ⟨o1, q1⟩
  cases o1 with
  | none =>
    exact sqreadTable_w0 hE e1 w hP
  | some t =>
    rcases e2 : takeR ⟨#[40]⟩ q1 with ⟨o2, q2⟩
    cases o2 with
    | none =>
      exact sqreadTable_w1 hE e1 e2 w hP
    | some a2 =>
      cases a2
      rcases e3 : columnR q2 with ⟨o3, q3⟩
      cases o3 with
      | none =>
        exact sqreadTable_w2 hE e1 e2 e3 w hP
      | some a3 =>
        obtain ⟨c1, c2⟩ := a3
        rcases e4 : takesR [⟨#[112, 114, 105, 109, 97, 114, 121]⟩, ⟨#[107, 101, 121]⟩] q3 with ⟨o4, q4⟩
        cases o4 with
        | none =>
          exact sqreadTable_w3 hE e1 e2 e3 e4 w hP
        | some a4 =>
          cases a4
          rcases Bool.eq_false_or_eq_true (isT ⟨#[44]⟩ q4) with hb5 | hb5
          · rcases e6 : listR ⟨#[44]⟩ columnR q4.tail with ⟨o6, q6⟩
            cases o6 with
            | none =>
              exact sqreadTable_w4 hE e1 e2 e3 e4 hb5 e6 w hP
            | some cs =>
              rcases e7 : takeR ⟨#[41]⟩ q6 with ⟨o7, q7⟩
              cases o7 with
              | none =>
                exact sqreadTable_w5 hE e1 e2 e3 e4 hb5 e6 e7 w hP
              | some a7 =>
                cases a7
                exact sqreadTable_w6 hE e1 e2 e3 e4 hb5 e6 e7 w hP
          · rcases e6 : takeR ⟨#[41]⟩ q4 with ⟨o6, q6⟩
            cases o6 with
            | none =>
              exact sqreadTable_w7 hE e1 e2 e3 e4 hb5 e6 w hP
            | some a6 =>
              cases a6
              exact sqreadTable_w8 hE e1 e2 e3 e4 hb5 e6 w hP
end Go.Proofs.YtiajlhjjmlakmaaGreatDoor
