/-
  Contracts: the document's own Take and Double; post.Double.
-/
import Derived.Test.YtpimkfichadiiaaMsRef
namespace Go.Proofs.Ytpimkfichadiiaa
open Go.RowKit Num
set_option linter.unusedVariables false

theorem own_madeB (w : World) (E sz b : Nat) (hb : w.heap.size = b) : (w.alloc (.cells #[] E)).ownsRow b E sz (.slice (some ⟨b, 0, none⟩) 0 0) 0 [] := by
  subst hb
  exact own_made0 w E sz
theorem below_madeB {w w1 : World} {o : Obj} {n c b : Nat} (hb : w.heap.size = b) (h : (w.alloc o).grownBy w1 (Value.slice (some ⟨b, 0, none⟩) n c).ownBlock) : Below w.heap.size w w1 := by
  subst hb
  exact below_made h
theorem h3far {w w' : World} {b : Nat} {v : Value} {B n m : Nat} {xs ys : List Value} (h : w.ownsRow (b + 1) 29 8 v n xs) (h3 : w.ownsRow B 29 8 v m ys) (hg : w.grownBy w' (some b)) : w'.ownsRow B 29 8 v m ys := h3.kept hg (by
  cases hu : v.ownBlock with
  | none => exact .inl rfl
  | some k =>
    refine .inr fun e => ?_
    cases e
    have := (h.lt b hu).1
    omega)
theorem add_add (a : Addr) (x y : Nat) : (a.add x).add y = a.add (x + y) := by
  by_cases hy : y = 0
  · subst hy
    exact addr_zero _
  · rw [add_off a x y (by omega)]
    unfold Addr.add
    rw [if_neg hy]
/-- What lies from a place of a list on. -/
theorem lies_sub {α : Type} {At : World → Addr → α → Prop} {sz : Nat} {w : World} {B : Nat} {a : Addr} {l : List α} (h : LiesG At sz w B (some a) l) (i : Nat) : LiesG At sz w B (some (a.add (i * sz))) (l.drop i) := by
  intro j x hx
  rw [List.getElem?_drop] at hx
  obtain ⟨a', e, hb, hA⟩ := h (i + j) x hx
  cases e
  refine ⟨_, rfl, by rw [Addr.block_add]; exact hb, ?_⟩
  rw [add_add, ← Nat.add_mul]
  exact hA
theorem lies_one {α : Type} {At : World → Addr → α → Prop} {sz : Nat} {w : World} {B : Nat} {a : Addr} {l : List α} (h : LiesG At sz w B (some a) l) {i : Nat} {x : α} (hx : l[i]? = some x) : LiesG At sz w B (some (a.add (i * sz))) [x] := by
  have h1 := Num.LiesG.take (lies_sub h i) 1
  have h2 : (l.drop i).take 1 = [x] := by
    have hi := (List.getElem?_eq_some_iff.1 hx).1
    rw [List.drop_eq_getElem_cons hi, List.take_succ_cons, List.take_zero]
    rw [List.getElem?_eq_getElem hi] at hx
    cases hx
    rfl
  rw [h2] at h1
  exact h1
set_option maxRecDepth 100000 in
set_option maxHeartbeats 1000000 in
theorem refTake_mid (l : Msgs) (a : Addr) (cap i : Nat) (m : Msg) (hi : l[i]? = some m) (hlen : l.length ≤ 3000) (hcap : l.length ≤ cap) (hC : ¬ cap = i + 1) (w : World) (hl : LiesM w w.heap.size (some a) l) :
    Calls Try.prog 13 #[.slice (some a) l.length cap, .int .i64 (i : Int)] w fun e w' => ∃ bo c ao2 cap2, e = .returned (.tuple #[.agg #[.int .i64 m.a0, .int .i64 m.a1, .int .i64 m.a2, .int .i64 m.a3, .int .i64 m.a4, .int .i64 m.a5, .int .i64 m.a6, .slice bo m.log.length c], .slice ao2 (l.length - 1) cap2, .int .i64 0]) ∧ LiesM w' w'.heap.size ao2 (l.eraseIdx i) ∧ LiesE w' w'.heap.size bo m.log ∧ Below w.heap.size w w' := by
  have hil := (List.getElem?_eq_some_iff.1 hi).1
  obtain ⟨a', ea, hblk, e0, e1, e2, e3, e4, e5, e6, bo, c, e7, hle⟩ := hl i m hi
  cases ea
  clear hi
  obtain ⟨css1, hcl1, hcc1, hheld1, hV1⟩ := liesM_src (Num.LiesG.take hl i)
  obtain ⟨css2, hcl2, hcc2, hheld2, hV2⟩ := liesM_src (lies_sub hl (i + 1))
  rw [List.length_take, Nat.min_eq_left (Nat.le_of_lt hil)] at hcl1 hheld1
  rw [List.length_drop] at hcl2 hheld2
  have hheld3 := hheld2
  have hzero : ∀ X : World, X.heap[w.heap.size]? = some (.cells #[.int .i64 0, .int .i64 0, .int .i64 0, .int .i64 0, .int .i64 0, .int .i64 0, .int .i64 0, .slice none 0 0] 29 (0, 0)) → X.cell? ⟨w.heap.size, 0, none⟩ = some (.int .i64 0) ∧ X.frozen? ⟨w.heap.size, 0, none⟩ = false ∧ X.cell? ⟨w.heap.size, 1, none⟩ = some (.int .i64 0) ∧ X.frozen? ⟨w.heap.size, 1, none⟩ = false ∧ X.cell? ⟨w.heap.size, 2, none⟩ = some (.int .i64 0) ∧ X.frozen? ⟨w.heap.size, 2, none⟩ = false ∧ X.cell? ⟨w.heap.size, 3, none⟩ = some (.int .i64 0) ∧ X.frozen? ⟨w.heap.size, 3, none⟩ = false ∧ X.cell? ⟨w.heap.size, 4, none⟩ = some (.int .i64 0) ∧ X.frozen? ⟨w.heap.size, 4, none⟩ = false ∧ X.cell? ⟨w.heap.size, 5, none⟩ = some (.int .i64 0) ∧ X.frozen? ⟨w.heap.size, 5, none⟩ = false ∧ X.cell? ⟨w.heap.size, 6, none⟩ = some (.int .i64 0) ∧ X.frozen? ⟨w.heap.size, 6, none⟩ = false ∧ X.cell? ⟨w.heap.size, 7, none⟩ = some (.slice none 0 0) ∧ X.frozen? ⟨w.heap.size, 7, none⟩ = false := fun X h => ⟨box_cell h 0 _ rfl, box_open h 0, box_cell h 1 _ rfl, box_open h 1, box_cell h 2 _ rfl, box_open h 2, box_cell h 3 _ rfl, box_open h 3, box_cell h 4 _ rfl, box_open h 4, box_cell h 5 _ rfl, box_open h 5, box_cell h 6 _ rfl, box_open h 6, box_cell h 7 _ rfl, box_open h 7⟩
  have f1 : (i : Int) ≤ (cap : Int) := by omega
  have f2 : (i : Int) + 1 ≤ (l.length : Int) := by omega
  have f3 : (l.length : Int) ≤ (cap : Int) := by omega
  have hz : decide ((i : Int) < 0) = false := decide_eq_false (by omega)
  have hz2 : decide (l.length ≤ i) = false := decide_eq_false (by omega)
  have hz3 : ¬ l.length ≤ i := by omega
  have hw1 : IntKind.i64.wrap ((i : Int) + 1) = (i : Int) + 1 := by rw [IntKind.wrap_i64]; omega
  have hb0 : ∀ o : Obj, Below w.heap.size w (w.alloc o) := fun o => (Below.refl _ w).alloc (Nat.le_refl _) _
  have herase : l.take i ++ l.drop (i + 1) = l.eraseIdx i := (erase_at l i).symm
  have hlt : (l.take i).length = i := by rw [List.length_take]; omega
  clear hcap
  have hC1 : (i : Int) + 1 ≤ (cap : Int) := by omega
  go_enter Try.func13, Try.ntmps13
  go_wp2_with (first
    | (at_builtin; refine wpList_app_g Try.underlying22 Try.infoMs (by decide) _ rfl _ _ rfl (w.heap.size + 1) _ i css1.flatten rfl hown1 (some (a.add ((i + 1) * 8))) (l.length - (i + 1)) (cap - (i + 1)) css2.flatten rfl (src_next hheld3 hb1) (by omega) hsx1 ?_; intro v2 w2 hown2 hgrow2 hnear2
       have hb2 : Below w.heap.size w1 w2 := (Below.refl _ w1).grown hgrow2 hb1.size (fun j hj => Nat.le_of_succ_le (hown1.lt j hj).1)
       have hb2' := hb1.trans hb2
       have hbx2 : Below (w.heap.size + 1) w1 w2 := (Below.refl _ w1).grown hgrow2 hsx1 (fun j hj => (hown1.lt j hj).1)
       have k02 := (hbx2.block w.heap.size (Nat.lt_succ_self _)).trans k01
       obtain ⟨z0, y0, z1, y1, z2, y2, z3, y3, z4, y4, z5, y5, z6, y6, z7, y7⟩ := hzero _ k02
       have g0 := (hb2'.cell (cell_lt e0)).trans e0
       have g1 := (hb2'.cell (cell_lt e1)).trans e1
       have g2 := (hb2'.cell (cell_lt e2)).trans e2
       have g3 := (hb2'.cell (cell_lt e3)).trans e3
       have g4 := (hb2'.cell (cell_lt e4)).trans e4
       have g5 := (hb2'.cell (cell_lt e5)).trans e5
       have g6 := (hb2'.cell (cell_lt e6)).trans e6
       have g7 := (hb2'.cell (cell_lt e7)).trans e7
       clear hzero)
    | (at_builtin; refine wpList_app_g Try.underlying22 Try.infoMs (by decide) _ rfl _ _ rfl (w.heap.size + 1) (.slice (some ⟨w.heap.size + 1, 0, none⟩) 0 0) 0 [] rfl (own_madeB (w.alloc _) _ _ _ (by simp)) (some a) i cap css1.flatten rfl (src_next hheld1 (below_next (hb0 _) (Nat.le_refl _) ((Below.refl _ _).alloc (Nat.le_refl _) _))) (by omega) (by simp) ?_; intro v1 w1 hown1 hgrow1 hnear1
       have hbx1 := below_madeB (by simp) hgrow1
       have hb1 : Below w.heap.size w w1 := below_next (hb0 _) (Nat.le_refl _) hbx1
       have k01 := below_box hbx1 (heap_new w _)
       have hsx1 := hbx1.size
       rw [World.size_alloc] at hsx1
       clear hbx1
       rw [List.nil_append, Nat.zero_add] at hown1))
  have hgr4 := setM_grown w2 w.heap.size m (.slice bo m.log.length c)
  have kX := setM_heap m (.slice bo m.log.length c) k02
  have hle2 : LiesE w2 w.heap.size bo m.log := hle.below EnAt.fast hb2'
  have hbX : Below w.heap.size w2 (setM w2 w.heap.size m (.slice bo m.log.length c)) := (Below.refl _ w2).grown hgr4 hb2'.size (fun j hj => by cases hj; exact Nat.le_refl _)
  have hV : OwnV w.heap.size w2 v2 (l.take i ++ l.drop (i + 1)) := ⟨css1 ++ css2, by rw [List.length_append, List.length_append, List.length_take, List.length_drop]; omega, fun cs hcs => by
    rcases List.mem_append.1 hcs with h | h
    · exact hcc1 cs h
    · exact hcc2 cs h, by
    rw [List.length_append, hlt, List.length_drop, List.flatten_append]
    skip
    exact own_mono hown2 (Nat.le_succ _), fun j cs x hj hx => msV_below hb2' (two_get (by rw [hcl1, hlt]) hV1 hV2 j cs x hj hx)⟩
  rw [herase] at hV
  have hVX : OwnV w.heap.size (setM w2 w.heap.size m (.slice bo m.log.length c)) v2 (l.eraseIdx i) := by
    obtain ⟨css, h1, h2, h3, h4⟩ := hV
    exact ⟨css, h1, h2, own_mono (h3far hown2 h3 hgr4) (Nat.le_refl _), fun j cs x hj hx => msV_below hbX (h4 j cs x hj hx)⟩
  obtain ⟨ao3, cap3, hv3, hl3⟩ := ownV_lies hVX (Nat.le_trans hb2'.size hgr4.size)
  have hle3 := liesE_next hle2 hbX (Nat.le_trans hb2'.size hgr4.size)
  have hBelX := hb2'.trans hbX
  have hll : (l.eraseIdx i).length = l.length - 1 := List.length_eraseIdx_of_lt hil
  rw [hll] at hv3
  unfold setM at kX hl3 hle3 hBelX
  clear hVX hbX hgr4
  generalize ((((((((w2.setCell ⟨w.heap.size, 0, none⟩ (.int .i64 m.a0)).setCell ⟨w.heap.size, 1, none⟩ (.int .i64 m.a1)).setCell ⟨w.heap.size, 2, none⟩ (.int .i64 m.a2)).setCell ⟨w.heap.size, 3, none⟩ (.int .i64 m.a3)).setCell ⟨w.heap.size, 4, none⟩ (.int .i64 m.a4)).setCell ⟨w.heap.size, 5, none⟩ (.int .i64 m.a5)).setCell ⟨w.heap.size, 6, none⟩ (.int .i64 m.a6)).setCell ⟨w.heap.size, 7, none⟩ (.slice bo m.log.length c)) = X at *
  have q0 := box_cell kX 0 _ rfl
  have q1 := box_cell kX 1 _ rfl
  have q2 := box_cell kX 2 _ rfl
  have q3 := box_cell kX 3 _ rfl
  have q4 := box_cell kX 4 _ rfl
  have q5 := box_cell kX 5 _ rfl
  have q6 := box_cell kX 6 _ rfl
  have q7 := box_cell kX 7 _ rfl
  refine bodyPost_ret (v := .tuple #[.agg #[.int .i64 m.a0, .int .i64 m.a1, .int .i64 m.a2, .int .i64 m.a3, .int .i64 m.a4, .int .i64 m.a5, .int .i64 m.a6, .slice bo m.log.length c], v2, .int .i64 0]) (by simp [results, Try.results13, go_sem, q0, q1, q2, q3, q4, q5, q6, q7]) rfl ⟨bo, c, ao3, cap3, by rw [hv3], hl3, hle3, hBelX⟩
set_option maxRecDepth 100000 in
set_option maxHeartbeats 1000000 in
theorem refTake_last (l : Msgs) (a : Addr) (cap i : Nat) (m : Msg) (hi : l[i]? = some m) (hlen : l.length ≤ 3000) (hcap : l.length ≤ cap) (hC : cap = i + 1) (w : World) (hl : LiesM w w.heap.size (some a) l) :
    Calls Try.prog 13 #[.slice (some a) l.length cap, .int .i64 (i : Int)] w fun e w' => ∃ bo c ao2 cap2, e = .returned (.tuple #[.agg #[.int .i64 m.a0, .int .i64 m.a1, .int .i64 m.a2, .int .i64 m.a3, .int .i64 m.a4, .int .i64 m.a5, .int .i64 m.a6, .slice bo m.log.length c], .slice ao2 (l.length - 1) cap2, .int .i64 0]) ∧ LiesM w' w'.heap.size ao2 (l.eraseIdx i) ∧ LiesE w' w'.heap.size bo m.log ∧ Below w.heap.size w w' := by
  have hil := (List.getElem?_eq_some_iff.1 hi).1
  obtain ⟨a', ea, hblk, e0, e1, e2, e3, e4, e5, e6, bo, c, e7, hle⟩ := hl i m hi
  cases ea
  clear hi
  obtain ⟨css1, hcl1, hcc1, hheld1, hV1⟩ := liesM_src (Num.LiesG.take hl i)
  obtain ⟨css2, hcl2, hcc2, hheld2, hV2⟩ := liesM_src (lies_sub hl (i + 1))
  rw [List.length_take, Nat.min_eq_left (Nat.le_of_lt hil)] at hcl1 hheld1
  rw [List.length_drop] at hcl2 hheld2
  have hcs0 : css2 = [] := List.eq_nil_of_length_eq_zero (by omega)
  have hheld3 : Held w (some a) 0 8 css2.flatten := by subst hcs0; exact ⟨rfl, by simp, fun h => (by cases h), fun _ _ j u h => (by simp at h)⟩
  have hn0 : l.length - (i + 1) = 0 := by omega
  have hln : l.length = i + 1 := by omega
  have hzero : ∀ X : World, X.heap[w.heap.size]? = some (.cells #[.int .i64 0, .int .i64 0, .int .i64 0, .int .i64 0, .int .i64 0, .int .i64 0, .int .i64 0, .slice none 0 0] 29 (0, 0)) → X.cell? ⟨w.heap.size, 0, none⟩ = some (.int .i64 0) ∧ X.frozen? ⟨w.heap.size, 0, none⟩ = false ∧ X.cell? ⟨w.heap.size, 1, none⟩ = some (.int .i64 0) ∧ X.frozen? ⟨w.heap.size, 1, none⟩ = false ∧ X.cell? ⟨w.heap.size, 2, none⟩ = some (.int .i64 0) ∧ X.frozen? ⟨w.heap.size, 2, none⟩ = false ∧ X.cell? ⟨w.heap.size, 3, none⟩ = some (.int .i64 0) ∧ X.frozen? ⟨w.heap.size, 3, none⟩ = false ∧ X.cell? ⟨w.heap.size, 4, none⟩ = some (.int .i64 0) ∧ X.frozen? ⟨w.heap.size, 4, none⟩ = false ∧ X.cell? ⟨w.heap.size, 5, none⟩ = some (.int .i64 0) ∧ X.frozen? ⟨w.heap.size, 5, none⟩ = false ∧ X.cell? ⟨w.heap.size, 6, none⟩ = some (.int .i64 0) ∧ X.frozen? ⟨w.heap.size, 6, none⟩ = false ∧ X.cell? ⟨w.heap.size, 7, none⟩ = some (.slice none 0 0) ∧ X.frozen? ⟨w.heap.size, 7, none⟩ = false := fun X h => ⟨box_cell h 0 _ rfl, box_open h 0, box_cell h 1 _ rfl, box_open h 1, box_cell h 2 _ rfl, box_open h 2, box_cell h 3 _ rfl, box_open h 3, box_cell h 4 _ rfl, box_open h 4, box_cell h 5 _ rfl, box_open h 5, box_cell h 6 _ rfl, box_open h 6, box_cell h 7 _ rfl, box_open h 7⟩
  have f1 : (i : Int) ≤ (cap : Int) := by omega
  have f2 : (i : Int) + 1 ≤ (l.length : Int) := by omega
  have f3 : (l.length : Int) ≤ (cap : Int) := by omega
  have hz : decide ((i : Int) < 0) = false := decide_eq_false (by omega)
  have hz2 : decide (l.length ≤ i) = false := decide_eq_false (by omega)
  have hz3 : ¬ l.length ≤ i := by omega
  have hw1 : IntKind.i64.wrap ((i : Int) + 1) = (i : Int) + 1 := by rw [IntKind.wrap_i64]; omega
  have hb0 : ∀ o : Obj, Below w.heap.size w (w.alloc o) := fun o => (Below.refl _ w).alloc (Nat.le_refl _) _
  have herase : l.take i ++ l.drop (i + 1) = l.eraseIdx i := (erase_at l i).symm
  have hlt : (l.take i).length = i := by rw [List.length_take]; omega
  clear hcap
  subst hC
  go_enter Try.func13, Try.ntmps13
  go_wp2_with (first
    | (at_builtin; refine wpList_app_g Try.underlying22 Try.infoMs (by decide) _ rfl _ _ rfl (w.heap.size + 1) _ i css1.flatten rfl hown1 (some a) 0 0 css2.flatten rfl (src_next hheld3 hb1) (by omega) hsx1 ?_; intro v2 w2 hown2 hgrow2 hnear2
       have hb2 : Below w.heap.size w1 w2 := (Below.refl _ w1).grown hgrow2 hb1.size (fun j hj => Nat.le_of_succ_le (hown1.lt j hj).1)
       have hb2' := hb1.trans hb2
       have hbx2 : Below (w.heap.size + 1) w1 w2 := (Below.refl _ w1).grown hgrow2 hsx1 (fun j hj => (hown1.lt j hj).1)
       have k02 := (hbx2.block w.heap.size (Nat.lt_succ_self _)).trans k01
       obtain ⟨z0, y0, z1, y1, z2, y2, z3, y3, z4, y4, z5, y5, z6, y6, z7, y7⟩ := hzero _ k02
       have g0 := (hb2'.cell (cell_lt e0)).trans e0
       have g1 := (hb2'.cell (cell_lt e1)).trans e1
       have g2 := (hb2'.cell (cell_lt e2)).trans e2
       have g3 := (hb2'.cell (cell_lt e3)).trans e3
       have g4 := (hb2'.cell (cell_lt e4)).trans e4
       have g5 := (hb2'.cell (cell_lt e5)).trans e5
       have g6 := (hb2'.cell (cell_lt e6)).trans e6
       have g7 := (hb2'.cell (cell_lt e7)).trans e7
       clear hzero)
    | (at_builtin; refine wpList_app_g Try.underlying22 Try.infoMs (by decide) _ rfl _ _ rfl (w.heap.size + 1) (.slice (some ⟨w.heap.size + 1, 0, none⟩) 0 0) 0 [] rfl (own_madeB (w.alloc _) _ _ _ (by simp)) (some a) i (i + 1) css1.flatten rfl (src_next hheld1 (below_next (hb0 _) (Nat.le_refl _) ((Below.refl _ _).alloc (Nat.le_refl _) _))) (by omega) (by simp) ?_; intro v1 w1 hown1 hgrow1 hnear1
       have hbx1 := below_madeB (by simp) hgrow1
       have hb1 : Below w.heap.size w w1 := below_next (hb0 _) (Nat.le_refl _) hbx1
       have k01 := below_box hbx1 (heap_new w _)
       have hsx1 := hbx1.size
       rw [World.size_alloc] at hsx1
       clear hbx1
       rw [List.nil_append, Nat.zero_add] at hown1))
  have hgr4 := setM_grown w2 w.heap.size m (.slice bo m.log.length c)
  have kX := setM_heap m (.slice bo m.log.length c) k02
  have hle2 : LiesE w2 w.heap.size bo m.log := hle.below EnAt.fast hb2'
  have hbX : Below w.heap.size w2 (setM w2 w.heap.size m (.slice bo m.log.length c)) := (Below.refl _ w2).grown hgr4 hb2'.size (fun j hj => by cases hj; exact Nat.le_refl _)
  have hV : OwnV w.heap.size w2 v2 (l.take i ++ l.drop (i + 1)) := ⟨css1 ++ css2, by rw [List.length_append, List.length_append, List.length_take, List.length_drop]; omega, fun cs hcs => by
    rcases List.mem_append.1 hcs with h | h
    · exact hcc1 cs h
    · exact hcc2 cs h, by
    rw [List.length_append, hlt, List.length_drop, List.flatten_append]
    rw [hn0]
    exact own_mono hown2 (Nat.le_succ _), fun j cs x hj hx => msV_below hb2' (two_get (by rw [hcl1, hlt]) hV1 hV2 j cs x hj hx)⟩
  rw [herase] at hV
  have hVX : OwnV w.heap.size (setM w2 w.heap.size m (.slice bo m.log.length c)) v2 (l.eraseIdx i) := by
    obtain ⟨css, h1, h2, h3, h4⟩ := hV
    exact ⟨css, h1, h2, own_mono (h3far hown2 h3 hgr4) (Nat.le_refl _), fun j cs x hj hx => msV_below hbX (h4 j cs x hj hx)⟩
  obtain ⟨ao3, cap3, hv3, hl3⟩ := ownV_lies hVX (Nat.le_trans hb2'.size hgr4.size)
  have hle3 := liesE_next hle2 hbX (Nat.le_trans hb2'.size hgr4.size)
  have hBelX := hb2'.trans hbX
  have hll : (l.eraseIdx i).length = l.length - 1 := List.length_eraseIdx_of_lt hil
  rw [hll] at hv3
  unfold setM at kX hl3 hle3 hBelX
  clear hVX hbX hgr4
  generalize ((((((((w2.setCell ⟨w.heap.size, 0, none⟩ (.int .i64 m.a0)).setCell ⟨w.heap.size, 1, none⟩ (.int .i64 m.a1)).setCell ⟨w.heap.size, 2, none⟩ (.int .i64 m.a2)).setCell ⟨w.heap.size, 3, none⟩ (.int .i64 m.a3)).setCell ⟨w.heap.size, 4, none⟩ (.int .i64 m.a4)).setCell ⟨w.heap.size, 5, none⟩ (.int .i64 m.a5)).setCell ⟨w.heap.size, 6, none⟩ (.int .i64 m.a6)).setCell ⟨w.heap.size, 7, none⟩ (.slice bo m.log.length c)) = X at *
  have q0 := box_cell kX 0 _ rfl
  have q1 := box_cell kX 1 _ rfl
  have q2 := box_cell kX 2 _ rfl
  have q3 := box_cell kX 3 _ rfl
  have q4 := box_cell kX 4 _ rfl
  have q5 := box_cell kX 5 _ rfl
  have q6 := box_cell kX 6 _ rfl
  have q7 := box_cell kX 7 _ rfl
  refine bodyPost_ret (v := .tuple #[.agg #[.int .i64 m.a0, .int .i64 m.a1, .int .i64 m.a2, .int .i64 m.a3, .int .i64 m.a4, .int .i64 m.a5, .int .i64 m.a6, .slice bo m.log.length c], v2, .int .i64 0]) (by simp [results, Try.results13, go_sem, q0, q1, q2, q3, q4, q5, q6, q7]) rfl ⟨bo, c, ao3, cap3, by rw [hv3], hl3, hle3, hBelX⟩
end Go.Proofs.Ytpimkfichadiiaa
