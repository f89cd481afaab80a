/-
  Contracts: slices.Insert of one cell into a row of the call's own that has room.
-/
import Derived.Test.YtgaidhalkianfaaRBox
import Derived.Test.YtgaidhalkianfaaRWithM
import Derived.Shelf.Spec.SlicesInsert
import Derived.Laws.CopyRow
import Derived.Deep.RegionLaw
namespace Go.Proofs.Ytgaidhalkianfaa
open Go.RowKit Num
set_option linter.unusedVariables false

/-- 'copy' within rows of cells of whatever size: all is read ahead of the first write. -/
theorem run_copy_sized (w : World) (dT sT ty elem : TypeId) (size : Nat) (g o dLen dCap : Nat) (a : Addr) (sLen sCap : Nat) (cur : Array Value) (t : TypeId) (cs : List Value)
    (hu : Try.prog.underlying dT = some (.slice elem)) (hs : (Try.prog.info? elem).map (·.size) = some size)
    (hg : w.heap[g]? = some (.cells cur t (0, 0))) (hn : cs.length = Nat.min sLen dLen * size)
    (hsrc : ∀ j v, cs[j]? = some v → w.cell? (a.add j) = some v) (hfit : o + cs.length ≤ cur.size) (h1 : ∀ v ∈ cs, v.oneCell' = true) :
    (Builtin.copy_ #[dT, sT] ty #[.slice (some ⟨g, o, none⟩) dLen dCap, .slice (some a) sLen sCap]).run Try.prog w =
      .ok (goInt (Nat.min sLen dLen)) (w.setRow g (cur.toList.take o ++ cs ++ cur.toList.drop (o + cs.length)).toArray) := by
  have hl := run_loadCells_list (P := Try.prog) w a cs hsrc
  have hst := run_storeCells_at Try.prog g o t cs 0 cur w hg (by simpa using hfit) h1
  cases hq : Try.prog.info? elem with
  | none => simp [hq] at hs
  | some i =>
    have hi : i.size = size := by simpa [hq] using hs
    rw [hn] at hl
    simp [Builtin.copy_, run_underlying hu, Builtin.lenOf, Builtin.firstCells, sizeOf, typeInfo, hq, hi, hl, hst]

theorem Try.sizeCel : (Try.prog.info? 41).map (·.size) = some 5 := by kernel_rfl
theorem celCells_append (l r : List Cel) : celCells (l ++ r) = celCells l ++ celCells r := by simp [celCells]
theorem celCells_len (l : List Cel) : (celCells l).length = l.length * 5 := by
  induction l with
  | nil => rfl
  | cons y l ih =>
    have e : celCells (y :: l) = [.int .i64 y.c, .int .i64 y.x.k, .int .i64 y.x.n, .int .u64 (y.x.f : Int), .string y.x.s] ++ celCells l := rfl
    rw [e, List.length_append, ih, List.length_cons]
    simp
    omega
theorem celCells_one (l : List Cel) : ∀ v ∈ celCells l, v.oneCell' = true := by
  intro v hv
  simp only [celCells, List.mem_flatMap] at hv
  obtain ⟨y, _, hy⟩ := hv
  exact one5 y v hy
/-- The row when the cells from a place on are shifted by one, and one is laid there. -/
theorem shift_row {α : Type} (A B Y Z : List α) (hZ : Y.length ≤ Z.length) :
    let L := A ++ B ++ Z
    let L1 := L.take (A.length + Y.length) ++ B ++ L.drop (A.length + Y.length + B.length)
    (L1.take A.length ++ Y ++ L1.drop (A.length + Y.length)) = A ++ Y ++ B ++ Z.drop Y.length := by
  intro L L1
  have e1 : L1.take A.length = A := by
    show ((A ++ B ++ Z).take (A.length + Y.length) ++ B ++ _).take A.length = A
    rw [List.append_assoc, List.take_append_of_le_length (by rw [List.length_take, List.length_append, List.length_append]; omega), List.take_take, Nat.min_eq_left (by omega), List.append_assoc, List.take_left]
  have e2 : L1.drop (A.length + Y.length) = B ++ Z.drop Y.length := by
    show ((A ++ B ++ Z).take (A.length + Y.length) ++ B ++ (A ++ B ++ Z).drop (A.length + Y.length + B.length)).drop (A.length + Y.length) = _
    have hl : ((A ++ B ++ Z).take (A.length + Y.length)).length = A.length + Y.length := by
      rw [List.length_take, List.length_append, List.length_append]
      omega
    rw [List.append_assoc]
    conv => lhs; arg 1; rw [← hl]
    rw [List.drop_left, show A.length + Y.length + B.length = (A ++ B).length + Y.length by simp [Nat.add_right_comm], List.drop_append]
    simp
  rw [e1, e2]
  simp

theorem cell_of_heap {w : World} {g o : Nat} {cur : Array Value} {t : TypeId} (hg : w.heap[g]? = some (.cells cur t (0, 0))) : w.cell? ⟨g, o, none⟩ = cur.toList[o]? := by
  simp [World.cell?, hg]
/-- A row of the call's own, opened at a place. -/
theorem row_open {w : World} {base g C n i : Nat} {r : List Cel} (hn : r.length = n) (hi : i ≤ n) (h : w.ownsRow base 41 5 (.slice (some ⟨g, 0, none⟩) n C) n (celCells r)) :
    ∃ (cur : Array Value) (Z : List Value), w.heap[g]? = some (.cells cur 41 (0, 0)) ∧ base ≤ g ∧ C ≤ maxLen ∧ cur.size = C * 5 ∧ cur.toList = celCells (r.take i) ++ celCells (r.drop i) ++ Z ∧ Z.length = (C - n) * 5 := by
  rcases h.2 with ⟨hv, _⟩ | ⟨g', cap', cur, hv, hb, hg, hnc, hC, hs, ht⟩
  · cases hv
  · cases hv
    refine ⟨cur, cur.toList.drop (n * 5), hg, hb, hC, hs, ?_, ?_⟩
    · rw [← celCells_append, List.take_append_drop, ← ht, List.take_append_drop]
    · rw [List.length_drop, Array.length_toList, hs, Nat.sub_mul]
/-- The row behind. -/
theorem row_shut {w : World} {base g C m : Nat} {q : List Cel} (hm : q.length = m) {cur : Array Value} {Z : List Value} (hg : w.heap[g]? = some (.cells cur 41 (0, 0))) (hb : base ≤ g) (hC : C ≤ maxLen) (hmC : m ≤ C) (hs : cur.size = C * 5) (e : cur.toList = celCells q ++ Z) :
    w.ownsRow base 41 5 (.slice (some ⟨g, 0, none⟩) m C) m (celCells q) := by
  have hl : (celCells q).length = m * 5 := by rw [celCells_len, hm]
  exact ⟨hl, .inr ⟨g, C, cur, rfl, hb, hg, hmC, hC, hs, by rw [e, ← hl, List.take_left]⟩⟩
theorem grown_setRow {w : World} {g : Nat} (cs : Array Value) : w.grownBy (w.setRow g cs) (some g) :=
  ⟨rfl, rfl, rfl, by simp [World.setRow], fun k _ hk => setRow_other w g k cs (fun e => hk (by rw [e]))⟩

theorem grown_drew {w w' : World} {row : Option Nat} (h : w.drew.grownBy w' row) : w.grownBy w' row := ⟨h.os, h.tape, h.output, h.size, h.block⟩
/-- The two copies of an insertion. -/
theorem ins_copies {base g C n i vb : Nat} {r : List Cel} {y : Cel} (hn : r.length = n) (hi : i < n) (hC : n + 1 ≤ C) {w : World} (hne : vb ≠ g)
    (hown : w.ownsRow base 41 5 (.slice (some ⟨g, 0, none⟩) n C) n (celCells r)) (hv : Boxed5 w vb y) :
    ∃ cur1 cur2 : Array Value, (∀ ty dc sc, (Builtin.copy_ #[22, 22] ty #[.slice (some ⟨g, (i + 1) * 5, none⟩) (n - i) dc, .slice (some ⟨g, i * 5, none⟩) (n + 1 - i) sc]).run Try.prog w.drew = .ok (goInt (Nat.min (n + 1 - i) (n - i))) (w.drew.setRow g cur1)) ∧
      (∀ W : World, W.heap = (w.setRow g cur1).heap → ∀ ty dc, (Builtin.copy_ #[22, 22] ty #[.slice (some ⟨g, i * 5, none⟩) (n + 1 - i) dc, .slice (some ⟨vb, 0, none⟩) 1 1]).run Try.prog W = .ok (goInt (Nat.min 1 (n + 1 - i))) (W.setRow g cur2)) ∧
      (∀ W : World, W.heap = (w.setRow g cur1).heap → (W.setRow g cur2).ownsRow base 41 5 (.slice (some ⟨g, 0, none⟩) (n + 1) C) (n + 1) (celCells (insC r i y))) := by
  obtain ⟨cur, Z, hg, hb, hCm, hs, e, hZ⟩ := row_open hn (Nat.le_of_lt hi) hown
  obtain ⟨A, hA⟩ : ∃ A, celCells (r.take i) = A := ⟨_, rfl⟩
  obtain ⟨B, hB⟩ : ∃ B, celCells (r.drop i) = B := ⟨_, rfl⟩
  obtain ⟨Y, hY⟩ : ∃ Y, celCells [y] = Y := ⟨_, rfl⟩
  have hAl : A.length = i * 5 := by rw [← hA, celCells_len, List.length_take, hn, Nat.min_eq_left (Nat.le_of_lt hi)]
  have hBl : B.length = (n - i) * 5 := by rw [← hB, celCells_len, List.length_drop, hn]
  have hYl : Y.length = 5 := by rw [← hY]; rfl
  have hY1 : ∀ v ∈ Y, v.oneCell' = true := by rw [← hY]; exact celCells_one _
  have hB1 : ∀ v ∈ B, v.oneCell' = true := by rw [← hB]; exact celCells_one _
  have hcs : (celCells (insC r i y)) = A ++ Y ++ B := by
    rw [← hA, ← hB, ← hY, ← celCells_append, ← celCells_append]
    unfold insC
    simp
  rw [hA, hB] at e
  have hcl : cur.toList.length = C * 5 := by rw [Array.length_toList, hs]
  obtain ⟨cur1, hc1⟩ : ∃ cur1 : Array Value, (cur.toList.take ((i + 1) * 5) ++ B ++ cur.toList.drop ((i + 1) * 5 + B.length)).toArray = cur1 := ⟨_, rfl⟩
  have hc1l : cur1.toList = cur.toList.take ((i + 1) * 5) ++ B ++ cur.toList.drop ((i + 1) * 5 + B.length) := by rw [← hc1]
  have hc1s : cur1.size = C * 5 := by
    rw [← Array.length_toList, hc1l, List.length_append, List.length_append, List.length_take, List.length_drop, hcl]
    omega
  obtain ⟨cur2, hc2⟩ : ∃ cur2 : Array Value, (cur1.toList.take (i * 5) ++ Y ++ cur1.toList.drop (i * 5 + Y.length)).toArray = cur2 := ⟨_, rfl⟩
  have hc2l : cur2.toList = A ++ Y ++ B ++ Z.drop Y.length := by
    rw [← hc2, List.toList_toArray, hc1l, e]
    have h := shift_row A B Y Z (by omega)
    simp only [hAl, hYl] at h
    rw [hYl, show (i + 1) * 5 = i * 5 + 5 by omega]
    exact h
  have hc2s : cur2.size = C * 5 := by
    rw [← Array.length_toList, hc2l]
    simp only [List.length_append, List.length_drop]
    omega
  refine ⟨cur1, cur2, fun ty dc sc => ?_, fun W hW ty dc => ?_, fun W hW => ?_⟩
  · have h := run_copy_sized w.drew 22 22 ty 41 5 g ((i + 1) * 5) (n - i) dc ⟨g, i * 5, none⟩ (n + 1 - i) sc cur 41 B Try.underlying22 Try.sizeCel hg
      (by rw [hBl]; show _ = min (n + 1 - i) (n - i) * 5; rw [Nat.min_eq_right (by omega)]) (fun j v hj => by
        rw [Addr.add_lit]
        have h1 : w.drew.cell? ⟨g, i * 5 + j, none⟩ = cur.toList[i * 5 + j]? := cell_of_heap (w := w.drew) hg
        rw [h1, e, ← hAl, List.append_assoc, List.getElem?_append_right (by omega), Nat.add_sub_cancel_left, List.getElem?_append_left (List.getElem?_eq_some_iff.1 hj).1]
        exact hj) (by rw [hBl, hs]; omega) hB1
    rw [hc1] at h
    exact h
  · have hg1 : W.heap[g]? = some (.cells cur1 41 (0, 0)) := by rw [hW]; exact setRow_heap w g cur cur1 _ _ hg
    have hv1 : W.heap[vb]? = w.heap[vb]? := by rw [hW]; exact setRow_other w g vb cur1 hne
    have h := run_copy_sized W 22 22 ty 41 5 g (i * 5) (n + 1 - i) dc ⟨vb, 0, none⟩ 1 1 cur1 41 Y Try.underlying22 Try.sizeCel hg1
      (by rw [hYl]; show _ = min 1 (n + 1 - i) * 5; rw [Nat.min_eq_left (by omega)]) (fun j v hj => by
        rw [Addr.add_lit]
        have h1 : W.cell? ⟨vb, 0 + j, none⟩ = _ := cell_of_heap (hv1.trans hv)
        rw [h1, Nat.zero_add, ← hj, ← hY]
        rfl) (by rw [hYl, hc1s]; omega) hY1
    rw [hc2] at h
    exact h
  · have hg1 : W.heap[g]? = some (.cells cur1 41 (0, 0)) := by rw [hW]; exact setRow_heap w g cur cur1 _ _ hg
    exact row_shut (Z := Z.drop Y.length) (by rw [insC_len _ _ _ (by omega), hn]) (setRow_heap W g cur1 cur2 _ _ hg1) hb hCm hC hc2s (by rw [hc2l, hcs])

theorem overlaps_not {w : World} {g vb o lb cb : Nat} {y : Cel} {cur : Array Value} (hne : vb ≠ g) (hg : w.heap[g]? = some (.cells cur 41 (0, 0))) (hs : cur.size ≠ 0) (hv : Boxed5 w vb y) :
    (callFunc 48 #[.slice (some ⟨vb, 0, none⟩) 1 1, .slice (some ⟨g, o, none⟩) lb cb]).run Try.prog w = .ok (.value (.bool false)) w := by
  rw [run_callFunc_extern Try.func48 (by kernel_rfl) (by kernel_rfl) (by kernel_rfl) (e := Extern.SlicesOverlaps.overlaps #[22, 22] #[4]) (by kernel_rfl),
    Lib.run_overlaps_apart w 22 4 41 Try.underlying22 5 (fun w => by kernel_rfl) ⟨vb, 0, none⟩ ⟨g, o, none⟩ 1 1 lb cb hne 41 41 5 cur.size
      (by simp [World.shape?, show w.heap[vb]? = _ from hv]) (by simp [World.shape?, hg]) hs (by simp [World.frozen?, show w.heap[vb]? = _ from hv]) (by simp [World.frozen?, show w.heap[vb]? = _ from hv])]
  rfl

set_option maxRecDepth 100000 in
set_option maxHeartbeats 2000000 in
theorem ins_shift (base g C n i vb : Nat) (r : List Cel) (y : Cel) (hn : r.length = n) (hi : i < n) (hC : n + 1 ≤ C) (hCm : C ≤ 1000000) (w : World) (hne : vb ≠ g)
    (hown : w.ownsRow base 41 5 (.slice (some ⟨g, 0, none⟩) n C) n (celCells r)) (hv : Boxed5 w vb y) :
    Calls Try.prog 32 #[.slice (some ⟨g, 0, none⟩) n C, .int .i64 (i : Int), .slice (some ⟨vb, 0, none⟩) 1 1] w fun e w' => e = .returned (.slice (some ⟨g, 0, none⟩) (n + 1) C) ∧ w'.ownsRow base 41 5 (.slice (some ⟨g, 0, none⟩) (n + 1) C) (n + 1) (celCells (insC r i y)) ∧ w.grownBy w' (some g) := by
  obtain ⟨cur1, cur2, hcp1, hcp2, hfin⟩ := ins_copies hn hi hC hne hown hv
  have hov : ∀ lb cb, (callFunc 48 #[.slice (some ⟨vb, 0, none⟩) 1 1, .slice (some ⟨g, (i + 1) * 5, none⟩) lb cb]).run Try.prog w = .ok (.value (.bool false)) w := fun lb cb => by
    obtain ⟨cur, Z, hg, _, _, hs, _⟩ := row_open hn (Nat.le_of_lt hi) hown
    exact overlaps_not hne hg (by omega) hv
  have hz2 : ¬ ((i : Int) = (n : Int)) := by omega
  have hb4 : ¬ (C = i) := by omega
  have hb5 : ¬ (C = i + 1) := by omega
  have hin : i ≤ n := by omega
  have hini : (i : Int) ≤ (n : Int) := by omega
  have hN : ¬ (C : Int) < (n : Int) + 1 := by omega
  have hN2 : (n : Int) + 1 ≤ (C : Int) := by omega
  have hi1 : (i : Int) + 1 ≤ (n : Int) + 1 := by omega
  have hp0 : (0 : Int) ≤ (i : Int) + 1 := by omega
  have hin1 : (i : Int) ≤ (n : Int) + 1 := by omega
  have htn : ((i : Int) + 1).toNat = i + 1 := by omega
  have hw1 : IntKind.i64.wrap ((i : Int) + 1) = (i : Int) + 1 := by rw [IntKind.wrap_i64]; omega
  clear hown hv
  go_enter Try.func32, Try.ntmps32
  go_wp2_with (simp only [hov])
  go_region_law (refine step_copy_runI rfl _ _ 22 22 rfl _ _ (by simp [Act.eval, Act.put]) (by simp [Act.eval, Act.put]) (hcp1 _ _ _) ?_)
  have hcp3 := hcp2 (w.drew.setRow g cur1) rfl
  go_wp2
  go_ret
  exact ⟨rfl, hfin _ rfl, (grown_drew (grown_setRow (w := w.drew) cur1)).trans (grown_setRow cur2)⟩

set_option maxRecDepth 100000 in
set_option maxHeartbeats 2000000 in
theorem ins_end (base g C n vb : Nat) (r : List Cel) (y : Cel) (hn : r.length = n) (hC : n + 1 ≤ C) (hCm : C ≤ 1000000) (w : World)
    (hown : w.ownsRow base 41 5 (.slice (some ⟨g, 0, none⟩) n C) n (celCells r)) (hv : Boxed5 w vb y) :
    Calls Try.prog 32 #[.slice (some ⟨g, 0, none⟩) n C, .int .i64 (n : Int), .slice (some ⟨vb, 0, none⟩) 1 1] w fun e w' => e = .returned (.slice (some ⟨g, 0, none⟩) (n + 1) C) ∧ w'.ownsRow base 41 5 (.slice (some ⟨g, 0, none⟩) (n + 1) C) (n + 1) (celCells (insC r n y)) ∧ w.grownBy w' (some g) := by
  obtain ⟨i0, hi, hz0, hz1, hz2⟩ := info_parts Try.infoCel
  have hcn : ¬ C = n := by omega
  have hsrc : ∀ j u, [Value.int .i64 y.c, .int .i64 y.x.k, .int .i64 y.x.n, .int .u64 (y.x.f : Int), .string y.x.s][j]? = some u → w.cell? ((⟨vb, 0, none⟩ : Addr).add j) = some u := by
    intro j u hj
    rw [Addr.add_lit, cell_of_heap hv, Nat.zero_add]
    exact hj
  have hins : insC r n y = r ++ [y] := by rw [← hn]; exact insC_end r y
  go_enter Try.func32, Try.ntmps32
  go_wp2_with (first
    | (at_builtin; refine wpList_append_fits _ rfl _ _ 22 rfl base 41 i0 5 Try.underlying22 hi hz1 g n C _ rfl hown ⟨vb, 0, none⟩ 1 1 [.int .i64 y.c, .int .i64 y.x.k, .int .i64 y.x.n, .int .u64 (y.x.f : Int), .string y.x.s] rfl rfl hsrc (one5 y) hC ?_; intro w3 hown3 hgrow3))
  go_ret
  rw [hins, celCells_snoc]
  exact ⟨rfl, hown3, hgrow3⟩
theorem ins_any (base g C n i vb : Nat) (r : List Cel) (y : Cel) (hn : r.length = n) (hi : i ≤ n) (hC : n + 1 ≤ C) (hCm : C ≤ 1000000) (w : World) (hne : vb ≠ g)
    (hown : w.ownsRow base 41 5 (.slice (some ⟨g, 0, none⟩) n C) n (celCells r)) (hv : Boxed5 w vb y) :
    Calls Try.prog 32 #[.slice (some ⟨g, 0, none⟩) n C, .int .i64 (i : Int), .slice (some ⟨vb, 0, none⟩) 1 1] w fun e w' => e = .returned (.slice (some ⟨g, 0, none⟩) (n + 1) C) ∧ w'.ownsRow base 41 5 (.slice (some ⟨g, 0, none⟩) (n + 1) C) (n + 1) (celCells (insC r i y)) ∧ w.grownBy w' (some g) := by
  by_cases h : i = n
  · subst h
    exact ins_end base g C i vb r y hn hC hCm w hown hv
  · exact ins_shift base g C n i vb r y hn (by omega) hC hCm w hne hown hv
end Go.Proofs.Ytgaidhalkianfaa
