/-
  Contracts: slices.Insert of one element, at pairs and at pages: in a row of the call's own.
-/
import Derived.Test.YtdmkmhjalcfchaaPRow
import Derived.Test.YtdmkmhjalcfchaaPA
namespace Go.Proofs.Ytdmkmhjalcfchaa
open Go.RowKit Num
set_option linter.unusedVariables false
set_option maxRecDepth 100000

theorem Try.size_pr : (Try.prog.info? 52).map (·.size) = some 2 := by kernel_rfl
/-- What an insertion leaves. -/
abbrev Num.InsSays_pr (B g n C : Nat) (w : World) (q : List Value) (e : Ending) (w' : World) : Prop := ∃ ao cap, e = .returned (.slice ao (n + 1) cap) ∧ w'.ownsRow B 52 2 (.slice ao (n + 1) cap) (n + 1) q ∧ w.grownBy w' (some g) ∧ Near w (.slice (some ⟨g, 0, none⟩) n C) (.slice ao (n + 1) cap)
theorem copies_pr {base g C n i vb : Nat} {A B Y : List Value} (hAl : A.length = i * 2) (hBl : B.length = (n - i) * 2) (hYl : Y.length = 2) (hB1 : ∀ v ∈ B, v.oneCell' = true) (hY1 : ∀ v ∈ Y, v.oneCell' = true) (hi : i < n) (hC : n + 1 ≤ C) {w : World} (hne : vb ≠ g)
    (hown : w.ownsRow base 52 2 (.slice (some ⟨g, 0, none⟩) n C) n (A ++ B)) (hv : w.heap[vb]? = some (.cells Y.toArray 52 (0, 0))) :
    ∃ cur1 cur2 : Array Value, (∀ W : World, W.heap = w.heap → ∀ ty dc sc, (Builtin.copy_ #[22, 22] ty #[.slice (some ⟨g, (i + 1) * 2, none⟩) (n - i) dc, .slice (some ⟨g, i * 2, none⟩) (n + 1 - i) sc]).run Try.prog W = .ok (goInt (Nat.min (n + 1 - i) (n - i))) (W.setRow g cur1)) ∧
      (∀ W : World, W.heap = (w.setRow g cur1).heap → ∀ ty dc, (Builtin.copy_ #[22, 22] ty #[.slice (some ⟨g, i * 2, none⟩) (n + 1 - i) dc, .slice (some ⟨vb, 0, none⟩) 1 1]).run Try.prog W = .ok (goInt (Nat.min 1 (n + 1 - i))) (W.setRow g cur2)) ∧
      (∀ W : World, W.heap = (w.setRow g cur1).heap → (W.setRow g cur2).ownsRow base 52 2 (.slice (some ⟨g, 0, none⟩) (n + 1) C) (n + 1) (A ++ Y ++ B)) := by
  obtain ⟨cur, Z, hg, hb, hnc, hCm, hs, e⟩ := row_open hown
  have hcl : cur.toList.length = C * 2 := by rw [Array.length_toList, hs]
  have hZ : Z.length = (C - n) * 2 := by
    have := hcl
    rw [e, List.length_append, List.length_append, hAl, hBl] at this
    omega
  obtain ⟨cur1, hc1⟩ : ∃ cur1 : Array Value, (cur.toList.take ((i + 1) * 2) ++ B ++ cur.toList.drop ((i + 1) * 2 + B.length)).toArray = cur1 := ⟨_, rfl⟩
  have hc1l : cur1.toList = cur.toList.take ((i + 1) * 2) ++ B ++ cur.toList.drop ((i + 1) * 2 + B.length) := by rw [← hc1]
  have hc1s : cur1.size = C * 2 := by
    rw [← Array.length_toList, hc1l, List.length_append, List.length_append, List.length_take, List.length_drop, hcl]
    omega
  obtain ⟨cur2, hc2⟩ : ∃ cur2 : Array Value, (cur1.toList.take (i * 2) ++ Y ++ cur1.toList.drop (i * 2 + Y.length)).toArray = cur2 := ⟨_, rfl⟩
  have hc2l : cur2.toList = A ++ Y ++ B ++ Z.drop Y.length := by
    rw [← hc2, List.toList_toArray, hc1l, e]
    have h := shift_row A B Y Z (by omega)
    simp only [hAl, hYl] at h
    rw [hYl, show (i + 1) * 2 = i * 2 + 2 by omega]
    exact h
  have hc2s : cur2.size = C * 2 := by
    rw [← Array.length_toList, hc2l]
    simp only [List.length_append, List.length_drop]
    omega
  refine ⟨cur1, cur2, fun W hW ty dc sc => ?_, fun W hW ty dc => ?_, fun W hW => ?_⟩
  · have hgW : W.heap[g]? = some (.cells cur 52 (0, 0)) := by rw [hW]; exact hg
    have h := run_copy_sized W 22 22 ty 52 2 g ((i + 1) * 2) (n - i) dc ⟨g, i * 2, none⟩ (n + 1 - i) sc cur 52 B Try.underlying22 Try.size_pr hgW
      (by rw [hBl]; show _ = min (n + 1 - i) (n - i) * 2; rw [Nat.min_eq_right (by omega)]) (fun j v hj => by
        rw [Addr.add_lit, cell_of_heap hgW, e, List.append_assoc, List.getElem?_append_right (by omega), show i * 2 + j - A.length = j by omega, List.getElem?_append_left (List.getElem?_eq_some_iff.1 hj).1]
        exact hj) (by rw [hBl, hs]; omega) hB1
    rw [hc1] at h
    exact h
  · have hg1 : W.heap[g]? = some (.cells cur1 52 (0, 0)) := by rw [hW]; exact setRow_heap w g cur cur1 _ _ hg
    have hv1 : W.heap[vb]? = w.heap[vb]? := by rw [hW]; exact setRow_other w g vb cur1 hne
    have h := run_copy_sized W 22 22 ty 52 2 g (i * 2) (n + 1 - i) dc ⟨vb, 0, none⟩ 1 1 cur1 52 Y Try.underlying22 Try.size_pr hg1
      (by rw [hYl]; show _ = min 1 (n + 1 - i) * 2; rw [Nat.min_eq_left (by omega)]) (fun j v hj => by
        rw [Addr.add_lit, cell_of_heap (hv1.trans hv), Nat.zero_add]
        exact hj) (by rw [hYl, hc1s]; omega) hY1
    rw [hc2] at h
    exact h
  · have hg1 : W.heap[g]? = some (.cells cur1 52 (0, 0)) := by rw [hW]; exact setRow_heap w g cur cur1 _ _ hg
    exact row_shut (Z := Z.drop Y.length) (by simp only [List.length_append]; omega) (setRow_heap W g cur1 cur2 _ _ hg1) hb hCm hC hc2s hc2l
theorem apart_pr {w : World} {g vb o lb cb : Nat} {cur Y : Array Value} (hne : vb ≠ g) (hg : w.heap[g]? = some (.cells cur 52 (0, 0))) (hs : cur.size ≠ 0) (hv : w.heap[vb]? = some (.cells Y 52 (0, 0))) :
    (callFunc 92 #[.slice (some ⟨vb, 0, none⟩) 1 1, .slice (some ⟨g, o, none⟩) lb cb]).run Try.prog w = .ok (.value (.bool false)) w := by
  rw [run_callFunc_extern Try.func92 (by kernel_rfl) (by kernel_rfl) (by kernel_rfl) (e := Extern.SlicesOverlaps.overlaps #[22, 22] #[4]) (by kernel_rfl),
    Lib.run_overlaps_apart w 22 4 52 Try.underlying22 2 (fun w => by kernel_rfl) ⟨vb, 0, none⟩ ⟨g, o, none⟩ 1 1 lb cb hne 52 52 Y.size cur.size
      (by simp [World.shape?, hv]) (by simp [World.shape?, hg]) hs (by simp [World.frozen?, hv]) (by simp [World.frozen?, hv])]
  rfl
set_option maxRecDepth 100000 in
set_option maxHeartbeats 2000000 in
theorem insShift_pr (base g C n i vb : Nat) (A B Y : List Value) (hAl : A.length = i * 2) (hBl : B.length = (n - i) * 2) (hYl : Y.length = 2) (hB1 : ∀ v ∈ B, v.oneCell' = true) (hY1 : ∀ v ∈ Y, v.oneCell' = true) (hi : i < n) (hC : n + 1 ≤ C) (hn : n ≤ 50000) (w : World) (hne : vb ≠ g)
    (hown : w.ownsRow base 52 2 (.slice (some ⟨g, 0, none⟩) n C) n (A ++ B)) (hv : w.heap[vb]? = some (.cells Y.toArray 52 (0, 0))) :
    Calls Try.prog 76 #[.slice (some ⟨g, 0, none⟩) n C, .int .i64 (i : Int), .slice (some ⟨vb, 0, none⟩) 1 1] w (InsSays_pr base g n C w (A ++ Y ++ B)) := by
  obtain ⟨cur1, cur2, hcp1, hcp2, hfin⟩ := copies_pr hAl hBl hYl hB1 hY1 hi hC hne hown hv
  have hov : ∀ lb cb, (callFunc 92 #[.slice (some ⟨vb, 0, none⟩) 1 1, .slice (some ⟨g, (i + 1) * 2, none⟩) lb cb]).run Try.prog w = .ok (.value (.bool false)) w := fun lb cb => by
    obtain ⟨cur, Z, hg, _, _, _, hs, _⟩ := row_open hown
    exact apart_pr hne hg (by omega) hv
  have hCm : C ≤ maxLen := by
    obtain ⟨cur, Z, _, _, _, h, _⟩ := row_open hown
    exact h
  unfold maxLen at hCm
  have hz2 : ¬ ((i : Int) = (n : Int)) := by omega
  have hb4 : ¬ (C = i) := by omega
  have hb5 : ¬ (C = i + 1) := by omega
  have hin : i ≤ n := by omega
  have hini : (i : Int) ≤ (n : Int) := by omega
  have hN : ¬ (C : Int) < (n : Int) + 1 := by omega
  have hN2 : (n : Int) + 1 ≤ (C : Int) := by omega
  have hi1 : (i : Int) + 1 ≤ (n : Int) + 1 := by omega
  have hp0 : (0 : Int) ≤ (i : Int) + 1 := by omega
  have hin1 : (i : Int) ≤ (n : Int) + 1 := by omega
  have htn : ((i : Int) + 1).toNat = i + 1 := by omega
  have hw1 : IntKind.i64.wrap ((i : Int) + 1) = (i : Int) + 1 := by rw [IntKind.wrap_i64]; omega
  have hcp1' := hcp1 w.drew rfl
  clear hown hv
  go_enter Try.func76, Try.ntmps76
  go_wp2_with (simp only [hov])
  go_region_law (refine step_copy_runI rfl _ _ 22 22 rfl _ _ (by simp [Act.eval, Act.put]) (by simp [Act.eval, Act.put]) (hcp1' _ _ _) ?_)
  have hcp3 := hcp2 (w.drew.setRow g cur1) rfl
  go_wp2
  go_ret
  exact ⟨_, _, rfl, hfin _ rfl, (grown_drew (grown_setRow (w := w.drew) cur1)).trans (grown_setRow cur2), .inl rfl⟩
set_option maxRecDepth 100000 in
set_option maxHeartbeats 2000000 in
theorem insEnd_pr (base g C n vb : Nat) (A Y : List Value) (hYl : Y.length = 2) (hY1 : ∀ v ∈ Y, v.oneCell' = true) (hn : n ≤ 50000) (w : World)
    (hown : w.ownsRow base 52 2 (.slice (some ⟨g, 0, none⟩) n C) n A) (hv : w.heap[vb]? = some (.cells Y.toArray 52 (0, 0))) :
    Calls Try.prog 76 #[.slice (some ⟨g, 0, none⟩) n C, .int .i64 (n : Int), .slice (some ⟨vb, 0, none⟩) 1 1] w (InsSays_pr base g n C w (A ++ Y)) := by
  obtain ⟨i0, hi, hz0, hz1, hz2⟩ := info_parts Try.infoPr
  have hnc : n ≤ C := by
    obtain ⟨cur, Z, _, _, h, _⟩ := row_open hown
    exact h
  have hsrc : ∀ j u, Y[j]? = some u → w.cell? ((⟨vb, 0, none⟩ : Addr).add j) = some u := by
    intro j u hj
    rw [Addr.add_lit, cell_of_heap hv, Nat.zero_add]
    exact hj
  have hbase : base ≤ w.heap.size := by
    obtain ⟨cur, Z, hg, hb, _⟩ := row_open hown
    exact Nat.le_of_lt (Nat.lt_of_le_of_lt hb (Array.getElem?_eq_some_iff.1 hg).1)
  by_cases hcn : C = n
  all_goals
    go_enter Try.func76, Try.ntmps76
    go_wp2_with (first
      | (at_builtin; refine wpList_append_own_at _ rfl _ _ 22 rfl base 52 i0 _ 2 32 Try.underlying22 hi hz0 hz1 hz2 rfl (by decide) (.slice (some ⟨g, 0, none⟩) n C) n _ rfl hown ⟨vb, 0, none⟩ 1 1 Y rfl (by rw [hYl]) hsrc hY1 (by unfold maxLen; omega) (by omega) hbase ?_; intro v3 w3 hown3 hgrow3 _ hat3
         obtain ⟨ao3, m3, cap3, rfl⟩ := own_shape hown3
         obtain rfl : m3 = n + 1 := by
           rcases hown3.2 with ⟨hv3, h0⟩ | ⟨g3, c3, cur3, hv3, _⟩
           · cases hv3; omega
           · cases hv3; rfl))
    go_ret
    refine ⟨_, _, rfl, hown3, hgrow3, ?_⟩
    rcases hat3 with h | h
    · exact .inl h
    · exact .inr ⟨_, h, Nat.le_refl _⟩
set_option maxRecDepth 100000 in
set_option maxHeartbeats 2000000 in
theorem insGrow_pr (base g n i vb : Nat) (A B Y : List Value) (hAl : A.length = i * 2) (hBl : B.length = (n - i) * 2) (hYl : Y.length = 2) (hA1 : ∀ v ∈ A, v.oneCell' = true) (hB1 : ∀ v ∈ B, v.oneCell' = true) (hY1 : ∀ v ∈ Y, v.oneCell' = true) (hi : i < n) (hn : n ≤ 50000) (w : World)
    (hown : w.ownsRow base 52 2 (.slice (some ⟨g, 0, none⟩) n n) n (A ++ B)) (hv : w.heap[vb]? = some (.cells Y.toArray 52 (0, 0))) :
    Calls Try.prog 76 #[.slice (some ⟨g, 0, none⟩) n n, .int .i64 (i : Int), .slice (some ⟨vb, 0, none⟩) 1 1] w (InsSays_pr base g n n w (A ++ Y ++ B)) := by
  obtain ⟨j0, hi0, hz0, hz1, hz2⟩ := info_parts Try.infoPr
  obtain ⟨cur, Z, hg, hb, hnc, hCm, hs, e⟩ := row_open hown
  have hZ0 : Z = [] := by
    have h1 : cur.toList.length = n * 2 := by rw [Array.length_toList, hs]
    rw [e, List.length_append, List.length_append, hAl, hBl] at h1
    exact List.eq_nil_of_length_eq_zero (by omega)
  subst hZ0
  rw [List.append_nil] at e
  have hgl : g < w.heap.size := (Array.getElem?_eq_some_iff.1 hg).1
  have hvl : vb < w.heap.size := (Array.getElem?_eq_some_iff.1 hv).1
  have hkk : (n : Int) + 1 - (i : Int) = ((n + 1 - i : Nat) : Int) := by omega
  have hik : i + (n + 1 - i) = n + 1 := by omega
  have hold : (Builtin.firstCells j0.size i (.slice (some ⟨g, 0, none⟩) i n)).run Try.prog w.drew = .ok A.toArray w.drew := by
    rw [hz1]
    exact run_firstCells_some w.drew 2 i ⟨g, 0, none⟩ i n A hAl (fun j v hj => by
      rw [Addr.add_lit, Nat.zero_add, cell_of_heap (w := w.drew) hg, e, List.getElem?_append_left (List.getElem?_eq_some_iff.1 hj).1]
      exact hj)
  have hrz : ∀ ty, (Builtin.append_ #[22, 3] ty #[.slice (some ⟨g, 0, none⟩) i n, .int .i64 ((n : Int) + 1 - (i : Int))]).run Try.prog w =
      .ok (.slice (some ⟨w.heap.size, 0, none⟩) (n + 1) (grownCap w (n + 1) n 52)) (w.drew.alloc (.cells (A.toArray ++ Builtin.zeroCells (Value.agg #[.string ⟨#[]⟩, .string ⟨#[]⟩]).cells (n + 1 - i) ++ Builtin.zeroCells (Value.agg #[.string ⟨#[]⟩, .string ⟨#[]⟩]).cells (grownCap w (n + 1) n 52 - (n + 1))) 52)) := fun ty => by
    have h := Lib.run_append_grow_zeros w 22 3 ty 52 j0 _ .i64 .i64 Try.underlying22 Try.underlying3 hi0 hz0 (some ⟨g, 0, none⟩) i n A hold (n + 1 - i) (by omega) (by omega) (by omega) (by omega) (by rw [hz2]; omega) (by rw [hz2, hik]; exact growslice_fits (by omega) (by omega))
    rw [hik] at h
    rw [hkk]
    exact h
  obtain ⟨G, hG⟩ : ∃ G, G = grownCap w (n + 1) n 52 := ⟨_, rfl⟩
  have hGn : n + 1 ≤ G := by rw [hG]; exact grownCap_ge w _ _ _
  have hGm : G ≤ maxLen := by rw [hG]; exact grownCap_le_maxLen w (n + 1) n 52 (by unfold maxLen; omega)
  obtain ⟨ZZ, hZZ⟩ : ∃ ZZ : List Value, ZZ = (Builtin.zeroCells (Value.agg #[.string ⟨#[]⟩, .string ⟨#[]⟩]).cells (n + 1 - i)).toList ++ (Builtin.zeroCells (Value.agg #[.string ⟨#[]⟩, .string ⟨#[]⟩]).cells (G - (n + 1))).toList := ⟨_, rfl⟩
  have hZl : ZZ.length = (G - i) * 2 := by
    rw [hZZ, List.length_append, Array.length_toList, Array.length_toList, size_zeroCells, size_zeroCells, show (Value.agg #[.string ⟨#[]⟩, .string ⟨#[]⟩]).cells.size = 2 from rfl]
    omega
  obtain ⟨ROW, hROW⟩ : ∃ ROW : Array Value, ROW = (A ++ ZZ).toArray := ⟨_, rfl⟩
  have hRl : ROW.toList = A ++ ZZ := by rw [hROW]
  have hRs : ROW.size = G * 2 := by
    rw [← Array.length_toList, hRl, List.length_append, hAl, hZl]
    omega
  have hrz2 : ∀ ty, (Builtin.append_ #[22, 3] ty #[.slice (some ⟨g, 0, none⟩) i n, .int .i64 ((n : Int) + 1 - (i : Int))]).run Try.prog w = .ok (.slice (some ⟨w.heap.size, 0, none⟩) (n + 1) G) (w.drew.alloc (.cells ROW 52)) := fun ty => by
    rw [hrz ty, ← hG, hROW, hZZ]
    congr 4
    apply Array.ext'
    simp
  clear hrz hROW hZZ hold
  have hfr := fresh_row A B Y ZZ (by omega)
  obtain ⟨R1, hR1⟩ : ∃ R1 : Array Value, R1 = (ROW.toList.take (i * 2) ++ Y ++ ROW.toList.drop (i * 2 + Y.length)).toArray := ⟨_, rfl⟩
  have hR1l : R1.toList = A ++ Y ++ ZZ.drop Y.length := by
    rw [hR1, List.toList_toArray, hRl, ← hAl]
    exact hfr.1
  have hR1s : R1.size = G * 2 := by
    rw [← Array.length_toList, hR1l]
    simp only [List.length_append, List.length_drop]
    omega
  obtain ⟨R2, hR2⟩ : ∃ R2 : Array Value, R2 = (R1.toList.take ((i + 1) * 2) ++ B ++ R1.toList.drop ((i + 1) * 2 + B.length)).toArray := ⟨_, rfl⟩
  have hR2l : R2.toList = A ++ Y ++ B ++ ZZ.drop (Y.length + B.length) := by
    rw [hR2, List.toList_toArray, hR1l, show (i + 1) * 2 = A.length + Y.length by omega, ← hfr.1]
    exact hfr.2
  have hR2s : R2.size = G * 2 := by
    rw [← Array.length_toList, hR2l]
    simp only [List.length_append, List.length_drop]
    omega
  have hcpA : ∀ W : World, W.heap = (w.alloc (.cells ROW 52)).heap → ∀ ty dc, (Builtin.copy_ #[22, 22] ty #[.slice (some ⟨w.heap.size, i * 2, none⟩) (n + 1 - i) dc, .slice (some ⟨vb, 0, none⟩) 1 1]).run Try.prog W = .ok (goInt (Nat.min 1 (n + 1 - i))) (W.setRow w.heap.size R1) := fun W hW ty dc => by
    have hgW : W.heap[w.heap.size]? = some (.cells ROW 52 (0, 0)) := by rw [hW]; exact heap_new w _
    have hvW : W.heap[vb]? = some (.cells Y.toArray 52 (0, 0)) := by rw [hW]; exact alloc_box _ hv
    have h := run_copy_sized W 22 22 ty 52 2 w.heap.size (i * 2) (n + 1 - i) dc ⟨vb, 0, none⟩ 1 1 ROW 52 Y Try.underlying22 Try.size_pr hgW
      (by rw [hYl]; show _ = min 1 (n + 1 - i) * 2; rw [Nat.min_eq_left (by omega)]) (fun j v hj => by
        rw [Addr.add_lit, cell_of_heap hvW, Nat.zero_add]
        exact hj) (by rw [hYl, hRs]; omega) hY1
    rw [← hR1] at h
    exact h
  have hcpB : ∀ W : World, W.heap = ((w.alloc (.cells ROW 52)).setRow w.heap.size R1).heap → ∀ ty dc sc, (Builtin.copy_ #[22, 22] ty #[.slice (some ⟨w.heap.size, (i + 1) * 2, none⟩) (n - i) dc, .slice (some ⟨g, i * 2, none⟩) (n - i) sc]).run Try.prog W = .ok (goInt (Nat.min (n - i) (n - i))) (W.setRow w.heap.size R2) := fun W hW ty dc sc => by
    have hgW : W.heap[w.heap.size]? = some (.cells R1 52 (0, 0)) := by rw [hW]; exact setRow_heap _ _ ROW R1 _ _ (heap_new w _)
    have hvW : W.heap[g]? = some (.cells cur 52 (0, 0)) := by rw [hW, setRow_other _ _ _ _ (by omega)]; exact alloc_box _ hg
    have h := run_copy_sized W 22 22 ty 52 2 w.heap.size ((i + 1) * 2) (n - i) dc ⟨g, i * 2, none⟩ (n - i) sc R1 52 B Try.underlying22 Try.size_pr hgW
      (by rw [hBl]; show _ = min (n - i) (n - i) * 2; rw [Nat.min_self]) (fun j v hj => by
        rw [Addr.add_lit, cell_of_heap hvW, e, List.getElem?_append_right (by omega), show i * 2 + j - A.length = j by omega]
        exact hj) (by rw [hBl, hR1s]; omega) hB1
    rw [← hR2] at h
    exact h
  have hfin : ∀ W : World, W.heap = ((w.alloc (.cells ROW 52)).setRow w.heap.size R1).heap → W.os = w.os → W.tape = w.tape → W.output = w.output → (W.setRow w.heap.size R2).ownsRow base 52 2 (.slice (some ⟨w.heap.size, 0, none⟩) (n + 1) G) (n + 1) (A ++ Y ++ B) ∧ w.grownBy (W.setRow w.heap.size R2) (some g) := fun W hW h1 h2 h3 => by
    have hgW : W.heap[w.heap.size]? = some (.cells R1 52 (0, 0)) := by rw [hW]; exact setRow_heap _ _ ROW R1 _ _ (heap_new w _)
    refine ⟨row_shut (Z := ZZ.drop (Y.length + B.length)) (by simp only [List.length_append]; omega) (setRow_heap W _ R1 R2 _ _ hgW) (by omega) hGm hGn hR2s hR2l, h1, h2, h3, ?_, ?_⟩
    · show w.heap.size ≤ (W.heap.modify _ _).size
      rw [Array.size_modify, hW]
      show w.heap.size ≤ ((w.alloc (.cells ROW 52)).heap.modify _ _).size
      simp
    · intro k hk _
      rw [setRow_other _ _ _ _ (by omega), hW, setRow_other _ _ _ _ (by omega)]
      exact Below.heap_alloc w _ k hk
  unfold maxLen at hGm
  have hz2' : ¬ ((i : Int) = (n : Int)) := by omega
  have hb4 : ¬ (G = i) := by omega
  have hb5 : ¬ (G = i + 1) := by omega
  have hb6 : ¬ (n = i) := by omega
  have hin : i ≤ n := by omega
  have hini : (i : Int) ≤ (n : Int) := by omega
  have hi1 : (i : Int) + 1 ≤ (n : Int) + 1 := by omega
  have hp0 : (0 : Int) ≤ (i : Int) + 1 := by omega
  have hin1 : (i : Int) ≤ (n : Int) + 1 := by omega
  have htn : ((i : Int) + 1).toNat = i + 1 := by omega
  have hw1 : IntKind.i64.wrap ((i : Int) + 1) = (i : Int) + 1 := by rw [IntKind.wrap_i64]; omega
  have hNN : (n : Int) < (n : Int) + 1 := by omega
  have hbN : w.heap.size ≥ base := by omega
  clear hown hv hg e hR1 hR2 hR1l hR2l hRl hfr hG hkk hik
  have hcpA' := hcpA ((w.alloc (.cells ROW 52)).drew) rfl
  have hcpB' := hcpB ((((w.alloc (.cells ROW 52)).drew).setRow w.heap.size R1).drew) rfl
  clear hcpA hcpB
  go_enter Try.func76, Try.ntmps76
  go_wp2_with (first
    | (at_builtin; refine Lib.wpList_append_run _ rfl _ _ _ _ rfl _ _ rfl rfl _ _ (hrz2 _) ?_))
  go_region_law (refine step_copy_runI rfl _ _ 22 22 rfl _ _ (by simp [Act.eval, Act.put]) (by simp [Act.eval, Act.put]) (hcpB' _ _ _) ?_)
  go_wp2
  go_ret
  obtain ⟨f1, f2⟩ := hfin ((((w.alloc (.cells ROW 52)).drew).setRow w.heap.size R1).drew) rfl rfl rfl rfl
  exact ⟨_, _, rfl, f1, f2, .inr ⟨_, rfl, Nat.le_refl _⟩⟩
theorem ins_pr (base g C n i vb : Nat) (A B Y : List Value) (hAl : A.length = i * 2) (hBl : B.length = (n - i) * 2) (hYl : Y.length = 2) (hA1 : ∀ v ∈ A, v.oneCell' = true) (hB1 : ∀ v ∈ B, v.oneCell' = true) (hY1 : ∀ v ∈ Y, v.oneCell' = true) (hi : i ≤ n) (hn : n ≤ 50000) (w : World) (hne : vb ≠ g)
    (hown : w.ownsRow base 52 2 (.slice (some ⟨g, 0, none⟩) n C) n (A ++ B)) (hv : w.heap[vb]? = some (.cells Y.toArray 52 (0, 0))) :
    Calls Try.prog 76 #[.slice (some ⟨g, 0, none⟩) n C, .int .i64 (i : Int), .slice (some ⟨vb, 0, none⟩) 1 1] w (InsSays_pr base g n C w (A ++ Y ++ B)) := by
  by_cases h : i = n
  · subst h
    have hB0 : B = [] := List.eq_nil_of_length_eq_zero (by omega)
    subst hB0
    rw [List.append_nil] at hown ⊢
    exact insEnd_pr base g C i vb A Y hYl hY1 hn w hown hv
  · by_cases hC : n + 1 ≤ C
    · exact insShift_pr base g C n i vb A B Y hAl hBl hYl hB1 hY1 (by omega) hC hn w hne hown hv
    · obtain rfl : C = n := by
        obtain ⟨cur, Z, _, _, h, _⟩ := row_open hown
        omega
      exact insGrow_pr base g C i vb A B Y hAl hBl hYl hA1 hB1 hY1 (by omega) hn w hown hv

theorem Try.size_pg : (Try.prog.info? 22).map (·.size) = some 1 := by kernel_rfl
/-- What an insertion leaves. -/
abbrev Num.InsSays_pg (B g n C : Nat) (w : World) (q : List Value) (e : Ending) (w' : World) : Prop := ∃ ao cap, e = .returned (.slice ao (n + 1) cap) ∧ w'.ownsRow B 22 1 (.slice ao (n + 1) cap) (n + 1) q ∧ w.grownBy w' (some g) ∧ Near w (.slice (some ⟨g, 0, none⟩) n C) (.slice ao (n + 1) cap)
theorem copies_pg {base g C n i vb : Nat} {A B Y : List Value} (hAl : A.length = i * 1) (hBl : B.length = (n - i) * 1) (hYl : Y.length = 1) (hB1 : ∀ v ∈ B, v.oneCell' = true) (hY1 : ∀ v ∈ Y, v.oneCell' = true) (hi : i < n) (hC : n + 1 ≤ C) {w : World} (hne : vb ≠ g)
    (hown : w.ownsRow base 22 1 (.slice (some ⟨g, 0, none⟩) n C) n (A ++ B)) (hv : w.heap[vb]? = some (.cells Y.toArray 22 (0, 0))) :
    ∃ cur1 cur2 : Array Value, (∀ W : World, W.heap = w.heap → ∀ ty dc sc, (Builtin.copy_ #[104, 104] ty #[.slice (some ⟨g, (i + 1), none⟩) (n - i) dc, .slice (some ⟨g, i, none⟩) (n + 1 - i) sc]).run Try.prog W = .ok (goInt (Nat.min (n + 1 - i) (n - i))) (W.setRow g cur1)) ∧
      (∀ W : World, W.heap = (w.setRow g cur1).heap → ∀ ty dc, (Builtin.copy_ #[104, 104] ty #[.slice (some ⟨g, i, none⟩) (n + 1 - i) dc, .slice (some ⟨vb, 0, none⟩) 1 1]).run Try.prog W = .ok (goInt (Nat.min 1 (n + 1 - i))) (W.setRow g cur2)) ∧
      (∀ W : World, W.heap = (w.setRow g cur1).heap → (W.setRow g cur2).ownsRow base 22 1 (.slice (some ⟨g, 0, none⟩) (n + 1) C) (n + 1) (A ++ Y ++ B)) := by
  obtain ⟨cur, Z, hg, hb, hnc, hCm, hs, e⟩ := row_open hown
  have hcl : cur.toList.length = C * 1 := by rw [Array.length_toList, hs]
  have hZ : Z.length = (C - n) * 1 := by
    have := hcl
    rw [e, List.length_append, List.length_append, hAl, hBl] at this
    omega
  obtain ⟨cur1, hc1⟩ : ∃ cur1 : Array Value, (cur.toList.take ((i + 1) * 1) ++ B ++ cur.toList.drop ((i + 1) * 1 + B.length)).toArray = cur1 := ⟨_, rfl⟩
  have hc1l : cur1.toList = cur.toList.take ((i + 1) * 1) ++ B ++ cur.toList.drop ((i + 1) * 1 + B.length) := by rw [← hc1]
  have hc1s : cur1.size = C * 1 := by
    rw [← Array.length_toList, hc1l, List.length_append, List.length_append, List.length_take, List.length_drop, hcl]
    omega
  obtain ⟨cur2, hc2⟩ : ∃ cur2 : Array Value, (cur1.toList.take (i * 1) ++ Y ++ cur1.toList.drop (i * 1 + Y.length)).toArray = cur2 := ⟨_, rfl⟩
  have hc2l : cur2.toList = A ++ Y ++ B ++ Z.drop Y.length := by
    rw [← hc2, List.toList_toArray, hc1l, e]
    have h := shift_row A B Y Z (by omega)
    simp only [hAl, hYl] at h
    rw [hYl, show (i + 1) * 1 = i * 1 + 1 by omega]
    exact h
  have hc2s : cur2.size = C * 1 := by
    rw [← Array.length_toList, hc2l]
    simp only [List.length_append, List.length_drop]
    omega
  refine ⟨cur1, cur2, fun W hW ty dc sc => ?_, fun W hW ty dc => ?_, fun W hW => ?_⟩
  · have hgW : W.heap[g]? = some (.cells cur 22 (0, 0)) := by rw [hW]; exact hg
    have h := run_copy_sized W 104 104 ty 22 1 g ((i + 1)) (n - i) dc ⟨g, i, none⟩ (n + 1 - i) sc cur 22 B Try.underlying104 Try.size_pg hgW
      (by rw [hBl]; show _ = min (n + 1 - i) (n - i) * 1; rw [Nat.min_eq_right (by omega)]) (fun j v hj => by
        rw [Addr.add_lit, cell_of_heap hgW, e, List.append_assoc, List.getElem?_append_right (by omega), show i + j - A.length = j by omega, List.getElem?_append_left (List.getElem?_eq_some_iff.1 hj).1]
        exact hj) (by rw [hBl, hs]; omega) hB1
    rw [Nat.mul_one] at hc1; rw [hc1] at h
    exact h
  · have hg1 : W.heap[g]? = some (.cells cur1 22 (0, 0)) := by rw [hW]; exact setRow_heap w g cur cur1 _ _ hg
    have hv1 : W.heap[vb]? = w.heap[vb]? := by rw [hW]; exact setRow_other w g vb cur1 hne
    have h := run_copy_sized W 104 104 ty 22 1 g (i) (n + 1 - i) dc ⟨vb, 0, none⟩ 1 1 cur1 22 Y Try.underlying104 Try.size_pg hg1
      (by rw [hYl]; show _ = min 1 (n + 1 - i) * 1; rw [Nat.min_eq_left (by omega)]) (fun j v hj => by
        rw [Addr.add_lit, cell_of_heap (hv1.trans hv), Nat.zero_add]
        exact hj) (by rw [hYl, hc1s]; omega) hY1
    rw [Nat.mul_one] at hc2; rw [hc2] at h
    exact h
  · have hg1 : W.heap[g]? = some (.cells cur1 22 (0, 0)) := by rw [hW]; exact setRow_heap w g cur cur1 _ _ hg
    exact row_shut (Z := Z.drop Y.length) (by simp only [List.length_append]; omega) (setRow_heap W g cur1 cur2 _ _ hg1) hb hCm hC hc2s hc2l
theorem apart_pg {w : World} {g vb o lb cb : Nat} {cur Y : Array Value} (hne : vb ≠ g) (hg : w.heap[g]? = some (.cells cur 22 (0, 0))) (hs : cur.size ≠ 0) (hv : w.heap[vb]? = some (.cells Y 22 (0, 0))) :
    (callFunc 103 #[.slice (some ⟨vb, 0, none⟩) 1 1, .slice (some ⟨g, o, none⟩) lb cb]).run Try.prog w = .ok (.value (.bool false)) w := by
  rw [run_callFunc_extern Try.func103 (by kernel_rfl) (by kernel_rfl) (by kernel_rfl) (e := Extern.SlicesOverlaps.overlaps #[104, 104] #[4]) (by kernel_rfl),
    Lib.run_overlaps_apart w 104 4 22 Try.underlying104 1 (fun w => by kernel_rfl) ⟨vb, 0, none⟩ ⟨g, o, none⟩ 1 1 lb cb hne 22 22 Y.size cur.size
      (by simp [World.shape?, hv]) (by simp [World.shape?, hg]) hs (by simp [World.frozen?, hv]) (by simp [World.frozen?, hv])]
  rfl
set_option maxRecDepth 100000 in
set_option maxHeartbeats 2000000 in
theorem insShift_pg (base g C n i vb : Nat) (A B Y : List Value) (hAl : A.length = i * 1) (hBl : B.length = (n - i) * 1) (hYl : Y.length = 1) (hB1 : ∀ v ∈ B, v.oneCell' = true) (hY1 : ∀ v ∈ Y, v.oneCell' = true) (hi : i < n) (hC : n + 1 ≤ C) (hn : n ≤ 50000) (w : World) (hne : vb ≠ g)
    (hown : w.ownsRow base 22 1 (.slice (some ⟨g, 0, none⟩) n C) n (A ++ B)) (hv : w.heap[vb]? = some (.cells Y.toArray 22 (0, 0))) :
    Calls Try.prog 95 #[.slice (some ⟨g, 0, none⟩) n C, .int .i64 (i : Int), .slice (some ⟨vb, 0, none⟩) 1 1] w (InsSays_pg base g n C w (A ++ Y ++ B)) := by
  obtain ⟨cur1, cur2, hcp1, hcp2, hfin⟩ := copies_pg hAl hBl hYl hB1 hY1 hi hC hne hown hv
  have hov : ∀ lb cb, (callFunc 103 #[.slice (some ⟨vb, 0, none⟩) 1 1, .slice (some ⟨g, (i + 1), none⟩) lb cb]).run Try.prog w = .ok (.value (.bool false)) w := fun lb cb => by
    obtain ⟨cur, Z, hg, _, _, _, hs, _⟩ := row_open hown
    exact apart_pg hne hg (by omega) hv
  have hCm : C ≤ maxLen := by
    obtain ⟨cur, Z, _, _, _, h, _⟩ := row_open hown
    exact h
  unfold maxLen at hCm
  have hz2 : ¬ ((i : Int) = (n : Int)) := by omega
  have hb4 : ¬ (C = i) := by omega
  have hb5 : ¬ (C = i + 1) := by omega
  have hin : i ≤ n := by omega
  have hini : (i : Int) ≤ (n : Int) := by omega
  have hN : ¬ (C : Int) < (n : Int) + 1 := by omega
  have hN2 : (n : Int) + 1 ≤ (C : Int) := by omega
  have hi1 : (i : Int) + 1 ≤ (n : Int) + 1 := by omega
  have hp0 : (0 : Int) ≤ (i : Int) + 1 := by omega
  have hin1 : (i : Int) ≤ (n : Int) + 1 := by omega
  have htn : ((i : Int) + 1).toNat = i + 1 := by omega
  have hw1 : IntKind.i64.wrap ((i : Int) + 1) = (i : Int) + 1 := by rw [IntKind.wrap_i64]; omega
  have hcp1' := hcp1 w.drew rfl
  clear hown hv
  go_enter Try.func95, Try.ntmps95
  go_wp2_with (simp only [hov])
  go_region_law (refine step_copy_runI rfl _ _ 104 104 rfl _ _ (by simp [Act.eval, Act.put]) (by simp [Act.eval, Act.put]) (hcp1' _ _ _) ?_)
  have hcp3 := hcp2 (w.drew.setRow g cur1) rfl
  go_wp2
  go_ret
  exact ⟨_, _, rfl, hfin _ rfl, (grown_drew (grown_setRow (w := w.drew) cur1)).trans (grown_setRow cur2), .inl rfl⟩
set_option maxRecDepth 100000 in
set_option maxHeartbeats 2000000 in
theorem insEnd_pg (base g C n vb : Nat) (A Y : List Value) (hYl : Y.length = 1) (hY1 : ∀ v ∈ Y, v.oneCell' = true) (hn : n ≤ 50000) (w : World)
    (hown : w.ownsRow base 22 1 (.slice (some ⟨g, 0, none⟩) n C) n A) (hv : w.heap[vb]? = some (.cells Y.toArray 22 (0, 0))) :
    Calls Try.prog 95 #[.slice (some ⟨g, 0, none⟩) n C, .int .i64 (n : Int), .slice (some ⟨vb, 0, none⟩) 1 1] w (InsSays_pg base g n C w (A ++ Y)) := by
  obtain ⟨i0, hi, hz0, hz1, hz2⟩ := info_parts Try.infoPg
  have hnc : n ≤ C := by
    obtain ⟨cur, Z, _, _, h, _⟩ := row_open hown
    exact h
  have hsrc : ∀ j u, Y[j]? = some u → w.cell? ((⟨vb, 0, none⟩ : Addr).add j) = some u := by
    intro j u hj
    rw [Addr.add_lit, cell_of_heap hv, Nat.zero_add]
    exact hj
  have hbase : base ≤ w.heap.size := by
    obtain ⟨cur, Z, hg, hb, _⟩ := row_open hown
    exact Nat.le_of_lt (Nat.lt_of_le_of_lt hb (Array.getElem?_eq_some_iff.1 hg).1)
  by_cases hcn : C = n
  all_goals
    go_enter Try.func95, Try.ntmps95
    go_wp2_with (first
      | (at_builtin; refine wpList_append_own_at _ rfl _ _ 104 rfl base 22 i0 _ 1 24 Try.underlying104 hi hz0 hz1 hz2 rfl (by decide) (.slice (some ⟨g, 0, none⟩) n C) n _ rfl hown ⟨vb, 0, none⟩ 1 1 Y rfl (by rw [hYl]) hsrc hY1 (by unfold maxLen; omega) (by omega) hbase ?_; intro v3 w3 hown3 hgrow3 _ hat3
         obtain ⟨ao3, m3, cap3, rfl⟩ := own_shape hown3
         obtain rfl : m3 = n + 1 := by
           rcases hown3.2 with ⟨hv3, h0⟩ | ⟨g3, c3, cur3, hv3, _⟩
           · cases hv3; omega
           · cases hv3; rfl))
    go_ret
    refine ⟨_, _, rfl, hown3, hgrow3, ?_⟩
    rcases hat3 with h | h
    · exact .inl h
    · exact .inr ⟨_, h, Nat.le_refl _⟩
set_option maxRecDepth 100000 in
set_option maxHeartbeats 2000000 in
theorem insGrow_pg (base g n i vb : Nat) (A B Y : List Value) (hAl : A.length = i * 1) (hBl : B.length = (n - i) * 1) (hYl : Y.length = 1) (hA1 : ∀ v ∈ A, v.oneCell' = true) (hB1 : ∀ v ∈ B, v.oneCell' = true) (hY1 : ∀ v ∈ Y, v.oneCell' = true) (hi : i < n) (hn : n ≤ 50000) (w : World)
    (hown : w.ownsRow base 22 1 (.slice (some ⟨g, 0, none⟩) n n) n (A ++ B)) (hv : w.heap[vb]? = some (.cells Y.toArray 22 (0, 0))) :
    Calls Try.prog 95 #[.slice (some ⟨g, 0, none⟩) n n, .int .i64 (i : Int), .slice (some ⟨vb, 0, none⟩) 1 1] w (InsSays_pg base g n n w (A ++ Y ++ B)) := by
  obtain ⟨j0, hi0, hz0, hz1, hz2⟩ := info_parts Try.infoPg
  obtain ⟨cur, Z, hg, hb, hnc, hCm, hs, e⟩ := row_open hown
  have hZ0 : Z = [] := by
    have h1 : cur.toList.length = n * 1 := by rw [Array.length_toList, hs]
    rw [e, List.length_append, List.length_append, hAl, hBl] at h1
    exact List.eq_nil_of_length_eq_zero (by omega)
  subst hZ0
  rw [List.append_nil] at e
  have hgl : g < w.heap.size := (Array.getElem?_eq_some_iff.1 hg).1
  have hvl : vb < w.heap.size := (Array.getElem?_eq_some_iff.1 hv).1
  have hkk : (n : Int) + 1 - (i : Int) = ((n + 1 - i : Nat) : Int) := by omega
  have hik : i + (n + 1 - i) = n + 1 := by omega
  have hold : (Builtin.firstCells j0.size i (.slice (some ⟨g, 0, none⟩) i n)).run Try.prog w.drew = .ok A.toArray w.drew := by
    rw [hz1]
    exact run_firstCells_some w.drew 1 i ⟨g, 0, none⟩ i n A hAl (fun j v hj => by
      rw [Addr.add_lit, Nat.zero_add, cell_of_heap (w := w.drew) hg, e, List.getElem?_append_left (List.getElem?_eq_some_iff.1 hj).1]
      exact hj)
  have hrz : ∀ ty, (Builtin.append_ #[104, 3] ty #[.slice (some ⟨g, 0, none⟩) i n, .int .i64 ((n : Int) + 1 - (i : Int))]).run Try.prog w =
      .ok (.slice (some ⟨w.heap.size, 0, none⟩) (n + 1) (grownCap w (n + 1) n 22)) (w.drew.alloc (.cells (A.toArray ++ Builtin.zeroCells (Value.slice none 0 0).cells (n + 1 - i) ++ Builtin.zeroCells (Value.slice none 0 0).cells (grownCap w (n + 1) n 22 - (n + 1))) 22)) := fun ty => by
    have h := Lib.run_append_grow_zeros w 104 3 ty 22 j0 _ .i64 .i64 Try.underlying104 Try.underlying3 hi0 hz0 (some ⟨g, 0, none⟩) i n A hold (n + 1 - i) (by omega) (by omega) (by omega) (by omega) (by rw [hz2]; omega) (by rw [hz2, hik]; exact growslice_fits (by omega) (by omega))
    rw [hik] at h
    rw [hkk]
    exact h
  obtain ⟨G, hG⟩ : ∃ G, G = grownCap w (n + 1) n 22 := ⟨_, rfl⟩
  have hGn : n + 1 ≤ G := by rw [hG]; exact grownCap_ge w _ _ _
  have hGm : G ≤ maxLen := by rw [hG]; exact grownCap_le_maxLen w (n + 1) n 22 (by unfold maxLen; omega)
  obtain ⟨ZZ, hZZ⟩ : ∃ ZZ : List Value, ZZ = (Builtin.zeroCells (Value.slice none 0 0).cells (n + 1 - i)).toList ++ (Builtin.zeroCells (Value.slice none 0 0).cells (G - (n + 1))).toList := ⟨_, rfl⟩
  have hZl : ZZ.length = (G - i) * 1 := by
    rw [hZZ, List.length_append, Array.length_toList, Array.length_toList, size_zeroCells, size_zeroCells, show (Value.slice none 0 0).cells.size = 1 from rfl]
    omega
  obtain ⟨ROW, hROW⟩ : ∃ ROW : Array Value, ROW = (A ++ ZZ).toArray := ⟨_, rfl⟩
  have hRl : ROW.toList = A ++ ZZ := by rw [hROW]
  have hRs : ROW.size = G * 1 := by
    rw [← Array.length_toList, hRl, List.length_append, hAl, hZl]
    omega
  have hrz2 : ∀ ty, (Builtin.append_ #[104, 3] ty #[.slice (some ⟨g, 0, none⟩) i n, .int .i64 ((n : Int) + 1 - (i : Int))]).run Try.prog w = .ok (.slice (some ⟨w.heap.size, 0, none⟩) (n + 1) G) (w.drew.alloc (.cells ROW 22)) := fun ty => by
    rw [hrz ty, ← hG, hROW, hZZ]
    congr 4
    apply Array.ext'
    simp
  clear hrz hROW hZZ hold
  have hfr := fresh_row A B Y ZZ (by omega)
  obtain ⟨R1, hR1⟩ : ∃ R1 : Array Value, R1 = (ROW.toList.take (i * 1) ++ Y ++ ROW.toList.drop (i * 1 + Y.length)).toArray := ⟨_, rfl⟩
  have hR1l : R1.toList = A ++ Y ++ ZZ.drop Y.length := by
    rw [hR1, List.toList_toArray, hRl, ← hAl]
    exact hfr.1
  have hR1s : R1.size = G * 1 := by
    rw [← Array.length_toList, hR1l]
    simp only [List.length_append, List.length_drop]
    omega
  obtain ⟨R2, hR2⟩ : ∃ R2 : Array Value, R2 = (R1.toList.take ((i + 1) * 1) ++ B ++ R1.toList.drop ((i + 1) * 1 + B.length)).toArray := ⟨_, rfl⟩
  have hR2l : R2.toList = A ++ Y ++ B ++ ZZ.drop (Y.length + B.length) := by
    rw [hR2, List.toList_toArray, hR1l, show (i + 1) * 1 = A.length + Y.length by omega, ← hfr.1]
    exact hfr.2
  have hR2s : R2.size = G * 1 := by
    rw [← Array.length_toList, hR2l]
    simp only [List.length_append, List.length_drop]
    omega
  have hcpA : ∀ W : World, W.heap = (w.alloc (.cells ROW 22)).heap → ∀ ty dc, (Builtin.copy_ #[104, 104] ty #[.slice (some ⟨w.heap.size, i, none⟩) (n + 1 - i) dc, .slice (some ⟨vb, 0, none⟩) 1 1]).run Try.prog W = .ok (goInt (Nat.min 1 (n + 1 - i))) (W.setRow w.heap.size R1) := fun W hW ty dc => by
    have hgW : W.heap[w.heap.size]? = some (.cells ROW 22 (0, 0)) := by rw [hW]; exact heap_new w _
    have hvW : W.heap[vb]? = some (.cells Y.toArray 22 (0, 0)) := by rw [hW]; exact alloc_box _ hv
    have h := run_copy_sized W 104 104 ty 22 1 w.heap.size (i) (n + 1 - i) dc ⟨vb, 0, none⟩ 1 1 ROW 22 Y Try.underlying104 Try.size_pg hgW
      (by rw [hYl]; show _ = min 1 (n + 1 - i) * 1; rw [Nat.min_eq_left (by omega)]) (fun j v hj => by
        rw [Addr.add_lit, cell_of_heap hvW, Nat.zero_add]
        exact hj) (by rw [hYl, hRs]; omega) hY1
    rw [Nat.mul_one] at hR1; rw [← hR1] at h
    exact h
  have hcpB : ∀ W : World, W.heap = ((w.alloc (.cells ROW 22)).setRow w.heap.size R1).heap → ∀ ty dc sc, (Builtin.copy_ #[104, 104] ty #[.slice (some ⟨w.heap.size, (i + 1), none⟩) (n - i) dc, .slice (some ⟨g, i, none⟩) (n - i) sc]).run Try.prog W = .ok (goInt (Nat.min (n - i) (n - i))) (W.setRow w.heap.size R2) := fun W hW ty dc sc => by
    have hgW : W.heap[w.heap.size]? = some (.cells R1 22 (0, 0)) := by rw [hW]; exact setRow_heap _ _ ROW R1 _ _ (heap_new w _)
    have hvW : W.heap[g]? = some (.cells cur 22 (0, 0)) := by rw [hW, setRow_other _ _ _ _ (by omega)]; exact alloc_box _ hg
    have h := run_copy_sized W 104 104 ty 22 1 w.heap.size ((i + 1)) (n - i) dc ⟨g, i, none⟩ (n - i) sc R1 22 B Try.underlying104 Try.size_pg hgW
      (by rw [hBl]; show _ = min (n - i) (n - i) * 1; rw [Nat.min_self]) (fun j v hj => by
        rw [Addr.add_lit, cell_of_heap hvW, e, List.getElem?_append_right (by omega), show i + j - A.length = j by omega]
        exact hj) (by rw [hBl, hR1s]; omega) hB1
    rw [Nat.mul_one] at hR2; rw [← hR2] at h
    exact h
  have hfin : ∀ W : World, W.heap = ((w.alloc (.cells ROW 22)).setRow w.heap.size R1).heap → W.os = w.os → W.tape = w.tape → W.output = w.output → (W.setRow w.heap.size R2).ownsRow base 22 1 (.slice (some ⟨w.heap.size, 0, none⟩) (n + 1) G) (n + 1) (A ++ Y ++ B) ∧ w.grownBy (W.setRow w.heap.size R2) (some g) := fun W hW h1 h2 h3 => by
    have hgW : W.heap[w.heap.size]? = some (.cells R1 22 (0, 0)) := by rw [hW]; exact setRow_heap _ _ ROW R1 _ _ (heap_new w _)
    refine ⟨row_shut (Z := ZZ.drop (Y.length + B.length)) (by simp only [List.length_append]; omega) (setRow_heap W _ R1 R2 _ _ hgW) (by omega) hGm hGn hR2s hR2l, h1, h2, h3, ?_, ?_⟩
    · show w.heap.size ≤ (W.heap.modify _ _).size
      rw [Array.size_modify, hW]
      show w.heap.size ≤ ((w.alloc (.cells ROW 22)).heap.modify _ _).size
      simp
    · intro k hk _
      rw [setRow_other _ _ _ _ (by omega), hW, setRow_other _ _ _ _ (by omega)]
      exact Below.heap_alloc w _ k hk
  unfold maxLen at hGm
  have hz2' : ¬ ((i : Int) = (n : Int)) := by omega
  have hb4 : ¬ (G = i) := by omega
  have hb5 : ¬ (G = i + 1) := by omega
  have hb6 : ¬ (n = i) := by omega
  have hin : i ≤ n := by omega
  have hini : (i : Int) ≤ (n : Int) := by omega
  have hi1 : (i : Int) + 1 ≤ (n : Int) + 1 := by omega
  have hp0 : (0 : Int) ≤ (i : Int) + 1 := by omega
  have hin1 : (i : Int) ≤ (n : Int) + 1 := by omega
  have htn : ((i : Int) + 1).toNat = i + 1 := by omega
  have hw1 : IntKind.i64.wrap ((i : Int) + 1) = (i : Int) + 1 := by rw [IntKind.wrap_i64]; omega
  have hNN : (n : Int) < (n : Int) + 1 := by omega
  have hbN : w.heap.size ≥ base := by omega
  clear hown hv hg e hR1 hR2 hR1l hR2l hRl hfr hG hkk hik
  have hcpA' := hcpA ((w.alloc (.cells ROW 22)).drew) rfl
  have hcpB' := hcpB ((((w.alloc (.cells ROW 22)).drew).setRow w.heap.size R1).drew) rfl
  clear hcpA hcpB
  go_enter Try.func95, Try.ntmps95
  go_wp2_with (first
    | (at_builtin; refine Lib.wpList_append_run _ rfl _ _ _ _ rfl _ _ rfl rfl _ _ (hrz2 _) ?_))
  go_region_law (refine step_copy_runI rfl _ _ 104 104 rfl _ _ (by simp [Act.eval, Act.put]) (by simp [Act.eval, Act.put]) (hcpB' _ _ _) ?_)
  go_wp2
  go_ret
  obtain ⟨f1, f2⟩ := hfin ((((w.alloc (.cells ROW 22)).drew).setRow w.heap.size R1).drew) rfl rfl rfl rfl
  exact ⟨_, _, rfl, f1, f2, .inr ⟨_, rfl, Nat.le_refl _⟩⟩
theorem ins_pg (base g C n i vb : Nat) (A B Y : List Value) (hAl : A.length = i * 1) (hBl : B.length = (n - i) * 1) (hYl : Y.length = 1) (hA1 : ∀ v ∈ A, v.oneCell' = true) (hB1 : ∀ v ∈ B, v.oneCell' = true) (hY1 : ∀ v ∈ Y, v.oneCell' = true) (hi : i ≤ n) (hn : n ≤ 50000) (w : World) (hne : vb ≠ g)
    (hown : w.ownsRow base 22 1 (.slice (some ⟨g, 0, none⟩) n C) n (A ++ B)) (hv : w.heap[vb]? = some (.cells Y.toArray 22 (0, 0))) :
    Calls Try.prog 95 #[.slice (some ⟨g, 0, none⟩) n C, .int .i64 (i : Int), .slice (some ⟨vb, 0, none⟩) 1 1] w (InsSays_pg base g n C w (A ++ Y ++ B)) := by
  by_cases h : i = n
  · subst h
    have hB0 : B = [] := List.eq_nil_of_length_eq_zero (by omega)
    subst hB0
    rw [List.append_nil] at hown ⊢
    exact insEnd_pg base g C i vb A Y hYl hY1 hn w hown hv
  · by_cases hC : n + 1 ≤ C
    · exact insShift_pg base g C n i vb A B Y hAl hBl hYl hB1 hY1 (by omega) hC hn w hne hown hv
    · obtain rfl : C = n := by
        obtain ⟨cur, Z, _, _, h, _⟩ := row_open hown
        omega
      exact insGrow_pg base g C i vb A B Y hAl hBl hYl hA1 hB1 hY1 (by omega) hn w hown hv
end Go.Proofs.Ytdmkmhjalcfchaa
