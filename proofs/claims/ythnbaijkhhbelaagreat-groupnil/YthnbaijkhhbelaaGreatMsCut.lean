/-
  Contracts: slices.Delete, at messages: in a row of the call's own.
-/
import Derived.Test.YthnbaijkhhbelaaGreatMsApp
namespace Go.Proofs.YthnbaijkhhbelaaGreat
open Go.RowKit Num
set_option linter.unusedVariables false
set_option maxRecDepth 100000

set_option maxRecDepth 100000 in
set_option maxHeartbeats 2000000 in
theorem cut_ms (base g C n i j L : Nat) (A M D : List Value) (hAl : A.length = i * 8) (hMl : M.length = (j - i) * 8) (hDl : D.length = (n - j) * 8) (hD1 : ∀ v ∈ D, v.oneCell' = true) (hij : i < j) (hj : j ≤ n) (hn : n ≤ 10000) (hL : L = i + (n - j)) (w : World)
    (hown : w.ownsRow base 89 8 (.slice (some ⟨g, 0, none⟩) n C) n (A ++ M ++ D)) :
    Calls Tryz.prog 71 #[.slice (some ⟨g, 0, none⟩) n C, .int .i64 (i : Int), .int .i64 (j : Int)] w fun e w' => e = .returned (.slice (some ⟨g, 0, none⟩) L C) ∧ w'.ownsRow base 89 8 (.slice (some ⟨g, 0, none⟩) L C) L (A ++ D) ∧ w.grownBy w' (some g) := by
  obtain ⟨k0, hi0, hz0, hz1, hz2⟩ := info_parts Tryz.infoMs
  obtain ⟨cur, Z, hg, hb, hnc, hCm, hs, e⟩ := row_open hown
  have hcl : cur.toList.length = C * 8 := by rw [Array.length_toList, hs]
  have hZ : Z.length = (C - n) * 8 := by
    have := hcl
    rw [e] at this
    simp only [List.length_append] at this
    omega
  have hzv : ∀ w, (zeroValue 89).run Tryz.prog w = .ok (Value.agg #[.int .i64 0, .int .i64 0, .int .i64 0, .int .i64 0, .int .i64 0, .int .i64 0, .int .i64 0, .slice none 0 0]) w := fun w => by simp [zeroValue, typeInfo, hi0, hz0]
  obtain ⟨cur1, hc1⟩ : ∃ cur1 : Array Value, (cur.toList.take (i * 8) ++ D ++ cur.toList.drop (i * 8 + D.length)).toArray = cur1 := ⟨_, rfl⟩
  have hc1l : cur1.toList = A ++ D ++ cur.toList.drop (i * 8 + D.length) := by
    rw [← hc1, List.toList_toArray]
    congr 2
    rw [e, List.append_assoc, List.append_assoc, ← hAl, List.take_left]
  have hc1s : cur1.size = C * 8 := by
    rw [← Array.length_toList, hc1l]
    simp only [List.length_append, List.length_drop]
    omega
  obtain ⟨cur2, hc2⟩ : ∃ cur2 : Array Value, (cur1.toList.take (L * 8) ++ (Builtin.zeroCells (Value.agg #[.int .i64 0, .int .i64 0, .int .i64 0, .int .i64 0, .int .i64 0, .int .i64 0, .int .i64 0, .slice none 0 0]).cells (n - L)).toList ++ cur1.toList.drop (L * 8 + (n - L) * 8)).toArray = cur2 := ⟨_, rfl⟩
  have hc2l : cur2.toList = (A ++ D) ++ ((Builtin.zeroCells (Value.agg #[.int .i64 0, .int .i64 0, .int .i64 0, .int .i64 0, .int .i64 0, .int .i64 0, .int .i64 0, .slice none 0 0]).cells (n - L)).toList ++ cur1.toList.drop (L * 8 + (n - L) * 8)) := by
    rw [← hc2, List.toList_toArray, List.append_assoc]
    congr 1
    rw [hc1l, show L * 8 = (A ++ D).length by rw [List.length_append]; omega, List.take_left]
  have hc2s : cur2.size = C * 8 := by
    rw [← Array.length_toList, hc2l]
    simp only [List.length_append, List.length_drop, Array.length_toList, size_zeroCells, show (Value.agg #[.int .i64 0, .int .i64 0, .int .i64 0, .int .i64 0, .int .i64 0, .int .i64 0, .int .i64 0, .slice none 0 0]).cells.size = 8 from rfl]
    omega
  have happ : ∀ (ad : Addr), (ad = ⟨g, j * 8, none⟩ ∨ D = []) → ∀ ty c, (Builtin.append_ #[63, 63] ty #[.slice (some ⟨g, 0, none⟩) i C, .slice (some ad) (n - j) c]).run Tryz.prog w.drew = .ok (.slice (some ⟨g, 0, none⟩) L C) (w.drew.setRow g cur1) := fun ad had ty c => by
    have h := run_append_room (P := Tryz.prog) w.drew 63 ty 89 k0 Tryz.underlying63 hi0 g i C cur hg ad (n - j) c D (by rw [hz1]; exact hDl) (fun t u hu => by
      rcases had with rfl | rfl
      · rw [Addr.add_lit, cell_of_heap (w := w.drew) hg, e, List.append_assoc, List.append_assoc, ← List.append_assoc, List.getElem?_append_right (by rw [List.length_append]; omega), List.length_append, show j * 8 + t - (A.length + M.length) = t by omega, List.getElem?_append_left (List.getElem?_eq_some_iff.1 hu).1]
        exact hu
      · simp at hu) hD1 (by omega) (by rw [hz1, hDl, hs]; omega)
    rw [hz1, hc1, ← hL] at h
    exact h
  have hclr : ∀ ty c, (Builtin.clear_ #[63] ty #[.slice (some ⟨g, L * 8, none⟩) (n - L) c]).run Tryz.prog (w.drew.setRow g cur1) = .ok (.tuple #[]) ((w.drew.setRow g cur1).setRow g cur2) := fun ty c => by
    have h := run_clear_sized (w.drew.setRow g cur1) 63 ty 89 (Value.agg #[.int .i64 0, .int .i64 0, .int .i64 0, .int .i64 0, .int .i64 0, .int .i64 0, .int .i64 0, .slice none 0 0]) g (L * 8) (n - L) c cur1 89 Tryz.underlying63 hzv (by omega) (setRow_heap _ _ _ _ _ _ hg) (by rw [hc1s, show (Value.agg #[.int .i64 0, .int .i64 0, .int .i64 0, .int .i64 0, .int .i64 0, .int .i64 0, .int .i64 0, .slice none 0 0]).cells.size = 8 from rfl]; omega) (zero_one (by decide) (by intro v hv; simp [Value.cells] at hv; rcases hv with rfl | rfl <;> rfl) _)
    rw [show (Value.agg #[.int .i64 0, .int .i64 0, .int .i64 0, .int .i64 0, .int .i64 0, .int .i64 0, .int .i64 0, .slice none 0 0]).cells.size = 8 from rfl] at h
    rw [hc2] at h
    exact h
  have hfin : ((w.drew.setRow g cur1).setRow g cur2).ownsRow base 89 8 (.slice (some ⟨g, 0, none⟩) L C) L (A ++ D) := row_shut (by rw [List.length_append]; omega) (setRow_heap _ _ _ _ _ _ (setRow_heap _ _ _ _ _ _ hg)) hb hCm (by omega) hc2s hc2l
  have hgr : w.grownBy ((w.drew.setRow g cur1).setRow g cur2) (some g) := (grown_drew (grown_setRow (w := w.drew) cur1)).trans (grown_setRow cur2)
  have hD0 : C = j → D = [] := fun h => List.eq_nil_of_length_eq_zero (by omega)
  unfold maxLen at hCm
  have f1 : (i : Int) ≤ (j : Int) := by omega
  have f2 : (j : Int) ≤ (n : Int) := by omega
  have f3 : (n : Int) ≤ (C : Int) := by omega
  have f4 : ¬ (n = i) := by omega
  have f5 : ¬ ((i : Int) = (j : Int)) := by omega
  have f6 : (i : Int) ≤ (C : Int) := by omega
  have f7 : (L : Int) ≤ (n : Int) := by omega
  have f8 : ¬ (C = L) := by omega
  have f9 : i ≤ j := by omega
  have f10 : i ≤ C := by omega
  clear hown hg e hc1 hc2 hc1l hc2l hi0 hz0 hzv hs
  by_cases hCj : C = j
  · have happ1 := happ ⟨g, 0, none⟩ (.inr (hD0 hCj))
    clear happ hD0 hL
    subst hCj
    rw [show n - C = 0 by omega] at happ1
    go_enter Tryz.func71, Tryz.ntmps71
    go_wp2_with fail
    go_region_law (refine step_app_run rfl (.tmp 22) (.tmp 25) 63 rfl (.slice (some ⟨g, 0, none⟩) i C) (.slice (some ⟨g, 0, none⟩) 0 0) (by simp [Act.eval, Act.put]) (by simp [Act.eval, Act.put]) (happ1 _ _) ?_)
    go_wp2
    go_ret
    exact ⟨rfl, hfin, hgr⟩
  · have happ1 := happ ⟨g, j * 8, none⟩ (.inl rfl)
    clear happ hL
    go_enter Tryz.func71, Tryz.ntmps71
    go_wp2_with fail
    go_region_law (refine step_app_run rfl (.tmp 22) (.tmp 25) 63 rfl (.slice (some ⟨g, 0, none⟩) i C) (.slice (some ⟨g, j * 8, none⟩) (n - j) (C - j)) (by simp [Act.eval, Act.put]) (by simp [Act.eval, Act.put]) (happ1 _ _) ?_)
    go_wp2
    go_ret
    exact ⟨rfl, hfin, hgr⟩
end Go.Proofs.YthnbaijkhhbelaaGreat
