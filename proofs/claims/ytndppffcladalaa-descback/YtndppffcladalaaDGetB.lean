/-
  Contracts: the schema of bytes, or that they are refused (6.4): of the program, whole.
-/
import Derived.Test.YtndppffcladalaaDGet
namespace Go.Proofs.Ytndppffcladalaa
open Go.RowKit Num
set_option linter.unusedVariables false

theorem below_zeroed {w W : World} {b c : Nat} (h : Below w.heap.size w W) (hb : w.heap.size ≤ b) (hc : w.heap.size ≤ c) : Below w.heap.size w (zeroed W b c) :=
  (((h.setCell (p := ⟨b, 0, none⟩) hb _).setCell (p := ⟨b, 1, none⟩) hb _).setCell (p := ⟨b, 2, none⟩) hb _).setCell (p := ⟨c, 0, none⟩) hc _
theorem below_grownP {w W W' : World} {p : Nat} (h : Below w.heap.size w W) (k : W.grownBy W' (some p)) (hp : w.heap.size ≤ p) : Below w.heap.size w W' :=
  h.grown k h.size (fun j hj => by cases hj; exact hp)
/-- What is stored is told. -/
theorem told3 {W : World} {b c : Nat} (hne : c ≠ b) {x0 x1 x2 y0 : Value} (hb : W.heap[b]? = some (.cells #[x0, x1, x2] 26 (0, 0))) (hc : W.heap[c]? = some (.cells #[y0] 28 (0, 0))) (v0 v1 v2 E : Value) :
    ((((W.setCell ⟨b, 0, none⟩ v0).setCell ⟨b, 1, none⟩ v1).setCell ⟨b, 2, none⟩ v2).setCell ⟨c, 0, none⟩ E).heap[b]? = some (.cells #[v0, v1, v2] 26 (0, 0)) ∧
    ((((W.setCell ⟨b, 0, none⟩ v0).setCell ⟨b, 1, none⟩ v1).setCell ⟨b, 2, none⟩ v2).setCell ⟨c, 0, none⟩ E).heap[c]? = some (.cells #[E] 28 (0, 0)) := by
  obtain ⟨s1, s2, s3⟩ := set3 hb v0 v1 v2
  have t3 := set_far (i := 2) hne (set_far (i := 1) hne (set_far (i := 0) hne hc v0) v1) v2
  exact ⟨set_far (fun e => hne e.symm) s3 _, (heap_setCell_same _ c 0 _ _ _ t3).trans (by simp)⟩
theorem dget_none (s : ByteArray) (hs : s.size ≤ 900000) (ho : openL s.data.toList = none) (w : World) :
    Calls Try.prog 18 #[.string s] w fun e w' => e = .returned (.tuple #[.agg #[.int .i64 0, .slice none 0 0, .int .i64 0], .int .i64 3]) ∧ Below w.heap.size w w' := by
  have hmf : ∀ (fn : Fn) (first cap : Array Value) (w : World), (Instr.makeFunc fn first cap).run Try.prog w = .ok (.func fn first cap) w := fun _ _ _ _ => rfl
  have bx0 : ((w.alloc (.cells #[.int .i64 0, .slice none 0 0, .int .i64 0] 26)).alloc (.cells #[.int .i64 0] 28)).heap[w.heap.size]? = some (.cells #[.int .i64 0, .slice none 0 0, .int .i64 0] 26 (0, 0)) := alloc_box _ (heap_new w _)
  have be0 : ((w.alloc (.cells #[.int .i64 0, .slice none 0 0, .int .i64 0] 26)).alloc (.cells #[.int .i64 0] 28)).heap[w.heap.size + 1]? = some (.cells #[.int .i64 0] 28 (0, 0)) := heap_newB _ _ _ (by simp)
  have hB0 : Below w.heap.size w ((w.alloc (.cells #[.int .i64 0, .slice none 0 0, .int .i64 0] 26)).alloc (.cells #[.int .i64 0] 28)) := ((Below.refl _ w).alloc (Nat.le_refl _) _).alloc (by simp) _
  have hg := get_any s hs
  rw [ho, show openV none = .tuple #[.string ⟨#[]⟩, .int .i64 3] from rfl] at hg
  clear ho
  go_enter_defers Try.func18, Try.ntmps18
  go_wp2_with (first
    | (go_at_call 35; refine (hg _).mono ?_; rintro e w1 ⟨rfl, hb1⟩; have bx1 := below_box hb1 bx0; have be1 := below_box hb1 be0; have hb1' := below_next hB0 (Nat.le_refl _) hb1; have hsz1 : w.heap.size + 2 ≤ w1.heap.size := by { have := hb1.size; simp at this; omega }; have cx0 := box_cell bx1 0 _ rfl; have cx1 := box_cell bx1 1 _ rfl; have cx2 := box_cell bx1 2 _ rfl; have ce0 := box_cell be1 0 _ rfl; have fx0 := box_open bx1 0; have fx1 := box_open bx1 1; have fx2 := box_open bx1 2; have fe0 := box_open be1 0))
  obtain ⟨t1, t2⟩ := told3 (by omega) bx1 be1 (.int .i64 0) (.slice none 0 0) (.int .i64 0) (.int .i64 3)
  exact doorD_ret _ _ _ rfl rfl _ _ _ _ _ t1 t2 ⟨rfl, below_zeroed hb1' (Nat.le_refl _) (by omega)⟩
theorem dget_panic (s : ByteArray) (hs : s.size ≤ 900000) (plain : List UInt8) (ho : openL s.data.toList = some plain) (hp : plain.length ≤ 900000) (hr : rdSch plain = none) (w : World) :
    Calls Try.prog 18 #[.string s] w fun e w' => e = .returned (.tuple #[.agg #[.int .i64 0, .slice none 0 0, .int .i64 0], .int .i64 3]) ∧ Below w.heap.size w w' := by
  have hmf : ∀ (fn : Fn) (first cap : Array Value) (w : World), (Instr.makeFunc fn first cap).run Try.prog w = .ok (.func fn first cap) w := fun _ _ _ _ => rfl
  have bx0 : ((w.alloc (.cells #[.int .i64 0, .slice none 0 0, .int .i64 0] 26)).alloc (.cells #[.int .i64 0] 28)).heap[w.heap.size]? = some (.cells #[.int .i64 0, .slice none 0 0, .int .i64 0] 26 (0, 0)) := alloc_box _ (heap_new w _)
  have be0 : ((w.alloc (.cells #[.int .i64 0, .slice none 0 0, .int .i64 0] 26)).alloc (.cells #[.int .i64 0] 28)).heap[w.heap.size + 1]? = some (.cells #[.int .i64 0] 28 (0, 0)) := heap_newB _ _ _ (by simp)
  have hB0 : Below w.heap.size w ((w.alloc (.cells #[.int .i64 0, .slice none 0 0, .int .i64 0] 26)).alloc (.cells #[.int .i64 0] 28)) := ((Below.refl _ w).alloc (Nat.le_refl _) _).alloc (by simp) _
  have hg := get_any s hs
  rw [ho, show openV (some plain) = .tuple #[.string (str plain), .int .i64 0] from rfl] at hg
  have hsch : ∀ w1 : World, Calls Try.prog 36 #[.pointer (some ⟨w1.heap.size, 0, none⟩)] (w1.alloc (.cells #[.string (str plain)] 68)) fun e w' => (w1.alloc (.cells #[.string (str plain)] 68)).grownBy w' (some w1.heap.size) ∧ e = .panicked boom := fun w1 => by
    have h := gSch_any (heap_new w1 (.cells #[.string (str plain)] 68)) (by rw [str_size]; omega)
    rw [str_data, hr] at h
    exact h
  clear ho hr
  go_enter_defers Try.func18, Try.ntmps18
  go_wp2_with (first
    | (go_at_call 35; refine (hg _).mono ?_; rintro e w1 ⟨rfl, hb1⟩; have bx1 := below_box hb1 bx0; have be1 := below_box hb1 be0; have hb1' := below_next hB0 (Nat.le_refl _) hb1; have hsz1 : w.heap.size + 2 ≤ w1.heap.size := by { have := hb1.size; simp at this; omega }; have cx0 := box_cell bx1 0 _ rfl; have cx1 := box_cell bx1 1 _ rfl; have cx2 := box_cell bx1 2 _ rfl; have ce0 := box_cell be1 0 _ rfl; have fx0 := box_open bx1 0; have fx1 := box_open bx1 1; have fx2 := box_open bx1 2; have fe0 := box_open be1 0)
    | (go_at_call 36; refine (hsch _).mono ?_; rintro e w2 ⟨hg2, rfl⟩; have bx2 := grown_box hg2 (alloc_box _ bx1) (by omega); have be2 := grown_box hg2 (alloc_box _ be1) (by omega)))
  exact doorD_panic _ _ (by omega) _ rfl rfl _ _ _ _ _ _ _ bx2 be2 ⟨rfl, below_zeroed (below_grownP (hb1'.alloc (by omega) _) hg2 (by omega)) (Nat.le_refl _) (by omega)⟩
theorem dget_bad (s : ByteArray) (hs : s.size ≤ 900000) (plain : List UInt8) (ho : openL s.data.toList = some plain) (hp : plain.length ≤ 900000) (y : Sch) (r : List UInt8) (hr : rdSch plain = some (y, r)) (T : ByteArray) (E : Int)
    (hput : ∀ ao cap w, LiesT w w.heap.size ao y.tabs → Calls Try.prog 15 #[.agg #[.int .i64 y.ver, .slice ao y.tabs.length cap, .int .i64 y.next]] w fun e w' => e = .returned (.tuple #[.string T, .int .i64 E]) ∧ Below w.heap.size w w')
    (hT : T ≠ s) (w : World) :
    Calls Try.prog 18 #[.string s] w fun e w' => e = .returned (.tuple #[.agg #[.int .i64 0, .slice none 0 0, .int .i64 0], .int .i64 3]) ∧ Below w.heap.size w w' := by
  have hmf : ∀ (fn : Fn) (first cap : Array Value) (w : World), (Instr.makeFunc fn first cap).run Try.prog w = .ok (.func fn first cap) w := fun _ _ _ _ => rfl
  have bx0 : ((w.alloc (.cells #[.int .i64 0, .slice none 0 0, .int .i64 0] 26)).alloc (.cells #[.int .i64 0] 28)).heap[w.heap.size]? = some (.cells #[.int .i64 0, .slice none 0 0, .int .i64 0] 26 (0, 0)) := alloc_box _ (heap_new w _)
  have be0 : ((w.alloc (.cells #[.int .i64 0, .slice none 0 0, .int .i64 0] 26)).alloc (.cells #[.int .i64 0] 28)).heap[w.heap.size + 1]? = some (.cells #[.int .i64 0] 28 (0, 0)) := heap_newB _ _ _ (by simp)
  have hB0 : Below w.heap.size w ((w.alloc (.cells #[.int .i64 0, .slice none 0 0, .int .i64 0] 26)).alloc (.cells #[.int .i64 0] 28)) := ((Below.refl _ w).alloc (Nat.le_refl _) _).alloc (by simp) _
  have hg := get_any s hs
  rw [ho, show openV (some plain) = .tuple #[.string (str plain), .int .i64 0] from rfl] at hg
  have hsch : ∀ w1 : World, Calls Try.prog 36 #[.pointer (some ⟨w1.heap.size, 0, none⟩)] (w1.alloc (.cells #[.string (str plain)] 68)) fun e w' => (w1.alloc (.cells #[.string (str plain)] 68)).grownBy w' (some w1.heap.size) ∧ ∃ v x, e = .returned v ∧ (∃ ao cap, v = .agg #[.int .i64 y.ver, .slice ao y.tabs.length cap, .int .i64 y.next] ∧ OwnT (w1.alloc (.cells #[.string (str plain)] 68)).heap.size w' (.slice ao y.tabs.length cap) y.tabs) ∧ RdAt w1.heap.size w' x ∧ x.data.toList = r := fun w1 => by
    have h := gSch_any (heap_new w1 (.cells #[.string (str plain)] 68)) (by rw [str_size]; omega)
    rw [str_data, hr] at h
    exact h
  have hT2 := list_ne hT
  clear ho hr hT
  go_enter_defers Try.func18, Try.ntmps18
  go_wp2_with (first
    | (go_at_call 35; refine (hg _).mono ?_; rintro e w1 ⟨rfl, hb1⟩; have bx1 := below_box hb1 bx0; have be1 := below_box hb1 be0; have hb1' := below_next hB0 (Nat.le_refl _) hb1; have hsz1 : w.heap.size + 2 ≤ w1.heap.size := by { have := hb1.size; simp at this; omega }; have cx0 := box_cell bx1 0 _ rfl; have cx1 := box_cell bx1 1 _ rfl; have cx2 := box_cell bx1 2 _ rfl; have ce0 := box_cell be1 0 _ rfl; have fx0 := box_open bx1 0; have fx1 := box_open bx1 1; have fx2 := box_open bx1 2; have fe0 := box_open be1 0)
    | (go_at_call 36; refine (hsch _).mono ?_; rintro e w2 ⟨hg2, v2, x2, rfl, ⟨ao2, cap2, rfl, hT2o⟩, hat2, hx2⟩; have bx2 := grown_box hg2 (alloc_box _ bx1) (by omega); have be2 := grown_box hg2 (alloc_box _ be1) (by omega); obtain ⟨ao3, cap3, he3, hl2⟩ := ownT_lies hT2o; have hsz2 := hg2.size; simp at hsz2; cases he3)
    | (go_at_call 15; refine (hput _ _ _ (liesT_next hl2 ((Below.refl _ _).alloc (Nat.le_refl _) _))).mono ?_; rintro e w4 ⟨rfl, hb4⟩; have bx4 := below_box hb4 (alloc_box _ bx2); have be4 := below_box hb4 (alloc_box _ be2); have cx0 := box_cell bx4 0 _ rfl; have cx1 := box_cell bx4 1 _ rfl; have cx2 := box_cell bx4 2 _ rfl; have ce0 := box_cell be4 0 _ rfl; have fx0 := box_open bx4 0; have fx1 := box_open bx4 1; have fx2 := box_open bx4 2; have fe0 := box_open be4 0))
  obtain ⟨t1, t2⟩ := told3 (by omega) bx4 be4 (.int .i64 0) (.slice none 0 0) (.int .i64 0) (.int .i64 3)
  have hbz := below_grownP (hb1'.alloc (by omega) (.cells #[.string (str plain)] 68)) hg2 (by omega)
  exact doorD_ret _ _ _ rfl rfl _ _ _ _ _ t1 t2 ⟨rfl, below_zeroed (hbz.trans (below_box0 hb4 |>.mono (by omega))) (Nat.le_refl _) (by omega)⟩
theorem dget_yes (s : ByteArray) (hs : s.size ≤ 900000) (plain : List UInt8) (ho : openL s.data.toList = some plain) (hp : plain.length ≤ 900000) (y : Sch) (r : List UInt8) (hr : rdSch plain = some (y, r)) (hok : SchOk y) (hT : str (sealL (schB y)) = s) (w : World) :
    Calls Try.prog 18 #[.string s] w fun e w' => ∃ ao cap, e = .returned (.tuple #[.agg #[.int .i64 y.ver, .slice ao y.tabs.length cap, .int .i64 y.next], .int .i64 0]) ∧ OwnT w.heap.size w' (.slice ao y.tabs.length cap) y.tabs ∧ Below w.heap.size w w' := by
  have hmf : ∀ (fn : Fn) (first cap : Array Value) (w : World), (Instr.makeFunc fn first cap).run Try.prog w = .ok (.func fn first cap) w := fun _ _ _ _ => rfl
  have bx0 : ((w.alloc (.cells #[.int .i64 0, .slice none 0 0, .int .i64 0] 26)).alloc (.cells #[.int .i64 0] 28)).heap[w.heap.size]? = some (.cells #[.int .i64 0, .slice none 0 0, .int .i64 0] 26 (0, 0)) := alloc_box _ (heap_new w _)
  have be0 : ((w.alloc (.cells #[.int .i64 0, .slice none 0 0, .int .i64 0] 26)).alloc (.cells #[.int .i64 0] 28)).heap[w.heap.size + 1]? = some (.cells #[.int .i64 0] 28 (0, 0)) := heap_newB _ _ _ (by simp)
  have hB0 : Below w.heap.size w ((w.alloc (.cells #[.int .i64 0, .slice none 0 0, .int .i64 0] 26)).alloc (.cells #[.int .i64 0] 28)) := ((Below.refl _ w).alloc (Nat.le_refl _) _).alloc (by simp) _
  have hg := get_any s hs
  rw [ho, show openV (some plain) = .tuple #[.string (str plain), .int .i64 0] from rfl] at hg
  have hsch : ∀ w1 : World, Calls Try.prog 36 #[.pointer (some ⟨w1.heap.size, 0, none⟩)] (w1.alloc (.cells #[.string (str plain)] 68)) fun e w' => (w1.alloc (.cells #[.string (str plain)] 68)).grownBy w' (some w1.heap.size) ∧ ∃ v x, e = .returned v ∧ (∃ ao cap, v = .agg #[.int .i64 y.ver, .slice ao y.tabs.length cap, .int .i64 y.next] ∧ OwnT (w1.alloc (.cells #[.string (str plain)] 68)).heap.size w' (.slice ao y.tabs.length cap) y.tabs) ∧ RdAt w1.heap.size w' x ∧ x.data.toList = r := fun w1 => by
    have h := gSch_any (heap_new w1 (.cells #[.string (str plain)] 68)) (by rw [str_size]; omega)
    rw [str_data, hr] at h
    exact h
  have hput := dput_yes y hok
  rw [hT] at hput
  clear ho hr hT
  go_enter_defers Try.func18, Try.ntmps18
  go_wp2_with (first
    | (go_at_call 35; refine (hg _).mono ?_; rintro e w1 ⟨rfl, hb1⟩; have bx1 := below_box hb1 bx0; have be1 := below_box hb1 be0; have hb1' := below_next hB0 (Nat.le_refl _) hb1; have hsz1 : w.heap.size + 2 ≤ w1.heap.size := by { have := hb1.size; simp at this; omega }; have cx0 := box_cell bx1 0 _ rfl; have cx1 := box_cell bx1 1 _ rfl; have cx2 := box_cell bx1 2 _ rfl; have ce0 := box_cell be1 0 _ rfl; have fx0 := box_open bx1 0; have fx1 := box_open bx1 1; have fx2 := box_open bx1 2; have fe0 := box_open be1 0)
    | (go_at_call 36; refine (hsch _).mono ?_; rintro e w2 ⟨hg2, v2, x2, rfl, ⟨ao2, cap2, rfl, hT2o⟩, hat2, hx2⟩; have bx2 := grown_box hg2 (alloc_box _ bx1) (by omega); have be2 := grown_box hg2 (alloc_box _ be1) (by omega); obtain ⟨ao3, cap3, he3, hl2⟩ := ownT_lies hT2o; have hsz2 := hg2.size; simp at hsz2; cases he3)
    | (go_at_call 15; refine (hput _ _ _ (liesT_next hl2 ((Below.refl _ _).alloc (Nat.le_refl _) (.cells #[.int .i64 y.ver, .slice ao2 y.tabs.length cap2, .int .i64 y.next] 26)))).mono ?_; rintro e w4 ⟨rfl, hb4⟩; have bx4 := below_box hb4 (alloc_box _ bx2); have be4 := below_box hb4 (alloc_box _ be2); have cx0 := box_cell bx4 0 _ rfl; have cx1 := box_cell bx4 1 _ rfl; have cx2 := box_cell bx4 2 _ rfl; have ce0 := box_cell be4 0 _ rfl; have fx0 := box_open bx4 0; have fx1 := box_open bx4 1; have fx2 := box_open bx4 2; have fe0 := box_open be4 0; have br4 := below_box hb4 (heap_new w2 _); have r0 := box_cell br4 0 _ rfl; have r1 := box_cell br4 1 _ rfl; have r2 := box_cell br4 2 _ rfl))
  obtain ⟨t1, t2⟩ := told3 (by omega) bx4 be4 (.int .i64 y.ver) (.slice ao2 y.tabs.length cap2) (.int .i64 y.next) (.int .i64 0)
  have hbz := below_grownP (hb1'.alloc (by omega) (.cells #[.string (str plain)] 68)) hg2 (by omega)
  have hbF := hbz.trans (below_box0 hb4 |>.mono (by omega))
  have hbS := (((hbF.setCell (p := ⟨w.heap.size, 0, none⟩) (Nat.le_refl _) (.int .i64 y.ver)).setCell (p := ⟨w.heap.size, 1, none⟩) (Nat.le_refl _) (.slice ao2 y.tabs.length cap2)).setCell (p := ⟨w.heap.size, 2, none⟩) (Nat.le_refl _) (.int .i64 y.next)).setCell (p := ⟨w.heap.size + 1, 0, none⟩) (by simp) (.int .i64 0)
  have hB1 : w.heap.size + 1 < (w1.alloc (.cells #[.string (str plain)] 68)).heap.size := by simp; omega
  have hH : HoldX (w1.alloc (.cells #[.string (str plain)] 68)).heap.size 68 w2 ((((w4.setCell ⟨w.heap.size, 0, none⟩ (.int .i64 y.ver)).setCell ⟨w.heap.size, 1, none⟩ (.slice ao2 y.tabs.length cap2)).setCell ⟨w.heap.size, 2, none⟩ (.int .i64 y.next)).setCell ⟨w.heap.size + 1, 0, none⟩ (.int .i64 0)) :=
    (((((HoldX.of_below ((Below.refl _ w2).alloc (Nat.le_refl _) _)).trans (HoldX.of_below hb4)).trans (HoldX.of_grown (grown_set _ _ _ _) (by omega))).trans (HoldX.of_grown (grown_set _ _ _ _) (by omega))).trans (HoldX.of_grown (grown_set _ _ _ _) (by omega))).trans (HoldX.of_grown (grown_set _ _ _ _) (by omega))
  have hO := ownT_mono (ownT_hold hT2o hH (by decide) (by decide) (by decide) (by decide)) (show w.heap.size ≤ _ by omega)
  exact doorD_ret _ _ _ rfl rfl _ _ _ _ _ t1 t2 ⟨_, _, rfl, hO, hbS⟩
end Go.Proofs.Ytndppffcladalaa
