/-
  Contracts: package sql's Parse: too many parts. (Written by mksqj.py.)
-/
import Derived.Test.YtiajlhjjmlakmaaGreatDoorSqJ
namespace Go.Proofs.YtiajlhjjmlakmaaGreatDoor
open Go.RowKit Num
set_option linter.unusedSimpArgs false
set_option linter.unusedVariables false
set_option linter.unusedVariables false
set_option maxRecDepth 100000

set_option maxHeartbeats 4000000 in
theorem parse_long (s : ByteArray) (hs : s.size ≤ 400) (l : List Tok) (q0 : Nat) (hl : lexAt s 0 = (some l, q0)) (x : Stm) (q1 q : List TkC) (e1 : stmtR (rem l 0) = (some x, q1)) (e2 : endR q1 = (some (), q)) (htmy : tooMany x = true) (w : World) (hG : Glob w) :
    Calls Tryz.prog 4 #[.string s] w fun e w' => ParseEnd w.heap.size (parseG s) e w' ∧ Below w.heap.size w w' := by
  have HO : Hid (parseG s = (none, 0, 2)) := by
    unfold Hid
    rw [parseG_L hs hl]
    unfold Num.parseL parseR bnd
    rw [← rem_zero, e1]
    simp only [e2, ret, htmy, if_true]
  have htm := sqtooMany_any x
  rw [htmy] at htm
  obtain ⟨k2, k3, k4, hB0⟩ := boxes3 w
  obtain ⟨hE, hne, hlen⟩ := lex_ends s hs hl
  have hl0 : 0 < l.length := List.length_pos_iff.2 hne
  have hL := lex_any s hs
  rw [hl] at hL
  have hmf : ∀ (fn : Fn) (first cap : Array Value) (w : World), (Instr.makeFunc fn first cap).run Tryz.prog w = .ok (.func fn first cap) w := fun _ _ _ _ => rfl
  go_enter_defers Tryz.func4, Tryz.ntmps4
  go_wp2_with (first
    | (go_at_call 14; have hz := hB3; clear hz; refine (htm _ _).mono ?_; rintro e w4 ⟨rfl, hb4⟩
       have y2 : Bx w4 (w.heap.size) 28 #[.int .i64 x.kind, .string x.table, .string x.name, .slice t.co x.cols.length t.cc, .slice t.vo x.vals.length t.vc, .slice t.so x.sets.length t.sc, .slice t.qo x.conds.length t.qc, .bool x.uniq, .int .i64 x.type, .slice t.yo x.types.length t.yc] := heap_next r2 hb4
       have y3 : Bx w4 (w.heap.size + 1) 3 #[.int .i64 0] := heap_next r3 hb4
       have y4 : Bx w4 (w.heap.size + 1 + 1) 29 #[.int .i64 0] := heap_next r4 hb4
       have z0 : w4.cell? ⟨w.heap.size, 0, none⟩ = some (.int .i64 x.kind) := y2.cell 0 _ rfl
       have oz0 := y2.open 0
       have z1 : w4.cell? ⟨w.heap.size, 1, none⟩ = some (.string x.table) := y2.cell 1 _ rfl
       have oz1 := y2.open 1
       have z2 : w4.cell? ⟨w.heap.size, 2, none⟩ = some (.string x.name) := y2.cell 2 _ rfl
       have oz2 := y2.open 2
       have z3 : w4.cell? ⟨w.heap.size, 3, none⟩ = some (.slice t.co x.cols.length t.cc) := y2.cell 3 _ rfl
       have oz3 := y2.open 3
       have z4 : w4.cell? ⟨w.heap.size, 4, none⟩ = some (.slice t.vo x.vals.length t.vc) := y2.cell 4 _ rfl
       have oz4 := y2.open 4
       have z5 : w4.cell? ⟨w.heap.size, 5, none⟩ = some (.slice t.so x.sets.length t.sc) := y2.cell 5 _ rfl
       have oz5 := y2.open 5
       have z6 : w4.cell? ⟨w.heap.size, 6, none⟩ = some (.slice t.qo x.conds.length t.qc) := y2.cell 6 _ rfl
       have oz6 := y2.open 6
       have z7 : w4.cell? ⟨w.heap.size, 7, none⟩ = some (.bool x.uniq) := y2.cell 7 _ rfl
       have oz7 := y2.open 7
       have z8 : w4.cell? ⟨w.heap.size, 8, none⟩ = some (.int .i64 x.type) := y2.cell 8 _ rfl
       have oz8 := y2.open 8
       have z9 : w4.cell? ⟨w.heap.size, 9, none⟩ = some (.slice t.yo x.types.length t.yc) := y2.cell 9 _ rfl
       have oz9 := y2.open 9
       have dd3 : w4.cell? ⟨w.heap.size + 1, 0, none⟩ = some (.int .i64 0) := y3.cell 0 _ rfl
       have gg3 := y3.open 0
       have dd4 : w4.cell? ⟨w.heap.size + 1 + 1, 0, none⟩ = some (.int .i64 0) := y4.cell 0 _ rfl
       have gg4 := y4.open 0)
    | (go_at_call 13; have hz := hP2s; clear hz; refine (sqreadEnd_any hE _ hP2s).mono ?_; intro e w3 hT3; obtain ⟨u3, i3, rfl, hk3, hi3, hP3, hr3, hV3⟩ := tells_yes hT3 hr2 e2
       obtain rfl : u3 = .tuple #[] := hV3
       have r2 := m2s.kp hk3 (by omega)
       have r3 := m3s.kp hk3 (by omega)
       have r4 := m4s.kp hk3 (by omega)
       have hB3 : Below w.heap.size w w3 := bel_kp hB2s hk3 (by omega) hB2s.size
       have hO3 := hO2s.kp hk3 hgW
       have x0 : w3.cell? ⟨w.heap.size, 0, none⟩ = some (.int .i64 x.kind) := r2.cell 0 _ rfl
       have x1 : w3.cell? ⟨w.heap.size, 1, none⟩ = some (.string x.table) := r2.cell 1 _ rfl
       have x2 : w3.cell? ⟨w.heap.size, 2, none⟩ = some (.string x.name) := r2.cell 2 _ rfl
       have x3 : w3.cell? ⟨w.heap.size, 3, none⟩ = some (.slice t.co x.cols.length t.cc) := r2.cell 3 _ rfl
       have x4 : w3.cell? ⟨w.heap.size, 4, none⟩ = some (.slice t.vo x.vals.length t.vc) := r2.cell 4 _ rfl
       have x5 : w3.cell? ⟨w.heap.size, 5, none⟩ = some (.slice t.so x.sets.length t.sc) := r2.cell 5 _ rfl
       have x6 : w3.cell? ⟨w.heap.size, 6, none⟩ = some (.slice t.qo x.conds.length t.qc) := r2.cell 6 _ rfl
       have x7 : w3.cell? ⟨w.heap.size, 7, none⟩ = some (.bool x.uniq) := r2.cell 7 _ rfl
       have x8 : w3.cell? ⟨w.heap.size, 8, none⟩ = some (.int .i64 x.type) := r2.cell 8 _ rfl
       have x9 : w3.cell? ⟨w.heap.size, 9, none⟩ = some (.slice t.yo x.types.length t.yc) := r2.cell 9 _ rfl)
    | (go_at_call 12; have hz := hPW; clear hz; refine (sqreadStmt_any hE _ hPW).mono ?_; intro e w2 hT2; obtain ⟨u2, i2, rfl, hk2, hi2, hP2, hr2, hV2⟩ := tells_yes hT2 rfl e1
       obtain ⟨t, hu2, hO2⟩ := hV2
       subst hu2
       have m2 : Bx w2 (w.heap.size) 28 #[.int .i64 0, .string ⟨#[]⟩, .string ⟨#[]⟩, .slice none 0 0, .slice none 0 0, .slice none 0 0, .slice none 0 0, .bool false, .int .i64 0, .slice none 0 0] := n2.kp hk2 (by omega)
       have m3 : Bx w2 (w.heap.size + 1) 3 #[.int .i64 0] := n3.kp hk2 (by omega)
       have m4 : Bx w2 (w.heap.size + 1 + 1) 29 #[.int .i64 0] := n4.kp hk2 (by omega)
       have mp : Bx w2 (w1.heap.size + 1) 41 #[.pointer (some ⟨w1.heap.size, 0, none⟩)] := np.kp hk2 (by omega)
       have hB2 : Below w.heap.size w w2 := bel_kp hBW hk2 (by omega) hsW
       have c0 : w2.cell? ⟨w.heap.size, 0, none⟩ = some (.int .i64 0) := m2.cell 0 _ rfl
       have oc0 := m2.open 0
       have c1 : w2.cell? ⟨w.heap.size, 1, none⟩ = some (.string ⟨#[]⟩) := m2.cell 1 _ rfl
       have oc1 := m2.open 1
       have c2 : w2.cell? ⟨w.heap.size, 2, none⟩ = some (.string ⟨#[]⟩) := m2.cell 2 _ rfl
       have oc2 := m2.open 2
       have c3 : w2.cell? ⟨w.heap.size, 3, none⟩ = some (.slice none 0 0) := m2.cell 3 _ rfl
       have oc3 := m2.open 3
       have c4 : w2.cell? ⟨w.heap.size, 4, none⟩ = some (.slice none 0 0) := m2.cell 4 _ rfl
       have oc4 := m2.open 4
       have c5 : w2.cell? ⟨w.heap.size, 5, none⟩ = some (.slice none 0 0) := m2.cell 5 _ rfl
       have oc5 := m2.open 5
       have c6 : w2.cell? ⟨w.heap.size, 6, none⟩ = some (.slice none 0 0) := m2.cell 6 _ rfl
       have oc6 := m2.open 6
       have c7 : w2.cell? ⟨w.heap.size, 7, none⟩ = some (.bool false) := m2.cell 7 _ rfl
       have oc7 := m2.open 7
       have c8 : w2.cell? ⟨w.heap.size, 8, none⟩ = some (.int .i64 0) := m2.cell 8 _ rfl
       have oc8 := m2.open 8
       have c9 : w2.cell? ⟨w.heap.size, 9, none⟩ = some (.slice none 0 0) := m2.cell 9 _ rfl
       have oc9 := m2.open 9
       have hg2 : w1.heap.size < w2.heap.size := hP2.g_lt
       have lp2 := mp.lt
       have cp2 : w2.cell? ⟨w1.heap.size + 1, 0, none⟩ = some (.pointer (some ⟨w1.heap.size, 0, none⟩)) := mp.cell 0 _ rfl
       have e12 : ¬ w1.heap.size + 1 = w.heap.size := (by omega)
       have e21 : ¬ w.heap.size = w1.heap.size + 1 := (by omega)
       have hP2s := PAt.sets hP2 m2 (by decide) (by omega) 0 [.int .i64 x.kind, .string x.table, .string x.name, .slice t.co x.cols.length t.cc, .slice t.vo x.vals.length t.vc, .slice t.so x.sets.length t.sc, .slice t.qo x.conds.length t.qc, .bool x.uniq, .int .i64 x.type, .slice t.yo x.types.length t.yc]
       have m2s := box10 m2 (.int .i64 x.kind) (.string x.table) (.string x.name) (.slice t.co x.cols.length t.cc) (.slice t.vo x.vals.length t.vc) (.slice t.so x.sets.length t.sc) (.slice t.qo x.conds.length t.qc) (.bool x.uniq) (.int .i64 x.type) (.slice t.yo x.types.length t.yc)
       have m3s := Bx.others (c := w.heap.size) (by omega) m3 0 [.int .i64 x.kind, .string x.table, .string x.name, .slice t.co x.cols.length t.cc, .slice t.vo x.vals.length t.vc, .slice t.so x.sets.length t.sc, .slice t.qo x.conds.length t.qc, .bool x.uniq, .int .i64 x.type, .slice t.yo x.types.length t.yc]
       have m4s := Bx.others (c := w.heap.size) (by omega) m4 0 [.int .i64 x.kind, .string x.table, .string x.name, .slice t.co x.cols.length t.cc, .slice t.vo x.vals.length t.vc, .slice t.so x.sets.length t.sc, .slice t.qo x.conds.length t.qc, .bool x.uniq, .int .i64 x.type, .slice t.yo x.types.length t.yc]
       have mps := Bx.others (c := w.heap.size) (by omega) mp 0 [.int .i64 x.kind, .string x.table, .string x.name, .slice t.co x.cols.length t.cc, .slice t.vo x.vals.length t.vc, .slice t.so x.sets.length t.sc, .slice t.qo x.conds.length t.qc, .bool x.uniq, .int .i64 x.type, .slice t.yo x.types.length t.yc]
       have hO2s := hO2.setsS m2 0 [.int .i64 x.kind, .string x.table, .string x.name, .slice t.co x.cols.length t.cc, .slice t.vo x.vals.length t.vc, .slice t.so x.sets.length t.sc, .slice t.qo x.conds.length t.qc, .bool x.uniq, .int .i64 x.type, .slice t.yo x.types.length t.yc]
       have hB2s := bel_sets (Nat.le_refl w.heap.size) hB2 0 [.int .i64 x.kind, .string x.table, .string x.name, .slice t.co x.cols.length t.cc, .slice t.vo x.vals.length t.vc, .slice t.so x.sets.length t.sc, .slice t.qo x.conds.length t.qc, .bool x.uniq, .int .i64 x.type, .slice t.yo x.types.length t.yc])
    | (go_at_call 9; refine (hL _ (hG.below hB0)).mono ?_; rintro e w1 ⟨hLE, hb1⟩
       obtain ⟨v, rfl, hown⟩ := hLE
       obtain ⟨ao, cap, rfl⟩ := own_formQ hown
       have j2 : Bx w1 (w.heap.size) 28 #[.int .i64 0, .string ⟨#[]⟩, .string ⟨#[]⟩, .slice none 0 0, .slice none 0 0, .slice none 0 0, .slice none 0 0, .bool false, .int .i64 0, .slice none 0 0] := heap_next k2 hb1
       have j3 : Bx w1 (w.heap.size + 1) 3 #[.int .i64 0] := heap_next k3 hb1
       have j4 : Bx w1 (w.heap.size + 1 + 1) 29 #[.int .i64 0] := heap_next k4 hb1
       have l4 := j4.lt
       have d3 : w1.cell? ⟨w.heap.size + 1, 0, none⟩ = some (.int .i64 0) := j3.cell 0 _ rfl
       have g3 := j3.open 0
       have d4 : w1.cell? ⟨w.heap.size + 1 + 1, 0, none⟩ = some (.int .i64 0) := j4.cell 0 _ rfl
       have g4 := j4.open 0
       have hPW : PAt w1.heap.size (.slice ao l.length cap) l 0 ((((w1.setCell ⟨w.heap.size + 1, 0, none⟩ (.int .i64 0)).setCell ⟨w.heap.size + 1 + 1, 0, none⟩ (.int .i64 0)).alloc (.cells #[.slice ao l.length cap, .int .i64 0] 43)).alloc (.cells #[.pointer (some ⟨w1.heap.size, 0, none⟩)] 41)) := ⟨(Bx.newB (by simp)).alloc _, ⟨_, ((row_set (row_set hown j3 (by decide) 0 (.int .i64 0)) (j4.other (by omega) 0 (.int .i64 0)) (by decide) 0 (.int .i64 0)).alloc _).alloc _⟩, hl0, by omega⟩
       have n2 : Bx ((((w1.setCell ⟨w.heap.size + 1, 0, none⟩ (.int .i64 0)).setCell ⟨w.heap.size + 1 + 1, 0, none⟩ (.int .i64 0)).alloc (.cells #[.slice ao l.length cap, .int .i64 0] 43)).alloc (.cells #[.pointer (some ⟨w1.heap.size, 0, none⟩)] 41)) (w.heap.size) 28 #[.int .i64 0, .string ⟨#[]⟩, .string ⟨#[]⟩, .slice none 0 0, .slice none 0 0, .slice none 0 0, .slice none 0 0, .bool false, .int .i64 0, .slice none 0 0] := (((j2.other (by omega) 0 _).other (by omega) 0 _).alloc _).alloc _
       have n3 : Bx ((((w1.setCell ⟨w.heap.size + 1, 0, none⟩ (.int .i64 0)).setCell ⟨w.heap.size + 1 + 1, 0, none⟩ (.int .i64 0)).alloc (.cells #[.slice ao l.length cap, .int .i64 0] 43)).alloc (.cells #[.pointer (some ⟨w1.heap.size, 0, none⟩)] 41)) (w.heap.size + 1) 3 #[.int .i64 0] := (((j3.set 0 _).other (by omega) 0 _).alloc _).alloc _
       have n4 : Bx ((((w1.setCell ⟨w.heap.size + 1, 0, none⟩ (.int .i64 0)).setCell ⟨w.heap.size + 1 + 1, 0, none⟩ (.int .i64 0)).alloc (.cells #[.slice ao l.length cap, .int .i64 0] 43)).alloc (.cells #[.pointer (some ⟨w1.heap.size, 0, none⟩)] 41)) (w.heap.size + 1 + 1) 29 #[.int .i64 0] := (((j4.other (by omega) 0 _).set 0 _).alloc _).alloc _
       have np : Bx ((((w1.setCell ⟨w.heap.size + 1, 0, none⟩ (.int .i64 0)).setCell ⟨w.heap.size + 1 + 1, 0, none⟩ (.int .i64 0)).alloc (.cells #[.slice ao l.length cap, .int .i64 0] 43)).alloc (.cells #[.pointer (some ⟨w1.heap.size, 0, none⟩)] 41)) (w1.heap.size + 1) 41 #[.pointer (some ⟨w1.heap.size, 0, none⟩)] := Bx.newB (by simp)
       have hBW : Below w.heap.size w ((((w1.setCell ⟨w.heap.size + 1, 0, none⟩ (.int .i64 0)).setCell ⟨w.heap.size + 1 + 1, 0, none⟩ (.int .i64 0)).alloc (.cells #[.slice ao l.length cap, .int .i64 0] 43)).alloc (.cells #[.pointer (some ⟨w1.heap.size, 0, none⟩)] 41)) := ((((below_next hB0 (Nat.le_refl _) hb1).setCell (p := ⟨w.heap.size + 1, 0, none⟩) (by simp) _).setCell (p := ⟨w.heap.size + 1 + 1, 0, none⟩) (by simp; omega) _).alloc (by simp; omega) _).alloc (by simp; omega) _
       have hsW : w.heap.size ≤ ((((w1.setCell ⟨w.heap.size + 1, 0, none⟩ (.int .i64 0)).setCell ⟨w.heap.size + 1 + 1, 0, none⟩ (.int .i64 0)).alloc (.cells #[.slice ao l.length cap, .int .i64 0] 43)).alloc (.cells #[.pointer (some ⟨w1.heap.size, 0, none⟩)] 41)).heap.size := hBW.size
       have hgW : w1.heap.size < ((((w1.setCell ⟨w.heap.size + 1, 0, none⟩ (.int .i64 0)).setCell ⟨w.heap.size + 1 + 1, 0, none⟩ (.int .i64 0)).alloc (.cells #[.slice ao l.length cap, .int .i64 0] 43)).alloc (.cells #[.pointer (some ⟨w1.heap.size, 0, none⟩)] 41)).heap.size := (by simp; omega)))
  have f2 := box10 y2 (.int .i64 0) (.string ⟨#[]⟩) (.string ⟨#[]⟩) (.slice none 0 0) (.slice none 0 0) (.slice none 0 0) (.slice none 0 0) (.bool false) (.int .i64 0) (.slice none 0 0)
  have f3 := ((y3.others (c := w.heap.size) (by omega) 0 [.int .i64 0, .string ⟨#[]⟩, .string ⟨#[]⟩, .slice none 0 0, .slice none 0 0, .slice none 0 0, .slice none 0 0, .bool false, .int .i64 0, .slice none 0 0]).set 0 (.int .i64 0)).other (c := w.heap.size + 1 + 1) (by omega) 0 (.int .i64 2)
  have f4 := ((y4.others (c := w.heap.size) (by omega) 0 [.int .i64 0, .string ⟨#[]⟩, .string ⟨#[]⟩, .slice none 0 0, .slice none 0 0, .slice none 0 0, .slice none 0 0, .bool false, .int .i64 0, .slice none 0 0]).other (c := w.heap.size + 1) (by omega) 0 (.int .i64 0)).set 0 (.int .i64 2)
  refine doorQ_ret (w1.heap.size + 1) w.heap.size _ rfl rfl rfl _ _ _ _ _ _ _ _ _ _ _ _ _ ((f2.other (by omega) 0 _).other (by omega) 0 _) f3 f4 ⟨?_, ?_⟩
  · rw [HO.out]
    rfl
  · exact ((bel_sets (Nat.le_refl _) (below_next hB3 (Nat.le_refl _) hb4) 0 [.int .i64 0, .string ⟨#[]⟩, .string ⟨#[]⟩, .slice none 0 0, .slice none 0 0, .slice none 0 0, .slice none 0 0, .bool false, .int .i64 0, .slice none 0 0]).setCell (p := ⟨w.heap.size + 1, 0, none⟩) (by simp) _).setCell (p := ⟨w.heap.size + 1 + 1, 0, none⟩) (by simp; omega) _
end Go.Proofs.YtiajlhjjmlakmaaGreatDoor
