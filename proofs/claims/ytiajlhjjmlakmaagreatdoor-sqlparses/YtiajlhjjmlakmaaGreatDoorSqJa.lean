/-
  Contracts: package sql's Parse: the statement gives up. (Written by mksqj.py.)
-/
import Derived.Test.YtiajlhjjmlakmaaGreatDoorSqJ
namespace Go.Proofs.YtiajlhjjmlakmaaGreatDoor
open Go.RowKit Num
set_option linter.unusedSimpArgs false
set_option linter.unusedVariables false
set_option linter.unusedVariables false
set_option maxRecDepth 100000

set_option maxHeartbeats 4000000 in
theorem parse_no1 (s : ByteArray) (hs : s.size ≤ 400) (l : List Tok) (q0 : Nat) (hl : lexAt s 0 = (some l, q0)) (q : List TkC) (e1 : stmtR (rem l 0) = (none, q)) (w : World) (hG : Glob w) :
    Calls Tryz.prog 4 #[.string s] w fun e w' => ParseEnd w.heap.size (parseG s) e w' ∧ Below w.heap.size w w' := by
  have HO : Hid (parseG s = (none, placeAt l q, 3)) := by
    unfold Hid
    rw [parseG_L hs hl]
    unfold Num.parseL parseR bnd
    rw [← rem_zero, e1]
  obtain ⟨k2, k3, k4, hB0⟩ := boxes3 w
  obtain ⟨hE, hne, hlen⟩ := lex_ends s hs hl
  have hl0 : 0 < l.length := List.length_pos_iff.2 hne
  have hL := lex_any s hs
  rw [hl] at hL
  have hmf : ∀ (fn : Fn) (first cap : Array Value) (w : World), (Instr.makeFunc fn first cap).run Tryz.prog w = .ok (.func fn first cap) w := fun _ _ _ _ => rfl
  go_enter_defers Tryz.func4, Tryz.ntmps4
  go_wp2_with (first
    | (go_at_call 12; have hz := hPW; clear hz; refine (sqreadStmt_any hE _ hPW).mono ?_; intro e w2 hT2; obtain ⟨i2, rfl, hk2, hi2, hP2, hr2⟩ := tells_no hT2 rfl e1)
    | (go_at_call 9; refine (hL _ (hG.below hB0)).mono ?_; rintro e w1 ⟨hLE, hb1⟩
       obtain ⟨v, rfl, hown⟩ := hLE
       obtain ⟨ao, cap, rfl⟩ := own_formQ hown
       have j2 : Bx w1 (w.heap.size) 28 #[.int .i64 0, .string ⟨#[]⟩, .string ⟨#[]⟩, .slice none 0 0, .slice none 0 0, .slice none 0 0, .slice none 0 0, .bool false, .int .i64 0, .slice none 0 0] := heap_next k2 hb1
       have j3 : Bx w1 (w.heap.size + 1) 3 #[.int .i64 0] := heap_next k3 hb1
       have j4 : Bx w1 (w.heap.size + 1 + 1) 29 #[.int .i64 0] := heap_next k4 hb1
       have l4 := j4.lt
       have d3 : w1.cell? ⟨w.heap.size + 1, 0, none⟩ = some (.int .i64 0) := j3.cell 0 _ rfl
       have g3 := j3.open 0
       have d4 : w1.cell? ⟨w.heap.size + 1 + 1, 0, none⟩ = some (.int .i64 0) := j4.cell 0 _ rfl
       have g4 := j4.open 0
       have hPW : PAt w1.heap.size (.slice ao l.length cap) l 0 ((((w1.setCell ⟨w.heap.size + 1, 0, none⟩ (.int .i64 0)).setCell ⟨w.heap.size + 1 + 1, 0, none⟩ (.int .i64 0)).alloc (.cells #[.slice ao l.length cap, .int .i64 0] 43)).alloc (.cells #[.pointer (some ⟨w1.heap.size, 0, none⟩)] 41)) := ⟨(Bx.newB (by simp)).alloc _, ⟨_, ((row_set (row_set hown j3 (by decide) 0 (.int .i64 0)) (j4.other (by omega) 0 (.int .i64 0)) (by decide) 0 (.int .i64 0)).alloc _).alloc _⟩, hl0, by omega⟩
       have n2 : Bx ((((w1.setCell ⟨w.heap.size + 1, 0, none⟩ (.int .i64 0)).setCell ⟨w.heap.size + 1 + 1, 0, none⟩ (.int .i64 0)).alloc (.cells #[.slice ao l.length cap, .int .i64 0] 43)).alloc (.cells #[.pointer (some ⟨w1.heap.size, 0, none⟩)] 41)) (w.heap.size) 28 #[.int .i64 0, .string ⟨#[]⟩, .string ⟨#[]⟩, .slice none 0 0, .slice none 0 0, .slice none 0 0, .slice none 0 0, .bool false, .int .i64 0, .slice none 0 0] := (((j2.other (by omega) 0 _).other (by omega) 0 _).alloc _).alloc _
       have n3 : Bx ((((w1.setCell ⟨w.heap.size + 1, 0, none⟩ (.int .i64 0)).setCell ⟨w.heap.size + 1 + 1, 0, none⟩ (.int .i64 0)).alloc (.cells #[.slice ao l.length cap, .int .i64 0] 43)).alloc (.cells #[.pointer (some ⟨w1.heap.size, 0, none⟩)] 41)) (w.heap.size + 1) 3 #[.int .i64 0] := (((j3.set 0 _).other (by omega) 0 _).alloc _).alloc _
       have n4 : Bx ((((w1.setCell ⟨w.heap.size + 1, 0, none⟩ (.int .i64 0)).setCell ⟨w.heap.size + 1 + 1, 0, none⟩ (.int .i64 0)).alloc (.cells #[.slice ao l.length cap, .int .i64 0] 43)).alloc (.cells #[.pointer (some ⟨w1.heap.size, 0, none⟩)] 41)) (w.heap.size + 1 + 1) 29 #[.int .i64 0] := (((j4.other (by omega) 0 _).set 0 _).alloc _).alloc _
       have np : Bx ((((w1.setCell ⟨w.heap.size + 1, 0, none⟩ (.int .i64 0)).setCell ⟨w.heap.size + 1 + 1, 0, none⟩ (.int .i64 0)).alloc (.cells #[.slice ao l.length cap, .int .i64 0] 43)).alloc (.cells #[.pointer (some ⟨w1.heap.size, 0, none⟩)] 41)) (w1.heap.size + 1) 41 #[.pointer (some ⟨w1.heap.size, 0, none⟩)] := Bx.newB (by simp)
       have hBW : Below w.heap.size w ((((w1.setCell ⟨w.heap.size + 1, 0, none⟩ (.int .i64 0)).setCell ⟨w.heap.size + 1 + 1, 0, none⟩ (.int .i64 0)).alloc (.cells #[.slice ao l.length cap, .int .i64 0] 43)).alloc (.cells #[.pointer (some ⟨w1.heap.size, 0, none⟩)] 41)) := ((((below_next hB0 (Nat.le_refl _) hb1).setCell (p := ⟨w.heap.size + 1, 0, none⟩) (by simp) _).setCell (p := ⟨w.heap.size + 1 + 1, 0, none⟩) (by simp; omega) _).alloc (by simp; omega) _).alloc (by simp; omega) _
       have hsW : w.heap.size ≤ ((((w1.setCell ⟨w.heap.size + 1, 0, none⟩ (.int .i64 0)).setCell ⟨w.heap.size + 1 + 1, 0, none⟩ (.int .i64 0)).alloc (.cells #[.slice ao l.length cap, .int .i64 0] 43)).alloc (.cells #[.pointer (some ⟨w1.heap.size, 0, none⟩)] 41)).heap.size := hBW.size
       have hgW : w1.heap.size < ((((w1.setCell ⟨w.heap.size + 1, 0, none⟩ (.int .i64 0)).setCell ⟨w.heap.size + 1 + 1, 0, none⟩ (.int .i64 0)).alloc (.cells #[.slice ao l.length cap, .int .i64 0] 43)).alloc (.cells #[.pointer (some ⟨w1.heap.size, 0, none⟩)] 41)).heap.size := (by simp; omega)))
  have m2 : Bx w2 (w.heap.size) 28 #[.int .i64 0, .string ⟨#[]⟩, .string ⟨#[]⟩, .slice none 0 0, .slice none 0 0, .slice none 0 0, .slice none 0 0, .bool false, .int .i64 0, .slice none 0 0] := n2.kp hk2 (by omega)
  have m3 : Bx w2 (w.heap.size + 1) 3 #[.int .i64 0] := n3.kp hk2 (by omega)
  have m4 : Bx w2 (w.heap.size + 1 + 1) 29 #[.int .i64 0] := n4.kp hk2 (by omega)
  have mp : Bx w2 (w1.heap.size + 1) 41 #[.pointer (some ⟨w1.heap.size, 0, none⟩)] := np.kp hk2 (by omega)
  have hB2 : Below w.heap.size w w2 := bel_kp hBW hk2 (by omega) hsW
  obtain ⟨x, hx⟩ := PAt.tok hP2
  have hpl := place_of hx hr2
  refine doorQ_panic hx (w1.heap.size + 1) w.heap.size _ rfl rfl rfl w2 _ _ hP2 mp _ _ _ _ _ _ _ _ _ _ _ _ m2 m3 m4 fun w5 hb5 => ⟨?_, ?_⟩
  · rw [HO.out, hpl]
    rfl
  · unfold toldQ
    exact ((bel_sets (Nat.le_refl _) (below_next hB2 (Nat.le_refl _) hb5) 0 _).setCell (p := ⟨w.heap.size + 1, 0, none⟩) (by simp) _).setCell (p := ⟨w.heap.size + 1 + 1, 0, none⟩) (by simp; omega) _
end Go.Proofs.YtiajlhjjmlakmaaGreatDoor
