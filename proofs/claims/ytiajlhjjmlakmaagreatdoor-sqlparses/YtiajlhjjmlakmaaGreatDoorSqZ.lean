/-
  The walk of the law SqlParses. (Written by mksqz.py.)
-/
import Derived.Test.YtiajlhjjmlakmaaGreatDoorSqZa
import Derived.Test.YtiajlhjjmlakmaaGreatDoorSqT
import Derived.Test.YtiajlhjjmlakmaaGreatDoorSqL
namespace Go.Proofs.YtiajlhjjmlakmaaGreatDoor
open Go.RowKit Num
set_option linter.unusedSimpArgs false
set_option linter.unusedVariables false
set_option linter.unusedVariables false
set_option maxRecDepth 100000

theorem sameZ (w : World) : Calls Tryz.prog 6 #[.agg #[.int .i64 0, .string ⟨#[]⟩, .string ⟨#[]⟩, .slice none 0 0, .slice none 0 0, .slice none 0 0, .slice none 0 0, .bool false, .int .i64 0, .slice none 0 0], .agg #[.int .i64 0, .string ⟨#[]⟩, .string ⟨#[]⟩, .slice none 0 0, .slice none 0 0, .slice none 0 0, .slice none 0 0, .bool false, .int .i64 0, .slice none 0 0]] w fun e w' => e = .returned (.bool true) ∧ Below w.heap.size w w' :=
  have hO : OwnS 0 w SS.nil Stm.zero := ⟨World.ownsRow_nil .., World.ownsRow_nil .., World.ownsRow_nil .., World.ownsRow_nil .., World.ownsRow_nil ..⟩
  same16_any Stm.zero SS.nil SS.nil w hO hO
set_option maxHeartbeats 2000000 in
theorem sqParses_any (s : ByteArray) (ws : s.size ≤ maxLen) (w : World) (hG : Glob w) :
    Calls Tryz.prog 3 #[.string s] w fun e w' => e = .returned (.bool true) ∧ Below w.heap.size w w' := by
  have hpa := sqParse_any s
  have hpb := dparse_any s
  rcases hx : parseG s with ⟨o, p, k⟩
  rw [hx] at hpa hpb
  clear hx
  cases o with
  | some x =>
    go_enter Tryz.func3, Tryz.ntmps3
    go_wp2_with (first
    | (go_at_call 7; refine (num17_any _ _).mono ?_; rintro r w9 ⟨rfl, rfl⟩)
    | (go_at_call 6; refine (same16_any x t u _ (((hO.alloc _).belowS hb4).alloc _) (hO2.alloc _)).mono ?_; rintro r w5 ⟨rfl, hb5⟩)
    | (go_at_call 8; refine (awake17_any _ (((((hG.below hb2).alloc _).below hb4).alloc _).below hb5)).mono ?_; rintro r w3 ⟨rfl, hb3⟩)
    | (go_at_call 4; refine (hpa _ hG).mono ?_; clear hpa; rintro e w2 ⟨hPE, hb2⟩
       obtain ⟨t, hu, hO⟩ := hPE
       dsimp only at hu
       subst hu)
    | (go_at_call 5; refine (hpb _).mono ?_; clear hpb; rintro e w4 ⟨hPE, hb4⟩
       obtain ⟨u, hu, hO2⟩ := hPE
       dsimp only at hu
       subst hu
       have bx : Bx w4 w2.heap.size 28 #[.int .i64 x.kind, .string x.table, .string x.name, .slice t.co x.cols.length t.cc, .slice t.vo x.vals.length t.vc, .slice t.so x.sets.length t.sc, .slice t.qo x.conds.length t.qc, .bool x.uniq, .int .i64 x.type, .slice t.yo x.types.length t.yc] := heap_next (Bx.newB rfl) hb4
       have lx := bx.lt
       have c0 : w4.cell? ⟨w2.heap.size, 0, none⟩ = some (.int .i64 x.kind) := bx.cell 0 _ rfl
       have c1 : w4.cell? ⟨w2.heap.size, 1, none⟩ = some (.string x.table) := bx.cell 1 _ rfl
       have c2 : w4.cell? ⟨w2.heap.size, 2, none⟩ = some (.string x.name) := bx.cell 2 _ rfl
       have c3 : w4.cell? ⟨w2.heap.size, 3, none⟩ = some (.slice t.co x.cols.length t.cc) := bx.cell 3 _ rfl
       have c4 : w4.cell? ⟨w2.heap.size, 4, none⟩ = some (.slice t.vo x.vals.length t.vc) := bx.cell 4 _ rfl
       have c5 : w4.cell? ⟨w2.heap.size, 5, none⟩ = some (.slice t.so x.sets.length t.sc) := bx.cell 5 _ rfl
       have c6 : w4.cell? ⟨w2.heap.size, 6, none⟩ = some (.slice t.qo x.conds.length t.qc) := bx.cell 6 _ rfl
       have c7 : w4.cell? ⟨w2.heap.size, 7, none⟩ = some (.bool x.uniq) := bx.cell 7 _ rfl
       have c8 : w4.cell? ⟨w2.heap.size, 8, none⟩ = some (.int .i64 x.type) := bx.cell 8 _ rfl
       have c9 : w4.cell? ⟨w2.heap.size, 9, none⟩ = some (.slice t.yo x.types.length t.yc) := bx.cell 9 _ rfl))
    go_ret
    have hA := below_next (hb2.alloc hb2.size (.cells #[.int .i64 x.kind, .string x.table, .string x.name, .slice t.co x.cols.length t.cc, .slice t.vo x.vals.length t.vc, .slice t.so x.sets.length t.sc, .slice t.qo x.conds.length t.qc, .bool x.uniq, .int .i64 x.type, .slice t.yo x.types.length t.yc] 28)) (Nat.le_refl _) hb4
    exact ⟨rfl, below_next (below_next (hA.alloc hA.size _) (Nat.le_refl _) hb5) (Nat.le_refl _) hb3⟩
  | none =>
    go_enter Tryz.func3, Tryz.ntmps3
    go_wp2_with (first
    | (go_at_call 7; refine (num17_any _ _).mono ?_; rintro r w9 ⟨rfl, rfl⟩)
    | (go_at_call 6; refine (sameZ _).mono ?_; rintro r w5 ⟨rfl, hb5⟩)
    | (go_at_call 8; refine (awake17_any _ (((((hG.below hb2).alloc _).below hb4).alloc _).below hb5)).mono ?_; rintro r w3 ⟨rfl, hb3⟩)
    | (go_at_call 4; refine (hpa _ hG).mono ?_; clear hpa; rintro e w2 ⟨hPE, hb2⟩
       obtain rfl := (hPE : e = .returned (.tuple #[.agg #[.int .i64 0, .string ⟨#[]⟩, .string ⟨#[]⟩, .slice none 0 0, .slice none 0 0, .slice none 0 0, .slice none 0 0, .bool false, .int .i64 0, .slice none 0 0], .int .i64 (p : Int), .int .i64 k])))
    | (go_at_call 5; refine (hpb _).mono ?_; clear hpb; rintro e w4 ⟨hPE, hb4⟩
       obtain rfl := (hPE : e = .returned (.tuple #[.agg #[.int .i64 0, .string ⟨#[]⟩, .string ⟨#[]⟩, .slice none 0 0, .slice none 0 0, .slice none 0 0, .slice none 0 0, .bool false, .int .i64 0, .slice none 0 0], .int .i64 (p : Int), .int .i64 k]))
       have bx : Bx w4 w2.heap.size 28 #[.int .i64 0, .string ⟨#[]⟩, .string ⟨#[]⟩, .slice none 0 0, .slice none 0 0, .slice none 0 0, .slice none 0 0, .bool false, .int .i64 0, .slice none 0 0] := heap_next (Bx.newB rfl) hb4
       have lx := bx.lt
       have c0 : w4.cell? ⟨w2.heap.size, 0, none⟩ = some (.int .i64 0) := bx.cell 0 _ rfl
       have c1 : w4.cell? ⟨w2.heap.size, 1, none⟩ = some (.string ⟨#[]⟩) := bx.cell 1 _ rfl
       have c2 : w4.cell? ⟨w2.heap.size, 2, none⟩ = some (.string ⟨#[]⟩) := bx.cell 2 _ rfl
       have c3 : w4.cell? ⟨w2.heap.size, 3, none⟩ = some (.slice none 0 0) := bx.cell 3 _ rfl
       have c4 : w4.cell? ⟨w2.heap.size, 4, none⟩ = some (.slice none 0 0) := bx.cell 4 _ rfl
       have c5 : w4.cell? ⟨w2.heap.size, 5, none⟩ = some (.slice none 0 0) := bx.cell 5 _ rfl
       have c6 : w4.cell? ⟨w2.heap.size, 6, none⟩ = some (.slice none 0 0) := bx.cell 6 _ rfl
       have c7 : w4.cell? ⟨w2.heap.size, 7, none⟩ = some (.bool false) := bx.cell 7 _ rfl
       have c8 : w4.cell? ⟨w2.heap.size, 8, none⟩ = some (.int .i64 0) := bx.cell 8 _ rfl
       have c9 : w4.cell? ⟨w2.heap.size, 9, none⟩ = some (.slice none 0 0) := bx.cell 9 _ rfl))
    go_ret
    have hA := below_next (hb2.alloc hb2.size _) (Nat.le_refl _) hb4
    exact ⟨rfl, below_next (below_next (hA.alloc hA.size _) (Nat.le_refl _) hb5) (Nat.le_refl _) hb3⟩
end Go.Proofs.YtiajlhjjmlakmaaGreatDoor
