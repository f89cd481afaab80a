import Derived.Test.YtiajlhjjmlakmaaGreatDoorSqYo
import Derived.Test.YtiajlhjjmlakmaaGreatDoorSqYp
import Derived.Test.YtiajlhjjmlakmaaGreatDoorSqYq
import Derived.Test.YtiajlhjjmlakmaaGreatDoorSqYr
import Derived.Test.YtiajlhjjmlakmaaGreatDoorSqT
import Derived.Test.YtiajlhjjmlakmaaGreatDoorSqL
namespace Go.Proofs.YtiajlhjjmlakmaaGreatDoor
open Go.RowKit Num
set_option linter.unusedSimpArgs false
set_option linter.unusedVariables false
set_option maxRecDepth 100000

theorem dparse_any (s : ByteArray) (w : World) :
  Calls Tryz.prog 5 #[.string s] w fun e w' => ParseEnd w.heap.size (parseG s) e w' ∧ Below w.heap.size w w' := by
 by_cases hs : s.size ≤ 400
 ·rcases hl : lexAt s 0 with ⟨o, q⟩
  cases o with
  | none => exact dparse_bad s hs q hl w
  | some l =>
   obtain ⟨hE, hne, hlen⟩ := lex_ends s hs hl
   obtain ⟨hL, h0⟩ := lexL_of (congrArg Prod.fst hl)
   rw [parseG_L hs hl, ← parse_same hL h0]
   cases hbc : isD l ⟨#[99, 114, 101, 97, 116, 101]⟩ ⟨0, false, 0, false⟩ with
   | true =>
    cases hbs : isD l ⟨#[59]⟩ (createD l ⟨0, false, 0, false⟩).2 with
    | false => exact dparse_w2 s hs l q hl hE h0 hlen hbc hbs w
    | true => exact dparse_w3 s hs l q hl hE h0 hlen hbc hbs w
   | false =>
    cases hbd : isD l ⟨#[100, 114, 111, 112]⟩ ⟨0, false, 0, false⟩ with
    | true =>
     cases hbs : isD l ⟨#[59]⟩ (dropD l ⟨0, false, 0, false⟩).2 with
     | false => exact dparse_w6 s hs l q hl hE h0 hlen hbc hbd hbs w
     | true => exact dparse_w7 s hs l q hl hE h0 hlen hbc hbd hbs w
    | false =>
     cases hba : isD l ⟨#[97, 108, 116, 101, 114]⟩ ⟨0, false, 0, false⟩ with
     | true =>
      cases hbs : isD l ⟨#[59]⟩ (alterD l ⟨0, false, 0, false⟩).2 with
      | false => exact dparse_w4 s hs l q hl hE h0 hlen hbc hbd hbs hba w
      | true => exact dparse_w5 s hs l q hl hE h0 hlen hbc hbd hbs hba w
     | false =>
      cases hbs : isD l ⟨#[59]⟩ (rowsD l ⟨0, false, 0, false⟩).2 with
      | false => exact dparse_w0 s hs l q hl hE h0 hlen hbc hbd hbs hba w
      | true => exact dparse_w1 s hs l q hl hE h0 hlen hbc hbd hbs hba w
 ·exact dparse_long s hs w

theorem sameZ (w : World) : Calls Tryz.prog 6 #[.agg #[.int .i64 0, .string ⟨#[]⟩, .string ⟨#[]⟩, .slice none 0 0, .slice none 0 0, .slice none 0 0, .slice none 0 0, .bool false, .int .i64 0, .slice none 0 0], .agg #[.int .i64 0, .string ⟨#[]⟩, .string ⟨#[]⟩, .slice none 0 0, .slice none 0 0, .slice none 0 0, .slice none 0 0, .bool false, .int .i64 0, .slice none 0 0]] w fun e w' => e = .returned (.bool true) ∧ Below w.heap.size w w' :=
  have hO : OwnS 0 w SS.nil Stm.zero := ⟨World.ownsRow_nil .., World.ownsRow_nil .., World.ownsRow_nil .., World.ownsRow_nil .., World.ownsRow_nil ..⟩
  same16_any Stm.zero SS.nil SS.nil w hO hO
set_option maxHeartbeats 2000000 in
theorem sqParses_any (s : ByteArray) (ws : s.size ≤ maxLen) (w : World) (hG : Glob w) :
    Calls Tryz.prog 3 #[.string s] w fun e w' => e = .returned (.bool true) ∧ Below w.heap.size w w' := by
  have hpa := sqParse_any s
  have hpb := dparse_any s
  rcases hx : parseG s with ⟨o, p, k⟩
  rw [hx] at hpa hpb
  clear hx
  cases o with
  | some x =>
    go_enter Tryz.func3, Tryz.ntmps3
    go_wp2_with (first
    | (go_at_call 7; refine (num17_any _ _).mono ?_; rintro r w9 ⟨rfl, rfl⟩)
    | (go_at_call 6; refine (same16_any x t u _ (((hO.alloc _).belowS hb4).alloc _) (hO2.alloc _)).mono ?_; rintro r w5 ⟨rfl, hb5⟩)
    | (go_at_call 8; refine (awake17_any _ (((((hG.below hb2).alloc _).below hb4).alloc _).below hb5)).mono ?_; rintro r w3 ⟨rfl, hb3⟩)
    | (go_at_call 4; refine (hpa _ hG).mono ?_; clear hpa; rintro e w2 ⟨hPE, hb2⟩
       obtain ⟨t, hu, hO⟩ := hPE
       dsimp only at hu
       subst hu)
    | (go_at_call 5; refine (hpb _).mono ?_; clear hpb; rintro e w4 ⟨hPE, hb4⟩
       obtain ⟨u, hu, hO2⟩ := hPE
       dsimp only at hu
       subst hu
       have bx : Bx w4 w2.heap.size 28 #[.int .i64 x.kind, .string x.table, .string x.name, .slice t.co x.cols.length t.cc, .slice t.vo x.vals.length t.vc, .slice t.so x.sets.length t.sc, .slice t.qo x.conds.length t.qc, .bool x.uniq, .int .i64 x.type, .slice t.yo x.types.length t.yc] := heap_next (Bx.newB rfl) hb4
       have lx := bx.lt
       have c0 := bx.t0
       have c1 := bx.t1
       have c2 := bx.t2
       have c3 := bx.t3
       have c4 := bx.t4
       have c5 := bx.t5
       have c6 := bx.t6
       have c7 := bx.t7
       have c8 := bx.t8
       have c9 := bx.t9))
    go_ret
    have hA := below_next (hb2.alloc hb2.size (.cells #[.int .i64 x.kind, .string x.table, .string x.name, .slice t.co x.cols.length t.cc, .slice t.vo x.vals.length t.vc, .slice t.so x.sets.length t.sc, .slice t.qo x.conds.length t.qc, .bool x.uniq, .int .i64 x.type, .slice t.yo x.types.length t.yc] 28)) (Nat.le_refl _) hb4
    exact ⟨rfl, below_next (below_next (hA.alloc hA.size _) (Nat.le_refl _) hb5) (Nat.le_refl _) hb3⟩
  | none =>
    go_enter Tryz.func3, Tryz.ntmps3
    go_wp2_with (first
    | (go_at_call 7; refine (num17_any _ _).mono ?_; rintro r w9 ⟨rfl, rfl⟩)
    | (go_at_call 6; refine (sameZ _).mono ?_; rintro r w5 ⟨rfl, hb5⟩)
    | (go_at_call 8; refine (awake17_any _ (((((hG.below hb2).alloc _).below hb4).alloc _).below hb5)).mono ?_; rintro r w3 ⟨rfl, hb3⟩)
    | (go_at_call 4; refine (hpa _ hG).mono ?_; clear hpa; rintro e w2 ⟨hPE, hb2⟩
       obtain rfl := (hPE : e = .returned (.tuple #[.agg #[.int .i64 0, .string ⟨#[]⟩, .string ⟨#[]⟩, .slice none 0 0, .slice none 0 0, .slice none 0 0, .slice none 0 0, .bool false, .int .i64 0, .slice none 0 0], .int .i64 (p : Int), .int .i64 k])))
    | (go_at_call 5; refine (hpb _).mono ?_; clear hpb; rintro e w4 ⟨hPE, hb4⟩
       obtain rfl := (hPE : e = .returned (.tuple #[.agg #[.int .i64 0, .string ⟨#[]⟩, .string ⟨#[]⟩, .slice none 0 0, .slice none 0 0, .slice none 0 0, .slice none 0 0, .bool false, .int .i64 0, .slice none 0 0], .int .i64 (p : Int), .int .i64 k]))
       have bx : Bx w4 w2.heap.size 28 z10 := heap_next (Bx.newB rfl) hb4
       have lx := bx.lt
       have c0 := bx.t0
       have c1 := bx.t1
       have c2 := bx.t2
       have c3 := bx.t3
       have c4 := bx.t4
       have c5 := bx.t5
       have c6 := bx.t6
       have c7 := bx.t7
       have c8 := bx.t8
       have c9 := bx.t9))
    go_ret
    have hA := below_next (hb2.alloc hb2.size _) (Nat.le_refl _) hb4
    exact ⟨rfl, below_next (below_next (hA.alloc hA.size _) (Nat.le_refl _) hb5) (Nat.le_refl _) hb3⟩
end Go.Proofs.YtiajlhjjmlakmaaGreatDoor
