import Derived.Test.YtiajlhjjmlakmaaGreatDoorSqK
import Derived.Test.YtiajlhjjmlakmaaGreatDoorSqVe
namespace Go.Proofs.YtiajlhjjmlakmaaGreatDoor
open Go.RowKit Num
set_option maxHeartbeats 2000000
set_option linter.unusedSimpArgs false
set_option linter.unusedVariables false
set_option maxRecDepth 100000

theorem num17_any (e : Int) (w : World) : Calls Tryz.prog 7 #[.int .i64 e] w fun r w' => r = .returned (.int .i64 e) ∧ w' = w := by
  go_enter Tryz.func7, Tryz.ntmps7
  go_wp2
  go_ret
  exact ⟨rfl, rfl⟩
theorem equal0_0 (a b : Option Addr) (c d : Nat) (w : World) : Calls Tryz.prog 85 #[.slice a 0 c, .slice b 0 d] w fun r w' => r = .returned (.bool true) ∧ w' = w := by
  go_enter Tryz.func85, Tryz.ntmps85
  go_wp2
  go_loopw [5, 13] (fun _ k wr => k = .int .i64 0 ∧ wr = w) (fun _ _ _ => 0)
  case atStart => exact ⟨rfl, rfl⟩
  case round =>
    obtain ⟨rfl, rfl⟩ := hrel
    go_wp2
    go_ret
    exact ⟨rfl, rfl⟩
theorem equal0_1 (a b : Option Addr) (c d : Nat) (w : World) : Calls Tryz.prog 86 #[.slice a 0 c, .slice b 0 d] w fun r w' => r = .returned (.bool true) ∧ w' = w := by
  go_enter Tryz.func86, Tryz.ntmps86
  go_wp2
  go_loopw [5, 13] (fun _ k wr => k = .int .i64 0 ∧ wr = w) (fun _ _ _ => 0)
  case atStart => exact ⟨rfl, rfl⟩
  case round =>
    obtain ⟨rfl, rfl⟩ := hrel
    go_wp2
    go_ret
    exact ⟨rfl, rfl⟩
theorem equal0_2 (a b : Option Addr) (c d : Nat) (w : World) : Calls Tryz.prog 87 #[.slice a 0 c, .slice b 0 d] w fun r w' => r = .returned (.bool true) ∧ w' = w := by
  go_enter Tryz.func87, Tryz.ntmps87
  go_wp2
  go_loopw [5, 13] (fun _ k wr => k = .int .i64 0 ∧ wr = w) (fun _ _ _ => 0)
  case atStart => exact ⟨rfl, rfl⟩
  case round =>
    obtain ⟨rfl, rfl⟩ := hrel
    go_wp2
    go_ret
    exact ⟨rfl, rfl⟩
theorem equal0_3 (a b : Option Addr) (c d : Nat) (w : World) : Calls Tryz.prog 88 #[.slice a 0 c, .slice b 0 d] w fun r w' => r = .returned (.bool true) ∧ w' = w := by
  go_enter Tryz.func88, Tryz.ntmps88
  go_wp2
  go_loopw [5, 13] (fun _ k wr => k = .int .i64 0 ∧ wr = w) (fun _ _ _ => 0)
  case atStart => exact ⟨rfl, rfl⟩
  case round =>
    obtain ⟨rfl, rfl⟩ := hrel
    go_wp2
    go_ret
    exact ⟨rfl, rfl⟩
theorem equal0_4 (a b : Option Addr) (c d : Nat) (w : World) : Calls Tryz.prog 89 #[.slice a 0 c, .slice b 0 d] w fun r w' => r = .returned (.bool true) ∧ w' = w := by
  go_enter Tryz.func89, Tryz.ntmps89
  go_wp2
  go_loopw [5, 13] (fun _ k wr => k = .int .i64 0 ∧ wr = w) (fun _ _ _ => 0)
  case atStart => exact ⟨rfl, rfl⟩
  case round =>
    obtain ⟨rfl, rfl⟩ := hrel
    go_wp2
    go_ret
    exact ⟨rfl, rfl⟩
abbrev Num.x7 : Stm := { Stm.zero with kind := 7, table := ⟨#[116]⟩, name := ⟨#[105]⟩ }
theorem same_ix (t u : SS) (w : World) : Calls Tryz.prog 45 #[.agg #[.int .i64 7, .string ⟨#[116]⟩, .string ⟨#[105]⟩, .slice t.co 0 t.cc, .slice t.vo 0 t.vc, .slice t.so 0 t.sc, .slice t.qo 0 t.qc, .bool false, .int .i64 0, .slice t.yo 0 t.yc], .agg #[.int .i64 7, .string ⟨#[116]⟩, .string ⟨#[105]⟩, .slice u.co 0 u.cc, .slice u.vo 0 u.vc, .slice u.so 0 u.sc, .slice u.qo 0 u.qc, .bool false, .int .i64 0, .slice u.yo 0 u.yc]] w fun r w' => r = .returned (.bool true) ∧ Below w.heap.size w w' := by
  have h0 := equal0_0
  have h1 := equal0_1
  have h2 := equal0_2
  have h3 := equal0_3
  have h4 := equal0_4
  go_enter Tryz.func45, Tryz.ntmps45
  go_wp2_with (first
    | (go_at_call 85; refine (h0 _ _ _ _ _).mono ?_; rintro r w1 ⟨rfl, rfl⟩)
    | (go_at_call 86; refine (h1 _ _ _ _ _).mono ?_; rintro r w1 ⟨rfl, rfl⟩)
    | (go_at_call 87; refine (h2 _ _ _ _ _).mono ?_; rintro r w1 ⟨rfl, rfl⟩)
    | (go_at_call 88; refine (h3 _ _ _ _ _).mono ?_; rintro r w1 ⟨rfl, rfl⟩)
    | (go_at_call 89; refine (h4 _ _ _ _ _).mono ?_; rintro r w1 ⟨rfl, rfl⟩))
  go_ret
  exact ⟨rfl, ((Below.refl _ w).alloc (Nat.le_refl _) _).alloc (by simp) _⟩
theorem stmtText_ix (t : SS) (w : World) : Calls Tryz.prog 44 #[.agg #[.int .i64 7, .string ⟨#[116]⟩, .string ⟨#[105]⟩, .slice t.co 0 t.cc, .slice t.vo 0 t.vc, .slice t.so 0 t.sc, .slice t.qo 0 t.qc, .bool false, .int .i64 0, .slice t.yo 0 t.yc]] w fun r w' => r = .returned (.string ⟨#[100, 114, 111, 112, 32, 105, 110, 100, 101, 120, 32, 105, 32, 111, 110, 32, 116]⟩) ∧ Below w.heap.size w w' := by
  go_enter Tryz.func44, Tryz.ntmps44
  go_wp2
  go_ret
  exact ⟨rfl, (Below.refl _ w).alloc (Nat.le_refl _) _⟩
theorem parse_ex1 : ∃ x p, parseG ⟨#[115, 101, 108, 101, 99, 116, 32, 42, 32, 102, 114, 111, 109, 32, 116, 32, 119, 104, 101, 114, 101, 32, 97, 32, 61, 32, 49]⟩ = (some x, p, 0) ∧ x.kind = 4 ∧ x.conds.length = 1 := by
  have h := parseK_eq [115, 101, 108, 101, 99, 116, 32, 42, 32, 102, 114, 111, 109, 32, 116, 32, 119, 104, 101, 114, 101, 32, 97, 32, 61, 32, 49]
  refine ⟨_, _, h, rfl, rfl⟩
theorem parse_ex2 : parseG ⟨#[100, 114, 111, 112, 32, 105, 110, 100, 101, 120, 32, 105, 32, 111, 110, 32, 116, 59]⟩ = (some x7, 0, 0) := parseK_eq [100, 114, 111, 112, 32, 105, 110, 100, 101, 120, 32, 105, 32, 111, 110, 32, 116, 59]
theorem parse_ex3 : parseG ⟨#[100, 114, 111, 112, 32, 105, 110, 100, 101, 120, 32, 105, 32, 111, 110, 32, 116]⟩ = (some x7, 0, 0) := parseK_eq [100, 114, 111, 112, 32, 105, 110, 100, 101, 120, 32, 105, 32, 111, 110, 32, 116]
theorem text_ix (t : SS) (w : World) (hG : Glob w) : Calls Tryz.prog 24 #[.agg #[.int .i64 7, .string ⟨#[116]⟩, .string ⟨#[105]⟩, .slice t.co 0 t.cc, .slice t.vo 0 t.vc, .slice t.so 0 t.sc, .slice t.qo 0 t.qc, .bool false, .int .i64 0, .slice t.yo 0 t.yc]] w fun r w' => r = .returned (.tuple #[.string ⟨#[100, 114, 111, 112, 32, 105, 110, 100, 101, 120, 32, 105, 32, 111, 110, 32, 116]⟩, .int .i64 0]) ∧ Below w.heap.size w w' := by
  have htm : ∀ W, Calls Tryz.prog 14 #[.agg #[.int .i64 7, .string ⟨#[116]⟩, .string ⟨#[105]⟩, .slice t.co 0 t.cc, .slice t.vo 0 t.vc, .slice t.so 0 t.sc, .slice t.qo 0 t.qc, .bool false, .int .i64 0, .slice t.yo 0 t.yc]] W fun e w' => e = .returned (.bool false) ∧ Below W.heap.size W w' := sqtooMany_any x7 t
  have hst := stmtText_ix t
  have hpa := sqParse_any ⟨#[100, 114, 111, 112, 32, 105, 110, 100, 101, 120, 32, 105, 32, 111, 110, 32, 116]⟩
  rw [parse_ex3] at hpa
  go_enter Tryz.func24, Tryz.ntmps24
  go_wp2_with (first
    | (go_at_call 45; refine (same_ix u t _).mono ?_; rintro r w4 ⟨rfl, hb4⟩)
    | (go_at_call 4; refine (hpa _ (((hG.alloc _).below hb1).below hb2)).mono ?_; rintro r w3 ⟨hPE, hb3⟩
       obtain ⟨u, hu, hO⟩ := hPE
       obtain rfl : r = .returned (.tuple #[.agg #[.int .i64 7, .string ⟨#[116]⟩, .string ⟨#[105]⟩, .slice u.co 0 u.cc, .slice u.vo 0 u.vc, .slice u.so 0 u.sc, .slice u.qo 0 u.qc, .bool false, .int .i64 0, .slice u.yo 0 u.yc], .int .i64 0, .int .i64 0]) := hu
       have bx3 : Bx w3 w.heap.size 28 #[.int .i64 7, .string ⟨#[116]⟩, .string ⟨#[105]⟩, .slice t.co 0 t.cc, .slice t.vo 0 t.vc, .slice t.so 0 t.sc, .slice t.qo 0 t.qc, .bool false, .int .i64 0, .slice t.yo 0 t.yc] := heap_next (heap_next bx1 hb2) hb3
       have l3 := bx3.lt
       have d0 : w3.cell? ⟨w.heap.size, 0, none⟩ = some (.int .i64 7) := bx3.cell 0 _ rfl
       have d1 : w3.cell? ⟨w.heap.size, 1, none⟩ = some (.string ⟨#[116]⟩) := bx3.cell 1 _ rfl
       have d2 : w3.cell? ⟨w.heap.size, 2, none⟩ = some (.string ⟨#[105]⟩) := bx3.cell 2 _ rfl
       have d3 : w3.cell? ⟨w.heap.size, 3, none⟩ = some (.slice t.co 0 t.cc) := bx3.cell 3 _ rfl
       have d4 : w3.cell? ⟨w.heap.size, 4, none⟩ = some (.slice t.vo 0 t.vc) := bx3.cell 4 _ rfl
       have d5 : w3.cell? ⟨w.heap.size, 5, none⟩ = some (.slice t.so 0 t.sc) := bx3.cell 5 _ rfl
       have d6 : w3.cell? ⟨w.heap.size, 6, none⟩ = some (.slice t.qo 0 t.qc) := bx3.cell 6 _ rfl
       have d7 : w3.cell? ⟨w.heap.size, 7, none⟩ = some (.bool false) := bx3.cell 7 _ rfl
       have d8 : w3.cell? ⟨w.heap.size, 8, none⟩ = some (.int .i64 0) := bx3.cell 8 _ rfl
       have d9 : w3.cell? ⟨w.heap.size, 9, none⟩ = some (.slice t.yo 0 t.yc) := bx3.cell 9 _ rfl)
    | (go_at_call 44; refine (hst _).mono ?_; rintro r w2 ⟨rfl, hb2⟩)
    | (go_at_call 14; refine (htm _).mono ?_; rintro r w1 ⟨rfl, hb1⟩; have bx1 : Bx w1 w.heap.size 28 #[.int .i64 7, .string ⟨#[116]⟩, .string ⟨#[105]⟩, .slice t.co 0 t.cc, .slice t.vo 0 t.vc, .slice t.so 0 t.sc, .slice t.qo 0 t.qc, .bool false, .int .i64 0, .slice t.yo 0 t.yc] := heap_next (heap_alloc_new w _) hb1
       have c0 : w1.cell? ⟨w.heap.size, 0, none⟩ = some (.int .i64 7) := bx1.cell 0 _ rfl
       have c1 : w1.cell? ⟨w.heap.size, 1, none⟩ = some (.string ⟨#[116]⟩) := bx1.cell 1 _ rfl
       have c2 : w1.cell? ⟨w.heap.size, 2, none⟩ = some (.string ⟨#[105]⟩) := bx1.cell 2 _ rfl
       have c3 : w1.cell? ⟨w.heap.size, 3, none⟩ = some (.slice t.co 0 t.cc) := bx1.cell 3 _ rfl
       have c4 : w1.cell? ⟨w.heap.size, 4, none⟩ = some (.slice t.vo 0 t.vc) := bx1.cell 4 _ rfl
       have c5 : w1.cell? ⟨w.heap.size, 5, none⟩ = some (.slice t.so 0 t.sc) := bx1.cell 5 _ rfl
       have c6 : w1.cell? ⟨w.heap.size, 6, none⟩ = some (.slice t.qo 0 t.qc) := bx1.cell 6 _ rfl
       have c7 : w1.cell? ⟨w.heap.size, 7, none⟩ = some (.bool false) := bx1.cell 7 _ rfl
       have c8 : w1.cell? ⟨w.heap.size, 8, none⟩ = some (.int .i64 0) := bx1.cell 8 _ rfl
       have c9 : w1.cell? ⟨w.heap.size, 9, none⟩ = some (.slice t.yo 0 t.yc) := bx1.cell 9 _ rfl))
  go_ret2
  refine ⟨rfl, ?_⟩
  have hA := below_next ((Below.refl w.heap.size w).alloc (Nat.le_refl _) _) (Nat.le_refl _) hb1
  have hB := below_next hA (Nat.le_refl _) hb2
  have hC := below_next hB (Nat.le_refl _) hb3
  exact below_next (hC.alloc hC.size _) (Nat.le_refl _) hb4
theorem awake17_any (w : World) (hG : Glob w) : Calls Tryz.prog 8 #[] w fun r w' => r = .returned (.bool true) ∧ Below w.heap.size w w' := by
  obtain ⟨x, p, hx, hk, hc⟩ := parse_ex1
  have h1 := sqParse_any ⟨#[115, 101, 108, 101, 99, 116, 32, 42, 32, 102, 114, 111, 109, 32, 116, 32, 119, 104, 101, 114, 101, 32, 97, 32, 61, 32, 49]⟩
  have h2 := sqParse_any ⟨#[100, 114, 111, 112, 32, 105, 110, 100, 101, 120, 32, 105, 32, 111, 110, 32, 116, 59]⟩
  rw [hx] at h1
  rw [parse_ex2] at h2
  go_enter Tryz.func8, Tryz.ntmps8
  go_wp2_with (first
    | (go_at_call 7; refine (num17_any _ _).mono ?_; rintro r w9 ⟨rfl, rfl⟩)
    | (go_at_call 24; refine (text_ix u _ ((((hG.below hb1).alloc _).below hb2).alloc _)).mono ?_; rintro r w3 ⟨rfl, hb3⟩
       have by3 : Bx w3 w1.heap.size 28 _ := heap_next (heap_alloc (heap_next by1 hb2) _) hb3
       have k0 : w3.cell? ⟨w1.heap.size, 0, none⟩ = some (.int .i64 4) := by3.cell 0 _ rfl
       have k6 : w3.cell? ⟨w1.heap.size, 6, none⟩ = some (.slice t.qo 1 t.qc) := by3.cell 6 _ rfl)
    | (go_at_call 4; refine (h2 _ ((hG.below hb1).alloc _)).mono ?_; rintro r w2 ⟨hPE, hb2⟩
       obtain ⟨u, hu, hO2⟩ := hPE
       obtain rfl : r = .returned (.tuple #[.agg #[.int .i64 7, .string ⟨#[116]⟩, .string ⟨#[105]⟩, .slice u.co 0 u.cc, .slice u.vo 0 u.vc, .slice u.so 0 u.sc, .slice u.qo 0 u.qc, .bool false, .int .i64 0, .slice u.yo 0 u.yc], .int .i64 0, .int .i64 0]) := hu)
    | (go_at_call 4; refine (h1 _ hG).mono ?_; rintro r w1 ⟨hPE, hb1⟩
       obtain ⟨t, hu, hO1⟩ := hPE
       simp only [hk, hc] at hu
       subst hu
       have by1 : Bx (w1.alloc (.cells #[.int .i64 4, .string x.table, .string x.name, .slice t.co x.cols.length t.cc, .slice t.vo x.vals.length t.vc, .slice t.so x.sets.length t.sc, .slice t.qo 1 t.qc, .bool x.uniq, .int .i64 x.type, .slice t.yo x.types.length t.yc] 28)) w1.heap.size 28 _ := Bx.new _ _ _))
  go_ret
  have hA := hb1.alloc hb1.size (.cells #[.int .i64 4, .string x.table, .string x.name, .slice t.co x.cols.length t.cc, .slice t.vo x.vals.length t.vc, .slice t.so x.sets.length t.sc, .slice t.qo 1 t.qc, .bool x.uniq, .int .i64 x.type, .slice t.yo x.types.length t.yc] 28)
  have hB := below_next hA (Nat.le_refl _) hb2
  exact ⟨rfl, below_next (hB.alloc hB.size _) (Nat.le_refl _) hb3⟩
end Go.Proofs.YtiajlhjjmlakmaaGreatDoor
