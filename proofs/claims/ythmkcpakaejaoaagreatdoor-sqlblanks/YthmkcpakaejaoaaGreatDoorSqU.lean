/-
  The walks of the laws on places and on blanks.
-/
import Derived.Test.YthmkcpakaejaoaaGreatDoorSqT
import Derived.Test.YthmkcpakaejaoaaGreatDoorSqL
import Derived.Test.YthmkcpakaejaoaaGreatDoorSqB
namespace Go.Proofs.YthmkcpakaejaoaaGreatDoor
open Go.RowKit Num
set_option linter.unusedSimpArgs false
set_option linter.unusedVariables false
set_option linter.unusedVariables false
set_option maxRecDepth 100000

/-- A statement as a value. -/
abbrev Num.aggS (x : Stm) (t : SS) : Array Value := #[.int .i64 x.kind, .string x.table, .string x.name, .slice t.co x.cols.length t.cc, .slice t.vo x.vals.length t.vc, .slice t.so x.sets.length t.sc, .slice t.qo x.conds.length t.qc, .bool x.uniq, .int .i64 x.type, .slice t.yo x.types.length t.yc]
theorem same16_zero (w : World) : Calls Tryz.prog 11 #[.agg #[.int .i64 0, .string ⟨#[]⟩, .string ⟨#[]⟩, .slice none 0 0, .slice none 0 0, .slice none 0 0, .slice none 0 0, .bool false, .int .i64 0, .slice none 0 0], .agg #[.int .i64 0, .string ⟨#[]⟩, .string ⟨#[]⟩, .slice none 0 0, .slice none 0 0, .slice none 0 0, .slice none 0 0, .bool false, .int .i64 0, .slice none 0 0]] w fun e w' => e = .returned (.bool true) ∧ Below w.heap.size w w' :=
  have hO : OwnS 0 w SS.nil Stm.zero := ⟨World.ownsRow_nil .., World.ownsRow_nil .., World.ownsRow_nil .., World.ownsRow_nil .., World.ownsRow_nil ..⟩
  same16_any Stm.zero SS.nil SS.nil w hO hO
set_option maxHeartbeats 2000000 in
theorem sqPlaces_any (s : ByteArray) (ws : s.size ≤ maxLen) (w : World) (hG : Glob w) :
    Calls Tryz.prog 6 #[.string s] w fun e w' => e = .returned (.bool true) ∧ Below w.heap.size w w' := by
  have hpa := sqParse_any s
  rcases parseG_ways s with ⟨x, p, hx, hp0, hk, ht, hs⟩ | ⟨p, e0, hx, hp, he⟩
  · subst hp0
    rw [hx] at hpa
    obtain ⟨hk1, hk2⟩ := hk
    have hsi : (s.size : Int) ≤ 400 := by omega
    clear hx
    go_enter Tryz.func6, Tryz.ntmps6
    go_wp2_with (first
      | (go_at_call 12; refine (num17_any _ _).mono ?_; rintro r w9 ⟨rfl, rfl⟩)
      | (go_at_call 13; refine (awake17_any _ ((hG.below hb2).alloc _)).mono ?_; rintro r w3 ⟨rfl, hb3⟩)
      | (go_at_call 9; refine (hpa _ hG).mono ?_; rintro e w2 ⟨hPE, hb2⟩
         obtain ⟨t, hu, hO⟩ := hPE
         dsimp only at hu
         subst hu))
    go_ret
    have hA := hb2.alloc hb2.size (.cells (aggS x t) 28)
    exact ⟨rfl, below_next hA (Nat.le_refl _) hb3⟩
  · rw [hx] at hpa
    have hpi : (p : Int) ≤ (s.size : Int) := by omega
    have hp0 : (0 : Int) ≤ (p : Int) := by omega
    clear hx
    rcases he with rfl | rfl
    · go_enter Tryz.func6, Tryz.ntmps6
      go_wp2_with (first
        | (go_at_call 12; refine (num17_any _ _).mono ?_; rintro r w9 ⟨rfl, rfl⟩)
        | (go_at_call 11; refine (same16_zero _).mono ?_; rintro r w4 ⟨rfl, hb4⟩)
        | (go_at_call 13; refine (awake17_any _ (((hG.below hb2).alloc _).below hb4)).mono ?_; rintro r w3 ⟨rfl, hb3⟩)
        | (go_at_call 9; refine (hpa _ hG).mono ?_; rintro e w2 ⟨hPE, hb2⟩
           obtain rfl := (hPE : e = .returned (.tuple #[.agg #[.int .i64 0, .string ⟨#[]⟩, .string ⟨#[]⟩, .slice none 0 0, .slice none 0 0, .slice none 0 0, .slice none 0 0, .bool false, .int .i64 0, .slice none 0 0], .int .i64 (p : Int), .int .i64 2]))))
      go_ret
      exact ⟨rfl, below_next (below_next (hb2.alloc hb2.size _) (Nat.le_refl _) hb4) (Nat.le_refl _) hb3⟩
    · go_enter Tryz.func6, Tryz.ntmps6
      go_wp2_with (first
        | (go_at_call 12; refine (num17_any _ _).mono ?_; rintro r w9 ⟨rfl, rfl⟩)
        | (go_at_call 11; refine (same16_zero _).mono ?_; rintro r w4 ⟨rfl, hb4⟩)
        | (go_at_call 13; refine (awake17_any _ (((hG.below hb2).alloc _).below hb4)).mono ?_; rintro r w3 ⟨rfl, hb3⟩)
        | (go_at_call 9; refine (hpa _ hG).mono ?_; rintro e w2 ⟨hPE, hb2⟩
           obtain rfl := (hPE : e = .returned (.tuple #[.agg #[.int .i64 0, .string ⟨#[]⟩, .string ⟨#[]⟩, .slice none 0 0, .slice none 0 0, .slice none 0 0, .slice none 0 0, .bool false, .int .i64 0, .slice none 0 0], .int .i64 (p : Int), .int .i64 3]))))
      go_ret
      exact ⟨rfl, below_next (below_next (hb2.alloc hb2.size _) (Nat.le_refl _) hb4) (Nat.le_refl _) hb3⟩
theorem blanks_same (s : ByteArray) (hs : s.size ≤ 300) : (parseG (⟨#[32, 10, 9]⟩ ++ s ++ ⟨#[10, 32]⟩)).1 = (parseG s).1 ∧ (parseG (⟨#[32, 10, 9]⟩ ++ s ++ ⟨#[10, 32]⟩)).2.2 = (parseG s).2.2 := by
  have hz : (⟨#[32, 10, 9]⟩ ++ s ++ ⟨#[10, 32]⟩ : ByteArray).size = s.size + 5 := by
    rw [ByteArray.size_append, ByteArray.size_append]
    show 3 + s.size + 2 = _
    omega
  have h1 := parseG_T s (by omega)
  have h2 := parseG_T (⟨#[32, 10, 9]⟩ ++ s ++ ⟨#[10, 32]⟩) (by omega)
  rw [parseT_blanks s _ (by simp), ← h1] at h2
  exact ⟨(Prod.mk.inj h2).1, (Prod.mk.inj h2).2⟩
set_option maxHeartbeats 2000000 in
theorem sqBlanks_any (s : ByteArray) (ws : s.size ≤ maxLen) (w : World) (hG : Glob w) :
    Calls Tryz.prog 7 #[.string s] w fun e w' => e = .returned (.bool true) ∧ Below w.heap.size w w' := by
  by_cases h3 : 300 < s.size
  · have h3i : (300 : Int) < (s.size : Int) := by omega
    go_enter Tryz.func7, Tryz.ntmps7
    go_wp2_with (go_at_call 13; refine (awake17_any _ hG).mono ?_; rintro r w3 ⟨rfl, hb3⟩)
    go_ret
    exact ⟨rfl, hb3⟩
  · have h3i : ¬ (300 : Int) < (s.size : Int) := by omega
    have hpa := sqParse_any s
    have hpb := sqParse_any (⟨#[32, 10, 9]⟩ ++ s ++ ⟨#[10, 32]⟩)
    obtain ⟨q1, q2⟩ := blanks_same s (by omega)
    have hz0 : (⟨#[32, 10, 9]⟩ ++ s : ByteArray).size = s.size + 3 := by
      rw [ByteArray.size_append]
      show 3 + s.size = _
      omega
    have hz : (⟨#[32, 10, 9]⟩ ++ s ++ ⟨#[10, 32]⟩ : ByteArray).size = s.size + 5 := by
      rw [ByteArray.size_append, hz0]
      show s.size + 3 + 2 = _
      omega
    rcases parseG_ways s with ⟨x, p, hx, hp0, hk, ht, hs⟩ | ⟨p, e0, hx, hp, he⟩
    · subst hp0
      rw [hx] at hpa q1 q2
      rcases hy : parseG (⟨#[32, 10, 9]⟩ ++ s ++ ⟨#[10, 32]⟩) with ⟨o1, p1, e1⟩
      rw [hy] at hpb q1 q2
      have h1 : o1 = some x := q1
      have h2 : e1 = 0 := q2
      clear q1 q2 hx hy
      subst h1 h2
      obtain ⟨T0, hT0⟩ : ∃ T0, (⟨#[32, 10, 9]⟩ ++ s : ByteArray) = T0 := ⟨_, rfl⟩
      rw [hT0] at hpb hz0 hz
      obtain ⟨T1, hT1⟩ : ∃ T1, T0 ++ (⟨#[10, 32]⟩ : ByteArray) = T1 := ⟨_, rfl⟩
      rw [hT1] at hpb hz
      go_enter Tryz.func7, Tryz.ntmps7
      go_wp2_with (first
        | (go_at_call 12; refine (num17_any _ _).mono ?_; rintro r w9 ⟨rfl, rfl⟩)
        | (go_at_call 11; refine (same16_any x t u _ (((hO.alloc _).belowS hb4).alloc _) (hO2.alloc _)).mono ?_; rintro r w5 ⟨rfl, hb5⟩)
        | (go_at_call 13; refine (awake17_any _ (((((hG.below hb2).alloc _).below hb4).alloc _).below hb5)).mono ?_; rintro r w3 ⟨rfl, hb3⟩)
        | (go_at_call 9; refine (hpa _ hG).mono ?_; clear hpa; rintro e w2 ⟨hPE, hb2⟩
           obtain ⟨t, hu, hO⟩ := hPE
           dsimp only at hu
           subst hu)
        | (go_at_call 9; refine (hpb _ ((hG.below hb2).alloc _)).mono ?_; rintro e w4 ⟨hPE, hb4⟩
           obtain ⟨u, hu, hO2⟩ := hPE
           dsimp only at hu
           subst hu
           have bx : Bx w4 w2.heap.size 28 (aggS x t) := heap_next (Bx.newB rfl) hb4
           have lx := bx.lt
           have c0 : w4.cell? ⟨w2.heap.size, 0, none⟩ = some (.int .i64 x.kind) := bx.cell 0 _ rfl
           have c1 : w4.cell? ⟨w2.heap.size, 1, none⟩ = some (.string x.table) := bx.cell 1 _ rfl
           have c2 : w4.cell? ⟨w2.heap.size, 2, none⟩ = some (.string x.name) := bx.cell 2 _ rfl
           have c3 : w4.cell? ⟨w2.heap.size, 3, none⟩ = some (.slice t.co x.cols.length t.cc) := bx.cell 3 _ rfl
           have c4 : w4.cell? ⟨w2.heap.size, 4, none⟩ = some (.slice t.vo x.vals.length t.vc) := bx.cell 4 _ rfl
           have c5 : w4.cell? ⟨w2.heap.size, 5, none⟩ = some (.slice t.so x.sets.length t.sc) := bx.cell 5 _ rfl
           have c6 : w4.cell? ⟨w2.heap.size, 6, none⟩ = some (.slice t.qo x.conds.length t.qc) := bx.cell 6 _ rfl
           have c7 : w4.cell? ⟨w2.heap.size, 7, none⟩ = some (.bool x.uniq) := bx.cell 7 _ rfl
           have c8 : w4.cell? ⟨w2.heap.size, 8, none⟩ = some (.int .i64 x.type) := bx.cell 8 _ rfl
           have c9 : w4.cell? ⟨w2.heap.size, 9, none⟩ = some (.slice t.yo x.types.length t.yc) := bx.cell 9 _ rfl))
      go_ret
      have hA := below_next (hb2.alloc hb2.size (.cells (aggS x t) 28)) (Nat.le_refl _) hb4
      exact ⟨rfl, below_next (below_next (hA.alloc hA.size _) (Nat.le_refl _) hb5) (Nat.le_refl _) hb3⟩
    · rw [hx] at hpa q1 q2
      rcases hy : parseG (⟨#[32, 10, 9]⟩ ++ s ++ ⟨#[10, 32]⟩) with ⟨o1, p1, e1⟩
      rw [hy] at hpb q1 q2
      have h1 : o1 = none := q1
      have h2 : e1 = e0 := q2
      clear q1 q2 hx hy
      subst h1 h2
      have hne : e1 ≠ 0 := by omega
      obtain ⟨T0, hT0⟩ : ∃ T0, (⟨#[32, 10, 9]⟩ ++ s : ByteArray) = T0 := ⟨_, rfl⟩
      rw [hT0] at hpb hz0 hz
      obtain ⟨T1, hT1⟩ : ∃ T1, T0 ++ (⟨#[10, 32]⟩ : ByteArray) = T1 := ⟨_, rfl⟩
      rw [hT1] at hpb hz
      go_enter Tryz.func7, Tryz.ntmps7
      go_wp2_with (first
        | (go_at_call 12; refine (num17_any _ _).mono ?_; rintro r w9 ⟨rfl, rfl⟩)
        | (go_at_call 13; refine (awake17_any _ ((((hG.below hb2).alloc _).below hb4).alloc _)).mono ?_; rintro r w3 ⟨rfl, hb3⟩)
        | (go_at_call 9; refine (hpa _ hG).mono ?_; clear hpa; rintro e w2 ⟨hPE, hb2⟩
           obtain rfl := (hPE : e = .returned (.tuple #[.agg #[.int .i64 0, .string ⟨#[]⟩, .string ⟨#[]⟩, .slice none 0 0, .slice none 0 0, .slice none 0 0, .slice none 0 0, .bool false, .int .i64 0, .slice none 0 0], .int .i64 (p : Int), .int .i64 e1])))
        | (go_at_call 9; refine (hpb _ ((hG.below hb2).alloc _)).mono ?_; rintro e w4 ⟨hPE, hb4⟩
           obtain rfl := (hPE : e = .returned (.tuple #[.agg #[.int .i64 0, .string ⟨#[]⟩, .string ⟨#[]⟩, .slice none 0 0, .slice none 0 0, .slice none 0 0, .slice none 0 0, .bool false, .int .i64 0, .slice none 0 0], .int .i64 (p1 : Int), .int .i64 e1]))))
      go_ret
      have hA := below_next (hb2.alloc hb2.size _) (Nat.le_refl _) hb4
      exact ⟨rfl, below_next (hA.alloc hA.size _) (Nat.le_refl _) hb3⟩
end Go.Proofs.YthmkcpakaejaoaaGreatDoor
