/-
  The walk of the law on ints.
-/
import Derived.Test.YtfgphcleilpelaaDoorLxS
import Derived.Test.YtfgphcleilpelaaDoorLxD
import Derived.Test.YtfgphcleilpelaaDoorLxI
namespace Go.Proofs.YtfgphcleilpelaaDoor
open Go.RowKit Num
set_option linter.unusedVariables false
set_option maxRecDepth 100000

/-- The value of the first token, and its text, in a row of the call's own. -/
theorem tok_cells {w : World} {B T n g cap : Nat} {x : Tok} {l : List Tok} (h : w.ownsRow B T 7 (.slice (some ⟨g, 0, none⟩) n cap) n (tokCells (x :: l))) :
    w.cell? ⟨g, 1, none⟩ = some (.string x.t) ∧ w.cell? ⟨g, 2, none⟩ = some (.int .i64 x.v.k) ∧ w.cell? ⟨g, 3, none⟩ = some (.int .i64 x.v.n) ∧ w.cell? ⟨g, 4, none⟩ = some (.int .u64 (x.v.f : Int)) ∧ w.cell? ⟨g, 5, none⟩ = some (.string x.v.s) :=
  ⟨h.cells (g := g) rfl 1 _ rfl, h.cells (g := g) rfl 2 _ rfl, h.cells (g := g) rfl 3 _ rfl, h.cells (g := g) rfl 4 _ rfl, h.cells (g := g) rfl 5 _ rfl⟩
/-- Five cells of a block stay. -/
theorem keep5 {w w' : World} {g : Nat} {c1 c2 c3 c4 c5 : Value} (hb : Below w.heap.size w w') (hg : g < w.heap.size) (h : w.cell? ⟨g, 1, none⟩ = some c1 ∧ w.cell? ⟨g, 2, none⟩ = some c2 ∧ w.cell? ⟨g, 3, none⟩ = some c3 ∧ w.cell? ⟨g, 4, none⟩ = some c4 ∧ w.cell? ⟨g, 5, none⟩ = some c5) :
    w'.cell? ⟨g, 1, none⟩ = some c1 ∧ w'.cell? ⟨g, 2, none⟩ = some c2 ∧ w'.cell? ⟨g, 3, none⟩ = some c3 ∧ w'.cell? ⟨g, 4, none⟩ = some c4 ∧ w'.cell? ⟨g, 5, none⟩ = some c5 :=
  ⟨(hb.cell hg).trans h.1, (hb.cell hg).trans h.2.1, (hb.cell hg).trans h.2.2.1, (hb.cell hg).trans h.2.2.2.1, (hb.cell hg).trans h.2.2.2.2⟩
set_option maxHeartbeats 1000000 in
theorem lexInts_any (n : Int) (h0 : -9223372036854775808 ≤ n) (h9 : n ≤ 9223372036854775807) (f : Nat) (hf : f < 256) (w : World) (hG : Glob w) :
    Calls Tryd.prog 5 #[.int .i64 n, .int .u8 (f : Int)] w fun e w' => e = .returned (.bool true) ∧ Below w.heap.size w w' := by
  obtain ⟨b, hb⟩ : ∃ b, UInt8.ofNat (97 + f % 26) = b := ⟨_, rfl⟩
  have hbn : (97 : Int) + (f : Int) % 26 = (b.toNat : Int) := by
    rw [← hb, ofNat_toNat (by omega)]
    omega
  have hlow : lowB b = true := by
    unfold lowB
    rw [decide_eq_true (show 97 ≤ b.toNat by omega), decide_eq_true (show b.toNat ≤ 122 by omega)]
    rfl
  have hlen := Go.Lib.itoa_length_le n (by omega) (by omega)
  have hd := digits_any n (by omega) (by omega)
  have h1 := lex_any (str (Go.Lib.itoa n)) (by rw [size_str]; omega)
  have h2 := lex_any (str (Go.Lib.itoa n ++ [b])) (by rw [size_str, List.length_append]; simp; omega)
  rw [lex_int n (by omega) (by omega)] at h1
  rw [lex_int_letter n b hlow] at h2
  have hcat := str_cat (Go.Lib.itoa n) [b]
  have hone : (str [b]).size = 1 := rfl
  have hpos : 1 ≤ (Go.Lib.itoa n).length := by
    obtain ⟨c, r, hcr, _, _⟩ := itoa_shape n
    rw [hcr]
    simp
  have hss : (str (Go.Lib.itoa n)).size ≤ 21 := by rw [size_str]; omega
  have hsp : 1 ≤ (str (Go.Lib.itoa n)).size := by rw [size_str]; omega
  have hz0 := str_cat [48] (Go.Lib.itoa n)
  obtain ⟨tl, htl⟩ : ∃ tl, (str (Go.Lib.itoa n)).extract 1 (str (Go.Lib.itoa n)).size = tl := ⟨_, rfl⟩
  have htls : tl.size ≤ 21 := by rw [← htl, ext_drop, size_str, List.length_drop, data_str]; omega
  have hz9 : str [45, 48] ++ tl = str (45 :: 48 :: (Go.Lib.itoa n).drop 1) := by
    rw [← htl, ext_drop, data_str, str_cat]
    rfl
  clear hb hlow
  by_cases hneg : n < 0
  all_goals
    first
    | (have h3 := lex_any (str (48 :: Go.Lib.itoa n)) (by rw [size_str]; simp; omega)
       rw [lex_int_zero n hneg] at h3
       have hz0 : (⟨#[48]⟩ : ByteArray) ++ str (Go.Lib.itoa n) = str (48 :: Go.Lib.itoa n) := hz0
       generalize str (48 :: Go.Lib.itoa n) = z at *)
    | (have h3 := lex_any (str (45 :: 48 :: (Go.Lib.itoa n).drop 1)) (by rw [size_str]; simp; omega)
       rw [lex_int_neg n hneg] at h3
       have hz0 : (⟨#[48]⟩ : ByteArray) ++ str (Go.Lib.itoa n) = str (48 :: Go.Lib.itoa n) := hz0
       have hz9 : (⟨#[45, 48]⟩ : ByteArray) ++ tl = str (45 :: 48 :: (Go.Lib.itoa n).drop 1) := hz9
       generalize str (48 :: Go.Lib.itoa n) = z0 at *
       generalize str (45 :: 48 :: (Go.Lib.itoa n).drop 1) = z at *)
    generalize str (Go.Lib.itoa n ++ [b]) = s2 at *
    generalize (Go.Lib.itoa n).length = len at *
    generalize str (Go.Lib.itoa n) = s at *
    go_enter Tryd.func5, Tryd.ntmps5
    go_wp2_with (first
      | (go_at_call 12; refine (num_any _ _).mono ?_; rintro e w5 ⟨rfl, rfl⟩)
      | (go_at_call 9; refine (h3 _ (((hG.below hb1).below hb2).below hb3)).mono ?_; rintro e w4 ⟨hE3, hb4⟩; obtain rfl : e = .returned (.tuple #[.slice none 0 0, .int .i64 0, .int .i64 3]) := hE3; obtain ⟨d1, d2, d3, d4, d5⟩ := keep5 (hb3.trans (hb4.mono hb3.size)) hg2 hcs.out; clear hcs)
      | (go_at_call 9; refine (h2 _ (((hG.below hb1).below hb2).alloc _)).mono ?_; rintro e w3 ⟨hE2, hb3'⟩; obtain rfl : e = .returned (.tuple #[.slice none 0 0, .int .i64 0, .int .i64 3]) := hE2; have hb3 := below_box0 hb3'; clear hb3')
      | (go_at_call 9; refine (h1 _ (hG.below hb1)).mono ?_; rintro e w2 ⟨hE1, hb2⟩; obtain ⟨v, rfl, hown⟩ := hE1; obtain ⟨g, cap, rfl, hg1, hg2⟩ := own_some hown (by simp); have hcs : Hid _ := tok_cells hown; have hcv := conv_own (w2.alloc (.cells #[.int .u8 (b.toNat : Int)] 5)) w2.heap.size _ 1 [b] (own_built w2 b _ rfl))
      | (go_at_call 16; refine (hd _).mono ?_; rintro e w1 ⟨rfl, hb1⟩))
    go_ret
    exact ⟨rfl, below_next (below_next (below_next hb1 (Nat.le_refl _) hb2) (Nat.le_refl _) hb3) (Nat.le_refl _) hb4⟩
end Go.Proofs.YtfgphcleilpelaaDoor
