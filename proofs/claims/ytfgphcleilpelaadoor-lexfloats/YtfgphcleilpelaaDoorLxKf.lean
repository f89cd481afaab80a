/-
  The walk of the law on floats.
-/
import Derived.Test.YtfgphcleilpelaaDoorLxS
import Derived.Test.YtfgphcleilpelaaDoorLxV
import Derived.Test.YtfgphcleilpelaaDoorLxJ
import Derived.Test.YtfgphcleilpelaaDoorLxKi
namespace Go.Proofs.YtfgphcleilpelaaDoor
open Go.RowKit Num
set_option linter.unusedVariables false
set_option maxRecDepth 100000

set_option maxHeartbeats 1000000 in
theorem lexFloats_any (f : Nat) (hf : f < 18446744073709551616) (w : World) (hG : Glob w) :
    Calls Tryd.prog 7 #[.int .u64 (f : Int)] w fun e w' => e = .returned (.bool true) ∧ Below w.heap.size w w' := by
  have hv := valueFloat_any f hf
  have hl : (hexL (be8 f)).length = 16 := by rw [hexL_len]; rfl
  have h1 := lex_any (str (102 :: 39 :: (hexL (be8 f) ++ [39]))) (by rw [size_str]; simp [hl])
  have h2 := lex_any (str ((102 :: 39 :: (hexL (be8 f) ++ [39])).take 17 ++ [39])) (by rw [size_str]; simp [hl])
  rw [lex_float f hf] at h1
  rw [lex_float_short f] at h2
  have hsz : (str (102 :: 39 :: (hexL (be8 f) ++ [39]))).size = 19 := by rw [size_str]; simp [hl]
  have hx := ext_take (str (102 :: 39 :: (hexL (be8 f) ++ [39]))) 17
  rw [data_str] at hx
  have hc := str_cat ((102 :: 39 :: (hexL (be8 f) ++ [39])).take 17) [39]
  have hy : (str ((102 :: 39 :: (hexL (be8 f) ++ [39])).take 17)).size ≤ 17 := by rw [size_str, List.length_take]; omega
  have hca := refCanon_any f hf
  generalize str ((102 :: 39 :: (hexL (be8 f) ++ [39])).take 17 ++ [39]) = z at *
  generalize str ((102 :: 39 :: (hexL (be8 f) ++ [39])).take 17) = y at *
  generalize str (102 :: 39 :: (hexL (be8 f) ++ [39])) = s at *
  generalize canon f = F at *
  replace hc : y ++ (⟨#[39]⟩ : ByteArray) = z := hc
  clear hl
  go_enter Tryd.func7, Tryd.ntmps7
  go_wp2_with (first
    | (go_at_call 9; refine (h2 _ ((hG.below hb1).below hb2)).mono ?_; rintro e w3 ⟨hE2, hb3⟩; obtain rfl : e = .returned (.tuple #[.slice none 0 0, .int .i64 0, .int .i64 3]) := hE2)
    | (go_at_call 9; refine (h1 _ (hG.below hb1)).mono ?_; rintro e w2 ⟨hE1, hb2⟩; obtain ⟨v, rfl, hown⟩ := hE1; obtain ⟨g, cap, rfl, hg1, hg2⟩ := own_some hown (by simp); have hcs : Hid _ := tok_cells hown)
    | (go_at_call 17; refine (hv _).mono ?_; rintro e w1 ⟨rfl, hb1⟩))
  have hG3 : Glob w3 := ((hG.below hb1).below hb2).below hb3
  obtain ⟨k1, k2, k3, k4, k5⟩ := keep5 hb3 hg2 hcs.out
  have hg3 : g < w3.heap.size := Nat.lt_of_lt_of_le hg2 hb3.size
  have d2 : ∀ x : Low w3, x.wd.cell? ⟨g, 2, none⟩ = some (.int .i64 3) := fun x => (x.cell hg3).trans k2
  have d3 : ∀ x : Low w3, x.wd.cell? ⟨g, 3, none⟩ = some (.int .i64 0) := fun x => (x.cell hg3).trans k3
  have d4 : ∀ x : Low w3, x.wd.cell? ⟨g, 4, none⟩ = some (.int .u64 (F : Int)) := fun x => (x.cell hg3).trans k4
  have d5 : ∀ x : Low w3, x.wd.cell? ⟨g, 5, none⟩ = some (.string ⟨#[]⟩) := fun x => (x.cell hg3).trans k5
  clear k1 k2 k3 k4 k5 hcs hown h1 h2 hv
  refine wp_region_low (by kernel_rfl) (by kernel_rfl) fun hsome => ?_
  repeat (go_big_quiet_step (first
    | (go_at_call 12; refine Calls.low_of_same (num_any _ _))
    | (go_at_call 18; refine Calls.low_of_same (hca _))
    | (go_at_call 13; refine Calls.low_of (awake_any _ (hG3.below (Low.low _))))))
  refine wpQuiet_nil ?_
  rintro _ ⟨x, rfl⟩
  go_wp2
  go_ret
  exact ⟨rfl, below_next (below_next (below_next hb1 (Nat.le_refl _) hb2) (Nat.le_refl _) hb3) (Nat.le_refl _) x.low⟩
end Go.Proofs.YtfgphcleilpelaaDoor
