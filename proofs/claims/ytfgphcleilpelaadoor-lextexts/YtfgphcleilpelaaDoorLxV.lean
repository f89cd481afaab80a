/-
  Contracts: the document's texts of values: floats, bytes.
-/
import Derived.Test.YtfgphcleilpelaaDoorLxH
namespace Go.Proofs.YtfgphcleilpelaaDoor
open Go.RowKit Num
set_option linter.unusedVariables false
set_option maxRecDepth 100000

theorem refEight_any (f : Nat) (hf : f < 18446744073709551616) (n : Int) (hn : IntKind.i64.wrap (f : Int) = n) (w : World) :
    Calls Tryd.prog 24 #[.int .i64 n] w fun e w' => e = .returned (.string (str (be8 f))) ∧ Below w.heap.size w w' := by
  have hu : IntKind.u64.wrap n = (f : Int) := by
    rw [← hn, IntKind.wrap_u64, IntKind.wrap_i64]
    omega
  have h := eight_any f
  clear hn
  go_enter Tryd.func24, Tryd.ntmps24
  go_wp2_with (go_at_call 40; refine (h _).mono ?_; rintro e w1 ⟨rfl, hb1⟩)
  go_ret
  exact ⟨rfl, hb1⟩
theorem below_b0 {w w' : World} {o : Obj} (h : Below (w.alloc o).heap.size (w.alloc o) w') : Below w.heap.size w w' :=
  ((Below.refl _ _).alloc (Nat.le_refl _) o).trans (h.mono (by simp))
theorem valueFloat_any (f : Nat) (hf : f < 18446744073709551616) (w : World) :
    Calls Tryd.prog 17 #[.agg #[.int .i64 3, .int .i64 0, .int .u64 (f : Int), .string ⟨#[]⟩]] w fun e w' => e = .returned (.string (str (102 :: 39 :: (hexL (be8 f) ++ [39])))) ∧ Below w.heap.size w w' := by
  obtain ⟨n, hn⟩ : ∃ n, IntKind.i64.wrap (f : Int) = n := ⟨_, rfl⟩
  have h8 := refEight_any f hf n hn
  have hlen : (be8 f).length = 8 := rfl
  have hh := hex_any (str (be8 f)) (by rw [size_str, hlen]; omega)
  rw [data_str] at hh
  have hhl := hexL_len (be8 f)
  rw [hlen] at hhl
  have c1 := str_cat [102, 39] (hexL (be8 f))
  have c2 := str_cat ([102, 39] ++ hexL (be8 f)) [39]
  have s0 : (str (hexL (be8 f))).size = 16 := by rw [size_str, hhl]
  have s1 : (str ([102, 39] ++ hexL (be8 f))).size = 18 := by rw [size_str, List.length_append, hhl]; rfl
  have e : [102, 39] ++ hexL (be8 f) ++ [39] = 102 :: 39 :: (hexL (be8 f) ++ [39]) := rfl
  rw [e] at c2
  generalize str (102 :: 39 :: (hexL (be8 f) ++ [39])) = z at *
  generalize str ([102, 39] ++ hexL (be8 f)) = y at *
  generalize str (hexL (be8 f)) = x at *
  generalize str (be8 f) = b at *
  replace c1 : (⟨#[102, 39]⟩ : ByteArray) ++ x = y := c1
  replace c2 : y ++ (⟨#[39]⟩ : ByteArray) = z := c2
  clear e hhl hlen
  go_enter Tryd.func17, Tryd.ntmps17
  go_wp2_with (first
    | (go_at_call 24; refine (h8 _).mono ?_; rintro e w1 ⟨rfl, hb1⟩)
    | (go_at_call 23; refine (hh _).mono ?_; rintro e w2 ⟨rfl, hb2⟩))
  go_ret
  exact ⟨rfl, below_next (below_b0 hb1) (Nat.le_refl _) hb2⟩
theorem valueBytes_any (b : ByteArray) (hb : b.size ≤ 60) (w : World) :
    Calls Tryd.prog 17 #[.agg #[.int .i64 4, .int .i64 0, .int .u64 0, .string b]] w fun e w' => e = .returned (.string (str (120 :: 39 :: (hexL b.data.toList ++ [39])))) ∧ Below w.heap.size w w' := by
  have hlen : b.data.toList.length = b.size := rfl
  have hh := hex_any b (by omega)
  have hhl := hexL_len b.data.toList
  rw [hlen] at hhl
  have c1 := str_cat [120, 39] (hexL b.data.toList)
  have c2 := str_cat ([120, 39] ++ hexL b.data.toList) [39]
  have s0 : (str (hexL b.data.toList)).size ≤ 120 := by rw [size_str, hhl]; omega
  have s1 : (str ([120, 39] ++ hexL b.data.toList)).size ≤ 122 := by rw [size_str, List.length_append, hhl]; simp; omega
  have e : [120, 39] ++ hexL b.data.toList ++ [39] = 120 :: 39 :: (hexL b.data.toList ++ [39]) := rfl
  rw [e] at c2
  generalize str (120 :: 39 :: (hexL b.data.toList ++ [39])) = z at *
  generalize str ([120, 39] ++ hexL b.data.toList) = y at *
  generalize str (hexL b.data.toList) = x at *
  replace c1 : (⟨#[120, 39]⟩ : ByteArray) ++ x = y := c1
  replace c2 : y ++ (⟨#[39]⟩ : ByteArray) = z := c2
  clear e hhl hlen
  go_enter Tryd.func17, Tryd.ntmps17
  go_wp2_with (first
    | (go_at_call 23; refine (hh _).mono ?_; rintro e w2 ⟨rfl, hb2⟩))
  go_ret
  exact ⟨rfl, below_b0 hb2⟩
end Go.Proofs.YtfgphcleilpelaaDoor
