/-
  Contracts: the document's texts of texts; read again.
-/
import Derived.Test.YtfgphcleilpelaaDoorLxV
import Derived.Test.YtfgphcleilpelaaDoorLxQt
import Derived.Test.YtfgphcleilpelaaDoorLxJ
namespace Go.Proofs.YtfgphcleilpelaaDoor
open Go.RowKit Num
set_option linter.unusedVariables false
set_option maxRecDepth 100000

def dblL (l : List UInt8) : List UInt8 := l.flatMap fun c => if c.toNat = 39 then [c, 39] else [c]
theorem dblL_cons (c : UInt8) (l : List UInt8) : dblL (c :: l) = (if c.toNat = 39 then [c, 39] else [c]) ++ dblL l := rfl
theorem dblL_snoc (l : List UInt8) (c : UInt8) : dblL (l ++ [c]) = dblL l ++ (if c.toNat = 39 then [c, 39] else [c]) := by simp [dblL]
theorem dblL_len (l : List UInt8) : (dblL l).length ≤ 2 * l.length := by
  induction l with
  | nil => simp [dblL]
  | cons c l ih =>
    rw [dblL_cons, List.length_append, List.length_cons]
    split <;> simp <;> omega
theorem textG_dbl : ∀ t : List UInt8, (∀ c ∈ t, plainB c = true) → textG (dblL t ++ [39]) = some (t, (dblL t).length + 1)
  | [], _ => rfl
  | c :: t, h => by
    have ih := textG_dbl t fun x hx => h x (by simp [hx])
    rw [dblL_cons]
    by_cases hc : c.toNat = 39
    · rw [if_pos hc]
      show textG (c :: 39 :: (dblL t ++ [39])) = _
      rw [textG_cons, if_pos hc]
      simp only
      rw [if_pos (show UInt8.toNat 39 = 39 from rfl), ih]
      simp only [Option.map_some]
      congr 2
    · rw [if_neg hc]
      show textG (c :: (dblL t ++ [39])) = _
      rw [textG_cons, if_neg hc, if_pos (h c (by simp)), ih]
      simp only [Option.map_some]
      congr 2
theorem tok_text (d : List UInt8) : tokL (39 :: d) = textT d := by
  rw [tokL, if_neg (fun h => absurd h.1 (by decide)), if_neg (fun h => absurd h.1 (by decide)), if_neg (by decide), if_neg (by decide), if_pos (show UInt8.toNat 39 = 39 from rfl)]
theorem lex_text (t : List UInt8) (ht : ∀ c ∈ t, plainB c = true) (hl : t.length ≤ 40) : lexAt (str (39 :: (dblL t ++ [39]))) 0 = (some [⟨3, str (39 :: (dblL t ++ [39])), ⟨5, 0, 0, str t⟩, 0⟩, ⟨0, ⟨#[]⟩, noV, (39 :: (dblL t ++ [39])).length⟩], 0) := by
  refine lex_one (l := 39 :: (dblL t ++ [39])) (by simp) rfl ?_
  rw [tok_text, textT, textG_dbl t ht]
  simp only
  rw [if_pos hl]
  simp
theorem lex_text_long (t : List UInt8) (ht : ∀ c ∈ t, plainB c = true) (hl : ¬ t.length ≤ 40) : lexAt (str (39 :: (dblL t ++ [39]))) 0 = (none, 0) := by
  refine lex_none (by simp) rfl ?_
  rw [tok_text, textT, textG_dbl t ht]
  simp only
  rw [if_neg hl]
theorem quote_own (w : World) : (w.alloc (.cells #[.int .u8 39] 5)).ownsRow w.heap.size 5 1 (.slice (some ⟨w.heap.size, 0, none⟩) 1 1) 1 (cellsOf [39]) := own_built w 39 39 rfl
set_option maxHeartbeats 1000000 in
theorem valueText_any (b : ByteArray) (hb : b.size ≤ 60) (w : World) :
    Calls Tryd.prog 17 #[.agg #[.int .i64 5, .int .i64 0, .int .u64 0, .string b]] w fun e w' => e = .returned (.string (str (39 :: (dblL b.data.toList ++ [39])))) ∧ Below w.heap.size w w' := by
  have hbm : (b.size : Int) ≤ 60 := by omega
  go_enter Tryd.func17, Tryd.ntmps17
  go_wp2
  go_loopw [3, 4] (fun v i wr => ∃ (k : Nat), k ≤ b.size ∧ i = .int .i64 (k : Int) ∧ wr.ownsRow (w.heap.size + 1) 5 1 v (39 :: dblL (b.data.toList.take k)).length (cellsOf (39 :: dblL (b.data.toList.take k))) ∧ Below (w.alloc (.cells #[.int .i64 5, .int .i64 0, .int .u64 0, .string b] 37)).heap.size (w.alloc (.cells #[.int .i64 5, .int .i64 0, .int .u64 0, .string b] 37)) wr) (fun _ i _ => b.size - (intOf i).toNat)
  case atStart =>
    refine ⟨0, by omega, rfl, ?_, (Below.refl _ _).alloc (Nat.le_refl _) _⟩
    have := quote_own (w.alloc (.cells #[.int .i64 5, .int .i64 0, .int .u64 0, .string b] 37))
    rw [World.size_alloc] at this
    exact this
  case round =>
    obtain ⟨k, hk, rfl, hown, hbel⟩ := hrel
    have hsz : w.heap.size + 1 ≤ wr.heap.size := by have := hbel.size; simpa using this
    have hbx := heap_next (heap_alloc_new w (.cells #[.int .i64 5, .int .i64 0, .int .u64 0, .string b] 37)) hbel
    obtain ⟨c0, c1, c2, c3⟩ := box_cells4 hbx
    have hlen := dblL_len (b.data.toList.take k)
    have hd : b.data.toList.length = b.size := rfl
    rw [List.length_take, hd] at hlen
    have hlc : (39 :: dblL (b.data.toList.take k)).length ≤ 122 := by
      rw [List.length_cons]
      omega
    by_cases hks : k < b.size
    · have htk := take_snoc b k hks
      have hnx := dblL_snoc (b.data.toList.take k) b[k]
      rw [← htk] at hnx
      have he := int_eq b[k] 39
      have he : (((b[k].toNat : Nat) : Int) == 39) = decide (b[k].toNat = 39) := he
      by_cases h39 : b[k].toNat = 39
      · rw [if_pos h39, show b[k] = 39 from UInt8.toNat_inj.1 h39] at hnx
        rw [decide_eq_true h39] at he
        have hnx : Hid (39 :: dblL (b.data.toList.take (k + 1)) = ((39 :: dblL (b.data.toList.take k)) ++ [39]) ++ [39]) := by
          unfold Hid
          rw [hnx]
          simp
        generalize 39 :: dblL (b.data.toList.take k) = D at *
        have hz39 : Hid (b[k].toNat = 39) := h39
        clear h39 htk hlen
        go_wp2_with (first
          | (at_builtin; refine wpList_app _ rfl (.tmp 55) _ rfl (w.heap.size + 1) _ (D.length + 1) _ rfl (World.ownsRow.alloc hown4 _) _ _ _ [39] rfl rfl (one_new _ _ _ _ rfl) (by omega) (by have := hbel4.size; simp at this; simp; omega) ?_; intro v5 w5 hown5 hbel5)
          | (at_builtin; refine wpList_app _ rfl (.tmp 43) _ rfl (w.heap.size + 1) _ D.length _ rfl (World.ownsRow.alloc hown _) _ _ _ [39] rfl rfl (one_new _ _ _ _ (by rw [hz39.out]; rfl)) (by omega) (by simp; omega) ?_; intro v4 w4 hown4 hbel4; have hbx4 := (hbel4.block w.heap.size (by omega)).trans (heap_alloc hbx _); obtain ⟨d0, d1, d2, d3⟩ := box_cells4 hbx4))
        rw [show (D ++ [39] ++ [39] : List UInt8) = 39 :: dblL (b.data.toList.take (k + 1)) from hnx.out.symm] at hown5
        go_roundw
        case rel => exact ⟨k + 1, by omega, by go_num, by rw [hnx.out] at hown5 ⊢; simpa using hown5, below_up (below_up hbel hbel4) hbel5⟩
        case measure => simp [intOf]; omega
      · rw [if_neg h39] at hnx
        rw [decide_eq_false h39] at he
        have hnx : Hid (39 :: dblL (b.data.toList.take (k + 1)) = (39 :: dblL (b.data.toList.take k)) ++ [b[k]]) := by
          unfold Hid
          rw [hnx]
          simp
        generalize 39 :: dblL (b.data.toList.take k) = D at *
        clear h39 htk hlen
        go_wp2_with (first
          | (at_builtin; refine wpList_app _ rfl (.tmp 43) _ rfl (w.heap.size + 1) _ D.length _ rfl (World.ownsRow.alloc hown _) _ _ _ [b[k]] rfl rfl (one_new _ _ _ _ rfl) (by omega) (by simp; omega) ?_; intro v4 w4 hown4 hbel4; obtain ⟨d0, d1, d2, d3⟩ := box_cells4 ((hbel4.block w.heap.size (by omega)).trans (heap_alloc hbx _))))
        rw [show (D ++ [b[k]] : List UInt8) = 39 :: dblL (b.data.toList.take (k + 1)) from hnx.out.symm] at hown4
        go_roundw
        case rel => exact ⟨k + 1, by omega, by go_num, by rw [hnx.out] at hown4 ⊢; simpa using hown4, below_up hbel hbel4⟩
        case measure => simp [intOf]; omega
    · obtain rfl : k = b.size := by omega
      rw [List.take_of_length_le (by omega)] at hown hlc
      generalize hDD : 39 :: dblL b.data.toList = D at *
      have hfin : Hid (39 :: (dblL b.data.toList ++ [39]) = D ++ [39]) := by
        unfold Hid
        rw [← hDD]
        rfl
      clear hDD hlen
      go_wp2_with (first
        | (at_builtin; refine wpList_app _ rfl (.tmp 58) _ rfl (w.heap.size + 1) _ D.length _ rfl (World.ownsRow.alloc hown _) _ _ _ [39] rfl rfl (one_new _ _ _ _ rfl) (by omega) (by simp; omega) ?_; intro v4 w4 hown4 hbel4; have hconv := conv_own _ _ _ _ _ hown4))
      go_ret
      exact ⟨by rw [hfin.out]; rfl, below_b0 (below_up hbel hbel4)⟩
end Go.Proofs.YtfgphcleilpelaaDoor
