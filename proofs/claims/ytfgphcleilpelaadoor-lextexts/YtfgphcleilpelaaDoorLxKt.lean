/-
  The walk of the law on texts and bytes.
-/
import Derived.Test.YtfgphcleilpelaaDoorLxU
import Derived.Test.YtfgphcleilpelaaDoorLxKi
namespace Go.Proofs.YtfgphcleilpelaaDoor
open Go.RowKit Num
set_option linter.unusedVariables false
set_option maxRecDepth 100000

def tb (x : UInt8) : UInt8 := UInt8.ofNat (32 + x.toNat % 95)
theorem tb_plain (x : UInt8) : plainB (tb x) = true ∧ (tb x).toNat = 32 + x.toNat % 95 := by
  have e : (tb x).toNat = 32 + x.toNat % 95 := ofNat_toNat (by omega)
  refine ⟨?_, e⟩
  unfold plainB
  rw [e, decide_eq_true (show 32 ≤ 32 + x.toNat % 95 by omega), decide_eq_true (show 32 + x.toNat % 95 ≤ 126 by omega)]
  rfl
set_option maxHeartbeats 400000 in
theorem lexTexts_any (ao : Option Addr) (cap : Nat) (b : List UInt8) (w : World) (hG : Glob w) (hb : BytesIn w ao b) :
    Calls Tryd.prog 6 #[.slice ao b.length cap] w fun e w' => e = .returned (.bool true) ∧ Below w.heap.size w w' := by
  by_cases h60 : b.length ≤ 60
  · have h60i : ¬ (60 : Int) < (b.length : Int) := by omega
    have hbl : (b.length : Int) ≤ 60 := by omega
    go_enter Tryd.func6, Tryd.ntmps6
    go_wp2
    go_loopw [3, 4] (fun v i wr => ∃ (k : Nat), k ≤ b.length ∧ i = .int .i64 (k : Int) ∧ wr.ownsRow w.heap.size 5 1 v k (cellsOf ((b.map tb).take k)) ∧ Below w.heap.size w wr) (fun _ i _ => b.length - (intOf i).toNat)
    case atStart => exact ⟨0, by omega, rfl, World.ownsRow_nil _ _ _ _, Below.refl _ _⟩
    case round =>
      obtain ⟨k, hk, rfl, hown, hbel⟩ := hrel
      have hsz := hbel.size
      by_cases hkb : k < b.length
      · obtain ⟨a, rfl, ha, hc⟩ := hb k hkb
        have hc := (hbel.cell (p := a.add k) (by rw [ablock]; exact ha)).trans hc
        have hc1 : wr.cell? (a.add (k * 1)) = some (.int .u8 (b[k].toNat : Int)) := by rw [Nat.mul_one]; exact hc
        have htb := (tb_plain b[k]).2
        have hbn : (32 : Int) + (b[k].toNat : Int) % 95 = ((tb b[k]).toNat : Int) := by omega
        have hmod : ((b[k].toNat : Nat) : Int).tmod 95 = (b[k].toNat : Int) % 95 := rfl
        have hlt := b[k].toNat_lt
        have hnx : (b.map tb).take (k + 1) = (b.map tb).take k ++ [tb b[k]] := by
          rw [List.take_add_one, List.getElem?_map, List.getElem?_eq_getElem hkb]
          rfl
        have hnx : Hid ((b.map tb).take (k + 1) = (b.map tb).take k ++ [tb b[k]]) := hnx
        clear htb
        go_wp2_with (first
          | (at_builtin; refine wpList_app _ rfl (.tmp 21) _ rfl w.heap.size _ k _ rfl (World.ownsRow.alloc hown _) _ _ _ [tb b[k]] rfl rfl (one_new _ _ _ _ (by first | rfl | omega)) (by omega) (by simp; omega) ?_; intro v4 w4 hown4 hbel4))
        rw [← hnx.out] at hown4
        go_roundw
        case rel => exact ⟨k + 1, by omega, by go_num, hown4, (hbel.alloc hsz _).trans hbel4⟩
        case measure => simp [intOf]; omega
      · obtain rfl : k = b.length := by omega
        rw [List.take_of_length_le (by simp)] at hown
        have hpl : ∀ c ∈ b.map tb, plainB c = true := by
          intro c hc
          obtain ⟨x, _, rfl⟩ := List.mem_map.1 hc
          exact (tb_plain x).1
        have htl : (b.map tb).length = b.length := by simp
        have hdl := dblL_len (b.map tb)
        have hhl := hexL_len b
        have hv1 := valueText_any (str (b.map tb)) (by rw [size_str]; omega)
        have hv2 := valueBytes_any (str b) (by rw [size_str]; omega)
        rw [data_str] at hv1 hv2
        have h1 := lex_any (str (39 :: (dblL (b.map tb) ++ [39]))) (by rw [size_str]; simp; omega)
        have h2 := lex_any (str (120 :: 39 :: (hexL b ++ [39]))) (by rw [size_str]; simp; omega)
        have hcT := conv_own wr _ _ _ _ hown
        have hcB : ∀ W, Below w.heap.size w W → (convert 34 9 (.slice ao b.length cap)).run Tryd.prog W = .ok (.string (str b)) W := fun W h => conv_in hb h cap
        by_cases h40 : b.length ≤ 40
        · have h40i : ¬ (40 : Int) < (b.length : Int) := by omega
          rw [lex_text _ hpl (by omega)] at h1
          rw [lex_bytes _ h40] at h2
          have hcT0 : Hid (∀ W, Below wr.heap.size wr W → (convert 34 9 u3).run Tryd.prog W = .ok (.string (str (b.map tb))) W) := fun W h => conv_own W _ _ _ _ (own_mem hown h)
          generalize (39 :: (dblL (b.map tb) ++ [39])).length = n1 at *
          generalize (120 :: 39 :: (hexL b ++ [39])).length = n2 at *
          generalize str (39 :: (dblL (b.map tb) ++ [39])) = s1 at *
          generalize str (120 :: 39 :: (hexL b ++ [39])) = s2 at *
          generalize str (b.map tb) = t1 at *
          have hcB : Hid (∀ W, Below w.heap.size w W → (convert 34 9 (.slice ao b.length cap)).run Tryd.prog W = .ok (.string (str b)) W) := hcB
          generalize str b = t2 at *
          clear hpl htl hdl hhl
          go_wp2_with (first
            | (go_at_call 9; refine (h2 _ ((((hG.below hbel).below hb1).below hb2).below hb3)).mono ?_; rintro e w7 ⟨hE2, hb4⟩; obtain ⟨v2, rfl, hown2⟩ := hE2; obtain ⟨g2, cp2, rfl, hg21, hg22⟩ := own_some hown2 (by simp); have hcs2 : Hid _ := tok_cells hown2)
            | (go_at_call 17; have hk2 := hb2; clear hk2; refine (hv2 _).mono ?_; rintro e w6 ⟨rfl, hb3⟩)
            | (go_at_call 9; refine (h1 _ ((hG.below hbel).below hb1)).mono ?_; rintro e w5 ⟨hE1, hb2⟩; obtain ⟨v1, rfl, hown1⟩ := hE1; obtain ⟨g1, cp1, rfl, hg11, hg12⟩ := own_some hown1 (by simp); have hcs1 : Hid _ := tok_cells hown1; have hcB2 := hcB.out w5 (below_next (below_next hbel (Nat.le_refl _) hb1) (Nat.le_refl _) hb2))
            | (go_at_call 17; refine (hv1 _).mono ?_; rintro e w4 ⟨rfl, hb1⟩))
          have hb24 : Below w5.heap.size w5 w7 := below_next hb3 (Nat.le_refl _) hb4
          have hw7 : Below w.heap.size w w7 := below_next (below_next (below_next hbel (Nat.le_refl _) hb1) (Nat.le_refl _) hb2) (Nat.le_refl _) hb24
          have hr7 : Below wr.heap.size wr w7 := below_next (below_next hb1 (Nat.le_refl _) hb2) (Nat.le_refl _) hb24
          obtain ⟨k1, k2, k3, k4, k5⟩ := keep5 hb24 hg12 hcs1.out
          obtain ⟨m1, m2, m3, m4, m5⟩ := hcs2.out
          have hg17 : g1 < w7.heap.size := Nat.lt_of_lt_of_le hg12 hb24.size
          have d2 : ∀ x : Low w7, x.wd.cell? ⟨g1, 2, none⟩ = some (.int .i64 5) := fun x => (x.cell hg17).trans k2
          have d3 : ∀ x : Low w7, x.wd.cell? ⟨g1, 3, none⟩ = some (.int .i64 0) := fun x => (x.cell hg17).trans k3
          have d4 : ∀ x : Low w7, x.wd.cell? ⟨g1, 4, none⟩ = some (.int .u64 0) := fun x => (x.cell hg17).trans k4
          have d5 : ∀ x : Low w7, x.wd.cell? ⟨g1, 5, none⟩ = some (.string t1) := fun x => (x.cell hg17).trans k5
          have e2 : ∀ x : Low w7, x.wd.cell? ⟨g2, 2, none⟩ = some (.int .i64 4) := fun x => (x.cell hg22).trans m2
          have e3 : ∀ x : Low w7, x.wd.cell? ⟨g2, 3, none⟩ = some (.int .i64 0) := fun x => (x.cell hg22).trans m3
          have e4 : ∀ x : Low w7, x.wd.cell? ⟨g2, 4, none⟩ = some (.int .u64 0) := fun x => (x.cell hg22).trans m4
          have e5 : ∀ x : Low w7, x.wd.cell? ⟨g2, 5, none⟩ = some (.string t2) := fun x => (x.cell hg22).trans m5
          have hcT7 : ∀ x : Low w7, (convert 34 9 u3).run Tryd.prog x.wd = .ok (.string t1) x.wd := fun x => hcT0.out x.wd (below_next hr7 (Nat.le_refl _) x.low)
          have hcB7 : ∀ x : Low w7, (convert 34 9 (.slice ao b.length cap)).run Tryd.prog x.wd = .ok (.string t2) x.wd := fun x => hcB.out x.wd (below_next hw7 (Nat.le_refl _) x.low)
          clear k1 k2 k3 k4 k5 m1 m2 m3 m4 m5 hcs1 hcs2 hown1 hown2 h1 h2 hv1 hv2 hcT hcB2
          refine wp_region_low (by kernel_rfl) (by kernel_rfl) fun hsome => ?_
          repeat (go_big_quiet_step (first
            | (go_at_call 12; refine Calls.low_of_same (num_any _ _))))
          refine wpQuiet_nil ?_
          rintro _ ⟨x, rfl⟩
          go_wp2
          go_ret
          exact ⟨rfl, below_next hw7 (Nat.le_refl _) x.low⟩
        · have h40i : (40 : Int) < (b.length : Int) := by omega
          rw [lex_text_long _ hpl (by omega)] at h1
          rw [lex_bytes_long _ h40] at h2
          generalize str (39 :: (dblL (b.map tb) ++ [39])) = s1 at *
          generalize str (120 :: 39 :: (hexL b ++ [39])) = s2 at *
          generalize str (b.map tb) = t1 at *
          have hcB : Hid (∀ W, Below w.heap.size w W → (convert 34 9 (.slice ao b.length cap)).run Tryd.prog W = .ok (.string (str b)) W) := hcB
          generalize str b = t2 at *
          clear hpl htl hdl hhl
          go_wp2_with (first
            | (go_at_call 12; refine (num_any _ _).mono ?_; rintro e w9 ⟨rfl, rfl⟩)
            | (go_at_call 13; refine (awake_any _ ((((hG.below hbel).below hb1).below hb2).below hb3 |>.below hb4)).mono ?_; rintro e w8 ⟨rfl, hb8⟩)
            | (go_at_call 9; refine (h2 _ ((((hG.below hbel).below hb1).below hb2).below hb3)).mono ?_; rintro e w7 ⟨hE2, hb4⟩; obtain rfl : e = .returned (.tuple #[.slice none 0 0, .int .i64 0, .int .i64 3]) := hE2)
            | (go_at_call 17; have hk2 := hb2; clear hk2; refine (hv2 _).mono ?_; rintro e w6 ⟨rfl, hb3⟩)
            | (go_at_call 9; refine (h1 _ ((hG.below hbel).below hb1)).mono ?_; rintro e w5 ⟨hE1, hb2⟩; obtain rfl : e = .returned (.tuple #[.slice none 0 0, .int .i64 0, .int .i64 3]) := hE1; have hcB2 := hcB.out w5 (below_next (below_next hbel (Nat.le_refl _) hb1) (Nat.le_refl _) hb2))
            | (go_at_call 17; refine (hv1 _).mono ?_; rintro e w4 ⟨rfl, hb1⟩))
          go_ret
          exact ⟨rfl, below_next (below_next (below_next (below_next (below_next hbel (Nat.le_refl _) hb1) (Nat.le_refl _) hb2) (Nat.le_refl _) hb3) (Nat.le_refl _) hb4) (Nat.le_refl _) hb8⟩
  · have h60i : (60 : Int) < (b.length : Int) := by omega
    go_enter Tryd.func6, Tryd.ntmps6
    go_wp2_with (first
      | (go_at_call 13; refine (awake_any _ hG).mono ?_; rintro e w3 ⟨rfl, hb3⟩))
    go_ret
    exact ⟨rfl, hb3⟩
end Go.Proofs.YtfgphcleilpelaaDoor
