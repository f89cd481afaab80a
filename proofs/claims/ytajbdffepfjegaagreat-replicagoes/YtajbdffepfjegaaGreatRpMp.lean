/-
  Contracts: slices.Sort of a few numbers (insertion), Sorted.
-/
import Derived.Test.YtajbdffepfjegaaGreatRpMo
import Derived.Test.YtajbdffepfjegaaGreatRpG13
import Derived.LoopN
import Derived.Deep.QuietTactic
import Derived.BigRegion
namespace Go.Proofs.YtajbdffepfjegaaGreat
open Go.RowKit Num
open scoped Classical
set_option linter.unusedVariables false
set_option maxRecDepth 100000

/-- The first k are in order. -/
def Num.SortTo (l : List Int) (k : Nat) (s : List Int) : Prop := s.Perm l ∧ (s.take k).Pairwise (· ≤ ·)
/-- What stands at j goes down to its place among the first k. -/
def Num.InsAt (l : List Int) (k : Nat) (s : List Int) (j : Nat) : Prop := ∃ (pre : List Int) (x : Int) (post rest : List Int), s = pre ++ x :: (post ++ rest) ∧ pre.length = j ∧ pre.length + post.length = k ∧ (pre ++ post).Pairwise (· ≤ ·) ∧ (∀ y ∈ post, x ≤ y) ∧ s.Perm l
theorem ins_start {l s : List Int} {k : Nat} (h : SortTo l k s) (hk : k < s.length) : InsAt l k s k := by
  refine ⟨s.take k, s[k], [], s.drop (k + 1), ?_, by rw [List.length_take]; omega, by rw [List.length_take]; simp; omega, by rw [List.append_nil]; exact h.2, by simp, h.1⟩
  rw [List.nil_append, ← List.drop_eq_getElem_cons hk, List.take_append_drop]
theorem ins_swap {l s : List Int} {k j : Nat} {x y : Int} (h : InsAt l k s (j + 1)) (hx : s[j + 1]? = some x) (hy : s[j]? = some y) (hlt : x < y) : InsAt l k ((s.set (j + 1) y).set j x) j := by
  obtain ⟨pre, x', post, rest, rfl, h1, h2, h3, h4, h5⟩ := h
  rw [List.getElem?_append_right (by omega), h1, Nat.sub_self] at hx
  simp at hx
  subst hx
  obtain ⟨p, z, rfl⟩ : ∃ p z, pre = p ++ [z] := ⟨pre.dropLast, pre.getLast (fun e => by rw [e] at h1; simp at h1), (List.dropLast_concat_getLast _).symm⟩
  simp at h1
  subst h1
  have hz : z = y := by
    rw [List.append_assoc, List.getElem?_append_right (Nat.le_refl _), Nat.sub_self] at hy
    simpa using hy
  subst hz
  have e1 : ((p ++ [z] ++ x' :: (post ++ rest)).set (p.length + 1) z).set p.length x' = p ++ x' :: (z :: post ++ rest) := by
    rw [List.append_assoc, List.set_append_right _ _ (by omega), Nat.add_sub_cancel_left, List.set_append_right _ _ (Nat.le_refl _), Nat.sub_self]
    rfl
  refine ⟨p, x', z :: post, rest, e1, rfl, by simp at h2 ⊢; omega, by simpa using h3, ?_, ?_⟩
  · intro q hq
    rcases List.mem_cons.1 hq with rfl | hq
    · omega
    · exact h4 q hq
  · rw [e1]
    refine List.Perm.trans ?_ h5
    rw [List.append_assoc]
    exact List.Perm.append_left _ (List.Perm.swap _ _ _)
theorem ins_stop {l s : List Int} {k j : Nat} (h : InsAt l k s j) (hst : j = 0 ∨ ∃ i x y, j = i + 1 ∧ s[j]? = some x ∧ s[i]? = some y ∧ ¬ x < y) : SortTo l (k + 1) s := by
  obtain ⟨pre, x, post, rest, rfl, h1, h2, h3, h4, h5⟩ := h
  refine ⟨h5, ?_⟩
  have e : (pre ++ x :: (post ++ rest)).take (k + 1) = pre ++ x :: post := by
    rw [← List.cons_append, ← List.append_assoc, List.take_append_of_le_length (by simp; omega), List.take_of_length_le (by simp; omega)]
  rw [e]
  rw [List.pairwise_append] at h3
  obtain ⟨p1, p2, p3⟩ := h3
  have hpx : ∀ q ∈ pre, q ≤ x := by
    rcases hst with rfl | ⟨i, x', y, rfl, hx, hy, hn⟩
    · have : pre = [] := List.eq_nil_of_length_eq_zero h1
      subst this
      intro q hq
      cases hq
    · rw [List.getElem?_append_right (by omega), h1, Nat.sub_self] at hx
      simp at hx
      subst hx
      obtain ⟨p, z, rfl⟩ : ∃ p z, pre = p ++ [z] := ⟨pre.dropLast, pre.getLast (fun e => by rw [e] at h1; simp at h1), (List.dropLast_concat_getLast _).symm⟩
      simp at h1
      subst h1
      have hz : z = y := by
        rw [List.append_assoc, List.getElem?_append_right (Nat.le_refl _), Nat.sub_self] at hy
        simpa using hy
      subst hz
      intro q hq
      rcases List.mem_append.1 hq with hq | hq
      · rw [List.pairwise_append] at p1
        have := p1.2.2 q hq z (List.mem_singleton.2 rfl)
        omega
      · rw [List.mem_singleton.1 hq]
        omega
  rw [List.pairwise_append]
  refine ⟨p1, List.pairwise_cons.2 ⟨h4, p2⟩, fun a ha b hb => ?_⟩
  rcases List.mem_cons.1 hb with rfl | hb
  · exact hpx a ha
  · exact p3 a ha b hb
theorem Num.InsAt.len {l s : List Int} {k j : Nat} (h : InsAt l k s j) : s.length = l.length ∧ j ≤ k ∧ k < s.length := by
  obtain ⟨pre, x, post, rest, rfl, h1, h2, h3, h4, h5⟩ := h
  refine ⟨h5.length_eq, by omega, by simp; omega⟩
theorem own_num {w : World} {B e n g c i : Nat} {xs : List Value} {u : Value} (h : w.ownsRow B e 1 (.slice (some ⟨g, 0, none⟩) n c) n xs) (hu : xs[i]? = some u) : w.cell? ⟨g, i, none⟩ = some u := by
  have h1 := h.cells (g := g) rfl i u hu
  by_cases hi : i = 0
  · subst hi
    simpa [Addr.add] using h1
  · simpa [Addr.add, hi] using h1
theorem own_drewN {w : World} {B e sz n : Nat} {v : Value} {xs : List Value} (h : w.ownsRow B e sz v n xs) (k : Nat) : (w.drewN k).ownsRow B e sz v n xs := by
  induction k generalizing w with
  | zero => exact h
  | succ k ih => exact ih h.drew
theorem own_free {w : World} {B e sz n g c : Nat} {xs : List Value} (h : w.ownsRow B e sz (.slice (some ⟨g, 0, none⟩) n c) n xs) (q : Nat) : w.frozen? ⟨g, q, none⟩ = false := by
  rcases h.2 with ⟨hv, _⟩ | ⟨g', cap, cur, hv, _, hg, _⟩
  · cases hv
  · cases hv
    simp [World.frozen?, hg]
set_option maxRecDepth 100000 in
set_option maxHeartbeats 1000000 in
theorem insertion_any (B g cap : Nat) (l : List Int) (h5 : 1 ≤ l.length ∧ l.length ≤ 12) (w : World) (hB : B ≤ w.heap.size) (hown : w.ownsRow B 3 1 (.slice (some ⟨g, 0, none⟩) l.length cap) l.length (inCells l)) :
    Calls Tryz.prog 114 #[.slice (some ⟨g, 0, none⟩) l.length cap, .int .i64 0, .int .i64 (l.length : Int)] w fun e w' => e = .returned (.tuple #[]) ∧ ∃ s : List Int, s.Perm l ∧ s.Pairwise (· ≤ ·) ∧ w'.ownsRow B 3 1 (.slice (some ⟨g, 0, none⟩) l.length cap) l.length (inCells s) ∧ Below B w w' := by
  have hless := fun a b W => less_any a b W
  have hgB := (hown.lt g rfl).1
  obtain ⟨N, hN⟩ : ∃ N, l.length = N := ⟨_, rfl⟩
  have HL : Hid (l.length = N) := hN
  rw [hN] at h5 hown ⊢
  clear hN
  go_enter Tryz.func114, Tryz.ntmps114
  go_wp2
  go_loopw [6] (fun i wr => ∃ (k : Nat) (s : List Int), 1 ≤ k ∧ k ≤ N ∧ i = .int .i64 (k : Int) ∧ Hid (SortTo l k s) ∧ wr.ownsRow B 3 1 (.slice (some ⟨g, 0, none⟩) N cap) N (inCells s) ∧ Below B w wr) (fun i _ => N - (intOf i).toNat)
  case atStart =>
    refine ⟨1, l, Nat.le_refl _, h5.1, rfl, ⟨List.Perm.refl _, ?_⟩, hown, Below.refl _ _⟩
    match l with
    | [] => simp
    | a :: l => simp
  case round =>
    obtain ⟨k, s, h1, hk, rfl, HS, hrow, hbel⟩ := hrel
    have hsl : s.length = N := HS.out.1.length_eq.trans HL.out
    by_cases hkn : k < N
    · have HI : Hid (InsAt l k s k) := ins_start HS.out (by omega)
      have i1 : (k : Int) < (N : Int) := by omega
      clear HS hsl
      go_wp2
      rename World => W0
      go_loopw [7] (fun j wr => ∃ (i : Nat) (s : List Int), i ≤ k ∧ j = .int .i64 (i : Int) ∧ Hid (InsAt l k s i) ∧ wr.ownsRow B 3 1 (.slice (some ⟨g, 0, none⟩) N cap) N (inCells s) ∧ Below B w wr) (fun j _ => (intOf j).toNat)
      case atStart => exact ⟨k, s, Nat.le_refl _, rfl, HI, hrow, hbel⟩
      case round =>
        clear hrow hbel HI
        obtain ⟨i, s, hik, rfl, HI, hrow, hbel⟩ := hrel
        obtain ⟨hsl, _, _⟩ := HI.out.len
        have hsN := hsl.trans HL.out
        clear hsl
        by_cases hi0 : i = 0
        · subst hi0
          have HS : Hid (SortTo l (k + 1) s) := ins_stop HI.out (.inl rfl)
          clear HI
          go_wp2_with fail
          go_quiet (first | (go_at_call 104; refine Calls.quiet_of_same (hless _ _ _)))
          go_wp2
          go_roundw
          case rel => exact ⟨k + 1, s, by omega, by omega, by go_num, HS, own_drewN hrow _, below_drewN hbel _⟩
          case measure => simp [intOf]; omega
        · obtain ⟨j, hj⟩ : ∃ j, i = j + 1 := ⟨i - 1, by omega⟩
          obtain ⟨x, hx⟩ : ∃ x, s[i]? = some x := ⟨_, List.getElem?_eq_getElem (by omega)⟩
          obtain ⟨y, hy⟩ : ∃ y, s[j]? = some y := ⟨_, List.getElem?_eq_getElem (by omega)⟩
          have cx : wr.cell? ⟨g, i, none⟩ = some (.int .i64 x) := own_num hrow (by simp [inCells, hx])
          have cy : wr.cell? ⟨g, j, none⟩ = some (.int .i64 y) := own_num hrow (by simp [inCells, hy])
          have fx : wr.frozen? ⟨g, i, none⟩ = false := own_free hrow i
          have fy : wr.frozen? ⟨g, j, none⟩ = false := own_free hrow j
          have i2 : (i : Int) - 1 = (j : Int) := by omega
          have i3 : IntKind.i64.wrap ((i : Int) - 1) = (j : Int) := by rw [IntKind.wrap_i64]; omega
          have i4 : (0 : Int) < (i : Int) := by omega
          have i5 : (i : Int) < (N : Int) := by omega
          have i6 : (j : Int) < (N : Int) := by omega
          have i8 : i < N := by omega
          have i10 : decide (0 < i) = true := decide_eq_true (by omega)
          have i9 : j < N := by omega
          have hne : (⟨g, i, none⟩ : Addr) ≠ ⟨g, j, none⟩ := fun e => by cases e; omega
          have HJ : Hid (i = j + 1) := hj
          clear hj hi0
          have HX : Hid (s[i]? = some x) := hx
          have HY : Hid (s[j]? = some y) := hy
          clear hx hy
          by_cases hlt : x < y
          · have hd : decide (x < y) = true := decide_eq_true hlt
            have HI2 : Hid (InsAt l k ((s.set i y).set j x) j) := by
              have h1 := HI.out
              have h2 := HX.out
              rw [HJ.out] at h1 h2 ⊢
              exact ins_swap h1 h2 HY.out hlt
            clear HI
            go_wp2_with fail
            go_quiet (first | (go_at_call 104; refine Calls.quiet_of_same (hless _ _ _)))
            rename_i nq
            have hrow2 := own_drewN hrow nq
            have hbel2 := below_drewN hbel nq
            have cx2 : (wr.drewN nq).cell? ⟨g, i, none⟩ = some (.int .i64 x) := cx
            have cy2 : (wr.drewN nq).cell? ⟨g, j, none⟩ = some (.int .i64 y) := cy
            have fx2 : (wr.drewN nq).frozen? ⟨g, i, none⟩ = false := fx
            have fy2 : (wr.drewN nq).frozen? ⟨g, j, none⟩ = false := fy
            clear hrow hbel cx cy fx fy
            generalize wr.drewN nq = V at *
            have hg1 := (hrow2.stored i (.int .i64 y)).1
            rw [inCells_set] at hg1
            have hg2 := (hg1.stored j (.int .i64 x)).1
            rw [inCells_set] at hg2
            have hb3 := ((hbel2.setCell (p := ⟨g, i, none⟩) hgB (.int .i64 y)).setCell (p := ⟨g, j, none⟩) hgB (.int .i64 x)).drew
            have hg3 := hg2.drew
            clear hg1 hg2 hrow2 hbel2
            go_wp2_with fail
            go_region
            clear cx2 cy2 fx2 fy2
            generalize ((V.setCell ⟨g, i, none⟩ (.int .i64 y)).setCell ⟨g, j, none⟩ (.int .i64 x)).drew = V2 at *
            go_wp2
            go_roundw
            case rel => exact ⟨j, _, by omega, by go_num, HI2, hg3, hb3⟩
            case measure => simp [intOf]; omega
          · have hd : decide (x < y) = false := decide_eq_false hlt
            have HS : Hid (SortTo l (k + 1) s) := ins_stop HI.out (.inr ⟨j, x, y, HJ.out, HX.out, HY.out, hlt⟩)
            clear HI
            go_wp2_with fail
            go_quiet (first | (go_at_call 104; refine Calls.quiet_of_same (hless _ _ _)))
            go_wp2
            go_roundw
            case rel => exact ⟨k + 1, s, by omega, by omega, by go_num, HS, own_drewN hrow _, below_drewN hbel _⟩
            case measure => simp [intOf]; omega
    · obtain rfl : k = N := by omega
      have HS2 := HS.out.2
      rw [List.take_of_length_le (by omega)] at HS2
      go_wp2
      go_end0
      exact ⟨rfl, s, HS.out.1, HS2, hrow, hbel⟩
set_option maxRecDepth 100000 in
set_option maxHeartbeats 1000000 in
theorem pdq_any (B g cap : Nat) (l : List Int) (h5 : 1 ≤ l.length ∧ l.length ≤ 12) (lim : Int) (w : World) (hB : B ≤ w.heap.size) (hown : w.ownsRow B 3 1 (.slice (some ⟨g, 0, none⟩) l.length cap) l.length (inCells l)) :
    Calls Tryz.prog 110 #[.slice (some ⟨g, 0, none⟩) l.length cap, .int .i64 0, .int .i64 (l.length : Int), .int .i64 lim] w fun e w' => e = .returned (.tuple #[]) ∧ ∃ s : List Int, s.Perm l ∧ s.Pairwise (· ≤ ·) ∧ w'.ownsRow B 3 1 (.slice (some ⟨g, 0, none⟩) l.length cap) l.length (inCells s) ∧ Below B w w' := by
  have hins := insertion_any B g cap l h5 w hB hown
  have i1 : (l.length : Int) ≤ 12 := by omega
  clear hown
  go_enter Tryz.func110, Tryz.ntmps110
  go_wp2
  refine wp_loop_rounds 1 ?_
  rw [rounds_succ]
  go_wp2_with (first
    | (go_at_call 114; refine hins.mono ?_; rintro e w1 ⟨rfl, s, h1, h2, h3, h4⟩))
  refine bodyPost_ret (results_none rfl _ _ _) rfl ?_
  exact ⟨rfl, s, h1, h2, h3, h4⟩
set_option maxRecDepth 100000 in
set_option maxHeartbeats 1000000 in
theorem len_any (n : Nat) (hn : n = 1 ∨ n = 3 ∨ n = 5) (w : World) : Calls Tryz.prog 111 #[.int .u64 (n : Int)] w fun e w' => (∃ r, e = .returned (.int .i64 r)) ∧ w' = w := by
  rcases hn with rfl | rfl | rfl
  all_goals
    go_enter Tryz.func111, Tryz.ntmps111
    go_wp2
    go_ret
    exact ⟨⟨_, rfl⟩, rfl⟩
set_option maxRecDepth 100000 in
set_option maxHeartbeats 1000000 in
theorem sort_any (B g cap : Nat) (l : List Int) (h5 : l.length = 1 ∨ l.length = 3 ∨ l.length = 5) (w : World) (hB : B ≤ w.heap.size) (hown : w.ownsRow B 3 1 (.slice (some ⟨g, 0, none⟩) l.length cap) l.length (inCells l)) :
    Calls Tryz.prog 102 #[.slice (some ⟨g, 0, none⟩) l.length cap] w fun e w' => e = .returned (.tuple #[]) ∧ ∃ s : List Int, s.Perm l ∧ s.Pairwise (· ≤ ·) ∧ w'.ownsRow B 3 1 (.slice (some ⟨g, 0, none⟩) l.length cap) l.length (inCells s) ∧ Below B w w' := by
  have hpdq := fun lim => pdq_any B g cap l (by omega) lim w hB hown
  have hlen := len_any l.length h5 w
  have h12 : l.length ≤ 5 := by omega
  clear hown h5
  go_enter Tryz.func102, Tryz.ntmps102
  go_wp2_with (first
    | (go_at_call 111; refine hlen.mono ?_; rintro e wn ⟨⟨lim, rfl⟩, hq⟩; have hq' := hq.symm; clear hq; subst hq')
    | (go_at_call 110; refine (hpdq _).mono ?_; rintro e w1 ⟨rfl, s, h1, h2, h3, h4⟩))
  go_end0
  exact ⟨rfl, s, h1, h2, h3, h4⟩
set_option maxHeartbeats 1000000 in
theorem sorted_any (Bn : Nat) (ao : Option Addr) (cap : Nat) (l : List Int) (h5 : l.length = 1 ∨ l.length = 3 ∨ l.length = 5) (w : World) (hBn : Bn < w.heap.size) (hc : w.cell? ⟨Bn, 0, none⟩ = some (.slice ao l.length cap)) (hl : LiesN w w.heap.size ao l) :
    Calls Tryz.prog 94 #[.func (.func 103) #[] #[.pointer (some ⟨Bn, 0, none⟩)]] w fun e w' => ∃ (g C : Nat) (s : List Int), e = .returned (.slice (some ⟨g, 0, none⟩) l.length C) ∧ s.Perm l ∧ s.Pairwise (· ≤ ·) ∧ w'.ownsRow w.heap.size 3 1 (.slice (some ⟨g, 0, none⟩) l.length C) l.length (inCells s) ∧ Below w.heap.size w w' := by
  have h := collect_any Bn ao cap l (by omega) w hBn hc hl
  go_enter Tryz.func94, Tryz.ntmps94
  go_wp2_with (first
    | (go_at_call 101; refine h.mono ?_; rintro e w1 ⟨v, rfl, ho, hb⟩; obtain ⟨g, C, hv⟩ : ∃ g C, v = .slice (some ⟨g, 0, none⟩) l.length C := (by
        rcases ho.2 with ⟨_, h0⟩ | ⟨g, c, cur, hv, _⟩
        · exact absurd h0 (by omega)
        · exact ⟨g, c, hv⟩); rw [hv] at ho ⊢; clear hv; have hs := sort_any w.heap.size g C l h5 w1 hb.size ho)
    | (go_at_call 102; refine hs.mono ?_; rintro e w2 ⟨rfl, s, h1, h2, h3, h4⟩))
  go_ret
  exact ⟨g, C, s, rfl, h1, h2, h3, hb.trans h4⟩
end Go.Proofs.YtajbdffepfjegaaGreat
