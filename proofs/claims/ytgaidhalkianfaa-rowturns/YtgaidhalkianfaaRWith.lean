/-
  Contracts: the cells with one of a column: of the program and of the document's own.
-/
import Derived.Test.YtgaidhalkianfaaRWout
import Derived.Test.YtgaidhalkianfaaRIdx
import Derived.Test.YtgaidhalkianfaaRIns
namespace Go.Proofs.Ytgaidhalkianfaa
open Go.RowKit Num
set_option linter.unusedVariables false

theorem idxI_in {r : List Cel} {col : Int} (h : idxC r col < r.length) : idxI r col = (idxC r col : Int) := if_pos h
theorem idxI_out {r : List Cel} {col : Int} (h : ¬ idxC r col < r.length) : idxI r col = -1 := if_neg h
theorem idxC_out {r : List Cel} {col : Int} (h : ¬ idxC r col < r.length) : idxC r col = r.length := by
  have := idxC_le r col
  omega

theorem lies_own {w : World} {base g n C : Nat} {r : List Cel} (hn : r.length = n) (h : w.ownsRow base 41 5 (.slice (some ⟨g, 0, none⟩) n C) n (celCells r)) : LiesC w w.heap.size (some ⟨g, 0, none⟩) r := by
  subst hn
  obtain ⟨ao, cap, e, hl, _⟩ := liesC_of_row h
  cases e
  exact hl
theorem lies_rowN {w : World} {base n : Nat} {v : Value} {l : List Cel} (hn : l.length = n) (h : w.ownsRow base 41 5 v n (celCells l)) : ∃ ao cap, v = .slice ao n cap ∧ LiesC w w.heap.size ao l := by
  subst hn
  obtain ⟨ao, cap, e, hl, _⟩ := liesC_of_row h
  exact ⟨ao, cap, e, hl⟩
theorem own_row_lt {w : World} {base g n C : Nat} {xs : List Value} (h : w.ownsRow base 41 5 (.slice (some ⟨g, 0, none⟩) n C) n xs) : base ≤ g ∧ g < w.heap.size := h.lt g rfl

set_option maxRecDepth 100000 in
set_option maxHeartbeats 400000 in
theorem with_core (ao : Option Addr) (cap n C : Nat) (col : Int) (x : Val) (w : World) (r : List Cel) (m i : Nat) (hm : r.length = m) (hmC : m + 1 ≤ C) (hC : C ≤ 1000000) (hi : i ≤ m) (J : Int) (hJ : J = (i : Int) ∨ (J = -1 ∧ i = m))
    (hw : ∀ W : World, Below w.heap.size w W → Calls Try.prog 21 #[.slice ao n cap, .int .i64 col] W fun e w' => e = .returned (.slice (some ⟨W.heap.size, 0, none⟩) m C) ∧ w'.ownsRow W.heap.size 41 5 (.slice (some ⟨W.heap.size, 0, none⟩) m C) m (celCells r) ∧ Below W.heap.size W w')
    (hidx : ∀ (g : Nat) (w1 : World), LiesC w1 w1.heap.size (some ⟨g, 0, none⟩) r → w.heap.size < w1.heap.size → w1.cell? ⟨w.heap.size, 0, none⟩ = some (.int .i64 col) →
      Calls Try.prog 30 #[.slice (some ⟨g, 0, none⟩) m C, .func (.func 31) #[] #[.pointer (some ⟨w.heap.size, 0, none⟩)]] w1 fun e w' => e = .returned (.int .i64 J) ∧ Below w1.heap.size w1 w') :
    Calls Try.prog 20 #[.slice ao n cap, .int .i64 col, .agg #[.int .i64 x.k, .int .i64 x.n, .int .u64 (x.f : Int), .string x.s]] w fun e w' => ∃ g cap', e = .returned (.slice (some ⟨g, 0, none⟩) (m + 1) cap') ∧ LiesC w' w'.heap.size (some ⟨g, 0, none⟩) (insC r i ⟨col, x⟩) ∧ Below w.heap.size w w' := by
  have hB0 : Below w.heap.size w ((w.alloc (.cells #[.int .i64 col] 3)).alloc (.cells #[.int .i64 x.k, .int .i64 x.n, .int .u64 (x.f : Int), .string x.s] 39)) := ((Below.refl _ w).alloc (Nat.le_refl _) _).alloc (by simp) _
  have hlen : (insC r i ⟨col, x⟩).length = m + 1 := by rw [insC_len _ _ _ (by omega), hm]
  rcases hJ with rfl | ⟨rfl, rfl⟩
  all_goals
    go_enter Try.func20, Try.ntmps20
    go_wp2_with (first
      | (go_at_call 21; refine (hw _ hB0).mono ?_; rintro e w1 ⟨rfl, hown1, hb1⟩; simp only [World.size_alloc] at hown1; have hl1 := lies_own hm hown1; have hlt1 := own_row_lt hown1; have hs1 : w.heap.size + 1 + 1 ≤ w1.heap.size := (by have := hb1.size; simp at this; omega); have ca : w1.cell? ⟨w.heap.size, 0, none⟩ = some (.int .i64 col) := (by rw [hb1.cell (by simp; omega)]; simp); obtain ⟨cb0, cb1, cb2, cb3⟩ := box_cells hb1; simp only [World.size_alloc] at cb0 cb1 cb2 cb3)
      | (go_at_call 30; refine (hidx _ w1 hl1 (by omega) ca).mono ?_; rintro e w2 ⟨rfl, hb2⟩; have hs2 := hb2.size; have ca2 := (hb2.cell (p := ⟨w.heap.size, 0, none⟩) (show w.heap.size < w1.heap.size by omega)).trans ca; have d0 := (hb2.cell (p := ⟨w.heap.size + 1, 0, none⟩) (show w.heap.size + 1 < w1.heap.size by omega)).trans cb0; have d1 := (hb2.cell (p := ⟨w.heap.size + 1, 1, none⟩) (show w.heap.size + 1 < w1.heap.size by omega)).trans cb1; have d2 := (hb2.cell (p := ⟨w.heap.size + 1, 2, none⟩) (show w.heap.size + 1 < w1.heap.size by omega)).trans cb2; have d3 := (hb2.cell (p := ⟨w.heap.size + 1, 3, none⟩) (show w.heap.size + 1 < w1.heap.size by omega)).trans cb3)
      | (go_at_call 32; refine (ins_any (w.heap.size + 1 + 1) (w.heap.size + 1 + 1) C _ _ w2.heap.size r ⟨col, x⟩ hm (by omega) hmC hC _ (by omega) ((own_below hown1 hb2).alloc _) (Boxed5.new w2 ⟨col, x⟩)).mono ?_; rintro e w3 ⟨rfl, hown3, hgrow3⟩))
    go_ret
    refine ⟨_, _, rfl, lies_own hlen hown3, ?_⟩
    exact (((hB0.trans (hb1.mono (by simp; omega))).trans (hb2.mono (by omega))).alloc (by omega) _).grown hgrow3 (by simp; omega) (fun j e => by cases e; omega)

theorem with_any (ao : Option Addr) (cap : Nat) (l : List Cel) (h500 : l.length ≤ 500) (col : Int) (x : Val) (w : World) (hl : LiesC w w.heap.size ao l) :
    Calls Try.prog 20 #[.slice ao l.length cap, .int .i64 col, .agg #[.int .i64 x.k, .int .i64 x.n, .int .u64 (x.f : Int), .string x.s]] w fun e w' => ∃ g cap', e = .returned (.slice (some ⟨g, 0, none⟩) (withL l col x).length cap') ∧ LiesC w' w'.heap.size (some ⟨g, 0, none⟩) (withL l col x) ∧ Below w.heap.size w w' := by
  have hr := without_len l col
  have hle := idxC_le (without l col) col
  rw [withL_len]
  unfold withL
  refine with_core ao cap l.length (l.length + 1) col x w (without l col) (without l col).length (idxC (without l col) col) rfl (by omega) (by omega) hle (idxI (without l col) col) ?_ ?_ ?_
  · by_cases h : idxC (without l col) col < (without l col).length
    · exact .inl (idxI_in h)
    · exact .inr ⟨idxI_out h, idxC_out h⟩
  · intro W hb
    exact without_any ao cap l (by omega) col W ((hl.below hb).mono hb.size)
  · intro g w1 hl1 hB hc
    exact idx_any _ _ (without l col) (by omega) col w.heap.size w1 hl1 hB hc

theorem idxC_below {r : List Cel} {col : Int} {j : Nat} (h : j < idxC r col) : ¬ col < (r[j]'(Nat.lt_of_lt_of_le h (idxC_le r col))).c := by
  have := List.not_of_lt_findIdx h
  simpa using this
theorem idxC_at {r : List Cel} {col : Int} (h : idxC r col < r.length) : col < (r[idxC r col]).c := by
  have := List.findIdx_getElem (w := h)
  exact of_decide_eq_true this
theorem partW_len (r : List Cel) (i : Nat) (y : Cel) (k : Nat) : (partW r i y k).length ≤ k + 1 := by
  unfold partW
  split
  · unfold insC
    simp
    omega
  · rw [List.length_take]
    omega

set_option maxRecDepth 100000 in
set_option maxHeartbeats 2000000 in
theorem refWith_core (ao : Option Addr) (cap n : Nat) (col : Int) (x : Val) (w : World) (r : List Cel) (m i : Nat) (hm : r.length = m) (hm500 : m ≤ 1000) (him : i ≤ m)
    (hlo : ∀ j (hj : j < r.length), j < i → (r[j]).c ≤ col) (hat : ∀ (h : i < r.length), col < (r[i]).c)
    (hw : ∀ W : World, Below w.heap.size w W → Calls Try.prog 23 #[.slice ao n cap, .int .i64 col] W fun e w' => ∃ ao' cap', e = .returned (.slice ao' m cap') ∧ LiesC w' w'.heap.size ao' r ∧ Below W.heap.size W w') :
    Calls Try.prog 22 #[.slice ao n cap, .int .i64 col, .agg #[.int .i64 x.k, .int .i64 x.n, .int .u64 (x.f : Int), .string x.s]] w fun e w' => ∃ ao' cap', e = .returned (.slice ao' (m + 1) cap') ∧ LiesC w' w'.heap.size ao' (insC r i ⟨col, x⟩) ∧ Below w.heap.size w w' := by
  have hlen : (insC r i ⟨col, x⟩).length = m + 1 := by rw [insC_len _ _ _ (by omega), hm]
  obtain ⟨i0, hi, hz0, hz1, hz2⟩ := info_parts Try.infoCel
  have hB0 : Below w.heap.size w (w.alloc (.cells #[.int .i64 x.k, .int .i64 x.n, .int .u64 (x.f : Int), .string x.s] 39)) := (Below.refl _ w).alloc (Nat.le_refl _) _
  go_enter Try.func22, Try.ntmps22
  go_wp2_with (first
    | (go_at_call 23; refine (hw _ hB0).mono ?_; rintro e w1 ⟨ao1, cap1, rfl, hl1, hb1⟩; obtain ⟨cb0, cb1, cb2, cb3⟩ := box_cells hb1; have hs1 : w.heap.size + 1 ≤ w1.heap.size := (by have := hb1.size; simp at this; omega)))
  have hbw : Below w.heap.size w w1 := hB0.trans (hb1.mono (by simp))
  clear hb1 hw hB0
  go_loopw [8, 9, 10] (fun v p k' wr => ∃ (k q : Nat), k ≤ m ∧ k' = .int .i64 (k : Int) ∧ p = .bool (decide (i < k)) ∧ q ≤ k + 1 ∧ Hid (q = (partW r i ⟨col, x⟩ k).length) ∧ wr.ownsRow w1.heap.size 41 5 v q (celCells (partW r i ⟨col, x⟩ k)) ∧ Below w1.heap.size w1 wr) (fun _ _ k' _ => m - (intOf k').toNat)
  case atStart => exact ⟨0, 0, by omega, rfl, by simp, by omega, by unfold Hid; rw [partW_zero]; rfl, by rw [partW_zero]; exact World.ownsRow_nil _ _ _ _, Below.refl _ _⟩
  case round =>
    obtain ⟨k, q, hk, rfl, rfl, hq, HQ, hown, hbel⟩ := hrel
    have hsz := hbel.size
    have d0 := (hbel.cell (p := ⟨w.heap.size, 0, none⟩) (show w.heap.size < w1.heap.size by omega)).trans cb0
    have d1 := (hbel.cell (p := ⟨w.heap.size, 1, none⟩) (show w.heap.size < w1.heap.size by omega)).trans cb1
    have d2 := (hbel.cell (p := ⟨w.heap.size, 2, none⟩) (show w.heap.size < w1.heap.size by omega)).trans cb2
    have d3 := (hbel.cell (p := ⟨w.heap.size, 3, none⟩) (show w.heap.size < w1.heap.size by omega)).trans cb3
    by_cases hkl : k < m
    · have hkr : k < r.length := by omega
      obtain ⟨a, rfl, hblk, c0, c1, c2, c3, c4⟩ := (hl1.below hbel) k r[k] (List.getElem?_eq_getElem hkr)
      by_cases hki : k = i
      · have hcg : col < (r[k]).c := by subst hki; exact hat hkr
        have hpw : partW r i ⟨col, x⟩ (k + 1) = (r.take k ++ [⟨col, x⟩]) ++ [r[k]] := by subst hki; exact partW_hit hkr
        have hpb : ¬ i < k := by omega
        have hpa : i < k + 1 := by omega
        rw [partW_before hpb] at HQ hown
        have hqk : q ≤ k := by rw [HQ.out, List.length_take]; omega
        have hget : r[k]? = some r[k] := List.getElem?_eq_getElem hkr
        generalize r[k] = z at *
        have hdf : decide (i < k) = false := decide_eq_false hpb
        have hdt : decide (i < k + 1) = true := decide_eq_true hpa
        have HP : Hid (decide (i < k + 1) = true) := hdt
        rw [hdf]
        clear hki hdf hdt hpb hpa hat hlo
        go_wp2_with (first
          | (at_builtin; refine wpList_append_own _ rfl (.tmp 31) _ 22 rfl w1.heap.size 41 i0 _ 5 48 Try.underlying22 hi hz0 hz1 hz2 rfl (by decide) _ _ _ rfl (hown.alloc _) ⟨wr.heap.size, 0, none⟩ 1 1 [.int .i64 col, .int .i64 x.k, .int .i64 x.n, .int .u64 (x.f : Int), .string x.s] rfl rfl (five_new _ ⟨col, x⟩ _) (one5 ⟨col, x⟩) (by unfold maxLen; omega) (by omega) (by simp; omega) ?_; intro v2 w2 hown2 hgrow2 _; have g0 := (hbel.alloc hsz (.cells #[.int .i64 col, .int .i64 x.k, .int .i64 x.n, .int .u64 (x.f : Int), .string x.s] 41)).grown hgrow2 (by simp; omega) (fun j e => (hown.lt j e).1); have hs2 := g0.size; obtain ⟨a', ea', hblk', e0, e1, e2, e3, e4⟩ := (hl1.below g0) k z hget; cases ea')
          | (at_builtin; refine wpList_append_own _ rfl (.tmp 37) _ 22 rfl w1.heap.size 41 i0 _ 5 48 Try.underlying22 hi hz0 hz1 hz2 rfl (by decide) _ _ _ rfl (hown2.alloc _) ⟨w2.heap.size, 0, none⟩ 1 1 [.int .i64 z.c, .int .i64 z.x.k, .int .i64 z.x.n, .int .u64 (z.x.f : Int), .string z.x.s] rfl rfl (five_new _ z _) (one5 z) (by unfold maxLen; omega) (by omega) (by simp; omega) ?_; intro v3 w3 hown3 hgrow3 _))
        have g1 := (g0.alloc hs2 (.cells #[.int .i64 z.c, .int .i64 z.x.k, .int .i64 z.x.n, .int .u64 (z.x.f : Int), .string z.x.s] 41)).grown hgrow3 (by simp; omega) (fun j e => (hown2.lt j e).1)
        go_roundw
        case rel => exact ⟨k + 1, q + 1 + 1, by omega, by go_num, by rw [HP.out], by omega, by unfold Hid; rw [hpw, List.length_append, List.length_append, ← HQ.out]; rfl, by rw [hpw, celCells_snoc, celCells_snoc]; exact hown3, g1⟩
        case measure => simp [intOf]; omega
      · by_cases hlt : k < i
        · have hcg : ¬ col < (r[k]).c := Int.not_lt.2 (hlo k hkr hlt)
          have hpw : partW r i ⟨col, x⟩ (k + 1) = partW r i ⟨col, x⟩ k ++ [r[k]] := partW_plain hkr hlt
          have hdf : decide (i < k) = false := decide_eq_false (by omega)
          have HP : Hid (decide (i < k + 1) = false) := decide_eq_false (by omega)
          generalize r[k] = z at *
          rw [hdf]
          clear hki hdf hlt hat hlo
          go_wp2_with (first
            | (at_builtin; refine wpList_append_own _ rfl (.tmp 37) _ 22 rfl w1.heap.size 41 i0 _ 5 48 Try.underlying22 hi hz0 hz1 hz2 rfl (by decide) _ _ _ rfl (hown.alloc _) ⟨wr.heap.size, 0, none⟩ 1 1 [.int .i64 z.c, .int .i64 z.x.k, .int .i64 z.x.n, .int .u64 (z.x.f : Int), .string z.x.s] rfl rfl (five_new _ z _) (one5 z) (by unfold maxLen; omega) (by omega) (by simp; omega) ?_; intro v3 w3 hown3 hgrow3 _))
          have g1 := (hbel.alloc hsz (.cells #[.int .i64 z.c, .int .i64 z.x.k, .int .i64 z.x.n, .int .u64 (z.x.f : Int), .string z.x.s] 41)).grown hgrow3 (by simp; omega) (fun j e => (hown.lt j e).1)
          rw [← celCells_snoc, ← hpw] at hown3
          go_roundw
          case rel => exact ⟨k + 1, q + 1, by omega, by go_num, by rw [HP.out], by omega, by unfold Hid; rw [hpw, List.length_append, ← HQ.out]; rfl, hown3, g1⟩
          case measure => simp [intOf]; omega
        · have hpw : partW r i ⟨col, x⟩ (k + 1) = partW r i ⟨col, x⟩ k ++ [r[k]] := partW_snoc hkr (by omega)
          have hdf : decide (i < k) = true := decide_eq_true (by omega)
          have HP : Hid (decide (i < k + 1) = true) := decide_eq_true (by omega)
          generalize r[k] = z at *
          rw [hdf]
          clear hki hdf hlt hat hlo
          go_wp2_with (first
            | (at_builtin; refine wpList_append_own _ rfl (.tmp 37) _ 22 rfl w1.heap.size 41 i0 _ 5 48 Try.underlying22 hi hz0 hz1 hz2 rfl (by decide) _ _ _ rfl (hown.alloc _) ⟨wr.heap.size, 0, none⟩ 1 1 [.int .i64 z.c, .int .i64 z.x.k, .int .i64 z.x.n, .int .u64 (z.x.f : Int), .string z.x.s] rfl rfl (five_new _ z _) (one5 z) (by unfold maxLen; omega) (by omega) (by simp; omega) ?_; intro v3 w3 hown3 hgrow3 _))
          have g1 := (hbel.alloc hsz (.cells #[.int .i64 z.c, .int .i64 z.x.k, .int .i64 z.x.n, .int .u64 (z.x.f : Int), .string z.x.s] 41)).grown hgrow3 (by simp; omega) (fun j e => (hown.lt j e).1)
          rw [← celCells_snoc, ← hpw] at hown3
          go_roundw
          case rel => exact ⟨k + 1, q + 1, by omega, by go_num, by rw [HP.out], by omega, by unfold Hid; rw [hpw, List.length_append, ← HQ.out]; rfl, hown3, g1⟩
          case measure => simp [intOf]; omega
    · have hke : k = m := by omega
      subst hke
      by_cases hik : i < k
      · have hdt : decide (i < k) = true := decide_eq_true hik
        have e1 : partW r i ⟨col, x⟩ k = insC r i ⟨col, x⟩ := by rw [← hm]; exact partW_end (by omega)
        rw [e1] at HQ hown
        have HQ' := HQ.out
        rw [hlen] at HQ'
        clear HQ
        subst HQ'
        rw [hdt]
        clear hdt hik hat hlo
        obtain ⟨ao', cap', rfl, hl'⟩ := lies_rowN hlen hown
        clear hown
        go_wp2
        go_ret
        exact ⟨_, _, rfl, hl', hbw.trans (hbel.mono (by omega))⟩
      · have hik' : i = k := by omega
        have hdf : decide (i < k) = false := decide_eq_false hik
        have e1 : partW r i ⟨col, x⟩ k = r := by rw [partW_before hik, ← hm, List.take_length]
        have e2 : insC r i ⟨col, x⟩ = r ++ [⟨col, x⟩] := by rw [hik', ← hm]; exact insC_end _ _
        rw [e1] at HQ hown
        have HQ0 : Hid (q = k) := by unfold Hid; rw [HQ.out, hm]
        have HE : Hid (insC r i ⟨col, x⟩ = r ++ [⟨col, x⟩]) := e2
        clear HQ e1 e2
        rw [hdf]
        clear hdf hik hik' hat hlo
        go_wp2_with (first
          | (at_builtin; refine wpList_append_own _ rfl (.tmp 46) _ 22 rfl w1.heap.size 41 i0 _ 5 48 Try.underlying22 hi hz0 hz1 hz2 rfl (by decide) _ _ _ rfl (hown.alloc _) ⟨wr.heap.size, 0, none⟩ 1 1 [.int .i64 col, .int .i64 x.k, .int .i64 x.n, .int .u64 (x.f : Int), .string x.s] rfl rfl (five_new _ ⟨col, x⟩ _) (one5 ⟨col, x⟩) (by unfold maxLen; omega) (by omega) (by simp; omega) ?_; intro v2 w2 hown2 hgrow2 _))
        have g1 := (hbel.alloc hsz (.cells #[.int .i64 col, .int .i64 x.k, .int .i64 x.n, .int .u64 (x.f : Int), .string x.s] 41)).grown hgrow2 (by simp; omega) (fun j e => (hown.lt j e).1)
        have hown4 : w2.ownsRow w1.heap.size 41 5 v2 (q + 1) (celCells (insC r i ⟨col, x⟩)) := by rw [HE.out, celCells_snoc]; exact hown2
        obtain ⟨ao', cap', rfl, hl'⟩ := lies_rowN (n := q + 1) (by rw [hlen, HQ0.out]) hown4
        go_wp2
        go_ret
        exact ⟨_, _, by rw [HQ0.out]; rfl, hl', hbw.trans (g1.mono (by omega))⟩
theorem refWith_any (ao : Option Addr) (cap : Nat) (l : List Cel) (h500 : l.length ≤ 500) (col : Int) (x : Val) (w : World) (hl : LiesC w w.heap.size ao l) :
    Calls Try.prog 22 #[.slice ao l.length cap, .int .i64 col, .agg #[.int .i64 x.k, .int .i64 x.n, .int .u64 (x.f : Int), .string x.s]] w fun e w' => ∃ ao' cap', e = .returned (.slice ao' (withL l col x).length cap') ∧ LiesC w' w'.heap.size ao' (withL l col x) ∧ Below w.heap.size w w' := by
  have hr := without_len l col
  rw [withL_len]
  unfold withL
  exact refWith_core ao cap l.length col x w (without l col) (without l col).length (idxC (without l col) col) rfl (by omega) (idxC_le _ _) (fun j hj h => Int.not_lt.1 (idxC_below h)) (fun h => idxC_at h)
    (fun W hb => refWithout_any ao cap l (by omega) col W ((hl.below hb).mono hb.size))
end Go.Proofs.Ytgaidhalkianfaa
