/-
  The walk of the law on sets: so many sets, the last one of another column, or not. (Written by mksqs.py.)
-/
import Derived.Test.YthmkcpakaejaoaaGreatDoorSqL
import Derived.Test.YthmkcpakaejaoaaGreatDoorLxD
namespace Go.Proofs.YthmkcpakaejaoaaGreatDoor
open Go.RowKit Num
set_option linter.unusedSimpArgs false
set_option linter.unusedVariables false
set_option linter.unusedVariables false
set_option maxRecDepth 100000

theorem setC_at : ∀ (l : List Sett) (j : Nat) (x : Sett), l[j]? = some x → ∀ c (u : Value), (cT x)[c]? = some u → (l.flatMap cT)[j * 6 + c]? = some u
  | [], _, _, h, _, _, _ => by simp at h
  | y :: l, 0, x, h, c, u, hu => by
    have h : some y = some x := h
    obtain rfl := Option.some.inj h
    have hc : c < 6 := (List.getElem?_eq_some_iff.1 hu).1
    show (cT y ++ l.flatMap cT)[0 * 6 + c]? = some u
    rw [Nat.zero_mul, Nat.zero_add, List.getElem?_append_left hc]
    exact hu
  | y :: l, j + 1, x, h, c, u, hu => by
    have ih := setC_at l j x (by simpa using h) c u hu
    show (cT y ++ l.flatMap cT)[(j + 1) * 6 + c]? = some u
    have e : (j + 1) * 6 + c = (cT y).length + (j * 6 + c) := by
      show (j + 1) * 6 + c = 6 + (j * 6 + c)
      omega
    rw [e, List.getElem?_append_right (by omega), Nat.add_sub_cancel_left]
    exact ih
theorem set_at {w : World} {B E n g cap : Nat} {l : List Sett} (h : w.ownsRow B E 6 (.slice (some ⟨g, 0, none⟩) n cap) n (l.flatMap cT)) {j : Nat} {x : Sett} (hx : l[j]? = some x) :
    w.cell? ⟨g, j * 6 + 1, none⟩ = some (.bool x.add) ∧ w.cell? ⟨g, j * 6 + 3, none⟩ = some (.int .i64 x.v.n) := by
  have key : ∀ c u, (cT x)[c]? = some u → w.cell? ⟨g, j * 6 + c, none⟩ = some u := by
    intro c u hu
    have := h.cells (g := g) rfl _ _ (setC_at l j x hx c u hu)
    rw [Addr.add_lit, Nat.zero_add] at this
    exact this
  exact ⟨key 1 _ rfl, key 3 _ rfl⟩
set_option maxHeartbeats 4000000 in
theorem sets_false (N K : Nat) (hN : N < 256) (hK : K = N % 12 + 1) (w : World) (hG : Glob w) :
    Calls Tryz.prog 8 #[.int .u8 (N : Int), .bool false] w fun e w' => e = .returned (.bool true) ∧ Below w.heap.size w w' := by
  have hK1 : 1 ≤ K := by omega
  have hK2 : K ≤ 12 := by omega
  have hmod : ((N : Int).tmod 12) = ((K : Int) - 1) := by
    rw [Int.tmod_eq_emod_of_nonneg (by omega)]
    omega
  have hmod2 : ((N : Int) % 12) = ((K : Int) - 1) := by omega
  have hmod3 : 1 + ((K : Int) - 1) = (K : Int) := by omega
  clear hK
  go_enter Tryz.func8, Tryz.ntmps8
  go_wp2
  go_loopw [6, 7, 8, 9, 17, 18, 19, 20, 21, 22, 23, 24, 25, 26, 27, 28, 29, 30, 31, 32, 33, 34, 35, 36, 37, 38, 39, 40, 41, 42, 43] (fun s i _ _ _ _ _ _ _ _ _ _ _ _ _ _ _ _ _ _ _ _ _ _ _ _ _ _ _ _ _ wr => ∃ j : Nat, j ≤ K ∧ i = .int .i64 (j : Int) ∧ s = .string (str (setsB false K j)) ∧ Below w.heap.size w wr) (fun _ i _ _ _ _ _ _ _ _ _ _ _ _ _ _ _ _ _ _ _ _ _ _ _ _ _ _ _ _ _ _ => K - (intOf i).toNat)
  case atStart => exact ⟨0, by omega, rfl, rfl, Below.refl _ _⟩
  case round =>
    obtain ⟨j, hj, rfl, rfl, hbel⟩ := hrel
    by_cases hjl : j < K
    · have hd : ∀ W, Calls Tryz.prog 17 #[.int .i64 (j : Int)] W fun e w' => e = .returned (.string (str (dg j))) ∧ Below W.heap.size W w' := fun W => by
        have h := digits_any (j : Int) (by omega) (by omega) W
        rw [itoa_dg j (by omega)] at h
        exact h
      by_cases hj0 : 0 < j
      · have hj0i : (0 : Int) < (j : Int) := by omega
        have hlen := setsB_len false K j
        have hdl := dg_len j
        have hcl : (setC j).length ≤ 3 := by show (dg j).length + 1 ≤ 3; omega
        obtain ⟨C, hC⟩ : ∃ C, str (setC j) = C := ⟨_, rfl⟩
        have zC : C.size ≤ 3 := by rw [← hC, size_str]; exact hcl
        obtain ⟨S, hS⟩ : ∃ S, str (setsB false K j) = S := ⟨_, rfl⟩
        have zS : S.size ≤ 300 := by rw [← hS, size_str]; omega
        obtain ⟨A0, hA0⟩ : ∃ A, str (setsB false K j ++ [44, 32]) = A := ⟨_, rfl⟩
        have zA0 : A0.size ≤ 350 := by rw [← hA0, size_str]; simp only [List.length_append, List.length_cons, List.length_nil]; omega
        obtain ⟨A1, hA1⟩ : ∃ A, str ((setsB false K j ++ [44, 32]) ++ setC j) = A := ⟨_, rfl⟩
        have zA1 : A1.size ≤ 350 := by rw [← hA1, size_str]; simp only [List.length_append, List.length_cons, List.length_nil]; omega
        obtain ⟨A2, hA2⟩ : ∃ A, str (((setsB false K j ++ [44, 32]) ++ setC j) ++ [32, 61, 32]) = A := ⟨_, rfl⟩
        have zA2 : A2.size ≤ 350 := by rw [← hA2, size_str]; simp only [List.length_append, List.length_cons, List.length_nil]; omega
        obtain ⟨A3, hA3⟩ : ∃ A, str ((((setsB false K j ++ [44, 32]) ++ setC j) ++ [32, 61, 32]) ++ setC j) = A := ⟨_, rfl⟩
        have zA3 : A3.size ≤ 350 := by rw [← hA3, size_str]; simp only [List.length_append, List.length_cons, List.length_nil]; omega
        obtain ⟨A4, hA4⟩ : ∃ A, str (((((setsB false K j ++ [44, 32]) ++ setC j) ++ [32, 61, 32]) ++ setC j) ++ [32, 43, 32, 49]) = A := ⟨_, rfl⟩
        have zA4 : A4.size ≤ 350 := by rw [← hA4, size_str]; simp only [List.length_append, List.length_cons, List.length_nil]; omega
        have q9 : (⟨#[99]⟩ : ByteArray) ++ str (dg j) = C := (str_cat [99] (dg j)).trans hC
        have q0 : S ++ (⟨#[44, 32]⟩ : ByteArray) = A0 := by rw [← hS]; exact (str_cat _ [44, 32]).trans hA0
        have q1 : A0 ++ C = A1 := by rw [← hA0, ← hC]; exact (str_cat _ _).trans hA1
        have q2 : A1 ++ (⟨#[32, 61, 32]⟩ : ByteArray) = A2 := by rw [← hA1]; exact (str_cat _ [32, 61, 32]).trans hA2
        have q3 : A2 ++ C = A3 := by rw [← hA2, ← hC]; exact (str_cat _ _).trans hA3
        have q4 : A3 ++ (⟨#[32, 43, 32, 49]⟩ : ByteArray) = A4 := by rw [← hA3]; exact (str_cat _ [32, 43, 32, 49]).trans hA4
        have HN : Hid (A4 = str (setsB false K (j + 1))) := by
          unfold Hid
          rw [← hA4]
          refine congrArg str ?_
          show _ = (if 0 < j then setsB false K j ++ [44, 32] else setsB false K j) ++ setC j ++ [32, 61, 32] ++ setD false K j ++ [32, 43, 32, 49]
          rw [if_pos hj0, show setD false K j = setC j from if_neg (fun e => absurd e.1 (by decide))]
        have zD : (str (dg j)).size ≤ 2 := by rw [size_str]; exact hdl
        obtain ⟨DD, hDD⟩ : ∃ DD, str (dg j) = DD := ⟨_, rfl⟩
        rw [hDD] at q9 zD hd
        clear hDD hA1 hA2 hA3 hA4 hC hlen hdl hcl
        rw [hS]
        clear hS hA0
        go_wp2_with (go_at_call 17; refine (hd _).mono ?_; rintro e w1 ⟨rfl, hb1⟩)
        go_roundw
        case rel => exact ⟨j + 1, by omega, by go_num, by rw [HN.out], below_next hbel (Nat.le_refl _) hb1⟩
        case measure => simp [intOf]; omega
      · obtain rfl : j = 0 := by omega
        have hd : ∀ W, Calls Tryz.prog 17 #[.int .i64 0] W fun e w' => e = .returned (.string (str (dg 0))) ∧ Below W.heap.size W w' := hd
        have hlen := setsB_len false K 0
        have hdl := dg_len 0
        have hcl : (setC 0).length ≤ 3 := by show (dg 0).length + 1 ≤ 3; omega
        obtain ⟨C, hC⟩ : ∃ C, str (setC 0) = C := ⟨_, rfl⟩
        have zC : C.size ≤ 3 := by rw [← hC, size_str]; exact hcl
        obtain ⟨A0, hA0⟩ : ∃ A, str (setsB false K 0) = A := ⟨_, rfl⟩
        have zA0 : A0.size ≤ 350 := by rw [← hA0, size_str]; omega
        obtain ⟨A1, hA1⟩ : ∃ A, str ((setsB false K 0) ++ setC 0) = A := ⟨_, rfl⟩
        have zA1 : A1.size ≤ 350 := by rw [← hA1, size_str]; simp only [List.length_append, List.length_cons, List.length_nil]; omega
        obtain ⟨A2, hA2⟩ : ∃ A, str (((setsB false K 0) ++ setC 0) ++ [32, 61, 32]) = A := ⟨_, rfl⟩
        have zA2 : A2.size ≤ 350 := by rw [← hA2, size_str]; simp only [List.length_append, List.length_cons, List.length_nil]; omega
        obtain ⟨A3, hA3⟩ : ∃ A, str ((((setsB false K 0) ++ setC 0) ++ [32, 61, 32]) ++ setC 0) = A := ⟨_, rfl⟩
        have zA3 : A3.size ≤ 350 := by rw [← hA3, size_str]; simp only [List.length_append, List.length_cons, List.length_nil]; omega
        obtain ⟨A4, hA4⟩ : ∃ A, str (((((setsB false K 0) ++ setC 0) ++ [32, 61, 32]) ++ setC 0) ++ [32, 43, 32, 49]) = A := ⟨_, rfl⟩
        have zA4 : A4.size ≤ 350 := by rw [← hA4, size_str]; simp only [List.length_append, List.length_cons, List.length_nil]; omega
        have q9 : (⟨#[99]⟩ : ByteArray) ++ str (dg 0) = C := (str_cat [99] (dg 0)).trans hC
        have q1 : A0 ++ C = A1 := by rw [← hA0, ← hC]; exact (str_cat _ _).trans hA1
        have q2 : A1 ++ (⟨#[32, 61, 32]⟩ : ByteArray) = A2 := by rw [← hA1]; exact (str_cat _ [32, 61, 32]).trans hA2
        have q3 : A2 ++ C = A3 := by rw [← hA2, ← hC]; exact (str_cat _ _).trans hA3
        have q4 : A3 ++ (⟨#[32, 43, 32, 49]⟩ : ByteArray) = A4 := by rw [← hA3]; exact (str_cat _ [32, 43, 32, 49]).trans hA4
        have HN : Hid (A4 = str (setsB false K (0 + 1))) := by
          unfold Hid
          rw [← hA4]
          refine congrArg str ?_
          show _ = (if 0 < 0 then setsB false K 0 ++ [44, 32] else setsB false K 0) ++ setC 0 ++ [32, 61, 32] ++ setD false K 0 ++ [32, 43, 32, 49]
          rw [if_neg (by decide), show setD false K 0 = setC 0 from if_neg (fun e => absurd e.1 (by decide))]
        have zD : (str (dg 0)).size ≤ 2 := by rw [size_str]; exact hdl
        obtain ⟨DD, hDD⟩ : ∃ DD, str (dg 0) = DD := ⟨_, rfl⟩
        rw [hDD] at q9 zD hd
        clear hDD hA1 hA2 hA3 hA4 hC hlen hdl hcl
        rw [hA0]
        clear hA0
        go_wp2_with (go_at_call 17; refine (hd _).mono ?_; rintro e w1 ⟨rfl, hb1⟩)
        go_roundw
        case rel => exact ⟨0 + 1, by omega, by go_num, by rw [HN.out], below_next hbel (Nat.le_refl _) hb1⟩
        case measure => simp [intOf]; omega
    · obtain rfl : j = K := by omega
      have hlen := setsB_len false j j
      obtain ⟨S, hS⟩ : ∃ S, str (setsB false j j) = S := ⟨_, rfl⟩
      have hpa := sqParse_any S
      rw [← hS] at hpa
      by_cases h8 : 8 < j
      · have h8i : (8 : Int) < (j : Int) := by omega
        rw [sets_long j h8 hK2, hS] at hpa
        rw [hS]
        clear hS hlen
        go_wp2_with (first
          | (go_at_call 12; refine (num17_any _ _).mono ?_; rintro r w9 ⟨rfl, rfl⟩)
          | (go_at_call 13; refine (awake17_any _ (((hG.below hbel).below hb2).alloc _)).mono ?_; rintro r w3 ⟨rfl, hb3⟩)
          | (go_at_call 9; refine (hpa _ (hG.below hbel)).mono ?_; rintro e w2 ⟨hPE, hb2⟩; obtain rfl := (hPE : e = .returned (.tuple #[.agg #[.int .i64 0, .string ⟨#[]⟩, .string ⟨#[]⟩, .slice none 0 0, .slice none 0 0, .slice none 0 0, .slice none 0 0, .bool false, .int .i64 0, .slice none 0 0], .int .i64 0, .int .i64 2]))))
        go_ret
        have hA := below_next hbel (Nat.le_refl _) hb2
        exact ⟨rfl, below_next (hA.alloc hA.size _) (Nat.le_refl _) hb3⟩
      · have h8i : ¬ (8 : Int) < (j : Int) := by omega
        obtain ⟨x, tt, hx, hxl, hxt, hta, htn⟩ := sets_yes j hK1 (by omega)
        rw [hx, hS] at hpa
        rw [hS]
        obtain ⟨M, hM⟩ : ∃ M, j = M + 1 := ⟨j - 1, by omega⟩
        rw [show j - 1 = M by omega] at hxt
        have hMi : (j : Int) - 1 = (M : Int) := by omega
        have hMj : (M : Int) < (j : Int) := by omega
        have hMj2 : M < j := by omega
        clear hS hlen hx hM
        go_wp2_with (first
          | (go_at_call 12; refine (num17_any _ _).mono ?_; rintro r w9 ⟨rfl, rfl⟩)
          | (go_at_call 9; refine (hpa _ (hG.below hbel)).mono ?_; rintro e w2 ⟨hPE, hb2⟩
             obtain ⟨t, hu, hO⟩ := hPE
             have hOs := hO.sets
             rw [hxl] at hOs
             simp only [hxl] at hu
             obtain ⟨gs, gc, hge, hg1, hg2⟩ := hOs.form (by omega)
             obtain ⟨hg3, _, hg4⟩ := Value.slice.inj hge
             rw [hg3, hg4] at hu hOs
             subst hu
             obtain ⟨d1, d3⟩ := set_at hOs hxt
             rw [hta] at d1
             rw [htn] at d3
             clear hge hg3 hg4 hOs hO))
        go_ret
        exact ⟨rfl, (below_next hbel (Nat.le_refl _) hb2).alloc (by have h1 := hbel.size; have h2 := hb2.size; omega) _⟩
set_option maxHeartbeats 4000000 in
theorem sets_true (N K : Nat) (hN : N < 256) (hK : K = N % 12 + 1) (w : World) (hG : Glob w) :
    Calls Tryz.prog 8 #[.int .u8 (N : Int), .bool true] w fun e w' => e = .returned (.bool true) ∧ Below w.heap.size w w' := by
  have hK1 : 1 ≤ K := by omega
  have hK2 : K ≤ 12 := by omega
  have hmod : ((N : Int).tmod 12) = ((K : Int) - 1) := by
    rw [Int.tmod_eq_emod_of_nonneg (by omega)]
    omega
  have hmod2 : ((N : Int) % 12) = ((K : Int) - 1) := by omega
  have hmod3 : 1 + ((K : Int) - 1) = (K : Int) := by omega
  clear hK
  go_enter Tryz.func8, Tryz.ntmps8
  go_wp2
  go_loopw [6, 7, 8, 9, 17, 18, 19, 20, 21, 22, 23, 24, 25, 26, 27, 28, 29, 30, 31, 32, 33, 34, 35, 36, 37, 38, 39, 40, 41, 42, 43] (fun s i _ _ _ _ _ _ _ _ _ _ _ _ _ _ _ _ _ _ _ _ _ _ _ _ _ _ _ _ _ wr => ∃ j : Nat, j ≤ K ∧ i = .int .i64 (j : Int) ∧ s = .string (str (setsB true K j)) ∧ Below w.heap.size w wr) (fun _ i _ _ _ _ _ _ _ _ _ _ _ _ _ _ _ _ _ _ _ _ _ _ _ _ _ _ _ _ _ _ => K - (intOf i).toNat)
  case atStart => exact ⟨0, by omega, rfl, rfl, Below.refl _ _⟩
  case round =>
    obtain ⟨j, hj, rfl, rfl, hbel⟩ := hrel
    by_cases hjl : j < K
    · have hd : ∀ W, Calls Tryz.prog 17 #[.int .i64 (j : Int)] W fun e w' => e = .returned (.string (str (dg j))) ∧ Below W.heap.size W w' := fun W => by
        have h := digits_any (j : Int) (by omega) (by omega) W
        rw [itoa_dg j (by omega)] at h
        exact h
      by_cases hj0 : 0 < j
      · have hj0i : (0 : Int) < (j : Int) := by omega
        by_cases hjk : j + 1 = K
        · have hjK : j + 1 = K := hjk
          have hb : (((j : Int) : Int) == (K : Int) - 1) = true := by simp; omega
          have hlen := setsB_len true K j
          have hdl := dg_len j
          have hcl : (setC j).length ≤ 3 := by show (dg j).length + 1 ≤ 3; omega
          obtain ⟨C, hC⟩ : ∃ C, str (setC j) = C := ⟨_, rfl⟩
          have zC : C.size ≤ 3 := by rw [← hC, size_str]; exact hcl
          obtain ⟨S, hS⟩ : ∃ S, str (setsB true K j) = S := ⟨_, rfl⟩
          have zS : S.size ≤ 300 := by rw [← hS, size_str]; omega
          obtain ⟨A0, hA0⟩ : ∃ A, str (setsB true K j ++ [44, 32]) = A := ⟨_, rfl⟩
          have zA0 : A0.size ≤ 350 := by rw [← hA0, size_str]; simp only [List.length_append, List.length_cons, List.length_nil]; omega
          obtain ⟨A1, hA1⟩ : ∃ A, str ((setsB true K j ++ [44, 32]) ++ setC j) = A := ⟨_, rfl⟩
          have zA1 : A1.size ≤ 350 := by rw [← hA1, size_str]; simp only [List.length_append, List.length_cons, List.length_nil]; omega
          obtain ⟨A2, hA2⟩ : ∃ A, str (((setsB true K j ++ [44, 32]) ++ setC j) ++ [32, 61, 32]) = A := ⟨_, rfl⟩
          have zA2 : A2.size ≤ 350 := by rw [← hA2, size_str]; simp only [List.length_append, List.length_cons, List.length_nil]; omega
          obtain ⟨A3, hA3⟩ : ∃ A, str ((((setsB true K j ++ [44, 32]) ++ setC j) ++ [32, 61, 32]) ++ [120]) = A := ⟨_, rfl⟩
          have zA3 : A3.size ≤ 350 := by rw [← hA3, size_str]; simp only [List.length_append, List.length_cons, List.length_nil]; omega
          obtain ⟨A4, hA4⟩ : ∃ A, str (((((setsB true K j ++ [44, 32]) ++ setC j) ++ [32, 61, 32]) ++ [120]) ++ [32, 43, 32, 49]) = A := ⟨_, rfl⟩
          have zA4 : A4.size ≤ 350 := by rw [← hA4, size_str]; simp only [List.length_append, List.length_cons, List.length_nil]; omega
          have q9 : (⟨#[99]⟩ : ByteArray) ++ str (dg j) = C := (str_cat [99] (dg j)).trans hC
          have q0 : S ++ (⟨#[44, 32]⟩ : ByteArray) = A0 := by rw [← hS]; exact (str_cat _ [44, 32]).trans hA0
          have q1 : A0 ++ C = A1 := by rw [← hA0, ← hC]; exact (str_cat _ _).trans hA1
          have q2 : A1 ++ (⟨#[32, 61, 32]⟩ : ByteArray) = A2 := by rw [← hA1]; exact (str_cat _ [32, 61, 32]).trans hA2
          have q3 : A2 ++ (⟨#[120]⟩ : ByteArray) = A3 := by rw [← hA2]; exact (str_cat _ [120]).trans hA3
          have q4 : A3 ++ (⟨#[32, 43, 32, 49]⟩ : ByteArray) = A4 := by rw [← hA3]; exact (str_cat _ [32, 43, 32, 49]).trans hA4
          have HN : Hid (A4 = str (setsB true K (j + 1))) := by
            unfold Hid
            rw [← hA4]
            refine congrArg str ?_
            show _ = (if 0 < j then setsB true K j ++ [44, 32] else setsB true K j) ++ setC j ++ [32, 61, 32] ++ setD true K j ++ [32, 43, 32, 49]
            rw [if_pos hj0, show setD true K j = [120] from if_pos ⟨rfl, hjK⟩]
          have zD : (str (dg j)).size ≤ 2 := by rw [size_str]; exact hdl
          obtain ⟨DD, hDD⟩ : ∃ DD, str (dg j) = DD := ⟨_, rfl⟩
          rw [hDD] at q9 zD hd
          clear hDD hA1 hA2 hA3 hA4 hC hlen hdl hcl
          rw [hS]
          clear hS hA0
          go_wp2_with (go_at_call 17; refine (hd _).mono ?_; rintro e w1 ⟨rfl, hb1⟩)
          go_roundw
          case rel => exact ⟨j + 1, by omega, by go_num, by rw [HN.out], below_next hbel (Nat.le_refl _) hb1⟩
          case measure => simp [intOf]; omega
        · have hjK : ¬ j + 1 = K := hjk
          have hb : (((j : Int) : Int) == (K : Int) - 1) = false := by simp; omega
          have hlen := setsB_len true K j
          have hdl := dg_len j
          have hcl : (setC j).length ≤ 3 := by show (dg j).length + 1 ≤ 3; omega
          obtain ⟨C, hC⟩ : ∃ C, str (setC j) = C := ⟨_, rfl⟩
          have zC : C.size ≤ 3 := by rw [← hC, size_str]; exact hcl
          obtain ⟨S, hS⟩ : ∃ S, str (setsB true K j) = S := ⟨_, rfl⟩
          have zS : S.size ≤ 300 := by rw [← hS, size_str]; omega
          obtain ⟨A0, hA0⟩ : ∃ A, str (setsB true K j ++ [44, 32]) = A := ⟨_, rfl⟩
          have zA0 : A0.size ≤ 350 := by rw [← hA0, size_str]; simp only [List.length_append, List.length_cons, List.length_nil]; omega
          obtain ⟨A1, hA1⟩ : ∃ A, str ((setsB true K j ++ [44, 32]) ++ setC j) = A := ⟨_, rfl⟩
          have zA1 : A1.size ≤ 350 := by rw [← hA1, size_str]; simp only [List.length_append, List.length_cons, List.length_nil]; omega
          obtain ⟨A2, hA2⟩ : ∃ A, str (((setsB true K j ++ [44, 32]) ++ setC j) ++ [32, 61, 32]) = A := ⟨_, rfl⟩
          have zA2 : A2.size ≤ 350 := by rw [← hA2, size_str]; simp only [List.length_append, List.length_cons, List.length_nil]; omega
          obtain ⟨A3, hA3⟩ : ∃ A, str ((((setsB true K j ++ [44, 32]) ++ setC j) ++ [32, 61, 32]) ++ setC j) = A := ⟨_, rfl⟩
          have zA3 : A3.size ≤ 350 := by rw [← hA3, size_str]; simp only [List.length_append, List.length_cons, List.length_nil]; omega
          obtain ⟨A4, hA4⟩ : ∃ A, str (((((setsB true K j ++ [44, 32]) ++ setC j) ++ [32, 61, 32]) ++ setC j) ++ [32, 43, 32, 49]) = A := ⟨_, rfl⟩
          have zA4 : A4.size ≤ 350 := by rw [← hA4, size_str]; simp only [List.length_append, List.length_cons, List.length_nil]; omega
          have q9 : (⟨#[99]⟩ : ByteArray) ++ str (dg j) = C := (str_cat [99] (dg j)).trans hC
          have q0 : S ++ (⟨#[44, 32]⟩ : ByteArray) = A0 := by rw [← hS]; exact (str_cat _ [44, 32]).trans hA0
          have q1 : A0 ++ C = A1 := by rw [← hA0, ← hC]; exact (str_cat _ _).trans hA1
          have q2 : A1 ++ (⟨#[32, 61, 32]⟩ : ByteArray) = A2 := by rw [← hA1]; exact (str_cat _ [32, 61, 32]).trans hA2
          have q3 : A2 ++ C = A3 := by rw [← hA2, ← hC]; exact (str_cat _ _).trans hA3
          have q4 : A3 ++ (⟨#[32, 43, 32, 49]⟩ : ByteArray) = A4 := by rw [← hA3]; exact (str_cat _ [32, 43, 32, 49]).trans hA4
          have HN : Hid (A4 = str (setsB true K (j + 1))) := by
            unfold Hid
            rw [← hA4]
            refine congrArg str ?_
            show _ = (if 0 < j then setsB true K j ++ [44, 32] else setsB true K j) ++ setC j ++ [32, 61, 32] ++ setD true K j ++ [32, 43, 32, 49]
            rw [if_pos hj0, show setD true K j = setC j from if_neg (fun e => hjK e.2)]
          have zD : (str (dg j)).size ≤ 2 := by rw [size_str]; exact hdl
          obtain ⟨DD, hDD⟩ : ∃ DD, str (dg j) = DD := ⟨_, rfl⟩
          rw [hDD] at q9 zD hd
          clear hDD hA1 hA2 hA3 hA4 hC hlen hdl hcl
          rw [hS]
          clear hS hA0
          go_wp2_with (go_at_call 17; refine (hd _).mono ?_; rintro e w1 ⟨rfl, hb1⟩)
          go_roundw
          case rel => exact ⟨j + 1, by omega, by go_num, by rw [HN.out], below_next hbel (Nat.le_refl _) hb1⟩
          case measure => simp [intOf]; omega
      · obtain rfl : j = 0 := by omega
        have hd : ∀ W, Calls Tryz.prog 17 #[.int .i64 0] W fun e w' => e = .returned (.string (str (dg 0))) ∧ Below W.heap.size W w' := hd
        by_cases hjk : 0 + 1 = K
        · have hjK : 0 + 1 = K := hjk
          have hb : ((0 : Int) == (K : Int) - 1) = true := by simp; omega
          have hlen := setsB_len true K 0
          have hdl := dg_len 0
          have hcl : (setC 0).length ≤ 3 := by show (dg 0).length + 1 ≤ 3; omega
          obtain ⟨C, hC⟩ : ∃ C, str (setC 0) = C := ⟨_, rfl⟩
          have zC : C.size ≤ 3 := by rw [← hC, size_str]; exact hcl
          obtain ⟨A0, hA0⟩ : ∃ A, str (setsB true K 0) = A := ⟨_, rfl⟩
          have zA0 : A0.size ≤ 350 := by rw [← hA0, size_str]; omega
          obtain ⟨A1, hA1⟩ : ∃ A, str ((setsB true K 0) ++ setC 0) = A := ⟨_, rfl⟩
          have zA1 : A1.size ≤ 350 := by rw [← hA1, size_str]; simp only [List.length_append, List.length_cons, List.length_nil]; omega
          obtain ⟨A2, hA2⟩ : ∃ A, str (((setsB true K 0) ++ setC 0) ++ [32, 61, 32]) = A := ⟨_, rfl⟩
          have zA2 : A2.size ≤ 350 := by rw [← hA2, size_str]; simp only [List.length_append, List.length_cons, List.length_nil]; omega
          obtain ⟨A3, hA3⟩ : ∃ A, str ((((setsB true K 0) ++ setC 0) ++ [32, 61, 32]) ++ [120]) = A := ⟨_, rfl⟩
          have zA3 : A3.size ≤ 350 := by rw [← hA3, size_str]; simp only [List.length_append, List.length_cons, List.length_nil]; omega
          obtain ⟨A4, hA4⟩ : ∃ A, str (((((setsB true K 0) ++ setC 0) ++ [32, 61, 32]) ++ [120]) ++ [32, 43, 32, 49]) = A := ⟨_, rfl⟩
          have zA4 : A4.size ≤ 350 := by rw [← hA4, size_str]; simp only [List.length_append, List.length_cons, List.length_nil]; omega
          have q9 : (⟨#[99]⟩ : ByteArray) ++ str (dg 0) = C := (str_cat [99] (dg 0)).trans hC
          have q1 : A0 ++ C = A1 := by rw [← hA0, ← hC]; exact (str_cat _ _).trans hA1
          have q2 : A1 ++ (⟨#[32, 61, 32]⟩ : ByteArray) = A2 := by rw [← hA1]; exact (str_cat _ [32, 61, 32]).trans hA2
          have q3 : A2 ++ (⟨#[120]⟩ : ByteArray) = A3 := by rw [← hA2]; exact (str_cat _ [120]).trans hA3
          have q4 : A3 ++ (⟨#[32, 43, 32, 49]⟩ : ByteArray) = A4 := by rw [← hA3]; exact (str_cat _ [32, 43, 32, 49]).trans hA4
          have HN : Hid (A4 = str (setsB true K (0 + 1))) := by
            unfold Hid
            rw [← hA4]
            refine congrArg str ?_
            show _ = (if 0 < 0 then setsB true K 0 ++ [44, 32] else setsB true K 0) ++ setC 0 ++ [32, 61, 32] ++ setD true K 0 ++ [32, 43, 32, 49]
            rw [if_neg (by decide), show setD true K 0 = [120] from if_pos ⟨rfl, hjK⟩]
          have zD : (str (dg 0)).size ≤ 2 := by rw [size_str]; exact hdl
          obtain ⟨DD, hDD⟩ : ∃ DD, str (dg 0) = DD := ⟨_, rfl⟩
          rw [hDD] at q9 zD hd
          clear hDD hA1 hA2 hA3 hA4 hC hlen hdl hcl
          rw [hA0]
          clear hA0
          go_wp2_with (go_at_call 17; refine (hd _).mono ?_; rintro e w1 ⟨rfl, hb1⟩)
          go_roundw
          case rel => exact ⟨0 + 1, by omega, by go_num, by rw [HN.out], below_next hbel (Nat.le_refl _) hb1⟩
          case measure => simp [intOf]; omega
        · have hjK : ¬ 0 + 1 = K := hjk
          have hb : ((0 : Int) == (K : Int) - 1) = false := by simp; omega
          have hlen := setsB_len true K 0
          have hdl := dg_len 0
          have hcl : (setC 0).length ≤ 3 := by show (dg 0).length + 1 ≤ 3; omega
          obtain ⟨C, hC⟩ : ∃ C, str (setC 0) = C := ⟨_, rfl⟩
          have zC : C.size ≤ 3 := by rw [← hC, size_str]; exact hcl
          obtain ⟨A0, hA0⟩ : ∃ A, str (setsB true K 0) = A := ⟨_, rfl⟩
          have zA0 : A0.size ≤ 350 := by rw [← hA0, size_str]; omega
          obtain ⟨A1, hA1⟩ : ∃ A, str ((setsB true K 0) ++ setC 0) = A := ⟨_, rfl⟩
          have zA1 : A1.size ≤ 350 := by rw [← hA1, size_str]; simp only [List.length_append, List.length_cons, List.length_nil]; omega
          obtain ⟨A2, hA2⟩ : ∃ A, str (((setsB true K 0) ++ setC 0) ++ [32, 61, 32]) = A := ⟨_, rfl⟩
          have zA2 : A2.size ≤ 350 := by rw [← hA2, size_str]; simp only [List.length_append, List.length_cons, List.length_nil]; omega
          obtain ⟨A3, hA3⟩ : ∃ A, str ((((setsB true K 0) ++ setC 0) ++ [32, 61, 32]) ++ setC 0) = A := ⟨_, rfl⟩
          have zA3 : A3.size ≤ 350 := by rw [← hA3, size_str]; simp only [List.length_append, List.length_cons, List.length_nil]; omega
          obtain ⟨A4, hA4⟩ : ∃ A, str (((((setsB true K 0) ++ setC 0) ++ [32, 61, 32]) ++ setC 0) ++ [32, 43, 32, 49]) = A := ⟨_, rfl⟩
          have zA4 : A4.size ≤ 350 := by rw [← hA4, size_str]; simp only [List.length_append, List.length_cons, List.length_nil]; omega
          have q9 : (⟨#[99]⟩ : ByteArray) ++ str (dg 0) = C := (str_cat [99] (dg 0)).trans hC
          have q1 : A0 ++ C = A1 := by rw [← hA0, ← hC]; exact (str_cat _ _).trans hA1
          have q2 : A1 ++ (⟨#[32, 61, 32]⟩ : ByteArray) = A2 := by rw [← hA1]; exact (str_cat _ [32, 61, 32]).trans hA2
          have q3 : A2 ++ C = A3 := by rw [← hA2, ← hC]; exact (str_cat _ _).trans hA3
          have q4 : A3 ++ (⟨#[32, 43, 32, 49]⟩ : ByteArray) = A4 := by rw [← hA3]; exact (str_cat _ [32, 43, 32, 49]).trans hA4
          have HN : Hid (A4 = str (setsB true K (0 + 1))) := by
            unfold Hid
            rw [← hA4]
            refine congrArg str ?_
            show _ = (if 0 < 0 then setsB true K 0 ++ [44, 32] else setsB true K 0) ++ setC 0 ++ [32, 61, 32] ++ setD true K 0 ++ [32, 43, 32, 49]
            rw [if_neg (by decide), show setD true K 0 = setC 0 from if_neg (fun e => hjK e.2)]
          have zD : (str (dg 0)).size ≤ 2 := by rw [size_str]; exact hdl
          obtain ⟨DD, hDD⟩ : ∃ DD, str (dg 0) = DD := ⟨_, rfl⟩
          rw [hDD] at q9 zD hd
          clear hDD hA1 hA2 hA3 hA4 hC hlen hdl hcl
          rw [hA0]
          clear hA0
          go_wp2_with (go_at_call 17; refine (hd _).mono ?_; rintro e w1 ⟨rfl, hb1⟩)
          go_roundw
          case rel => exact ⟨0 + 1, by omega, by go_num, by rw [HN.out], below_next hbel (Nat.le_refl _) hb1⟩
          case measure => simp [intOf]; omega
    · obtain rfl : j = K := by omega
      obtain ⟨p, hp, hp5⟩ := sets_other j hK1 hK2
      have hlen := setsB_len true j j
      have hz : (str (setsB true j j)).size = (setsB true j j).length := size_str _
      obtain ⟨S, hS⟩ : ∃ S, str (setsB true j j) = S := ⟨_, rfl⟩
      have hpa := sqParse_any S
      rw [← hS, hp, hS] at hpa
      rw [hS] at hz
      have hat : ((p : Int) == (S.size : Int) - 5) = true := by simp; omega
      have hS5 : (S.size : Int) ≤ 400 := by omega
      rw [hS]
      clear hS hp hlen hz hp5
      go_wp2_with (first
        | (go_at_call 12; refine (num17_any _ _).mono ?_; rintro r w9 ⟨rfl, rfl⟩)
        | (go_at_call 9; refine (hpa _ (hG.below hbel)).mono ?_; rintro e w2 ⟨hPE, hb2⟩; obtain rfl := (hPE : e = .returned (.tuple #[.agg #[.int .i64 0, .string ⟨#[]⟩, .string ⟨#[]⟩, .slice none 0 0, .slice none 0 0, .slice none 0 0, .slice none 0 0, .bool false, .int .i64 0, .slice none 0 0], .int .i64 (p : Int), .int .i64 3]))))
      go_ret
      exact ⟨rfl, (below_next hbel (Nat.le_refl _) hb2).alloc (by have h1 := hbel.size; have h2 := hb2.size; omega) _⟩
theorem sqlSets_any (N : Nat) (hN : N < 256) (o : Bool) (w : World) (hG : Glob w) :
    Calls Tryz.prog 8 #[.int .u8 (N : Int), .bool o] w fun e w' => e = .returned (.bool true) ∧ Below w.heap.size w w' := by
  cases o with
  | false => exact sets_false N _ hN rfl w hG
  | true => exact sets_true N _ hN rfl w hG
end Go.Proofs.YthmkcpakaejaoaaGreatDoor
