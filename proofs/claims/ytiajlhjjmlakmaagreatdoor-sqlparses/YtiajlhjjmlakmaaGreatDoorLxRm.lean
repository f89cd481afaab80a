import Derived.Test.YtiajlhjjmlakmaaGreatDoorLxRh
namespace Go.Proofs.YtiajlhjjmlakmaaGreatDoor
open Go.RowKit Num
set_option linter.unusedVariables false
set_option maxRecDepth 100000

set_option maxHeartbeats 4000000 in
theorem refNumber_plus (s : ByteArray) (p : Nat) (hp : p < s.size) (hs2 : s.size ≤ 1000) (h45 : ¬ s[p].toNat = 45) (hdg : digB s[p] = true) (w : World) :
  Calls Tryz.prog 72 #[.string s, .int .i64 (p : Int)] w fun e w' => RefSays s p (intT (s[p] :: (s.data.toList.drop (p + 1)).take (runL letB (s.data.toList.drop (p + 1))))) e ∧ Below w.heap.size w w' := by
 have hl : s.data.toList.length = s.size := rfl
 have hdp := sdrop_at s p hp
 have hm : (((s[p].toNat : Nat) : Int) == 45) = false := by simp; omega
 have hsm : (s.size : Int) ≤ 1000 := by omega
 obtain ⟨f, hf⟩ : ∃ f, p = f := ⟨_, rfl⟩
 obtain ⟨l, hll⟩ : ∃ l, s.data.toList.drop f = l := ⟨_, rfl⟩
 have HF : Hid (f = p) := hf.symm
 have hfs : f ≤ s.size := by omega
 have hlen : l.length = s.size - f := by rw [← hll, List.length_drop, hl]
 have hat : ∀ j (h : f + j < s.size), l[j]? = some s[f + j] := by
  intro j h
  rw [← hll, List.getElem?_drop, List.getElem?_eq_getElem (by rw [hl]; exact h)]
  rfl
 obtain ⟨o, ho⟩ : ∃ o, intT (s[p] :: (s.data.toList.drop (p + 1)).take (runL letB (s.data.toList.drop (p + 1)))) = o := ⟨_, rfl⟩
 have hask : o = intT (l.take (runL letB l)) := by
  rw [← ho]
  subst hf; rw [hdp] at hll; rw [← hll, runL, if_pos (digB_let hdg), List.take_succ_cons]
 have hcne : ∃ c d, l = c :: d ∧ c.toNat ≠ 45 := by subst hf; exact ⟨s[p], _, by rw [← hll, hdp], h45⟩
 have hno : ∀ d, d = l.take (runL letB l) → ¬ (canonD d ∧ decVal d < 9223372036854775808) → o = none := by
  intro d hd h
  rw [hask]
  subst hd; exact plus_no hcne h
 have hyes : ∀ j, DigsTo l j → runL letB l = j → canonD (l.take j) → decVal (l.take j) < 9223372036854775808 → o = some (3, j, ⟨2, (decVal (l.take j) : Int), 0, ⟨#[]⟩⟩) := by
  intro j hj hr hc h2
  rw [hask, hr]
  have := intT_plus (l.take j) hc h2
  rw [List.length_take, Nat.min_eq_left hj.1] at this
  exact this
 rw [ho]
 have hno : Hid (∀ d, d = l.take (runL letB l) → ¬ (canonD d ∧ decVal d < 9223372036854775808) → o = none) := hno
 rename_i hno0
 clear hno0
 have hyes : Hid (∀ j, DigsTo l j → runL letB l = j → canonD (l.take j) → decVal (l.take j) < 9223372036854775808 → o = some (3, j, ⟨2, (decVal (l.take j) : Int), 0, ⟨#[]⟩⟩)) := hyes
 rename_i hyes0
 clear hyes0
 have hlen : Hid (l.length = s.size - f) := hlen
 rename_i hlen0
 clear hlen0
 have hat : Hid (∀ j (h : f + j < s.size), l[j]? = some s[f + j]) := hat
 rename_i hat0
 clear hat0
 have hfi : (p : Int) = (f : Int) := by omega
 clear hask ho hll hdp hl hf hcne h45 hdg
 have hfp : f = p := HF.out; subst hfp; clear hfi
 go_enter Tryz.func72, Tryz.ntmps72
 go_wp2
 go_loop [7, 10, 11] (fun k n _ => ∃ (j K : Nat) (N : Int), f ≤ K ∧ K ≤ s.size ∧ k = .int .i64 (K : Int) ∧ n = .int .i64 N ∧ -9223372036854775808 ≤ N ∧ N ≤ 0 ∧ Hid (f + j = K ∧ DigsTo l j ∧ N = -(decVal (l.take j) : Int))) (fun k _ _ => s.size - (intOf k).toNat)
 case atStart => exact ⟨0, f, 0, by omega, by omega, rfl, rfl, by omega, by omega, ⟨rfl, ⟨by omega, fun _ _ h => absurd h (Nat.not_lt_zero _)⟩, rfl⟩⟩
 case round =>
  obtain ⟨j, K, N, hfK, hK, rfl, rfl, hN1, hN2, HJ⟩ := hrel
  by_cases hKs : K < s.size
  ·have hdig := refDigit_any s[K]
   have hlow := refLow_any s[K]
   have hlj : l[j]? = some s[K] := by
    have h := hat.out j (by have := HJ.out.1; omega)
    simp only [HJ.out.1] at h
    exact h
   obtain ⟨hj, hlj2⟩ := List.getElem?_eq_some_iff.1 hlj
   cases hd : digB s[K] with
   | true =>
    rw [hd] at hdig
    have hb := (digB_iff _).1 hd
    obtain ⟨D, hD⟩ : ∃ D : Nat, s[K].toNat - 48 = D := ⟨_, rfl⟩
    have hDi : ((s[K].toNat : Nat) : Int) - 48 = (D : Int) := by omega
    have hD9 : D ≤ 9 := by omega
    obtain ⟨T, hT⟩ : ∃ T : Nat, (9223372036854775808 - D) / 10 = T := ⟨_, rfl⟩
    have hTi : ((-9223372036854775808 : Int) + (D : Int)).tdiv 10 = -(T : Int) := by
     rw [show (-9223372036854775808 : Int) + (D : Int) = -((9223372036854775808 - D : Nat) : Int) by omega, Int.neg_tdiv, ← hT]
     rfl
    obtain ⟨T', hT'⟩ : ∃ T' : Int, -(T : Int) = T' := ⟨_, rfl⟩
    have hTb1 : -922337203685477581 ≤ T' := by omega
    have hTb2 : T' ≤ 0 := by omega
    rw [hT'] at hTi
    have hnext := decVal_take_succ l j hj
    rw [hlj2, hD] at hnext
    have hdt : DigsTo l (j + 1) := by
     refine ⟨by omega, fun i hi hij => ?_⟩
     by_cases h : i = j
     ·subst h
      rw [hlj2]
      exact hd
     ·exact HJ.out.2.1.2 i hi (by omega)
    by_cases hlt : N < T'
    ·have hfin : Hid (o = none) := by
      refine hno.out _ rfl fun h => ?_
      have hg := great_no hdt (by rw [hnext]; have := HJ.out.2.2; omega)
      exact hg (by have := h.2; omega)
     clear hd hb hlj hlj2 hnext hdt hD hT hT' HJ hno hyes hlen hat
     go_wp2_with (first
      | (go_at_call 71; refine (hdig _).mono ?_; rintro e w1 ⟨rfl, rfl⟩)
      | (go_at_call 68; refine (hlow _).mono ?_; rintro e w1 ⟨rfl, rfl⟩))
     refine bodyPost_ret (v := .tuple #[tokV 0 ⟨#[]⟩ noV 0, .int .i64 0, .bool false]) (by simp [results, Tryz.results72, go_sem, tokV, noV]) rfl ⟨refSays_none hfin.out _ _ _ _ _, (Below.refl _ _).alloc (Nat.le_refl _) _⟩
    ·obtain ⟨N2, hN2e⟩ : ∃ N2 : Int, 10 * N - (D : Int) = N2 := ⟨_, rfl⟩
     have hb1 : -9223372036854775808 ≤ 10 * N := by omega
     have hb2 : 10 * N ≤ 0 := by omega
     have hb3 : -9223372036854775808 ≤ N2 := by omega
     have hb4 : N2 ≤ 0 := by omega
     have hb5 : ¬ 0 < N2 := by omega
     have HJ2 : Hid (f + (j + 1) = K + 1 ∧ DigsTo l (j + 1) ∧ N2 = -(decVal (l.take (j + 1)) : Int)) := by
      refine ⟨by have := HJ.out.1; omega, hdt, ?_⟩
      rw [hnext]
      have := HJ.out.2.2
      omega
     by_cases heq : N = T'
     all_goals
      first
      | (have heq2 : (N == T') = true := by simpa using heq)
      | (have heq2 : (N == T') = false := by simpa using heq)
      clear hd hb hlj hlj2 hnext hdt hD hT hT' HJ hno hyes hlen hat heq
      go_wp2_with (first
      | (go_at_call 71; refine (hdig _).mono ?_; rintro e w1 ⟨rfl, rfl⟩)
      | (go_at_call 68; refine (hlow _).mono ?_; rintro e w1 ⟨rfl, rfl⟩))
      go_round
      case rel => exact ⟨j + 1, K + 1, N2, by omega, by omega, by go_num, by go_num, by omega, by omega, HJ2⟩
      case measure => simp [intOf]; omega
   | false =>
    rw [hd] at hdig
    have hF : (K : Int) < (s.size : Int) := by omega
    have hdd : Hid (∀ h : K < s.size, digB s[K] = false) := fun _ => hd
    have hlow2 := hlow
    clear hlow
    have e95 := int_eq s[K] 95
    have e95 : (((s[K].toNat : Nat) : Int) == 95) = decide (s[K].toNat = 95) := e95
    have hletter : (∃ h : K < s.size, letB s[K] = true) → o = none := by
     rintro ⟨h, h2⟩
     have hlj : l[j]? = some s[K] := by
      have h := hat.out j (by have := HJ.out.1; omega)
      simp only [HJ.out.1] at h
      exact h
     obtain ⟨hj, hlj2⟩ := List.getElem?_eq_some_iff.1 hlj
     exact hno.out _ rfl fun hg => letter_no HJ.out.2.1 hj (by rw [hlj2]; exact h2) (by rw [hlj2]; exact hdd.out h) hg.1
    have hstop : (¬ ∃ h : K < s.size, letB s[K] = true) → runL letB l = j := by
     intro h
     refine digsTo_run HJ.out.2.1 fun hj => ?_
     have hk : K < s.size := by have := HJ.out.1; have := hlen.out; omega
     have hlj : l[j]? = some s[K] := by
      have h := hat.out j (by have := HJ.out.1; omega)
      simp only [HJ.out.1] at h
      exact h
     obtain ⟨_, hlj2⟩ := List.getElem?_eq_some_iff.1 hlj
     rw [hlj2]
     cases h3 : letB s[K] with
     | true => exact absurd ⟨hk, h3⟩ h
     | false => rfl
    have hfail : ¬ (canonD (l.take j) ∧ decVal (l.take j) < 9223372036854775808) → o = none := by
     intro h
     by_cases h2 : ∃ h : K < s.size, letB s[K] = true
     ·exact hletter h2
     ·exact hno.out _ rfl (by rw [hstop h2]; exact h)
    have hhead : ∀ h : f < s.size, 1 ≤ j → l.headD 0 = s[f] := by
     intro h h2
     have h3 := hat.out 0 h
     cases hll : l with
     | nil => rw [hll] at h3; cases h3
     | cons a b => rw [hll] at h3; exact Option.some.inj h3
    have hval : N = -(decVal (l.take j) : Int) := HJ.out.2.2
    have hlow := hlow2
    by_cases hA : K = f
    ·have hA2 : ((K : Int) == (f : Int)) = true := by rw [hA]; exact beq_self_eq_true _
     have hfin : Hid (o = none) := hfail fun h => by
      have h1 := h.1.1
      rw [List.length_take] at h1
      have := HJ.out.1
      omega
     clear HJ hno hyes hlen hat hstop hletter hfail hdd hhead hval
     subst hA
     go_wp2_with (first
      | (go_at_call 71; refine (hdig _).mono ?_; rintro e w1 ⟨rfl, rfl⟩)
      | (go_at_call 68; refine (hlow _).mono ?_; rintro e w1 ⟨rfl, rfl⟩))
     refine bodyPost_ret (v := .tuple #[tokV 0 ⟨#[]⟩ noV 0, .int .i64 0, .bool false]) (by simp [results, Tryz.results72, go_sem, tokV, noV]) rfl ⟨refSays_none hfin.out _ _ _ _ _, (Below.refl _ _).alloc (Nat.le_refl _) _⟩

    ·have hA2 : ((K : Int) == (f : Int)) = false := by simp; omega
     have hfs2 : f < s.size := by omega
     have hj1 : 1 ≤ j := by have := HJ.out.1; omega
     have h48 := int_eq s[f] 48
     have h48 : (((s[f].toNat : Nat) : Int) == 48) = decide (s[f].toNat = 48) := h48
     by_cases hB : f + 1 < K ∧ s[f].toNat = 48
     ·have hB2 : (f : Int) + 1 < (K : Int) := by omega
      rw [decide_eq_true hB.2] at h48
      have hfin : Hid (o = none) := hfail fun h => nought_no HJ.out.2.1.1 (by have := HJ.out.1; omega) (by rw [hhead hfs2 hj1]; exact UInt8.toNat_inj.1 hB.2) h.1
      clear HJ hno hyes hlen hat hstop hletter hfail hdd hhead hval
      go_wp2_with (first
       | (go_at_call 71; refine (hdig _).mono ?_; rintro e w1 ⟨rfl, rfl⟩)
       | (go_at_call 68; refine (hlow _).mono ?_; rintro e w1 ⟨rfl, rfl⟩))
      refine bodyPost_ret (v := .tuple #[tokV 0 ⟨#[]⟩ noV 0, .int .i64 0, .bool false]) (by simp [results, Tryz.results72, go_sem, tokV, noV]) rfl ⟨refSays_none hfin.out _ _ _ _ _, (Below.refl _ _).alloc (Nat.le_refl _) _⟩

     ·have hcan : canonD (l.take j) := by
       refine canon_of HJ.out.2.1 hj1 ?_
       by_cases h1 : j ≤ 1
       ·exact .inl h1
       ·right
        rw [hhead hfs2 hj1]
        intro e
        exact hB ⟨by have := HJ.out.1; omega, by rw [e]; rfl⟩
      have hB3 : (¬ (f : Int) + 1 < (K : Int)) ∨ ((f : Int) + 1 < (K : Int) ∧ (((s[f].toNat : Nat) : Int) == 48) = false) := by
       by_cases h1 : f + 1 < K
       ·right
        refine ⟨by omega, ?_⟩
        rw [h48, decide_eq_false (fun e => hB ⟨h1, e⟩)]
       ·left
        omega
      clear h48 hB
      by_cases hD : N = -9223372036854775808
      ·have hD2 : (N == -9223372036854775808) = true := by simpa using hD
       have hfin : Hid (o = none) := hfail fun h => by have := h.2; omega
       clear HJ hno hyes hlen hat hstop hletter hfail hdd hhead hval hcan
       subst hD
       rcases hB3 with hB2 | ⟨hB2, h48⟩
       all_goals
        go_wp2_with (first
         | (go_at_call 71; refine (hdig _).mono ?_; rintro e w1 ⟨rfl, rfl⟩)
         | (go_at_call 68; refine (hlow _).mono ?_; rintro e w1 ⟨rfl, rfl⟩))
        refine bodyPost_ret (v := .tuple #[tokV 0 ⟨#[]⟩ noV 0, .int .i64 0, .bool false]) (by simp [results, Tryz.results72, go_sem, tokV, noV]) rfl ⟨refSays_none hfin.out _ _ _ _ _, (Below.refl _ _).alloc (Nat.le_refl _) _⟩


      ·have hD2 : (N == -9223372036854775808) = false := by simpa using hD
       by_cases hlo : lowB s[K] = true
       ·have hfin : Hid (o = none) := hletter ⟨hKs, by simp [letB, hlo]⟩
        rw [hlo] at hlow
        clear HJ hno hyes hlen hat hstop hletter hfail hdd hhead hval hcan
        rcases hB3 with hB2 | ⟨hB2, h48⟩
        all_goals
         go_wp2_with (first
          | (go_at_call 71; refine (hdig _).mono ?_; rintro e w1 ⟨rfl, rfl⟩)
          | (go_at_call 68; refine (hlow _).mono ?_; rintro e w1 ⟨rfl, rfl⟩))
         refine bodyPost_ret (v := .tuple #[tokV 0 ⟨#[]⟩ noV 0, .int .i64 0, .bool false]) (by simp [results, Tryz.results72, go_sem, tokV, noV]) rfl ⟨refSays_none hfin.out _ _ _ _ _, (Below.refl _ _).alloc (Nat.le_refl _) _⟩


       ·have hlo2 : lowB s[K] = false := by simpa using hlo
        rw [hlo2] at hlow
        by_cases h95 : s[K].toNat = 95
        ·have hfin : Hid (o = none) := hletter ⟨hKs, by simp [letB, h95]⟩
         rw [decide_eq_true h95] at e95
         have hdz : ∀ z : Int, z = (s[K].toNat : Int) → ∀ w, Calls Tryz.prog 71 #[.int .u8 z] w fun e w' => e = .returned (.bool false) ∧ w' = w := fun z hz w => by subst hz; exact hdig w
         have hlz : ∀ z : Int, z = (s[K].toNat : Int) → ∀ w, Calls Tryz.prog 68 #[.int .u8 z] w fun e w' => e = .returned (.bool false) ∧ w' = w := fun z hz w => by subst hz; exact hlow w
         clear HJ hno hyes hlen hat hstop hletter hfail hdd hhead hval hcan hdig hlow
         rcases hB3 with hB2 | ⟨hB2, h48⟩
         all_goals
          go_wp2_with (first
           | (go_at_call 71; refine (hdz _ (by first | rfl | (have h9 := e95; simp at h9; omega)) _).mono ?_; rintro e w1 ⟨rfl, rfl⟩)
           | (go_at_call 68; refine (hlz _ (by first | rfl | (have h9 := e95; simp at h9; omega)) _).mono ?_; rintro e w1 ⟨rfl, rfl⟩))
          refine bodyPost_ret (v := .tuple #[tokV 0 ⟨#[]⟩ noV 0, .int .i64 0, .bool false]) (by simp [results, Tryz.results72, go_sem, tokV, noV]) rfl ⟨refSays_none hfin.out _ _ _ _ _, (Below.refl _ _).alloc (Nat.le_refl _) _⟩


        ·rw [decide_eq_false h95] at e95
         have hno2 : ¬ ∃ h : K < s.size, letB s[K] = true := by
          rintro ⟨h, h2⟩
          have := hdd.out h
          simp [letB, hlo2, h95, this] at h2
         have hfin : Hid (o = some (3, j, ⟨2, (decVal (l.take j) : Int), 0, ⟨#[]⟩⟩)) := hyes.out j HJ.out.2.1 (hstop hno2) hcan (by omega)
         obtain ⟨t, ht⟩ : ∃ t, s.extract f K = t := ⟨_, rfl⟩
         have htd : str ((s.data.toList.drop f).take (j)) = t := by
          rw [← ht, ext_sub]
          congr 2
          have := HJ.out.1
          skip
          omega
         obtain ⟨M, hM⟩ : ∃ M : Int, -N = M := ⟨_, rfl⟩
         have hsay : Hid (RefSays s f o (.returned (.tuple #[tokV 3 t ⟨2, M, 0, ⟨#[]⟩⟩ (f : Int), .int .i64 (K : Int), .bool true]))) := by
          unfold Hid
          rw [hfin.out]
          show _ = _
          rw [htd, show ((f + (j) : Nat) : Int) = (K : Int) by (have := HJ.out.1; omega), show (decVal (l.take j) : Int) = M by omega]
         have hpk : (f : Int) ≤ (K : Int) := by omega
         have hks2 : (K : Int) ≤ (s.size : Int) := by omega
         clear HJ hno hyes hlen hat hstop hletter hfail hdd hhead hval hcan htd hfin hno2 
         have hN0 : -9223372036854775808 < N := by omega
         rcases hB3 with hB2 | ⟨hB2, h48⟩
         all_goals
          go_wp2_with (first
          | (go_at_call 71; refine (hdig _).mono ?_; rintro e w1 ⟨rfl, rfl⟩)
          | (go_at_call 68; refine (hlow _).mono ?_; rintro e w1 ⟨rfl, rfl⟩))
          refine bodyPost_ret (v := .tuple #[tokV 3 t ⟨2, M, 0, ⟨#[]⟩⟩ (f : Int), .int .i64 (K : Int), .bool true]) (by simp [results, Tryz.results72, go_sem, tokV]) rfl ⟨hsay.out, (Below.refl _ _).alloc (Nat.le_refl _) _⟩



  ·have hF : ¬ (K : Int) < (s.size : Int) := by omega
   have hdd : Hid (∀ h : K < s.size, digB s[K] = false) := fun h => absurd h hKs
   have hdig := refDigit_any 0
   have hlow := refLow_any 0
   have hletter : (∃ h : K < s.size, letB s[K] = true) → o = none := by
    rintro ⟨h, h2⟩
    have hlj : l[j]? = some s[K] := by
     have h := hat.out j (by have := HJ.out.1; omega)
     simp only [HJ.out.1] at h
     exact h
    obtain ⟨hj, hlj2⟩ := List.getElem?_eq_some_iff.1 hlj
    exact hno.out _ rfl fun hg => letter_no HJ.out.2.1 hj (by rw [hlj2]; exact h2) (by rw [hlj2]; exact hdd.out h) hg.1
   have hstop : (¬ ∃ h : K < s.size, letB s[K] = true) → runL letB l = j := by
    intro h
    refine digsTo_run HJ.out.2.1 fun hj => ?_
    have hk : K < s.size := by have := HJ.out.1; have := hlen.out; omega
    have hlj : l[j]? = some s[K] := by
     have h := hat.out j (by have := HJ.out.1; omega)
     simp only [HJ.out.1] at h
     exact h
    obtain ⟨_, hlj2⟩ := List.getElem?_eq_some_iff.1 hlj
    rw [hlj2]
    cases h3 : letB s[K] with
    | true => exact absurd ⟨hk, h3⟩ h
    | false => rfl
   have hfail : ¬ (canonD (l.take j) ∧ decVal (l.take j) < 9223372036854775808) → o = none := by
    intro h
    by_cases h2 : ∃ h : K < s.size, letB s[K] = true
    ·exact hletter h2
    ·exact hno.out _ rfl (by rw [hstop h2]; exact h)
   have hhead : ∀ h : f < s.size, 1 ≤ j → l.headD 0 = s[f] := by
    intro h h2
    have h3 := hat.out 0 h
    cases hll : l with
    | nil => rw [hll] at h3; cases h3
    | cons a b => rw [hll] at h3; exact Option.some.inj h3
   have hval : N = -(decVal (l.take j) : Int) := HJ.out.2.2
   by_cases hA : K = f
   ·have hA2 : ((K : Int) == (f : Int)) = true := by rw [hA]; exact beq_self_eq_true _
    have hfin : Hid (o = none) := hfail fun h => by
     have h1 := h.1.1
     rw [List.length_take] at h1
     have := HJ.out.1
     omega
    exfalso
    omega

   ·have hA2 : ((K : Int) == (f : Int)) = false := by simp; omega
    have hfs2 : f < s.size := by omega
    have hj1 : 1 ≤ j := by have := HJ.out.1; omega
    have h48 := int_eq s[f] 48
    have h48 : (((s[f].toNat : Nat) : Int) == 48) = decide (s[f].toNat = 48) := h48
    by_cases hB : f + 1 < K ∧ s[f].toNat = 48
    ·have hB2 : (f : Int) + 1 < (K : Int) := by omega
     rw [decide_eq_true hB.2] at h48
     have hfin : Hid (o = none) := hfail fun h => nought_no HJ.out.2.1.1 (by have := HJ.out.1; omega) (by rw [hhead hfs2 hj1]; exact UInt8.toNat_inj.1 hB.2) h.1
     clear HJ hno hyes hlen hat hstop hletter hfail hdd hhead hval
     go_wp2_with (first
      | (go_at_call 71; refine (hdig _).mono ?_; rintro e w1 ⟨rfl, rfl⟩)
      | (go_at_call 68; refine (hlow _).mono ?_; rintro e w1 ⟨rfl, rfl⟩))
     refine bodyPost_ret (v := .tuple #[tokV 0 ⟨#[]⟩ noV 0, .int .i64 0, .bool false]) (by simp [results, Tryz.results72, go_sem, tokV, noV]) rfl ⟨refSays_none hfin.out _ _ _ _ _, (Below.refl _ _).alloc (Nat.le_refl _) _⟩

    ·have hcan : canonD (l.take j) := by
      refine canon_of HJ.out.2.1 hj1 ?_
      by_cases h1 : j ≤ 1
      ·exact .inl h1
      ·right
       rw [hhead hfs2 hj1]
       intro e
       exact hB ⟨by have := HJ.out.1; omega, by rw [e]; rfl⟩
     have hB3 : (¬ (f : Int) + 1 < (K : Int)) ∨ ((f : Int) + 1 < (K : Int) ∧ (((s[f].toNat : Nat) : Int) == 48) = false) := by
      by_cases h1 : f + 1 < K
      ·right
       refine ⟨by omega, ?_⟩
       rw [h48, decide_eq_false (fun e => hB ⟨h1, e⟩)]
      ·left
       omega
     clear h48 hB
     by_cases hD : N = -9223372036854775808
     ·have hD2 : (N == -9223372036854775808) = true := by simpa using hD
      have hfin : Hid (o = none) := hfail fun h => by have := h.2; omega
      clear HJ hno hyes hlen hat hstop hletter hfail hdd hhead hval hcan
      subst hD
      rcases hB3 with hB2 | ⟨hB2, h48⟩
      all_goals
       go_wp2_with (first
        | (go_at_call 71; refine (hdig _).mono ?_; rintro e w1 ⟨rfl, rfl⟩)
        | (go_at_call 68; refine (hlow _).mono ?_; rintro e w1 ⟨rfl, rfl⟩))
       refine bodyPost_ret (v := .tuple #[tokV 0 ⟨#[]⟩ noV 0, .int .i64 0, .bool false]) (by simp [results, Tryz.results72, go_sem, tokV, noV]) rfl ⟨refSays_none hfin.out _ _ _ _ _, (Below.refl _ _).alloc (Nat.le_refl _) _⟩


     ·have hD2 : (N == -9223372036854775808) = false := by simpa using hD
      have hno2 : ¬ ∃ h : K < s.size, letB s[K] = true := by
       rintro ⟨h, _⟩
       omega
      have hfin : Hid (o = some (3, j, ⟨2, (decVal (l.take j) : Int), 0, ⟨#[]⟩⟩)) := hyes.out j HJ.out.2.1 (hstop hno2) hcan (by omega)
      obtain ⟨t, ht⟩ : ∃ t, s.extract f K = t := ⟨_, rfl⟩
      have htd : str ((s.data.toList.drop f).take (j)) = t := by
       rw [← ht, ext_sub]
       congr 2
       have := HJ.out.1
       skip
       omega
      obtain ⟨M, hM⟩ : ∃ M : Int, -N = M := ⟨_, rfl⟩
      have hsay : Hid (RefSays s f o (.returned (.tuple #[tokV 3 t ⟨2, M, 0, ⟨#[]⟩⟩ (f : Int), .int .i64 (K : Int), .bool true]))) := by
       unfold Hid
       rw [hfin.out]
       show _ = _
       rw [htd, show ((f + (j) : Nat) : Int) = (K : Int) by (have := HJ.out.1; omega), show (decVal (l.take j) : Int) = M by omega]
      have hpk : (f : Int) ≤ (K : Int) := by omega
      have hks2 : (K : Int) ≤ (s.size : Int) := by omega
      clear HJ hno hyes hlen hat hstop hletter hfail hdd hhead hval hcan htd hfin hno2 
      have hN0 : -9223372036854775808 < N := by omega
      rcases hB3 with hB2 | ⟨hB2, h48⟩
      all_goals
       go_wp2_with (first
       | (go_at_call 71; refine (hdig _).mono ?_; rintro e w1 ⟨rfl, rfl⟩)
       | (go_at_call 68; refine (hlow _).mono ?_; rintro e w1 ⟨rfl, rfl⟩))
       refine bodyPost_ret (v := .tuple #[tokV 3 t ⟨2, M, 0, ⟨#[]⟩⟩ (f : Int), .int .i64 (K : Int), .bool true]) (by simp [results, Tryz.results72, go_sem, tokV]) rfl ⟨hsay.out, (Below.refl _ _).alloc (Nat.le_refl _) _⟩


end Go.Proofs.YtiajlhjjmlakmaaGreatDoor
