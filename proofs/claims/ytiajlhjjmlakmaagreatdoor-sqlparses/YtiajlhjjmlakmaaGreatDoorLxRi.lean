import Derived.Test.YtiajlhjjmlakmaaGreatDoorLxRj
namespace Go.Proofs.YtiajlhjjmlakmaaGreatDoor
open Go.RowKit Num
set_option linter.unusedVariables false
set_option maxRecDepth 100000
set_option linter.unusedSimpArgs false

set_option maxHeartbeats 1000000 in
theorem refHex_any (s : ByteArray) (p : Nat) (hp : p + 1 < s.size) (hs2 : s.size ≤ 1000) (w : World) :
    Calls Tryz.prog 67 #[.string s, .int .i64 (p : Int)] w fun e w' => RefSays s p (if s[p].toNat = 120 then bytesT (s.data.toList.drop (p + 2)) else floatT (s.data.toList.drop (p + 2))) e ∧ Below w.heap.size w w' := by
  by_cases hq : ∃ J q, HexTo (s.data.toList.drop (p + 2)) (2 * J) ∧ (s.data.toList.drop (p + 2)).drop (2 * J) = 39 :: q
  · obtain ⟨J, q, hJ, hq⟩ := hq
    by_cases h120 : s[p].toNat = 120
    · rw [if_pos h120]
      exact refHex_x s p hp hs2 hJ hq h120 w
    · rw [if_neg h120]
      by_cases h8 : J = 8
      · exact refHex_f s p hp hs2 hJ hq h120 h8 w
      · exact refHex_n s p hp hs2 hJ hq h120 h8 w
  have hnq : Hid (¬ ∃ J q, HexTo (s.data.toList.drop (p + 2)) (2 * J) ∧ (s.data.toList.drop (p + 2)).drop (2 * J) = 39 :: q) := hq
  clear hq
  have hl : s.data.toList.length = s.size := rfl
  have hsm : (s.size : Int) ≤ 1000 := by omega
  have hdd : Hid (∀ j, (s.data.toList.drop (p + 2)).drop j = s.data.toList.drop (p + 2 + j)) := fun j => List.drop_drop
  have hrg : Hid (∀ j (h : p + 2 + j < s.size) (h2 : j < (s.data.toList.drop (p + 2)).length), (s.data.toList.drop (p + 2))[j] = s[p + 2 + j]) := fun j h h2 => List.getElem_drop
  generalize hrr : s.data.toList.drop (p + 2) = r at *
  have hrl : Hid (r.length = s.size - (p + 2)) := by
    unfold Hid
    rw [← hrr, List.length_drop, hl]
  clear hrr hl
  obtain ⟨o, ho⟩ : ∃ o, (if s[p].toNat = 120 then bytesT r else floatT r) = o := ⟨_, rfl⟩
  rw [ho]
  have hnone : Hid (bytesT r = none ∧ floatT r = none → o = none) := by
    rintro ⟨h1, h2⟩
    rw [← ho, h1, h2]
    exact ite_self _
  have hox : Hid (s[p].toNat = 120 → o = bytesT r) := fun h => by rw [← ho, if_pos h]
  have hof : Hid (¬ s[p].toNat = 120 → o = floatT r) := fun h => by rw [← ho, if_neg h]
  clear ho
  go_enter Tryz.func67, Tryz.ntmps67
  go_wp2
  go_loopw [7, 8] (fun v i wr => ∃ (j : Nat), p + 2 + 2 * j ≤ s.size ∧ i = .int .i64 ((p + 2 + 2 * j : Nat) : Int) ∧ Hid (HexTo r (2 * j)) ∧ wr.ownsRow (w.heap.size + 1) 5 1 v j (cellsOf (pairsL (r.take (2 * j)))) ∧ Below (w.alloc zBoxR).heap.size (w.alloc zBoxR) wr) (fun _ i _ => s.size - (intOf i).toNat)
  case atStart => exact ⟨0, by omega, by go_num, ⟨Nat.zero_le _, fun i hi h => absurd h (Nat.not_lt_zero _)⟩, World.ownsRow_nil _ _ _ _, Below.refl _ _⟩
  case round =>
    obtain ⟨j, hk, rfl, HT, hown, hbel⟩ := hrel
    have hsz : w.heap.size + 1 ≤ wr.heap.size := by have := hbel.size; simpa using this
    obtain ⟨k, hkj⟩ : ∃ k, p + 2 + 2 * j = k := ⟨_, rfl⟩
    have hdj := hdd.out (2 * j)
    rw [hkj] at hdj hk ⊢
    have hpk : p + 2 ≤ k := by omega
    have hjk : Hid (2 * j = k - (p + 2)) := by unfold Hid; omega
    have hzb := zboxR_at hbel
    obtain ⟨q0, q1, q2, q3, q4, q5, q6⟩ := cells7 hzb
    obtain ⟨z0, z1, z2, z3, z4, z5, z6⟩ := free7 hzb
    clear hzb
    by_cases hk1 : k + 1 < s.size
    · have hk1i : (k : Int) + 1 < (s.size : Int) := by omega
      have hks : k < s.size := by omega
      have hdk := sdrop_at s k hks
      have hdk1 := sdrop_at s (k + 1) hk1
      rw [hdk] at hdj
      cases hxa : hexB s[k] with
      | true =>
        obtain ⟨hha, hvl⟩ := half_hex hxa
        cases hxb : hexB s[k + 1] with
        | true =>
          obtain ⟨hhb, hvm⟩ := half_hex hxb
          have hr0 : 2 * j < r.length := by have := hrl.out; omega
          have hr1 : 2 * j + 1 < r.length := by have := hrl.out; omega
          have e0 := hrg.out (2 * j) (by omega) hr0
          have e1 := hrg.out (2 * j + 1) (by omega) hr1
          simp only [← Nat.add_assoc, hkj] at e0 e1
          have HN : Hid (HexTo r (2 * (j + 1))) := by
            refine ⟨by omega, fun i hi h => ?_⟩
            by_cases h1 : i = 2 * j
            · subst h1
              rw [e0]
              exact hxa
            · by_cases h2 : i = 2 * j + 1
              · subst h2
                rw [e1]
                exact hxb
              · exact HT.out.2 i hi (by omega)
          have hnx0 := pairsL_next j r hr1
          rw [e0, e1] at hnx0
          obtain ⟨A, hA⟩ : ∃ A, nib s[k] = A := ⟨_, rfl⟩
          obtain ⟨B, hB⟩ : ∃ B, nib s[k + 1] = B := ⟨_, rfl⟩
          rw [hA] at hha hvl hnx0
          rw [hB] at hhb hvm hnx0
          obtain ⟨U, hU⟩ : ∃ U, UInt8.ofNat (A * 16 + B) = U := ⟨_, rfl⟩
          rw [hU] at hnx0
          have hUn : (A : Int) * 16 + (B : Int) = ((U.toNat : Nat) : Int) := by
            rw [← hU, ofNat_toNat (by omega)]
            omega
          have hpl : (pairsL (r.take (2 * j))).length = j := pairsL_len j r (by omega)
          obtain ⟨v', w', hrun, hown2, hbel2⟩ := run_one1 wr (w.heap.size + 1) _ (pairsL (r.take (2 * j))) (by rw [hpl]; exact hown) U (by omega) hsz
          have hl2 : (pairsL (r.take (2 * j)) ++ [U]).length = j + 1 := by simp [hpl]
          rw [hl2, ← hnx0] at hown2
          have hpos1 : (0 : Int) ≤ (A : Int) := by omega
          have hpos2 : (0 : Int) ≤ (B : Int) := by omega
          clear HT hdj hdk hdk1 hxa hxb hnx0 hdd hrg hnone hA hB hU hpl hl2 q0 q1 q2 q3 q4 q5 q6 z0 z1 z2 z3 z4 z5 z6
          go_wp2_with (first
            | (go_at_call 108; refine (half_any _ _).mono ?_; rintro e w1 ⟨rfl, rfl⟩))
          have hwr : IntKind.i64.wrap ((k : Int) + 1) = (k : Int) + 1 := by rw [IntKind.wrap_i64]; omega
          have hw1 : IntKind.i64.wrap (16 * (A : Int)) = 16 * (A : Int) := by rw [IntKind.wrap_i64]; omega
          have hw2 : IntKind.i64.wrap (16 * (A : Int) + (B : Int)) = ((U.toNat : Nat) : Int) := by rw [IntKind.wrap_i64]; omega
          have hub := U.toNat_lt
          have hw3 : IntKind.u8.wrap ((U.toNat : Nat) : Int) = ((U.toNat : Nat) : Int) := by rw [IntKind.wrap_u8]; omega
          clear hUn
          go_region_law (first
            | (refine step_app_run rfl (.tmp 32) (.tmp 45) 110 rfl _ _ (by simp [Act.eval]) (by simp [Act.eval]) hrun ?_)
            | (go_simp
               go_wp2_with (go_at_call 108; refine (half_any _ _).mono ?_; rintro e w9 ⟨rfl, rfl⟩)))
          all_goals
            go_wp2
            go_roundw
            case rel => exact ⟨j + 1, by omega, by go_num, HN, hown2, hbel.trans (by simpa using hbel2)⟩
            case measure => simp [intOf]; omega
        | false =>
          have hhb := half_not hxb
          have he := int_eq s[k] 39
          have he : (((s[k].toNat : Nat) : Int) == 39) = decide (s[k].toNat = 39) := he
          have hr0 : 2 * j < r.length := by have := hrl.out; omega
          have e0 := hrg.out (2 * j) (by omega) hr0
          simp only [hkj] at e0
          have HO : HexTo r (2 * j + 1) := by
            refine ⟨by omega, fun i hi h => ?_⟩
            by_cases h1 : i = 2 * j
            · subst h1
              rw [e0]
              exact hxa
            · exact HT.out.2 i hi (by omega)
          have hne : ¬ s[k].toNat = 39 := by
            intro e
            rw [show s[k] = 39 from UInt8.toNat_inj.1 e] at hxa
            exact absurd hxa (by decide)
          rw [decide_eq_false hne] at he
          have hb39 : (((s[k].toNat : Nat) : Int) != 39) = true := by rw [bne, he]; rfl
          have hi39 : ¬ ((s[k].toNat : Nat) : Int) = 39 := by omega
          have hdj1 := hdd.out (2 * j + 1)
          rw [show p + 2 + (2 * j + 1) = k + 1 by omega, hdk1] at hdj1
          have hfin : Hid (o = none) := hnone.out (hex_odd HO (by omega) (Or.inr ⟨_, _, hdj1, hxb⟩))
          have hhneg : ¬ (0 : Int) ≤ -1 := by omega
          clear HO e0 hdj1 hdk hdk1 hxa hxb hne
          clear HT hdj hdd hrg hnone hox hof
          go_wp2_with (first
            | (go_at_call 108; refine (half_any _ _).mono ?_; rintro e w1 ⟨rfl, rfl⟩))
          refine bodyPost_ret (v := .tuple #[tokV 0 ⟨#[]⟩ noV 0, .int .i64 0, .bool false]) (by simp [results, Tryz.results67, go_sem, tokV, noV, q0, q1, q2, q3, q4, q5, q6]) rfl ⟨refSays_none hfin.out _ _ _ _ _, ?_⟩
          exact below_set7 (below_box0 hbel) (Nat.le_refl _) _ _ _ _ _ _ _
      | false =>
        have hha := half_not hxa
        have he := int_eq s[k] 39
        have he : (((s[k].toNat : Nat) : Int) == 39) = decide (s[k].toNat = 39) := he
        by_cases h39 : s[k].toNat = 39
        · rw [decide_eq_true h39] at he
          exact (hnq.out ⟨j, _, HT.out, by rw [show s[k] = 39 from UInt8.toNat_inj.1 h39] at hdj; exact hdj⟩).elim
        · rw [decide_eq_false h39] at he
          have hb39 : (((s[k].toNat : Nat) : Int) != 39) = true := by rw [bne, he]; rfl
          have hi39 : ¬ ((s[k].toNat : Nat) : Int) = 39 := by omega
          have hfin : Hid (o = none) := hnone.out (hex_stop HT.out (Or.inr ⟨_, _, hdj, hxa, fun e => h39 (by rw [e]; rfl)⟩))
          clear hdk hdk1 hxa h39
          clear HT hdj hdd hrg hnone hox hof
          go_wp2_with (first
            | (go_at_call 108; refine (half_any _ _).mono ?_; rintro e w1 ⟨rfl, rfl⟩))
          refine bodyPost_ret (v := .tuple #[tokV 0 ⟨#[]⟩ noV 0, .int .i64 0, .bool false]) (by simp [results, Tryz.results67, go_sem, tokV, noV, q0, q1, q2, q3, q4, q5, q6]) rfl ⟨refSays_none hfin.out _ _ _ _ _, ?_⟩
          exact below_set7 (below_box0 hbel) (Nat.le_refl _) _ _ _ _ _ _ _
    · have hk1i : ¬ (k : Int) + 1 < (s.size : Int) := by omega
      by_cases hks : k < s.size
      · have he := int_eq s[k] 39
        have he : (((s[k].toNat : Nat) : Int) == 39) = decide (s[k].toNat = 39) := he
        have hdk := sdrop_at s k hks
        rw [hdk] at hdj
        cases hxa : hexB s[k] with
        | true =>
          have hr0 : 2 * j < r.length := by have := hrl.out; omega
          have e0 := hrg.out (2 * j) (by omega) hr0
          simp only [hkj] at e0
          have HO : HexTo r (2 * j + 1) := by
            refine ⟨by omega, fun i hi h => ?_⟩
            by_cases h1 : i = 2 * j
            · subst h1
              rw [e0]
              exact hxa
            · exact HT.out.2 i hi (by omega)
          have hne : ¬ s[k].toNat = 39 := by
            intro e
            rw [show s[k] = 39 from UInt8.toNat_inj.1 e] at hxa
            exact absurd hxa (by decide)
          rw [decide_eq_false hne] at he
          have hb39 : (((s[k].toNat : Nat) : Int) != 39) = true := by rw [bne, he]; rfl
          have hi39 : ¬ ((s[k].toNat : Nat) : Int) = 39 := by omega
          have hfin : Hid (o = none) := hnone.out (hex_odd HO (by omega) (Or.inl (by have := hrl.out; omega)))
          clear HO e0 hdk hxa hne
          clear HT hdj hdd hrg hnone hox hof
          go_wp2_with (first
            | (go_at_call 108; refine (half_any _ _).mono ?_; rintro e w1 ⟨rfl, rfl⟩))
          refine bodyPost_ret (v := .tuple #[tokV 0 ⟨#[]⟩ noV 0, .int .i64 0, .bool false]) (by simp [results, Tryz.results67, go_sem, tokV, noV, q0, q1, q2, q3, q4, q5, q6]) rfl ⟨refSays_none hfin.out _ _ _ _ _, ?_⟩
          exact below_set7 (below_box0 hbel) (Nat.le_refl _) _ _ _ _ _ _ _
        | false =>
          by_cases h39 : s[k].toNat = 39
          · rw [decide_eq_true h39] at he
            exact (hnq.out ⟨j, _, HT.out, by rw [show s[k] = 39 from UInt8.toNat_inj.1 h39] at hdj; exact hdj⟩).elim
          · rw [decide_eq_false h39] at he
            have hb39 : (((s[k].toNat : Nat) : Int) != 39) = true := by rw [bne, he]; rfl
            have hi39 : ¬ ((s[k].toNat : Nat) : Int) = 39 := by omega
            have hfin : Hid (o = none) := hnone.out (hex_stop HT.out (Or.inr ⟨_, _, hdj, hxa, fun e => h39 (by rw [e]; rfl)⟩))
            clear hdk hxa h39
            clear HT hdj hdd hrg hnone hox hof
            go_wp2_with (first
              | (go_at_call 108; refine (half_any _ _).mono ?_; rintro e w1 ⟨rfl, rfl⟩))
            refine bodyPost_ret (v := .tuple #[tokV 0 ⟨#[]⟩ noV 0, .int .i64 0, .bool false]) (by simp [results, Tryz.results67, go_sem, tokV, noV, q0, q1, q2, q3, q4, q5, q6]) rfl ⟨refSays_none hfin.out _ _ _ _ _, ?_⟩
            exact below_set7 (below_box0 hbel) (Nat.le_refl _) _ _ _ _ _ _ _
      · have hksi : ¬ (k : Int) < (s.size : Int) := by omega
        have hfin : Hid (o = none) := hnone.out (hex_stop HT.out (Or.inl (by have := hrl.out; have := hjk.out; omega)))
        clear HT hdj hrg hnone
        go_wp2
        refine bodyPost_ret (v := .tuple #[tokV 0 ⟨#[]⟩ noV 0, .int .i64 0, .bool false]) (by simp [results, Tryz.results67, go_sem, tokV, noV, q0, q1, q2, q3, q4, q5, q6]) rfl ⟨refSays_none hfin.out _ _ _ _ _, ?_⟩
        exact below_set7 (below_box0 hbel) (Nat.le_refl _) _ _ _ _ _ _ _
end Go.Proofs.YtiajlhjjmlakmaaGreatDoor
