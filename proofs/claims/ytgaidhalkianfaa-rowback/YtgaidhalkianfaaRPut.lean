/-
  Contracts: the bytes of a row, or that it is refused: of the program.
-/
import Derived.Test.YtgaidhalkianfaaRBox
namespace Go.Proofs.Ytgaidhalkianfaa
open Go.RowKit Num
set_option linter.unusedVariables false

set_option maxHeartbeats 1000000 in
theorem rowPut_any (ao : Option Addr) (cap : Nat) (l : List Cel) (h500 : l.length ≤ 500) (hok : ∀ x ∈ l, x.ok) (w : World) (hl : LiesC w w.heap.size ao l) :
    Calls Try.prog 11 #[.slice ao l.length cap] w fun e w' => ∃ T E, PutSays l T E ∧ e = .returned (.tuple #[.string (str T), .int .i64 E]) ∧ Below w.heap.size w w' := by
  go_enter Try.func11, Try.ntmps11
  go_wp2
  go_loopw [4, 5, 12] (fun v la i wr => ∃ (k n : Nat) (z : Int), k ≤ l.length ∧ la = .int .i64 z ∧ i = .int .i64 (k : Int) ∧ n ≤ 85 * k ∧ Hid (z = lastC 0 (l.take k) ∧ RowOk 0 (l.take k)) ∧ wr.ownsRow w.heap.size 5 1 v n (cellsOf (rowB (l.take k))) ∧ Below w.heap.size w wr) (fun _ _ i _ => l.length - (intOf i).toNat)
  case atStart => exact ⟨0, 0, 0, by omega, rfl, rfl, by omega, ⟨rfl, trivial⟩, World.ownsRow_nil _ _ _ _, Below.refl _ _⟩
  case round =>
    obtain ⟨k, n, z, hk, rfl, rfl, hn, HM, hown, hbel⟩ := hrel
    have hsz := hbel.size
    by_cases hkl : k < l.length
    · obtain ⟨a, rfl, hblk, c0, c1, c2, c3, c4⟩ := (hl.below hbel) k l[k] (List.getElem?_eq_getElem hkl)
      have hx := (hok l[k] (List.getElem_mem hkl)).2
      by_cases hg : (l[k]).may z
      · have hp := put_may (l[k]).x hx hg.2.2
        have hlen := length_put _ hg.2.2
        have hcat := rowB_snoc l k hkl
        have HM2 : Hid ((l[k]).c = lastC 0 (l.take (k + 1)) ∧ RowOk 0 (l.take (k + 1))) := by
          have h1 := HM.out.1
          have h2 := HM.out.2
          unfold Hid
          rw [take_one l k hkl, lastC_snoc, rowOk_snoc]
          exact ⟨rfl, h2, by rw [← h1]; exact hg⟩
        have hz : 0 ≤ z := by
          have h2 := lastC_bounds _ _ ⟨by omega, by omega⟩ HM.out.2
          rw [HM.out.1]
          exact h2.1
        obtain ⟨hg1, hg2, hg3⟩ := hg
        generalize l[k] = y at *
        obtain ⟨c, x⟩ := y
        simp only at *
        obtain ⟨c, rfl⟩ := Int.eq_ofNat_of_zero_le (show 0 ≤ c by omega)
        have hcl : ¬ (c : Int) ≤ z := by omega
        have hcm : ¬ 65535 < (c : Int) := by omega
        obtain ⟨T, hT⟩ : ∃ T, x.put = T := ⟨_, rfl⟩
        rw [hT] at hp hlen
        rw [← put_cat hT] at hcat
        clear HM hx hg1 hg2 hg3 hT
        have hbx := Boxed5.new wr ⟨(c : Int), x⟩
        go_wp2_with (first
          | (go_at_call 24; refine (hp _).mono ?_; rintro e w1 ⟨rfl, hb1⟩; have hbx1 := hbx.below hb1; have b0 := hbx1.cells.1; have hs1 := hb1.size; simp at hs1)
          | (at_builtin; (refine wpList_appG _ rfl _ _ rfl w.heap.size _ n _ rfl ((own_below (hown.alloc _) hb1).alloc _) _ _ _ [byteAt c 1, byteAt c 0] rfl rfl (two_new _ _ _ _ _ _ (hi_int c (by omega)) (lo_int c)) (by omega) (by simp; omega) ?_; intro v2 w2 hown2 hbel2 hg2; have hbxa := hbx1.alloc (.cells #[.int .u8 ((c : Int) / 256), .int .u8 ((c : Int) % 256)] 5); have hbx2 := hbxa.kept hg2 (hbxa.not_row (by decide) ((own_below (hown.alloc _) hb1).alloc _)); have hs2 := hg2.size; simp at hs2))
          | (at_builtin; (refine wpList_appsG _ rfl _ _ rfl w.heap.size _ (n + 2) _ rfl hown2 T rfl (by omega) (by omega) ?_; intro v3 w3 hown3 hbel3 hg3; have hbx3 := hbx2.kept hg3 (hbx2.not_row (by decide) hown2); have b3 := hbx3.cells.1)))
        rw [← hcat] at hown3
        have hbe := ((hbel.trans (below_box0 hb1 |>.mono hsz)).alloc (by omega) (.cells #[.int .u8 ((c : Int) / 256), .int .u8 ((c : Int) % 256)] 5)).trans hbel2
        go_roundw
        case rel => exact ⟨k + 1, n + 2 + T.length, (c : Int), by omega, rfl, by go_num, by omega, HM2, hown3, hbe.trans hbel3⟩
        case measure => simp [intOf]; omega
      · have hbad : ¬ RowOk 0 l := rowOk_not hkl (by rw [← HM.out.1]; exact hg)
        have hsay : PutSays l [] 1 := .inr ⟨hbad, rfl, rfl⟩
        clear HM
        cases hm : ((l[k]).x).may with
        | true =>
          have hp := put_may (l[k]).x hx hm
          have hcd : (l[k]).c ≤ z ∨ (¬ (l[k]).c ≤ z ∧ 65535 < (l[k]).c) := by
            by_cases h1 : (l[k]).c ≤ z
            · exact .inl h1
            · refine .inr ⟨h1, ?_⟩
              by_cases h2 : 65535 < (l[k]).c
              · exact h2
              · exact absurd ⟨by omega, by omega, hm⟩ hg
          clear hg hm hx hbad
          have hbx := Boxed5.new wr l[k]
          rcases hcd with hc | ⟨hc, hc2⟩
          all_goals
            go_wp2_with (first
              | (go_at_call 24; refine (hp _).mono ?_; rintro e w1 ⟨rfl, hb1⟩; have hbx1 := hbx.below hb1; have b0 := hbx1.cells.1))
            go_ret2
            exact ⟨_, _, hsay, rfl, hbel.trans (below_box0 hb1 |>.mono hsz)⟩
        | false =>
          have hp := put_not (l[k]).x hx hm
          clear hg hm hx hbad
          have hbx := Boxed5.new wr l[k]
          by_cases hc : (l[k]).c ≤ z
          · go_wp2_with (first
              | (go_at_call 24; refine (hp _).mono ?_; rintro e w1 ⟨rfl, hb1⟩; have hbx1 := hbx.below hb1; have b0 := hbx1.cells.1))
            go_ret2
            exact ⟨_, _, hsay, rfl, hbel.trans (below_box0 hb1 |>.mono hsz)⟩
          · by_cases hc2 : 65535 < (l[k]).c
            all_goals
              go_wp2_with (first
                | (go_at_call 24; refine (hp _).mono ?_; rintro e w1 ⟨rfl, hb1⟩; have hbx1 := hbx.below hb1; have b0 := hbx1.cells.1))
              go_ret2
              exact ⟨_, _, hsay, rfl, hbel.trans (below_box0 hb1 |>.mono hsz)⟩
    · have hke : k = l.length := by omega
      subst hke
      rw [List.take_length] at hown HM
      have hconv := conv_own wr _ _ _ _ hown
      have hsay : PutSays l (rowB l) 0 := .inl ⟨HM.out.2, rfl, rfl⟩
      clear HM
      go_wp2
      go_ret2
      exact ⟨_, _, hsay, rfl, hbel⟩
end Go.Proofs.Ytgaidhalkianfaa
