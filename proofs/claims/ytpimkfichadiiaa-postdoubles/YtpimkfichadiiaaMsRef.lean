/-
  Contracts: the document's own Add and Take.
-/
import Derived.Test.YtpimkfichadiiaaMsTak
namespace Go.Proofs.Ytpimkfichadiiaa
open Go.RowKit Num
set_option linter.unusedVariables false

theorem take_succ_at {α : Type} {l : List α} {k : Nat} {x : α} (h : l[k]? = some x) : l.take (k + 1) = l.take k ++ [x] := by
  rw [List.take_add_one, h]
  rfl
set_option maxRecDepth 100000 in
set_option maxHeartbeats 1000000 in
theorem refAdd_any (l more : Msgs) (ao bo : Option Addr) (c d : Nat) (hn : l.length ≤ 1000) (hm : more.length ≤ 1000) (w : World) (hl : LiesM w w.heap.size ao l) (hmo : LiesM w w.heap.size bo more) :
    Calls Try.prog 11 #[.slice ao l.length c, .slice bo more.length d] w fun e w' => ∃ v, e = .returned v ∧ OwnV w.heap.size w' v (addM l more) ∧ Below w.heap.size w w' := by
  obtain ⟨css1, hcl1, hcc1, hheld1, hV1⟩ := liesM_src hl
  go_enter Try.func11, Try.ntmps11
  go_wp2_with (first
    | (at_builtin; refine wpList_app_g Try.underlying22 Try.infoMs (by decide) _ rfl _ _ rfl w.heap.size (.slice (some ⟨w.heap.size, 0, none⟩) 0 0) 0 [] rfl (own_made0 w _ _) ao l.length c css1.flatten rfl (src_next hheld1 ((Below.refl _ w).alloc (Nat.le_refl _) _)) (by omega) (by simp) ?_; intro v1 w1 hown1 hgrow1 hnear1
       have hb1 : Below w.heap.size w w1 := below_made hgrow1
       rw [List.nil_append, Nat.zero_add] at hown1
       have hO1 : OwnV w.heap.size w1 v1 (l ++ more.take 0) := by
         rw [List.take_zero, List.append_nil]
         exact ⟨css1, hcl1, hcc1, hown1, fun i cs x hi hx => msV_below hb1 (hV1 i cs x hi hx)⟩
       clear hgrow1 hown1 hnear1))
  go_loopw [5, 6] (fun v i wr => ∃ (k n cap : Nat) (ao3 : Option Addr), k ≤ more.length ∧ n = l.length + k ∧ (k = 0 ∨ n ≤ 400) ∧ i = .int .i64 (k : Int) ∧ v = .slice ao3 n cap ∧ Hid (OwnV w.heap.size wr v (l ++ more.take k)) ∧ Below w.heap.size w wr) (fun _ i _ => more.length - (intOf i).toNat)
  case atStart =>
    obtain ⟨ao3, cap3, hv⟩ := hO1.shape
    rw [List.take_zero, List.append_nil] at hv
    exact ⟨0, l.length, cap3, ao3, by omega, by omega, .inl rfl, rfl, hv, hO1, hb1⟩
  case round =>
    obtain ⟨k, n, cap3, ao3, hk, hnk, hk0, rfl, rfl, hown, hbel⟩ := hrel
    have hsz := hbel.size
    by_cases hkl : k < more.length
    · by_cases h4 : (n : Int) < 400
      · have HP : Hid (more[k]? = some more[k]) := List.getElem?_eq_getElem hkl
        obtain ⟨a, rfl, hblk, e0, e1, e2, e3, e4, e5, e6, bo4, bc4, e7, hl4⟩ := (hmo.below MsAt.fast hbel) k more[k] HP.out
        have i1 : (k : Int) < (more.length : Int) := by omega
        generalize more[k] = y at *
        obtain ⟨css, hcl, hcc, hrow, hV⟩ := hown.out
        have htl : (l ++ more.take k).length = n := by rw [List.length_append, List.length_take]; omega
        rw [htl] at hrow
        have hN : n ≤ 1000 := by omega
        have HN : Hid (n = l.length + k) := hnk
        clear hnk hk0
        go_wp2_with (first
          | (at_builtin; refine wpList_appX _ rfl _ _ 22 rfl 29 8 80 Try.underlying22 Try.infoMs w.heap.size _ n css.flatten rfl (hrow.alloc _) ⟨wr.heap.size, 0, none⟩ 1 (mc y (.slice bo4 y.log.length bc4)) rfl rfl (mc_one _ _ _ _) (new_cells wr _ (mc y (.slice bo4 y.log.length bc4)) _ rfl) ⟨hN, by decide, by decide, rfl⟩ (by simp; omega) ?_; intro v3 w3 hown3 hbel3 hst3))
        have hb3 : Below w.heap.size wr w3 := ((Below.refl _ wr).alloc hsz _).trans hbel3
        have hO3 : OwnV w.heap.size w3 v3 (l ++ more.take (k + 1)) := by
          rw [take_succ_at HP.out, ← List.append_assoc]
          exact own_snoc hcl hcc rfl (mc_one _ _ _ _) (by rw [htl]; exact hown3) (fun i cs x hi hx => msV_below hb3 (hV i cs x hi hx)) ⟨bo4, bc4, rfl, hl4.below EnAt.fast hb3⟩
        obtain ⟨ao5, cap5, hv5⟩ := own_form hown3
        go_roundw
        case rel => exact ⟨k + 1, n + 1, cap5, ao5, by omega, by have := HN.out; omega, .inr (by omega), by go_num, hv5, hO3, hbel.trans hb3⟩
        case measure => simp [intOf]; omega
      · have hfin : l ++ more.take k = addM l more := by
          unfold addM
          congr 2
          omega
        have hO := hown.out
        rw [hfin] at hO
        clear hown hnk hk0
        go_wp2
        go_ret
        exact ⟨_, rfl, hO, hbel⟩
    · have hfin : l ++ more.take k = addM l more := by
        unfold addM
        congr 1
        rw [List.take_of_length_le (by omega)]
        rcases hk0 with h | h
        · rw [List.take_of_length_le (by omega)]
        · rw [List.take_of_length_le (by omega)]
      have hO := hown.out
      rw [hfin] at hO
      obtain rfl : k = more.length := by omega
      clear hown hnk hk0
      go_wp2
      go_ret
      exact ⟨_, rfl, hO, hbel⟩
end Go.Proofs.Ytpimkfichadiiaa
