/-
  Contracts: the document's own Del (7.3): a page is gone; two become one.
-/
import Derived.Test.YtdllfplgenpalaaPRefE
namespace Go.Proofs.Ytdllfplgenpalaa
open Go.RowKit Num
open scoped Classical
set_option linter.unusedVariables false

set_option maxRecDepth 100000 in
set_option maxHeartbeats 4000000 in
theorem del_w1 (ps L out : Pages) (ao : Option Addr) (cap : Nat) (k : ByteArray) (M : Nat) (p p' : List Pr) (h900 : ps.length ≤ 900) (hM : M < ps.length) (hL : L = ps.set M p') (w : World) (st : DelStart ps ao cap k M p p' w) (h0 : p' = []) (hout : L.filter nz = out) :
    Calls Try.prog 17 #[.slice ao ps.length cap, .string k] w fun e w' => ∃ ao' cap', e = .returned (.slice ao' out.length cap') ∧ LiesPg w' w'.heap.size ao' out ∧ Below w.heap.size w w' := by
  have hLl : L.length = ps.length := by rw [hL, List.length_set]
  have hLM : L[M]? = some p' := by rw [hL]; exact List.getElem?_set_self hM
  obtain ⟨hright, ⟨s, hget⟩, hcop, hof, hwo, hput⟩ := st
  rw [← hL] at hput
  clear hL
  have f1 : (M : Int) < (ps.length : Int) := by omega
  subst h0
  go_enter Try.func17, Try.ntmps17
  go_wp2_with (first
    | (go_at_call 10; refine hright.mono ?_; rintro e w1 ⟨rfl, hqq⟩; have hqq' := hqq.symm; clear hqq; subst hqq')
    | (go_at_call 19; refine hget.mono ?_; rintro e w1 ⟨rfl, hqq⟩; have hqq' := hqq.symm; clear hqq; subst hqq')
    | (go_at_call 32; refine hcop.mono ?_; rintro e w1 ⟨gl, Cl, g, C, rfl, ho1, hb1, k1, hg1⟩)
    | (go_at_call 27; refine (hof w1 hb1).mono ?_; rintro e wx ⟨rfl, hqq⟩; have hqq' := hqq.symm; clear hqq; subst hqq')
    | (go_at_call 33; refine (hwo w1 g C hg1).mono ?_; rintro e w2 ⟨ao2, cap2, rfl, ho2, hb2⟩
       obtain ⟨k2, k3, ho3, hb3⟩ := hput w1 w2 gl Cl g C ao2 cap2 ho1 hb1 hb2 ho2 k1
       obtain ⟨bp, cp, kp, hpo⟩ := ownPs_read ho3 hLl.symm hLM))
  clear hright hget hcop hof hwo hput
  obtain ⟨W, hWe⟩ : ∃ W, W = (w2.setCell ⟨gl, M, none⟩ (.slice ao2 0 cap2)) := ⟨_, rfl⟩
  simp only [List.length_nil] at ho3 hb3 kp
  rw [← hWe] at ho3 hb3 kp ⊢
  clear hWe
  have hoW := ho3
  have hbW := hb3
  clear hpo k1 k2 k3 kp ho1 ho2 hg1 ho3 hb1 hb2 hb3
  have hread := fun wr (hb : Below W.heap.size W wr) c y (hy : L[c]? = some y) => ownPs_read (ownPs_below hoW hb) hLl.symm hy
  clear hLM hoW
  rename World => W0
  have hs0 := hbW.size
  go_loopw [11, 12] (fun vv i wr => ∃ (c : Nat) (acc : Pages), c ≤ ps.length ∧ i = .int .i64 (c : Int) ∧ acc.length ≤ c ∧ OwnP2 W0.heap.size w.heap.size wr vv acc ∧ Below W0.heap.size W0 wr ∧ Hid (acc = (L.take c).filter nz)) (fun _ i _ => ps.length - (intOf i).toNat)
  case atStart => exact ⟨0, [], by omega, rfl, by simp, OwnS.nil _ _ _ _ _, Below.refl _ _, rfl⟩
  case round =>
    obtain ⟨c, acc, hc, rfl, hacc, hown, hbel, HS⟩ := hrel
    have hsz := hbel.size
    by_cases hcl : c < ps.length
    · have HY : Hid (L[c]? = some (L[c]'(by omega))) := List.getElem?_eq_getElem _
      obtain ⟨bo, cc, kc, hyo⟩ := hread wr hbel c _ HY.out
      generalize (L[c]'(by omega)) = y at *
      have hcM : (c : Int) < (M : Int) ∨ (c : Int) = (M : Int) ∨ (M : Int) < (c : Int) := by omega
      by_cases hz : (0 : Int) < (y.length : Int)
      · have hy1 : ¬ y = [] := by
          rintro rfl
          simp at hz
        have HS2 : Hid (acc ++ [y] = (L.take (c + 1)).filter nz) := by
          unfold Hid
          rw [nz_take HY.out (by omega), HS.out]
        clear HS
        rcases hcM with hcM | hcM | hcM
        · have hcM2 : ¬ (c : Int) = (M : Int) := by omega
          have hcM4 : ¬ c = M := by omega
          go_wp2_with (first
            | (at_builtin; refine wpList_appP2 _ rfl _ _ rfl W0.heap.size w.heap.size _ acc rfl (ownP2_below hown ((Below.refl _ wr).alloc (Nat.le_refl _) _)) wr.heap.size rfl _ y (hyo.alloc _) (box_cell (heap_new wr _) 0 _ rfl) (by omega) (by simp; omega) ?_; intro v4 w4 hown4 hbel4 hst4))
          go_roundw
          case rel => exact ⟨c + 1, acc ++ [y], by omega, by go_num, by simp; omega, hown4, (hbel.alloc hsz _).trans hbel4, HS2⟩
          case measure => simp [intOf]; omega
        · obtain rfl : c = M := by omega
          clear hcM
          go_wp2_with (first
            | (at_builtin; refine wpList_appP2 _ rfl _ _ rfl W0.heap.size w.heap.size _ acc rfl (ownP2_below hown ((Below.refl _ wr).alloc (Nat.le_refl _) _)) wr.heap.size rfl _ y (hyo.alloc _) (box_cell (heap_new wr _) 0 _ rfl) (by omega) (by simp; omega) ?_; intro v4 w4 hown4 hbel4 hst4))
          go_roundw
          case rel => exact ⟨c + 1, acc ++ [y], by omega, by go_num, by simp; omega, hown4, (hbel.alloc hsz _).trans hbel4, HS2⟩
          case measure => simp [intOf]; omega
        · have hcM2 : ¬ (c : Int) = (M : Int) := by omega
          have hcM3 : ¬ (c : Int) < (M : Int) := by omega
          have hcM4 : ¬ c = M := by omega
          go_wp2_with (first
            | (at_builtin; refine wpList_appP2 _ rfl _ _ rfl W0.heap.size w.heap.size _ acc rfl (ownP2_below hown ((Below.refl _ wr).alloc (Nat.le_refl _) _)) wr.heap.size rfl _ y (hyo.alloc _) (box_cell (heap_new wr _) 0 _ rfl) (by omega) (by simp; omega) ?_; intro v4 w4 hown4 hbel4 hst4))
          go_roundw
          case rel => exact ⟨c + 1, acc ++ [y], by omega, by go_num, by simp; omega, hown4, (hbel.alloc hsz _).trans hbel4, HS2⟩
          case measure => simp [intOf]; omega
      · have HS2 : Hid (acc = (L.take (c + 1)).filter nz) := by
          unfold Hid
          rw [nz_skip HY.out (by omega), HS.out]
        have hy0 : y = [] := List.eq_nil_of_length_eq_zero (by omega)
        subst hy0
        clear HS
        rcases hcM with hcM | hcM | hcM
        · have hcM2 : ¬ (c : Int) = (M : Int) := by omega
          have hcM4 : ¬ c = M := by omega
          go_wp2
          go_roundw
          case rel => exact ⟨c + 1, acc, by omega, by go_num, by omega, hown, hbel, HS2⟩
          case measure => simp [intOf]; omega
        · obtain rfl : c = M := by omega
          clear hcM
          go_wp2
          go_roundw
          case rel => exact ⟨c + 1, acc, by omega, by go_num, by omega, hown, hbel, HS2⟩
          case measure => simp [intOf]; omega
        · have hcM2 : ¬ (c : Int) = (M : Int) := by omega
          have hcM3 : ¬ (c : Int) < (M : Int) := by omega
          have hcM4 : ¬ c = M := by omega
          go_wp2
          go_roundw
          case rel => exact ⟨c + 1, acc, by omega, by go_num, by omega, hown, hbel, HS2⟩
          case measure => simp [intOf]; omega
    · obtain rfl : c = ps.length := by omega
      have he := HS.out
      rw [← hLl, List.take_length, hout] at he
      subst he
      clear HS
      obtain ⟨ao3, cap3, rfl, hl3⟩ := ownP2_lies hown
      go_wp2
      go_ret
      exact ⟨_, _, rfl, hl3, hbW.trans (hbel.mono hs0)⟩
set_option maxRecDepth 100000 in
set_option maxHeartbeats 4000000 in
theorem del_w2 (ps L out : Pages) (ao : Option Addr) (cap : Nat) (k : ByteArray) (M : Nat) (p p' : List Pr) (h900 : ps.length ≤ 900) (hM : M < ps.length) (hL : L = ps.set M p') (w : World) (st : DelStart ps ao cap k M p p' w) (h1 : 1 ≤ p'.length ∧ p'.length ≤ 100) (q : List Pr) (hq : L[M + 1]? = some q) (hq1 : 1 ≤ q.length ∧ q.length ≤ 100) (h4 : p'.length + q.length ≤ 4) (hnz : ∀ y ∈ L, 1 ≤ y.length) (hout : L.take M ++ ((p' ++ q) :: L.drop (M + 2)) = out) :
    Calls Try.prog 17 #[.slice ao ps.length cap, .string k] w fun e w' => ∃ ao' cap', e = .returned (.slice ao' out.length cap') ∧ LiesPg w' w'.heap.size ao' out ∧ Below w.heap.size w w' := by
  have hLl : L.length = ps.length := by rw [hL, List.length_set]
  have hLM : L[M]? = some p' := by rw [hL]; exact List.getElem?_set_self hM
  obtain ⟨hright, ⟨s, hget⟩, hcop, hof, hwo, hput⟩ := st
  rw [← hL] at hput
  clear hL
  have f1 : (M : Int) < (ps.length : Int) := by omega
  have hn0 : ¬ p' = [] := by
    rintro rfl
    simp at h1
  have hn1 : ((p'.length : Int) == 0) = false := by
    rw [beq_eq_false_iff_ne]
    omega
  have hq0 := (List.getElem?_eq_some_iff.1 hq).1
  have f2 : (M : Int) + 1 < (ps.length : Int) := by omega
  have f3 : (p'.length : Int) + (q.length : Int) ≤ 4 := by omega
  have HNZ : Hid (∀ y ∈ L, 1 ≤ y.length) := hnz
  clear hnz
  have HP1 : Hid (L[M]? = some p') := hLM
  have HQ1 : Hid (L[M + 1]? = some q) := hq
  go_enter Try.func17, Try.ntmps17
  go_wp2_with (first
    | (go_at_call 10; refine hright.mono ?_; rintro e w1 ⟨rfl, hqq⟩; have hqq' := hqq.symm; clear hqq; subst hqq')
    | (go_at_call 19; refine hget.mono ?_; rintro e w1 ⟨rfl, hqq⟩; have hqq' := hqq.symm; clear hqq; subst hqq')
    | (go_at_call 32; refine hcop.mono ?_; rintro e w1 ⟨gl, Cl, g, C, rfl, ho1, hb1, k1, hg1⟩)
    | (go_at_call 27; refine (hof w1 hb1).mono ?_; rintro e wx ⟨rfl, hqq⟩; have hqq' := hqq.symm; clear hqq; subst hqq')
    | (go_at_call 33; refine (hwo w1 g C hg1).mono ?_; rintro e w2 ⟨ao2, cap2, rfl, ho2, hb2⟩
       obtain ⟨k2, k3, ho3, hb3⟩ := hput w1 w2 gl Cl g C ao2 cap2 ho1 hb1 hb2 ho2 k1
       obtain ⟨bp, cp, kp, hpo⟩ := ownPs_read ho3 hLl.symm hLM
       obtain ⟨bq, cq, kq, hqo⟩ := ownPs_read ho3 hLl.symm hq))
  clear hright hget hcop hof hwo hput
  obtain ⟨W, hWe⟩ : ∃ W, W = (w2.setCell ⟨gl, M, none⟩ (.slice ao2 p'.length cap2)) := ⟨_, rfl⟩
  rw [← hWe] at ho3 hb3 kp kq ⊢
  clear hWe
  have d1 : ∀ z : Low W, z.wd.cell? ⟨gl, M, none⟩ = some (.slice bp p'.length cp) := fun z => (z.cell (cell_lt kp)).trans kp
  have d2 : ∀ z : Low W, z.wd.cell? ⟨gl, M + 1, none⟩ = some (.slice bq q.length cq) := fun z => (z.cell (cell_lt kq)).trans kq
  refine wp_region_low (by kernel_rfl) (by kernel_rfl) fun hsome => ?_
  repeat (go_big_quiet_step (fail))
  refine wpQuiet_nil ?_
  rintro _ ⟨z, rfl⟩
  have hz0 := z.low
  obtain ⟨Z, hZe⟩ : ∃ Z, Z = z.wd := ⟨_, rfl⟩
  rw [← hZe] at hz0 ⊢
  have hoW := ownPs_below ho3 hz0
  have hbW := below_next hb3 (Nat.le_refl _) hz0
  clear d1 d2 hZe hsome hpo hqo k1 k2 k3 kp kq ho1 ho2 hg1 ho3 hb1 hb2 hb3
  have hread := fun wr (hb : Below Z.heap.size Z wr) c y (hy : L[c]? = some y) => ownPs_read (ownPs_below hoW hb) hLl.symm hy
  clear hLM hq hoW hz0
  go_wp2
  obtain ⟨p1, hp1⟩ : ∃ p1, p1 = p' := ⟨_, rfl⟩
  obtain ⟨q1, hq2⟩ : ∃ q1, q1 = q := ⟨_, rfl⟩
  rw [← hp1] at HP1 hout h1
  rw [← hq2] at HQ1 hout hq1
  clear hp1 hq2 f3 h4
  rename World => W0
  have hs0 := hbW.size
  go_loopw [11, 12] (fun vv i wr => ∃ (c : Nat) (acc : Pages), c ≤ ps.length ∧ i = .int .i64 (c : Int) ∧ acc.length ≤ 901 ∧ OwnP2 W0.heap.size w.heap.size wr vv acc ∧ Below W0.heap.size W0 wr ∧ Hid (acc = bothS L M (p1 ++ q1) c)) (fun _ i _ => ps.length - (intOf i).toNat)
  case atStart => exact ⟨0, [], by omega, rfl, by simp, OwnS.nil _ _ _ _ _, Below.refl _ _, by simp [Hid, bothS]⟩
  case round =>
    obtain ⟨c, acc, hc, rfl, hacc, hown, hbel, HS⟩ := hrel
    have hsz := hbel.size
    by_cases hcl : c < ps.length
    · have HLn : Hid ((bothS L M (p1 ++ q1) (c + 1)).length ≤ 901) := by
        unfold Hid
        have := both_len (L := L) (f := M) (p1 ++ q1) (show c + 1 ≤ L.length by omega)
        omega
      have HY : Hid (L[c]? = some (L[c]'(by omega))) := List.getElem?_eq_getElem _
      have hyl : 1 ≤ (L[c]'(by omega)).length := HNZ.out _ (List.getElem_mem _)
      obtain ⟨bo, cc, kc, hyo⟩ := hread wr hbel c _ HY.out
      generalize (L[c]'(by omega)) = y at *
      have hz : (0 : Int) < (y.length : Int) := by omega
      have hy1 : ¬ y = [] := by
        rintro rfl
        simp at hyl
      have hff : ¬ (M : Int) = (M : Int) + 1 := by omega
      by_cases hlow : c < M
      · have HS2 : Hid (acc ++ [y] = bothS L M (p1 ++ q1) (c + 1)) := by
          unfold Hid
          rw [both_low HY.out hlow, HS.out]
        have hcM : (c : Int) < (M : Int) := by omega
        have hcM2 : ¬ (c : Int) = (M : Int) := by omega
        clear HS
        go_wp2_with (first
          | (at_builtin; refine wpList_appP2 _ rfl _ _ rfl W0.heap.size w.heap.size _ acc rfl (ownP2_below hown ((Below.refl _ wr).alloc (Nat.le_refl _) _)) wr.heap.size rfl _ y (hyo.alloc _) (box_cell (heap_new wr _) 0 _ rfl) (by omega) (by simp; omega) ?_; intro v4 w4 hown4 hbel4 hst4))
        go_roundw
        case rel => exact ⟨c + 1, acc ++ [y], by omega, by go_num, by rw [HS2.out]; exact HLn.out, hown4, (hbel.alloc hsz _).trans hbel4, HS2⟩
        case measure => simp [intOf]; omega
      · by_cases hat : c = M
        · subst hat
          have hyp : y = p1 := by
            have := HY.out
            rw [HP1.out] at this
            exact (Option.some.inj this).symm
          subst hyp
          have HS2 : Hid (acc ++ [y ++ q1] = bothS L c (y ++ q1) (c + 1)) := by
            unfold Hid
            rw [both_at, HS.out]
          clear HS
          have hread1 := fun w1 (hb : Below wr.heap.size wr w1) => hread w1 (below_next hbel (Nat.le_refl _) hb) (c + 1) q1 HQ1.out
          have kcd : ∀ o : Obj, (wr.alloc o).cell? ⟨gl, c, none⟩ = some (.slice bo y.length cc) := fun o => alloc_cell o kc
          obtain ⟨boy, ccy, ey, hly, _⟩ := own_lies hyo
          cases ey
          have hgt : (c : Int) < (c : Int) + 1 := by omega
          go_wp2_with (first
            | (at_builtin; refine wpList_app_pg _ rfl _ _ rfl wr.heap.size (.slice (some ⟨wr.heap.size, 0, none⟩) 0 0) [] rfl (own_empty wr) bo cc y rfl (liesPr_next hly ((Below.refl _ wr).alloc (Nat.le_refl _) _) (Nat.le_refl _)) (by simp; omega) (by simp) ?_; intro v1 w1 hown1 hgrow1 hnear1
               have hb1 : Below wr.heap.size wr w1 := below_made hgrow1
               rw [List.nil_append] at hown1
               obtain ⟨bq, cq, kq, hqo⟩ := hread1 w1 hb1
               obtain ⟨boq, ccq, eq, hlq, _⟩ := own_lies hqo
               cases eq
               clear hgrow1 hnear1)
            | (at_builtin; refine wpList_app_pg _ rfl _ _ rfl wr.heap.size v1 y rfl hown1 bq cq q1 rfl hlq (by omega) (by have := hb1.size; omega) ?_; intro v2 w2 hown2 hgrow2 hnear2
               have hb2 : Below wr.heap.size wr w2 := hb1.trans ((Below.refl _ w1).grown hgrow2 hb1.size (fun j hj => (hown1.lt j hj).1))
               obtain ⟨ao2, cap2, rfl, _, _⟩ := own_lies hown2
               have s2 := hb2.size
               clear hgrow2 hnear2)
            | (at_builtin; refine wpList_appP2 _ rfl _ _ rfl W0.heap.size w.heap.size _ acc rfl (ownP2_below (ownP2_below hown hb2) ((Below.refl _ w2).alloc (Nat.le_refl _) _)) w2.heap.size rfl (.slice ao2 (y.length + q1.length) cap2) (y ++ q1) (by have h := own_mono (B' := w.heap.size) (hown2.alloc (.cells #[.slice ao2 (y.length + q1.length) cap2] 34)) (by omega); rw [List.length_append] at h ⊢; exact h) (box_cell (heap_new w2 _) 0 _ rfl) (by omega) (by simp; omega) ?_; intro v4 w4 hown4 hbel4 hst4))
          go_roundw
          case rel => exact ⟨c + 1, acc ++ [y ++ q1], by omega, by go_num, by rw [HS2.out]; exact HLn.out, hown4, ((hbel.trans (hb2.mono hsz)).alloc (by omega) _).trans hbel4, HS2⟩
          case measure => simp [intOf]; omega
        · by_cases hnx : c = M + 1
          · have HS2 : Hid (acc = bothS L M (p1 ++ q1) (c + 1)) := by
              unfold Hid
              rw [hnx, both_skip, ← hnx, HS.out]
            clear HS
            subst hnx
            have hcM1 : ¬ (M : Int) + 1 < (M : Int) := by omega
            have hcM2 : ¬ (M : Int) + 1 = (M : Int) := by omega
            have hcM3 : ¬ (M : Int) = (M : Int) + 1 := by omega
            go_wp2
            go_roundw
            case rel => exact ⟨M + 1 + 1, acc, by omega, by go_num, by rw [HS2.out]; exact HLn.out, hown, hbel, HS2⟩
            case measure => simp [intOf]; omega
          · have HS2 : Hid (acc ++ [y] = bothS L M (p1 ++ q1) (c + 1)) := by
              unfold Hid
              rw [both_high HY.out (by omega), HS.out]
            have hcM : (M : Int) + 1 < (c : Int) := by omega
            have hcM2 : ¬ (c : Int) = (M : Int) := by omega
            have hcM3 : ¬ (c : Int) < (M : Int) := by omega
            clear HS
            go_wp2_with (first
              | (at_builtin; refine wpList_appP2 _ rfl _ _ rfl W0.heap.size w.heap.size _ acc rfl (ownP2_below hown ((Below.refl _ wr).alloc (Nat.le_refl _) _)) wr.heap.size rfl _ y (hyo.alloc _) (box_cell (heap_new wr _) 0 _ rfl) (by omega) (by simp; omega) ?_; intro v4 w4 hown4 hbel4 hst4))
            go_roundw
            case rel => exact ⟨c + 1, acc ++ [y], by omega, by go_num, by rw [HS2.out]; exact HLn.out, hown4, (hbel.alloc hsz _).trans hbel4, HS2⟩
            case measure => simp [intOf]; omega
    · obtain rfl : c = ps.length := by omega
      have he := HS.out
      rw [← hLl, both_end _ (by omega), hout] at he
      subst he
      clear HS
      obtain ⟨ao3, cap3, rfl, hl3⟩ := ownP2_lies hown
      go_wp2
      go_ret
      exact ⟨_, _, rfl, hl3, hbW.trans (hbel.mono hs0)⟩
end Go.Proofs.Ytdllfplgenpalaa
