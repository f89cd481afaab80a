/-
  Contracts: the document's own Del (7.3): no two become one.
-/
import Derived.Test.YtdllfplgenpalaaPRefE
namespace Go.Proofs.Ytdllfplgenpalaa
open Go.RowKit Num
open scoped Classical
set_option linter.unusedVariables false

set_option maxRecDepth 100000 in
set_option maxHeartbeats 4000000 in
theorem del_w3 (ps L out : Pages) (ao : Option Addr) (cap : Nat) (k : ByteArray) (M : Nat) (p p' : List Pr) (h900 : ps.length ≤ 900) (hM : M < ps.length) (hL : L = ps.set M p') (w : World) (st : DelStart ps ao cap k M p p' w) (h1 : 1 ≤ p'.length ∧ p'.length ≤ 100) (q : List Pr) (hq : L[M + 1]? = some q) (hq1 : 1 ≤ q.length ∧ q.length ≤ 100) (h4 : ¬ p'.length + q.length ≤ 4) (hout : L.filter nz = out) :
    Calls Try.prog 17 #[.slice ao ps.length cap, .string k] w fun e w' => ∃ ao' cap', e = .returned (.slice ao' out.length cap') ∧ LiesPg w' w'.heap.size ao' out ∧ Below w.heap.size w w' := by
  have hLl : L.length = ps.length := by rw [hL, List.length_set]
  have hLM : L[M]? = some p' := by rw [hL]; exact List.getElem?_set_self hM
  obtain ⟨hright, ⟨s, hget⟩, hcop, hof, hwo, hput⟩ := st
  rw [← hL] at hput
  clear hL
  have f1 : (M : Int) < (ps.length : Int) := by omega
  have hn0 : ¬ p' = [] := by
    rintro rfl
    simp at h1
  have hn1 : ((p'.length : Int) == 0) = false := by
    rw [beq_eq_false_iff_ne]
    omega
  have hq0 := (List.getElem?_eq_some_iff.1 hq).1
  have f2 : (M : Int) + 1 < (ps.length : Int) := by omega
  have f3 : ¬ (p'.length : Int) + (q.length : Int) ≤ 4 := by omega
  go_enter Try.func17, Try.ntmps17
  go_wp2_with (first
    | (go_at_call 10; refine hright.mono ?_; rintro e w1 ⟨rfl, hqq⟩; have hqq' := hqq.symm; clear hqq; subst hqq')
    | (go_at_call 19; refine hget.mono ?_; rintro e w1 ⟨rfl, hqq⟩; have hqq' := hqq.symm; clear hqq; subst hqq')
    | (go_at_call 32; refine hcop.mono ?_; rintro e w1 ⟨gl, Cl, g, C, rfl, ho1, hb1, k1, hg1⟩)
    | (go_at_call 27; refine (hof w1 hb1).mono ?_; rintro e wx ⟨rfl, hqq⟩; have hqq' := hqq.symm; clear hqq; subst hqq')
    | (go_at_call 33; refine (hwo w1 g C hg1).mono ?_; rintro e w2 ⟨ao2, cap2, rfl, ho2, hb2⟩
       obtain ⟨k2, k3, ho3, hb3⟩ := hput w1 w2 gl Cl g C ao2 cap2 ho1 hb1 hb2 ho2 k1
       obtain ⟨bp, cp, kp, hpo⟩ := ownPs_read ho3 hLl.symm hLM
       obtain ⟨bq, cq, kq, hqo⟩ := ownPs_read ho3 hLl.symm hq))
  clear hright hget hcop hof hwo hput
  obtain ⟨W, hWe⟩ : ∃ W, W = (w2.setCell ⟨gl, M, none⟩ (.slice ao2 p'.length cap2)) := ⟨_, rfl⟩
  rw [← hWe] at ho3 hb3 kp kq ⊢
  clear hWe
  have d1 : ∀ z : Low W, z.wd.cell? ⟨gl, M, none⟩ = some (.slice bp p'.length cp) := fun z => (z.cell (cell_lt kp)).trans kp
  have d2 : ∀ z : Low W, z.wd.cell? ⟨gl, M + 1, none⟩ = some (.slice bq q.length cq) := fun z => (z.cell (cell_lt kq)).trans kq
  refine wp_region_low (by kernel_rfl) (by kernel_rfl) fun hsome => ?_
  repeat (go_big_quiet_step (fail))
  refine wpQuiet_nil ?_
  rintro _ ⟨z, rfl⟩
  have hz0 := z.low
  obtain ⟨Z, hZe⟩ : ∃ Z, Z = z.wd := ⟨_, rfl⟩
  rw [← hZe] at hz0 ⊢
  have hoW := ownPs_below ho3 hz0
  have hbW := below_next hb3 (Nat.le_refl _) hz0
  clear d1 d2 hZe hsome hpo hqo k1 k2 k3 kp kq ho1 ho2 hg1 ho3 hb1 hb2 hb3
  have hread := fun wr (hb : Below Z.heap.size Z wr) c y (hy : L[c]? = some y) => ownPs_read (ownPs_below hoW hb) hLl.symm hy
  clear hLM hq hoW hz0
  go_wp2
  rename World => W0
  have hs0 := hbW.size
  go_loopw [11, 12] (fun vv i wr => ∃ (c : Nat) (acc : Pages), c ≤ ps.length ∧ i = .int .i64 (c : Int) ∧ acc.length ≤ c ∧ OwnP2 W0.heap.size w.heap.size wr vv acc ∧ Below W0.heap.size W0 wr ∧ Hid (acc = (L.take c).filter nz)) (fun _ i _ => ps.length - (intOf i).toNat)
  case atStart => exact ⟨0, [], by omega, rfl, by simp, OwnS.nil _ _ _ _ _, Below.refl _ _, rfl⟩
  case round =>
    obtain ⟨c, acc, hc, rfl, hacc, hown, hbel, HS⟩ := hrel
    have hsz := hbel.size
    by_cases hcl : c < ps.length
    · have HY : Hid (L[c]? = some (L[c]'(by omega))) := List.getElem?_eq_getElem _
      obtain ⟨bo, cc, kc, hyo⟩ := hread wr hbel c _ HY.out
      generalize (L[c]'(by omega)) = y at *
      have hcM : (c : Int) < (M : Int) ∨ (c : Int) = (M : Int) ∨ (M : Int) < (c : Int) := by omega
      by_cases hz : (0 : Int) < (y.length : Int)
      · have hy1 : ¬ y = [] := by
          rintro rfl
          simp at hz
        have HS2 : Hid (acc ++ [y] = (L.take (c + 1)).filter nz) := by
          unfold Hid
          rw [nz_take HY.out (by omega), HS.out]
        clear HS
        rcases hcM with hcM | hcM | hcM
        · have hcM2 : ¬ (c : Int) = (M : Int) := by omega
          have hcM4 : ¬ c = M := by omega
          go_wp2_with (first
            | (at_builtin; refine wpList_appP2 _ rfl _ _ rfl W0.heap.size w.heap.size _ acc rfl (ownP2_below hown ((Below.refl _ wr).alloc (Nat.le_refl _) _)) wr.heap.size rfl _ y (hyo.alloc _) (box_cell (heap_new wr _) 0 _ rfl) (by omega) (by simp; omega) ?_; intro v4 w4 hown4 hbel4 hst4))
          go_roundw
          case rel => exact ⟨c + 1, acc ++ [y], by omega, by go_num, by simp; omega, hown4, (hbel.alloc hsz _).trans hbel4, HS2⟩
          case measure => simp [intOf]; omega
        · obtain rfl : c = M := by omega
          clear hcM
          go_wp2_with (first
            | (at_builtin; refine wpList_appP2 _ rfl _ _ rfl W0.heap.size w.heap.size _ acc rfl (ownP2_below hown ((Below.refl _ wr).alloc (Nat.le_refl _) _)) wr.heap.size rfl _ y (hyo.alloc _) (box_cell (heap_new wr _) 0 _ rfl) (by omega) (by simp; omega) ?_; intro v4 w4 hown4 hbel4 hst4))
          go_roundw
          case rel => exact ⟨c + 1, acc ++ [y], by omega, by go_num, by simp; omega, hown4, (hbel.alloc hsz _).trans hbel4, HS2⟩
          case measure => simp [intOf]; omega
        · have hcM2 : ¬ (c : Int) = (M : Int) := by omega
          have hcM3 : ¬ (c : Int) < (M : Int) := by omega
          have hcM4 : ¬ c = M := by omega
          go_wp2_with (first
            | (at_builtin; refine wpList_appP2 _ rfl _ _ rfl W0.heap.size w.heap.size _ acc rfl (ownP2_below hown ((Below.refl _ wr).alloc (Nat.le_refl _) _)) wr.heap.size rfl _ y (hyo.alloc _) (box_cell (heap_new wr _) 0 _ rfl) (by omega) (by simp; omega) ?_; intro v4 w4 hown4 hbel4 hst4))
          go_roundw
          case rel => exact ⟨c + 1, acc ++ [y], by omega, by go_num, by simp; omega, hown4, (hbel.alloc hsz _).trans hbel4, HS2⟩
          case measure => simp [intOf]; omega
      · have HS2 : Hid (acc = (L.take (c + 1)).filter nz) := by
          unfold Hid
          rw [nz_skip HY.out (by omega), HS.out]
        have hy0 : y = [] := List.eq_nil_of_length_eq_zero (by omega)
        subst hy0
        clear HS
        rcases hcM with hcM | hcM | hcM
        · have hcM2 : ¬ (c : Int) = (M : Int) := by omega
          have hcM4 : ¬ c = M := by omega
          go_wp2
          go_roundw
          case rel => exact ⟨c + 1, acc, by omega, by go_num, by omega, hown, hbel, HS2⟩
          case measure => simp [intOf]; omega
        · obtain rfl : c = M := by omega
          clear hcM
          go_wp2
          go_roundw
          case rel => exact ⟨c + 1, acc, by omega, by go_num, by omega, hown, hbel, HS2⟩
          case measure => simp [intOf]; omega
        · have hcM2 : ¬ (c : Int) = (M : Int) := by omega
          have hcM3 : ¬ (c : Int) < (M : Int) := by omega
          have hcM4 : ¬ c = M := by omega
          go_wp2
          go_roundw
          case rel => exact ⟨c + 1, acc, by omega, by go_num, by omega, hown, hbel, HS2⟩
          case measure => simp [intOf]; omega
    · obtain rfl : c = ps.length := by omega
      have he := HS.out
      rw [← hLl, List.take_length, hout] at he
      subst he
      clear HS
      obtain ⟨ao3, cap3, rfl, hl3⟩ := ownP2_lies hown
      go_wp2
      go_ret
      exact ⟨_, _, rfl, hl3, hbW.trans (hbel.mono hs0)⟩
set_option maxRecDepth 100000 in
set_option maxHeartbeats 4000000 in
theorem del_w6 (y0 : List Pr) (ao : Option Addr) (cap : Nat) (k : ByteArray) (p p' : List Pr) (w : World) (st : DelStart [y0] ao cap k 0 p p' w) (h1 : 1 ≤ p'.length ∧ p'.length ≤ 100) :
    Calls Try.prog 17 #[.slice ao 1 cap, .string k] w fun e w' => ∃ ao' cap', e = .returned (.slice ao' 1 cap') ∧ LiesPg w' w'.heap.size ao' [p'] ∧ Below w.heap.size w w' := by
  have hn0 : ¬ p' = [] := by
    rintro rfl
    simp at h1
  have hn1 : ((p'.length : Int) == 0) = false := by
    rw [beq_eq_false_iff_ne]
    omega
  have hz : (0 : Int) < (p'.length : Int) := by omega
  obtain ⟨hright0, ⟨s, hget0⟩, hcop0, hof0, hwo, hput0⟩ := st
  have hright : Calls Try.prog 10 #[.slice ao 1 cap] w (fun e w' => e = .returned (.bool true) ∧ w' = w) := hright0
  have hget : Calls Try.prog 19 #[.slice ao 1 cap, .string k] w fun e w' => e = .returned (.tuple #[.string s, .bool true]) ∧ w' = w := hget0
  have hcop : Calls Try.prog 32 #[.slice ao 1 cap] w fun e w' => ∃ gl Cl g C, e = .returned (.slice (some ⟨gl, 0, none⟩) 1 Cl) ∧ OwnPs w.heap.size w' (.slice (some ⟨gl, 0, none⟩) 1 Cl) [y0] ∧ Below w.heap.size w w' ∧ w'.cell? ⟨gl, 0, none⟩ = some (.slice (some ⟨g, 0, none⟩) p.length C) ∧ w'.ownsRow w.heap.size 41 2 (.slice (some ⟨g, 0, none⟩) p.length C) p.length (prCells p) := hcop0
  have hof : ∀ w1, Below w.heap.size w w1 → Calls Try.prog 27 #[.slice ao 1 cap, .string k] w1 fun e w' => e = .returned (.int .i64 0) ∧ w' = w1 := hof0
  have hput : ∀ (w1 w2 : World) gl Cl g C ao2 cap2, OwnPs w.heap.size w1 (.slice (some ⟨gl, 0, none⟩) 1 Cl) [y0] → Below w.heap.size w w1 → Below w1.heap.size w1 w2 → w2.ownsRow w1.heap.size 41 2 (.slice ao2 p'.length cap2) p'.length (prCells p') → w1.cell? ⟨gl, 0, none⟩ = some (.slice (some ⟨g, 0, none⟩) p.length C) →
      w2.cell? ⟨gl, 0, none⟩ = some (.slice (some ⟨g, 0, none⟩) p.length C) ∧ w2.frozen? ⟨gl, 0, none⟩ = false ∧ OwnPs w.heap.size (w2.setCell ⟨gl, 0, none⟩ (.slice ao2 p'.length cap2)) (.slice (some ⟨gl, 0, none⟩) 1 Cl) [p'] ∧ Below w.heap.size w (w2.setCell ⟨gl, 0, none⟩ (.slice ao2 p'.length cap2)) := hput0
  clear hright0 hget0 hcop0 hof0 hput0
  go_enter Try.func17, Try.ntmps17
  go_wp2_with (first
    | (go_at_call 10; refine hright.mono ?_; rintro e w1 ⟨rfl, hqq⟩; have hqq' := hqq.symm; clear hqq; subst hqq')
    | (go_at_call 19; refine hget.mono ?_; rintro e w1 ⟨rfl, hqq⟩; have hqq' := hqq.symm; clear hqq; subst hqq')
    | (go_at_call 32; refine hcop.mono ?_; rintro e w1 ⟨gl, Cl, g, C, rfl, ho1, hb1, k1, hg1⟩)
    | (go_at_call 27; refine (hof w1 hb1).mono ?_; rintro e wx ⟨rfl, hqq⟩; have hqq' := hqq.symm; clear hqq; subst hqq')
    | (go_at_call 33; refine (hwo w1 g C hg1).mono ?_; rintro e w2 ⟨ao2, cap2, rfl, ho2, hb2⟩
       obtain ⟨k2, k3, ho3, hb3⟩ := hput w1 w2 gl Cl g C ao2 cap2 ho1 hb1 hb2 ho2 k1
       obtain ⟨bp, cp, kp, hpo⟩ := ownPs_read ho3 rfl (show [p'][0]? = some p' from rfl)))
  clear hright hget hcop hof hwo hput
  obtain ⟨W, hWe⟩ : ∃ W, W = (w2.setCell ⟨gl, 0, none⟩ (.slice ao2 p'.length cap2)) := ⟨_, rfl⟩
  rw [← hWe] at ho3 hb3 kp ⊢
  clear hWe
  have hoW := ho3
  have hbW := hb3
  clear hpo k1 k2 k3 kp ho1 ho2 hg1 ho3 hb1 hb2 hb3
  have hread := fun wr (hb : Below W.heap.size W wr) => ownPs_read (ownPs_below hoW hb) rfl (show [p'][0]? = some p' from rfl)
  clear hoW
  rename World => W0
  have hs0 := hbW.size
  go_loopw [11, 12] (fun vv i wr => ∃ (c : Nat) (acc : Pages), c ≤ 1 ∧ i = .int .i64 (c : Int) ∧ OwnP2 W0.heap.size w.heap.size wr vv acc ∧ Below W0.heap.size W0 wr ∧ Hid (acc = [p'].take c)) (fun _ i _ => 1 - (intOf i).toNat)
  case atStart => exact ⟨0, [], by omega, rfl, OwnS.nil _ _ _ _ _, Below.refl _ _, rfl⟩
  case round =>
    obtain ⟨c, acc, hc, rfl, hown, hbel, HS⟩ := hrel
    have hsz := hbel.size
    by_cases hcl : c < 1
    · obtain rfl : c = 0 := by omega
      have hacc := HS.out
      simp only [List.take_zero] at hacc
      subst hacc
      obtain ⟨bo, cc, kc, hyo⟩ := hread wr hbel
      clear HS
      go_wp2_with (first
        | (at_builtin; refine wpList_appP2 _ rfl _ _ rfl W0.heap.size w.heap.size _ [] rfl (ownP2_below hown ((Below.refl _ wr).alloc (Nat.le_refl _) _)) wr.heap.size rfl _ p' (hyo.alloc _) (box_cell (heap_new wr _) 0 _ rfl) (by simp) (by simp; omega) ?_; intro v4 w4 hown4 hbel4 hst4))
      go_roundw
      case rel => exact ⟨1, [p'], by omega, by go_num, hown4, (hbel.alloc hsz _).trans hbel4, rfl⟩
      case measure => simp [intOf]
    · obtain rfl : c = 1 := by omega
      have he : acc = [p'] := HS.out
      subst he
      clear HS
      obtain ⟨ao3, cap3, rfl, hl3⟩ := ownP2_lies hown
      go_wp2
      go_ret
      exact ⟨_, _, rfl, hl3, hbW.trans (hbel.mono hs0)⟩
end Go.Proofs.Ytdllfplgenpalaa
