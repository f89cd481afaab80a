/-
  Proved: for every schema the law DescBack returns true: the bytes of a schema that may be are read back by desc.Get as that schema, also when what was told is spoilt; what may not be is refused (6.5), and the document's example holds; the schema reads behind the call as before. No condition.
-/
import Derived.Test.YtndppffcladalaaRows
import Derived.Test.YtndppffcladalaaDPut
import Derived.Test.YtndppffcladalaaDGreat
import Derived.Test.YtndppffcladalaaDSpoil
import Derived.Test.YtndppffcladalaaDSame
import Derived.WalkKit
import Derived.ProofKit
import Derived.OpenShut
import Derived.ShutString
import Derived.Lib.SmallJoins
namespace Go.Proofs.Ytndppffcladalaa.descBack
open Go.ChangeShapes Go.WideShapes Go.ChangeAt Go.RowKit Go.Joins Num
open Go.ChangeMaps (open_string shut_string)
set_option linter.unusedVariables false

theorem own : ownKnob Try.prog.godebug = none := by kernel_rfl

open scoped Classical
theorem core_bad (x0 : Sch) (ao0 : Option Addr) (cap0 : Nat) (w : World) (hl0 : LiesT w w.heap.size ao0 x0.tabs)
    (hg : ∀ w, LiesT w w.heap.size ao0 x0.tabs → Calls Try.prog 12 #[.agg #[.int .i64 x0.ver, .slice ao0 x0.tabs.length cap0, .int .i64 x0.next]] w fun e w' => e = .returned (.bool false) ∧ Below w.heap.size w w')
    (h1 : ∀ w, LiesT w w.heap.size ao0 x0.tabs → Calls Try.prog 15 #[.agg #[.int .i64 x0.ver, .slice ao0 x0.tabs.length cap0, .int .i64 x0.next]] w fun e w' => e = .returned (.tuple #[.string ⟨#[]⟩, .int .i64 3]) ∧ Below w.heap.size w w')
    (h2 : ∀ w, LiesT w w.heap.size ao0 x0.tabs → Calls Try.prog 13 #[.agg #[.int .i64 x0.ver, .slice ao0 x0.tabs.length cap0, .int .i64 x0.next]] w fun e w' => e = .returned (.bool false) ∧ Below w.heap.size w w') :
    Calls Try.prog 7 #[.agg #[.int .i64 x0.ver, .slice ao0 x0.tabs.length cap0, .int .i64 x0.next]] w fun e w' => e = .returned (.bool true) ∧ Below w.heap.size w w' := by
  have hbx := heap_new w (.cells #[.int .i64 x0.ver, .slice ao0 x0.tabs.length cap0, .int .i64 x0.next] 26)
  have hla := liesT_next hl0 ((Below.refl _ w).alloc (Nat.le_refl _) (.cells #[.int .i64 x0.ver, .slice ao0 x0.tabs.length cap0, .int .i64 x0.next] 26))
  go_enter Try.func7, Try.ntmps7
  go_wp2_with (first
    | (go_at_call 12; refine (hg _ hla).mono ?_; rintro e w1 ⟨rfl, hb1⟩; have b1 := below_box hb1 hbx; have c0 := box_cell b1 0 _ rfl; have c1 := box_cell b1 1 _ rfl; have c2 := box_cell b1 2 _ rfl; have hl1 := liesT_next hla hb1)
    | (go_at_call 15; refine (h1 _ hl1).mono ?_; rintro e w2 ⟨rfl, hb2⟩; have b2 := below_box hb2 b1; have d0 := box_cell b2 0 _ rfl; have d1 := box_cell b2 1 _ rfl; have d2 := box_cell b2 2 _ rfl; have hl2 := liesT_next hl1 hb2)
    | (go_at_call 17; refine (num_any _ _).mono ?_; rintro e w4 ⟨rfl, hw4⟩; have hq4 := hw4.symm; clear hw4; subst hq4)
    | (go_at_call 13; refine (h2 _ hl2).mono ?_; rintro e w3 ⟨rfl, hb3⟩)
    | (go_at_call 11; refine (awake_any _).mono ?_; rintro e w5 ⟨rfl, hb5⟩))
  go_ret
  exact ⟨rfl, below_next (below_next (below_next (below_box0 hb1) (Nat.le_refl _) hb2) (Nat.le_refl _) hb3) (Nat.le_refl _) hb5⟩
set_option maxRecDepth 100000 in
set_option maxHeartbeats 2000000 in
theorem core_ok (x0 : Sch) (ao0 : Option Addr) (cap0 : Nat) (w : World) (hl0 : LiesT w w.heap.size ao0 x0.tabs) (h4 : x0.tabs.length ≤ 1000) (h8 : ∀ t ∈ x0.tabs, t.cols.length ≤ 1000) (A : ByteArray)
    (hg : ∀ w, LiesT w w.heap.size ao0 x0.tabs → Calls Try.prog 12 #[.agg #[.int .i64 x0.ver, .slice ao0 x0.tabs.length cap0, .int .i64 x0.next]] w fun e w' => e = .returned (.bool false) ∧ Below w.heap.size w w')
    (h1 : ∀ w, LiesT w w.heap.size ao0 x0.tabs → Calls Try.prog 15 #[.agg #[.int .i64 x0.ver, .slice ao0 x0.tabs.length cap0, .int .i64 x0.next]] w fun e w' => e = .returned (.tuple #[.string A, .int .i64 0]) ∧ Below w.heap.size w w')
    (hget : ∀ w, Calls Try.prog 18 #[.string A] w fun e w' => ∃ ao cap, e = .returned (.tuple #[.agg #[.int .i64 x0.ver, .slice ao x0.tabs.length cap, .int .i64 x0.next], .int .i64 0]) ∧ OwnT w.heap.size w' (.slice ao x0.tabs.length cap) x0.tabs ∧ Below w.heap.size w w')
    (hsame : ∀ bo bc w, LiesT w w.heap.size ao0 x0.tabs → LiesT w w.heap.size bo x0.tabs → Calls Try.prog 19 #[.agg #[.int .i64 x0.ver, .slice ao0 x0.tabs.length cap0, .int .i64 x0.next], .agg #[.int .i64 x0.ver, .slice bo x0.tabs.length bc, .int .i64 x0.next]] w fun e w' => e = .returned (.bool true) ∧ Below w.heap.size w w') :
    Calls Try.prog 7 #[.agg #[.int .i64 x0.ver, .slice ao0 x0.tabs.length cap0, .int .i64 x0.next]] w fun e w' => e = .returned (.bool true) ∧ Below w.heap.size w w' := by
  have hbx := heap_new w (.cells #[.int .i64 x0.ver, .slice ao0 x0.tabs.length cap0, .int .i64 x0.next] 26)
  have hla := liesT_next hl0 ((Below.refl _ w).alloc (Nat.le_refl _) (.cells #[.int .i64 x0.ver, .slice ao0 x0.tabs.length cap0, .int .i64 x0.next] 26))
  go_enter Try.func7, Try.ntmps7
  go_wp2_with (first
    | (go_at_call 12; refine (hg _ hla).mono ?_; rintro e w1 ⟨rfl, hb1⟩; have b1 := below_box hb1 hbx; have c0 := box_cell b1 0 _ rfl; have c1 := box_cell b1 1 _ rfl; have c2 := box_cell b1 2 _ rfl; have hl1 := liesT_next hla hb1)
    | (go_at_call 15; refine (h1 _ hl1).mono ?_; rintro e w2 ⟨rfl, hb2⟩; have b2 := below_box hb2 b1; have hl2 := liesT_next hl1 hb2; have hbel2 : Below w.heap.size w w2 := below_next (below_box0 hb1) (Nat.le_refl _) hb2)
    | (go_at_call 18; refine (hget _).mono ?_; rintro e w3 ⟨ao3, cap3, rfl, hO3, hb3⟩; obtain ⟨ao3', cap3', he3, hl3⟩ := ownT_lies hO3; cases he3; have b3 := alloc_box (.cells #[.int .i64 x0.ver, .slice ao3 x0.tabs.length cap3, .int .i64 x0.next] 26) (below_box hb3 b2); have d0 := box_cell b3 0 _ rfl; have d1 := box_cell b3 1 _ rfl; have d2 := box_cell b3 2 _ rfl)
    | (go_at_call 19; refine (hsame _ _ _ (liesT_next (liesT_next hl2 hb3) ((Below.refl _ _).alloc (Nat.le_refl _) (.cells #[.int .i64 x0.ver, .slice ao3 x0.tabs.length cap3, .int .i64 x0.next] 26))) (liesT_next hl3 ((Below.refl _ _).alloc (Nat.le_refl _) (.cells #[.int .i64 x0.ver, .slice ao3 x0.tabs.length cap3, .int .i64 x0.next] 26)))).mono ?_; rintro e w5 ⟨rfl, hb5⟩)
    | (go_at_call 17; refine (num_any _ _).mono ?_; rintro e w4 ⟨rfl, hw4⟩; have hq4 := hw4.symm; clear hw4; subst hq4))
  have b5 := below_box hb5 b3
  have y5 := below_box hb5 (heap_new w3 (.cells #[.int .i64 x0.ver, .slice ao3 x0.tabs.length cap3, .int .i64 x0.next] 26))
  have hsp5 : Sp w5 w2.heap.size ao3 x0.tabs := ((sp_of hO3).shape (shape_below ((Below.refl _ _).alloc (Nat.le_refl _) _))).shape (shape_below hb5)
  have hlow5 : Below w2.heap.size w2 w5 := hb3.trans ((below_box0 hb5).mono hb3.size)
  clear hO3 hl3 b3 d0 d1 d2 c0 c1 c2 hbx hla hl1 hl2
  go_loopw [8] (fun i wr => ∃ k : Nat, k ≤ x0.tabs.length ∧ i = .int .i64 (k : Int) ∧ Sp wr w2.heap.size ao3 x0.tabs ∧ Below w2.heap.size w2 wr ∧ Hid (wr.heap[w3.heap.size]? = some (.cells #[.int .i64 x0.ver, .slice ao3 x0.tabs.length cap3, .int .i64 x0.next] 26 (0, 0)))) (fun i _ => x0.tabs.length - (intOf i).toNat)
  case atStart => exact ⟨0, by omega, rfl, hsp5, hlow5, y5⟩
  case round =>
    clear hsp5 hlow5 y5 b5
    obtain ⟨k, hk, rfl, hsp, hlow, HY⟩ := hrel
    have y1 := box_cell HY.out 1 _ rfl
    by_cases hkl : k < x0.tabs.length
    · have hy8 := h8 _ (List.getElem_mem hkl)
      obtain ⟨g, cur, he, hBg, hgc, hcz, vk, hck, hK⟩ := hsp k x0.tabs[k] (List.getElem?_eq_getElem hkl)
      subst he
      obtain ⟨u1, hu1⟩ := cell_in hgc (show k * 5 + 1 < cur.size by omega)
      have fz1 := box_open hgc (k * 5 + 1)
      have hsh := shape_tab (i := k) hgc (.string ⟨#[63]⟩)
      have hsp2 := hsp.shape hsh
      have hlow2 := hlow.setCell (p := ⟨g, k * 5 + 1, none⟩) hBg (.string ⟨#[63]⟩)
      have hne : w3.heap.size ≠ g := by
        intro e
        rw [← e, HY.out] at hgc
        simp at hgc
      have HY2 := set_far (i := k * 5 + 1) hne HY.out (.string ⟨#[63]⟩)
      have y1b := box_cell HY2 1 _ rfl
      generalize hn : x0.tabs[k] = t at *
      go_wp2
      clear hu1 fz1 hsp hlow hsh hck hK hgc hcz y1
      generalize wr.setCell ⟨g, k * 5 + 1, none⟩ (.string ⟨#[63]⟩) = W1 at *
      go_loopw [9] (fun i wr2 => ∃ m : Nat, m ≤ t.cols.length ∧ i = .int .i64 (m : Int) ∧ Sp wr2 w2.heap.size (some ⟨g, 0, none⟩) x0.tabs ∧ Below w2.heap.size w2 wr2 ∧ Hid (wr2.heap[w3.heap.size]? = some (.cells #[.int .i64 x0.ver, .slice (some ⟨g, 0, none⟩) x0.tabs.length cap3, .int .i64 x0.next] 26 (0, 0)))) (fun i _ => t.cols.length - (intOf i).toNat)
      case atStart => exact ⟨0, by omega, rfl, hsp2, hlow2, HY2⟩
      case round =>
        clear hsp2 hlow2 HY2 y1b
        obtain ⟨m, hm, rfl, hsp, hlow, HYm⟩ := hrel
        have ym := box_cell HYm.out 1 _ rfl
        obtain ⟨g', cur, he, _, hgc, hcz, vk, hck, hK⟩ := hsp k t (by rw [← hn]; exact List.getElem?_eq_getElem hkl)
        cases he
        obtain ⟨aok, capk, rfl, hKs⟩ := hK
        have hc2 := box_cell hgc (k * 5 + 2) _ hck
        have i1 : (k : Int) < (x0.tabs.length : Int) := by omega
        by_cases hml : m < t.cols.length
        · obtain ⟨gk, curk, rfl, hBk, hgk, hkz⟩ := hKs (by omega)
          obtain ⟨u2, hu2⟩ := cell_in hgk (show m * 9 < curk.size by omega)
          have fz2 := box_open hgk (m * 9)
          have hsp3 := hsp.shape (shape_col hgk (o := m * 9) (.int .i64 (-1)))
          have hlow3 := hlow.setCell (p := ⟨gk, m * 9, none⟩) hBk (.int .i64 (-1))
          have hne2 : w3.heap.size ≠ gk := by
            intro e
            rw [← e, HYm.out] at hgk
            simp at hgk
          have HY3 := set_far (i := m * 9) hne2 HYm.out (.int .i64 (-1))
          go_wp2
          go_roundw
          case rel => exact ⟨m + 1, by omega, by go_num, hsp3, hlow3, HY3⟩
          case measure => simp [intOf]; omega
        · go_wp2
          go_roundw
          case rel => exact ⟨k + 1, by omega, by go_num, hsp, hlow, HYm⟩
          case measure => simp [intOf]; omega
    · have hbelr : Below w.heap.size w wr := hbel2.trans (hlow.mono hbel2.size)
      have hlr : LiesT wr wr.heap.size ao0 x0.tabs := liesT_next hl0 hbelr
      have bxr : wr.heap[w.heap.size]? = some (.cells #[.int .i64 x0.ver, .slice ao0 x0.tabs.length cap0, .int .i64 x0.next] 26 (0, 0)) := by
        rw [hlow.block w.heap.size (by have := (Array.getElem?_eq_some_iff.1 b2).1; omega)]
        exact b2
      go_wp2_with (first
        | (go_at_call 18; refine (hget _).mono ?_; rintro e w8 ⟨ao8, cap8, rfl, hO8, hb8⟩; obtain ⟨ao8', cap8', he8, hl8⟩ := ownT_lies hO8; cases he8; have b8 := alloc_box (.cells #[.int .i64 x0.ver, .slice ao8 x0.tabs.length cap8, .int .i64 x0.next] 26) (below_box hb8 bxr); have d0 := box_cell b8 0 _ rfl; have d1 := box_cell b8 1 _ rfl; have d2 := box_cell b8 2 _ rfl)
        | (go_at_call 19; refine (hsame _ _ _ (liesT_next (liesT_next hlr hb8) ((Below.refl _ _).alloc (Nat.le_refl _) (.cells #[.int .i64 x0.ver, .slice ao8 x0.tabs.length cap8, .int .i64 x0.next] 26))) (liesT_next hl8 ((Below.refl _ _).alloc (Nat.le_refl _) (.cells #[.int .i64 x0.ver, .slice ao8 x0.tabs.length cap8, .int .i64 x0.next] 26)))).mono ?_; rintro e w9 ⟨rfl, hb9⟩)
        | (go_at_call 11; refine (awake_any _).mono ?_; rintro e w10 ⟨rfl, hb10⟩))
      go_ret
      exact ⟨rfl, below_next (below_next (below_next hbelr (Nat.le_refl _) hb8) (Nat.le_refl _) (below_box0 hb9)) (Nat.le_refl _) hb10⟩

theorem walk (x0 : Sch) (hin0 : ∀ t ∈ x0.tabs, TabIn t) (ao0 : Option Addr) (cap0 : Nat) (w : World) (hl0 : LiesT w w.heap.size ao0 x0.tabs) :
    Calls Try.prog 7 #[.agg #[.int .i64 x0.ver, .slice ao0 x0.tabs.length cap0, .int .i64 x0.next]] w fun e w' => e = .returned (.bool true) ∧ Below w.heap.size w w' := by
  have hg := fun w h => great_any x0 ao0 cap0 w h
  have hla := liesT_next hl0 ((Below.refl _ w).alloc (Nat.le_refl _) (.cells #[.int .i64 x0.ver, .slice ao0 x0.tabs.length cap0, .int .i64 x0.next] 26))
  by_cases q : GrM x0
  · rw [tru_yes q] at hg
    go_enter Try.func7, Try.ntmps7
    go_wp2_with (first
      | (go_at_call 12; refine (hg _ hla).mono ?_; rintro e w1 ⟨rfl, hb1⟩)
      | (go_at_call 11; refine (awake_any _).mono ?_; rintro e w5 ⟨rfl, hb5⟩))
    go_ret
    exact ⟨rfl, below_next (below_box0 hb1) (Nat.le_refl _) hb5⟩
  · rw [tru_no q] at hg
    by_cases hx : SchOk x0
    · have hlen := sch_len hx
      have h4 := hx.ntabs
      have hsz : (str (sealL (schB x0))).size ≤ 900000 := by rw [str_size, sealL_len]; omega
      have ho : openL (str (sealL (schB x0))).data.toList = some (schB x0) := by rw [str_data]; exact open_seal (schB x0)
      refine core_ok x0 ao0 cap0 w hl0 (by omega) (fun t ht => by have := (hx.tabs t ht).ncols; omega) _ hg (dput_yes x0 hx ao0 cap0) (dget_yes _ hsz (schB x0) ho (by omega) x0 [] (rdSch_fwd x0 hx hin0) hx rfl) ?_
      intro bo bc w ha hb
      exact sch_same x0 (by omega) (fun t ht => by
        have k1 := (hx.tabs t ht).ncols
        have k2 := (hx.tabs t ht).nidxs
        exact ⟨by omega, by omega, fun i hi => by have := ((hx.tabs t ht).idxs i hi).2.2.1; omega⟩) ao0 cap0 bo bc w ha hb
    · refine core_bad x0 ao0 cap0 w hl0 hg (dput_no x0 hx ao0 cap0) ?_
      have h := fun w h => may_sch x0 ao0 cap0 w h
      rw [tru_no hx] at h
      exact h

set_option maxRecDepth 100000 in
theorem lifted (os : Os) (started : os.Started) (H : Type) (enc : TypeId × Value → H) :
    ReturnsInHanded {} Try.checked os 7 .any (Rows.descBackSpec.pre6 enc Try.prog Try.f7 Rows.descBackRow.domain false) (Rows.descBackSpec.post enc Try.prog Try.f7 false true false false) := by
  refine returnsInHanded_of_change (C := Try.checked) own started (by kernel_rfl) Try.func7
    (ChangeSpec.witness6 (enc := enc) (C := Try.checked) false ⟨#[], #[.agg #[.int .i64 0, .slice none 0 0, .int .i64 0]], []⟩ 8 (by kernel_rfl) (by kernel_rfl) (by kernel_rfl) (by kernel_rfl)) ?_
  intro W base args ds gs before hval0 hW hcnd _
  have hval : ∀ (j : Nat) t v, Try.f7.params[j]? = some t → args[j]? = some v → Value.okWide Try.prog W .any base t v := hval0
  have hW' := hW
  have hWk := hW
  obtain ⟨p, q, hA0, hV, rfl, hfz, hnd⟩ := hW
  have hA : DataW.TrodAll enc Try.prog W 0 (fun _ => true) true Try.f7.params.toList args.toList ds p := hA0
  rw [Try.params7] at hA hval
  obtain ⟨v0, vs0, d0, ds0, p0, q0, hargs, rfl, rfl, h0, r0⟩ := trodAll_cons hA
  obtain ⟨rfl, rfl, rfl⟩ := trodAll_nil r0
  obtain rfl : args = #[v0] := by cases args; simp_all
  obtain ⟨rfl, rfl⟩ := trodVars_none hV
  have hk0 := h0
  obtain ⟨ver0, ao0, cap0, l0, next0, rfl, hin0, hlies0⟩ := open_sch (hval 0 26 v0 rfl rfl) h0
  have hlt0 : ∀ x ∈ p0, x.block < W.heap.size := fun x hx => by simpa using hWk.lt x (by simp [hx])
  clear hA0 hval0
  simp only [List.append_nil] at hW'

  refine (walk ⟨ver0, l0, next0⟩ hin0 ao0 cap0 W hlies0).mono fun e W' ⟨he, hg⟩ => ?_
  subst he
  exact ⟨_, rfl, _, _, _, [], _, [], hW', trodAll_cons_mk (shut_bool Try.underlying4 _) trodAll_mk0, (trodAll_cons_mk (Below.trod Try.laidOut (by kernel_rfl) (of_decide_eq_true (by kernel_rfl)) hk0 hg hlt0) trodAll_mk0), rfl, hg.frame _, fun h => by cases h⟩

theorem over : Rows.descBackRow.holds Try.pinned (OpenSpec.ofChange Rows.descBackSpec) :=
  OpenClaim.holds_of_wide 7 Try.f7 rfl rfl rfl rfl rfl rfl rfl ⟨rfl, rfl, rfl, rfl, rfl⟩ rfl rfl rfl rfl rfl (by kernel_rfl) Try.func7 (by kernel_rfl)
    (of_decide_eq_true (by kernel_rfl)) (by unfold Func.isWrapper; first | (rw [if_pos (by decide +kernel)]; kernel_rfl) | (rw [if_neg (by decide +kernel)]; exact ⟨rfl, rfl⟩))
    (fun os started H enc _ => lifted os started H enc)

theorem proved : Rows.DescBackSaid :=
  over
#print axioms proved
end Go.Proofs.Ytndppffcladalaa.descBack
