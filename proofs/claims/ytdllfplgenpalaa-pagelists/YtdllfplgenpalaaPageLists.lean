/-
  Whatever is put and let go, pages stay right, and hold what a list would, for every acts.
-/
import Derived.Test.YtdllfplgenpalaaRows
import Derived.Test.YtdllfplgenpalaaPAwake
import Derived.Test.YtdllfplgenpalaaPCmp
import Derived.Test.YtdllfplgenpalaaPScnB
import Derived.Test.YtdllfplgenpalaaPRefB
import Derived.Test.YtdllfplgenpalaaPActs
import Derived.Test.YtdllfplgenpalaaPDelB
import Derived.WalkKit
import Derived.ProofKit
import Derived.OpenShut
import Derived.ShutString
import Derived.Lib.SmallJoins
namespace Go.Proofs.Ytdllfplgenpalaa.pageLists
open Go.ChangeShapes Go.WideShapes Go.ChangeAt Go.RowKit Go.Joins Num
open Go.ChangeMaps (open_string shut_string)
set_option linter.unusedVariables false

theorem own : ownKnob Try.prog.godebug = none := by kernel_rfl
open scoped Classical
theorem no_pr (w : World) (B : Nat) (ao : Option Addr) : LiesPr w B ao [] := fun i x hx => by simp at hx
/-- A turn of the pages by an act. -/
theorem turn_put (P : Pages) (hr : RightP P) (k v : ByteArray) (h900 : P.flatten.length ≤ 100) (aop : Option Addr) (capp : Nat) (W : World) (hl : LiesPg W W.heap.size aop P) : Calls Try.prog 14 #[.slice aop P.length capp, .string k, .string v] W fun e w' => ∃ ao' cap', e = .returned (.slice ao' (putP P k v).length cap') ∧ LiesPg w' w'.heap.size ao' (putP P k v) ∧ Below W.heap.size W w' := by
  have h1 := len_flat fun p hp => (hr.1 p hp).1
  have h := put_any P aop capp k v (by omega) (fun p hp => by have := hr.1 p hp; omega) W hl
  rw [putA_yes hr] at h
  exact h
theorem turn_del (P : Pages) (hr : RightP P) (k : ByteArray) (h900 : P.flatten.length ≤ 100) (aop : Option Addr) (capp : Nat) (W : World) (hl : LiesPg W W.heap.size aop P) : Calls Try.prog 16 #[.slice aop P.length capp, .string k] W fun e w' => ∃ ao' cap', e = .returned (.slice ao' (delP P k).length cap') ∧ LiesPg w' w'.heap.size ao' (delP P k) ∧ Below W.heap.size W w' := by
  have h1 := len_flat fun p hp => (hr.1 p hp).1
  have h := del_any P aop capp k (by omega) (fun p hp => by have := hr.1 p hp; omega) W hl
  rw [delA_yes hr] at h
  exact h
theorem is_right (P : Pages) (hr : RightP P) (h900 : P.flatten.length ≤ 200) (W : World) (ao : Option Addr) (cap : Nat) (hl : LiesPg W W.heap.size ao P) : Calls Try.prog 9 #[.slice ao P.length cap] W (fun e w' => e = .returned (.bool true) ∧ Below W.heap.size W w') ∧ Calls Try.prog 10 #[.slice ao P.length cap] W (fun e w' => e = .returned (.bool true) ∧ w' = W) := by
  have h1 := len_flat fun p hp => (hr.1 p hp).1
  exact ⟨right_calls P ao cap (by omega) (fun p hp => by have := hr.1 p hp; omega) hr W hl, refRight_yes P ao cap (by omega) (fun p hp => by have := hr.1 p hp; omega) hr W hl⟩
set_option maxRecDepth 100000 in
set_option maxHeartbeats 16000000 in

theorem walk (ao0 : Option Addr) (cap0 : Nat) (l0 : List Ac) (w : World) (hl0 : LiesAc w w.heap.size ao0 l0) :
    Calls Try.prog 7 #[.slice ao0 l0.length cap0] w fun e w' => e = .returned (.bool true) ∧ Below w.heap.size w w' := by
  go_enter Try.func7, Try.ntmps7
  go_wp2
  go_loopw [3, 4, 5] (fun vp vl i wr => ∃ (c : Nat) (P : Pages) (L : List Pr) (aop : Option Addr) (capp : Nat) (aol : Option Addr) (capl : Nat), c ≤ l0.length ∧ c ≤ 100 ∧ i = .int .i64 (c : Int) ∧ vp = .slice aop P.length capp ∧ vl = .slice aol L.length capl ∧ L.length ≤ c ∧ L.length ≤ capl ∧ Below w.heap.size w wr ∧ Hid (RightP P ∧ L = P.flatten ∧ LiesPg wr wr.heap.size aop P ∧ LiesPr wr wr.heap.size aol L)) (fun _ _ i _ => l0.length - (intOf i).toNat)
  case atStart => exact ⟨0, [], [], none, 0, none, 0, by omega, by omega, rfl, rfl, rfl, by simp, by simp, Below.refl _ _, right_nil, rfl, lies_nil _ _ _, no_pr _ _ _⟩
  case round =>
    obtain ⟨c, P, L, aop, capp, aol, capl, hc, hc1, rfl, rfl, rfl, hLc, hLcap, hbel, HH⟩ := hrel
    have hsz := hbel.size
    have hnext : ∀ w2, Below wr.heap.size wr w2 → Hid (RightP P ∧ L = P.flatten ∧ LiesPg w2 w2.heap.size aop P ∧ LiesPr w2 w2.heap.size aol L) := fun w2 hb => ⟨HH.out.1, HH.out.2.1, liesPg_next HH.out.2.2.1 hb hb.size, liesPr_next HH.out.2.2.2 hb hb.size⟩
    have hend : Calls Try.prog 21 #[.slice aop P.length capp, .string ⟨#[]⟩, .string ⟨#[]⟩, .int .i64 ((L.length : Int) + 1)] wr fun e w' => ∃ ao' cap', e = .returned (.slice ao' L.length cap') ∧ LiesPr w' w'.heap.size ao' L ∧ LiesPr w' w'.heap.size aol L ∧ Below wr.heap.size wr w' := by
      have h1 := len_flat fun p hp => (HH.out.1.1 p hp).1
      have h2 : P.flatten.length ≤ 100 := by rw [← HH.out.2.1]; omega
      have h := scan_any P aop capp ⟨#[]⟩ ⟨#[]⟩ ((L.length : Int) + 1) (by omega) (fun p hp => by have := HH.out.1.1 p hp; omega) (fun _ => by omega) wr HH.out.2.2.1
      rw [scanA_yes HH.out.1, ← HH.out.2.1, scan_all L _ (by omega)] at h
      refine h.mono ?_
      rintro e w' ⟨ao', cap', rfl, hl', hb'⟩
      exact ⟨ao', cap', rfl, hl', liesPr_next HH.out.2.2.2 hb' hb'.size, hb'⟩
    by_cases hcl : c < l0.length
    · by_cases h100 : (c : Int) < 100
      · have HX : Hid (l0[c]? = some l0[c]) := List.getElem?_eq_getElem hcl
        obtain ⟨a, rfl, hblk, q0, q1, q2⟩ := (hl0.below AcAt.fast hbel) c l0[c] HX.out
        generalize l0[c] = x at *
        clear hend
        by_cases r1 : 1000 < (x.key.size : Int)
        · go_wp2
          go_roundw
          case rel => exact ⟨c + 1, P, L, aop, capp, aol, capl, by omega, by omega, by go_num, rfl, rfl, by omega, hLcap, hbel.alloc hsz _, (hnext _ ((Below.refl _ wr).alloc (Nat.le_refl _) _)).out⟩
          case measure => simp [intOf]; omega
        · by_cases r2 : 1000 < (x.val.size : Int)
          · go_wp2
            go_roundw
            case rel => exact ⟨c + 1, P, L, aop, capp, aol, capl, by omega, by omega, by go_num, rfl, rfl, by omega, hLcap, hbel.alloc hsz _, (hnext _ ((Below.refl _ wr).alloc (Nat.le_refl _) _)).out⟩
            case measure => simp [intOf]; omega
          · have HRL : Hid (Rises L) := by unfold Hid; rw [HH.out.2.1]; exact HH.out.1.2
            have hflat : P.flatten.length ≤ 100 := by rw [← HH.out.2.1]; omega
            have hJl := cntK_le L x.key
            have HJ1 : Hid (∀ (i : Nat) y, i < cntK L x.key → L[i]? = some y → Op.bytesLess y.key.toList x.key.toList = true) := fun i y hi hy => cntK_no hi hy
            have HJ2 : Hid (∀ y, L[cntK L x.key]? = some y → Op.bytesLess y.key.toList x.key.toList = false) := fun y hy => cntK_yes HRL.out (Nat.le_refl _) hy
            have hjt : (L.take (cntK L x.key)).length = cntK L x.key := by rw [List.length_take]; omega
            have hdl := del_len L x.key
            have hil := insL_len x.key x.val L
            have HPD : Hid (RightP (delP P x.key) ∧ (delP P x.key).flatten = delL L x.key) := ⟨del_right HH.out.1 x.key, by rw [del_flat HH.out.1, ← HH.out.2.1]⟩
            have HPP : Hid (RightP (putP P x.key x.val) ∧ (putP P x.key x.val).flatten = insL L x.key x.val) := ⟨put_right HH.out.1 x.key x.val, by rw [put_flat HH.out.1, ← HH.out.2.1]⟩
            have hturnD := fun W hl => turn_del P HH.out.1 x.key hflat aop capp W hl
            have hturnP := fun W hl => turn_put P HH.out.1 x.key x.val hflat aop capp W hl
            have hrightD := is_right (delP P x.key) HPD.out.1 (by rw [HPD.out.2]; omega)
            have hrightP := is_right (putP P x.key x.val) HPP.out.1 (by rw [HPP.out.2]; omega)
            have HLD := fun y (h1 : L[cntK L x.key]? = some y) (h2 : y.key = x.key) => list_del_has HRL.out h1 h2
            have HLP := fun y (h1 : L[cntK L x.key]? = some y) (h2 : y.key = x.key) => list_put_has (v := x.val) h1 h2
            have HLDn := fun (h : hasK L x.key = false) => list_del_new HRL.out h
            have HLPn := fun (h : hasK L x.key = false) => list_put_new (v := x.val) HRL.out h
            have HE1 : cntK L x.key = L.length → hasK L x.key = false := has_end
            have HE2 := fun y (h1 : L[cntK L x.key]? = some y) (h2 : ¬ y.key = x.key) => has_ne h1 h2
            generalize delP P x.key = PD at *
            generalize putP P x.key x.val = PP at *
            generalize delL L x.key = LD at *
            generalize insL L x.key x.val = LP at *
            generalize hasK L x.key = G at *
            generalize cntK L x.key = J at *
            go_wp2
            rename World => W0
            have hstay0 : ∀ w2, Below (W0.alloc (.cells #[.string x.key, .string x.val, .bool x.del] 39)).heap.size (W0.alloc (.cells #[.string x.key, .string x.val, .bool x.del] 39)) w2 → w2.cell? ⟨W0.heap.size, 0, none⟩ = some (.string x.key) ∧ w2.cell? ⟨W0.heap.size, 1, none⟩ = some (.string x.val) ∧ w2.cell? ⟨W0.heap.size, 2, none⟩ = some (.bool x.del) ∧ LiesPr w2 w2.heap.size aol L ∧ LiesPg w2 w2.heap.size aop P ∧ Below w.heap.size w w2 := by
              intro w2 hb
              have hbx := below_box hb (heap_new W0 (.cells #[.string x.key, .string x.val, .bool x.del] 39))
              have hb2 := below_box0 hb
              obtain ⟨_, _, g1, g2⟩ := (hnext w2 hb2).out
              exact ⟨box_cell hbx 0 _ rfl, box_cell hbx 1 _ rfl, box_cell hbx 2 _ rfl, g2, g1, below_next hbel (Nat.le_refl _) hb2⟩
            clear hnext HH
            go_loopw [7] (fun v wr => ∃ t : Nat, t ≤ J ∧ v = .int .i64 (t : Int) ∧ Below (W0.alloc (.cells #[.string x.key, .string x.val, .bool x.del] 39)).heap.size (W0.alloc (.cells #[.string x.key, .string x.val, .bool x.del] 39)) wr) (fun v _ => J - (intOf v).toNat)
            case atStart => exact ⟨0, by omega, rfl, Below.refl _ _⟩
            case round =>
              obtain ⟨t, ht, rfl, hbt⟩ := hrel
              obtain ⟨k0, k1, k2, hlL, hlP, hbw⟩ := hstay0 wr hbt
              have e2 : ∀ z : Low wr, z.wd.cell? ⟨W0.heap.size, 0, none⟩ = some (.string x.key) := fun z => (z.cell (cell_lt k0)).trans k0
              by_cases htJ : t < J
              · have HY : Hid (L[t]? = some (L[t]'(by omega))) := List.getElem?_eq_getElem _
                have hlt := HJ1.out t _ htJ HY.out
                obtain ⟨a4, rfl, _, ky, _⟩ := hlL t _ HY.out
                generalize (L[t]'(by omega)) = y at *
                have e1 : ∀ z : Low wr, z.wd.cell? (a4.add (t * 2)) = some (.string y.key) := fun z => (z.cell (cell_lt ky)).trans ky
                have f1 : decide ((t : Int) < (L.length : Int)) = true := by simp; omega
                have f2 : (t : Int) < (L.length : Int) := by omega
                go_wp2_with fail
                refine wp_region_low (by kernel_rfl) (by kernel_rfl) fun hsome => ?_
                repeat (go_big_quiet_step (fail))
                refine wpQuiet_nil ?_
                rintro _ ⟨z, rfl⟩
                have hz := z.low
                go_wp2
                go_roundw
                case rel => exact ⟨t + 1, by omega, by go_num, below_next hbt (Nat.le_refl _) hz⟩
                case measure => simp [intOf]; omega
              · obtain rfl : J = t := by omega
                by_cases hJL : J < L.length
                · have HY : Hid (L[J]? = some (L[J]'hJL)) := List.getElem?_eq_getElem hJL
                  have hge := HJ2.out _ HY.out
                  obtain ⟨a4, rfl, _, ky0, _⟩ := hlL J _ HY.out
                  generalize (L[J]'hJL) = y at *
                  have e1 : ∀ z : Low wr, z.wd.cell? (a4.add (J * 2)) = some (.string y.key) := fun z => (z.cell (cell_lt ky0)).trans ky0
                  have f1 : decide ((J : Int) < (L.length : Int)) = true := by simp; omega
                  have f2 : (J : Int) < (L.length : Int) := by omega
                  have hJt : (L.take J).length = J := hjt
                  have fJ : (J : Int) ≤ (capl : Int) := by omega
                  go_wp2_with fail
                  refine wp_region_low (by kernel_rfl) (by kernel_rfl) fun hsome => ?_
                  repeat (go_big_quiet_step (fail))
                  refine wpQuiet_nil ?_
                  rintro _ ⟨z, rfl⟩
                  have hz := z.low
                  obtain ⟨Z, hZe⟩ : ∃ Z, Z = z.wd := ⟨_, rfl⟩
                  rw [← hZe] at hz ⊢
                  have hbt2 := below_next hbt (Nat.le_refl _) hz
                  obtain ⟨k3, k4, k5, hlLZ, hlPZ, hbZ⟩ := hstay0 Z hbt2
                  have hstay : ∀ w2, Below Z.heap.size Z w2 → w2.cell? ⟨W0.heap.size, 0, none⟩ = some (.string x.key) ∧ w2.cell? ⟨W0.heap.size, 1, none⟩ = some (.string x.val) ∧ w2.cell? ⟨W0.heap.size, 2, none⟩ = some (.bool x.del) ∧ LiesPr w2 w2.heap.size (some a4) L ∧ LiesPg w2 w2.heap.size aop P := fun w2 hb => by
                    obtain ⟨g0, g1, g2, g3, g4, _⟩ := hstay0 w2 (below_next hbt2 (Nat.le_refl _) hb)
                    exact ⟨g0, g1, g2, g3, g4⟩
                  clear hstay0 hbt hbt2 hZe hsome hz k0 k1 k2 hlL hlP hbw e2
                  clear e1 ky0
                  by_cases hky : y.key = x.key
                  · have heq : (y.key.toList == x.key.toList) = true := by rw [hky]; simp
                    have g1 : (J : Int) + 1 ≤ (L.length : Int) := by omega
                    have g2 : (0 : Int) ≤ (J : Int) + 1 := by omega
                    have g3 : ((J : Int) + 1).toNat = J + 1 := by omega
                    by_cases hcp : capl = J + 1
                    · subst hcp
                      cases hdel : x.del with
                      | true =>
                        have h0 := (HLD y HY.out hky)
                        rw [show L.drop (J + 1) = [] from List.drop_eq_nil_of_le (by omega)] at h0
                        have HNL : Hid (L.take J ++ ([] : List Pr) = LD) := h0
                        have HPN := HPD
                        have hturn := hturnD
                        have hpr := fun W ao cap hl => (hrightD W ao cap hl).1
                        have hrr := fun W ao cap hl => (hrightD W ao cap hl).2
                        clear h0 HPD HPP hturnD hturnP hrightD hrightP HLD HLP HLDn HLPn HE1 HE2 HJ1 HJ2
                        rw [hdel] at hstay k5
                        have hNl : LD.length ≤ c + 1 := by omega
                        clear hdl hil
                        generalize LD = NL at *
                        generalize PD = PN at *
                        go_wp2_with (first
                          | (at_builtin; refine wpList_app_pg _ rfl _ _ rfl Z.heap.size (.slice none 0 0) [] rfl (World.ownsRow_nil _ _ _ _) (some a4) (J + 1) (L.take J) (by rw [hJt]; rfl) (Num.LiesG.take hlLZ J) (by rw [hJt]; simp <;> omega) (Nat.le_refl _) ?_; intro v1 w1 ho1 hg1 hn1
                             rw [List.nil_append] at ho1
                             have hb1 : Below Z.heap.size Z w1 := ⟨hg1.os, hg1.tape, hg1.output, hg1.size, fun j hj => hg1.block j hj (by simp [Value.ownBlock])⟩
                             obtain ⟨ao1, cap1, rfl, _, _⟩ := own_lies ho1
                             rw [hJt] at ho1
                             obtain ⟨kb0, kb1, kb2, hlL1, hlP1⟩ := hstay w1 hb1
                             have s1 := hb1.size))
                        have e2 : ∀ z : Low w1, z.wd.cell? ⟨W0.heap.size, 0, none⟩ = some (.string x.key) := fun z => (z.cell (cell_lt kb0)).trans kb0
                        obtain ⟨a5, ea5, _, ky, _⟩ := hlL1 J y HY.out
                        cases ea5
                        have e1 : ∀ z : Low w1, z.wd.cell? (a4.add (J * 2)) = some (.string y.key) := fun z => (z.cell (cell_lt ky)).trans ky
                        refine wp_region_low (by kernel_rfl) (by kernel_rfl) fun hsome2 => ?_
                        repeat (go_big_quiet_step (fail))
                        refine wpQuiet_nil ?_
                        rintro _ ⟨z2, rfl⟩
                        have hz2 := z2.low
                        obtain ⟨Z2, hZ2⟩ : ∃ Z2, Z2 = z2.wd := ⟨_, rfl⟩
                        rw [← hZ2] at hz2 ⊢
                        have hbZ2 : Below Z.heap.size Z Z2 := below_next hb1 (Nat.le_refl _) hz2
                        obtain ⟨kd0, kd1, kd2, hlL3, hlP3⟩ := hstay Z2 hbZ2
                        have s3 := hbZ2.size
                        have hm3 : Z2.ownsRow Z.heap.size 41 2 (.slice ao1 J cap1) (L.take J).length (prCells (L.take J)) := by rw [hJt]; exact own_below ho1 hz2
                        have hml : (L.take J).length = J := hJt
                        clear e2 hsome2 hZ2 e1
                        have HME : Hid ((L.take J) ++ ([] : List Pr) = NL) := HNL
                        go_wp2_with (first
                          | (at_builtin; refine wpList_app_pg _ rfl _ _ rfl Z.heap.size (.slice ao1 J cap1) (L.take J) rfl hm3 (some a4) 0 ([] : List Pr) (by first | rfl | (show Value.slice (some a4) (L.length - (J + 1)) 0 = _; rw [show L.length - (J + 1) = 0 by omega]; rfl)) (no_pr _ 0 _) (by rw [hml]; simp <;> omega) s3 ?_; intro v4 w4 ho4 hg4 hn4
                             rw [HME.out] at ho4
                             have hb4 : Below Z.heap.size Z w4 := hbZ2.trans ((Below.refl _ Z2).grown hg4 s3 (fun j hj => (hm3.lt j hj).1))
                             obtain ⟨ao4, cap4, rfl, hlN, hcapN⟩ := own_lies ho4
                             obtain ⟨ke0, ke1, ke2, hlL4, hlP4⟩ := hstay w4 hb4)
                          | (go_at_call 16; refine (hturn w4 hlP4).mono ?_; rintro e w5 ⟨ao5, cap5, rfl, hl5, hb5⟩)
                          | (go_at_call 10; refine (hrr w5 ao5 cap5 hl5).mono ?_; rintro e w6 ⟨rfl, hqq⟩; have hqq' := hqq.symm; clear hqq; subst hqq')
                          | (go_at_call 9; refine (hpr w5 ao5 cap5 hl5).mono ?_; rintro e w7 ⟨rfl, hb7⟩))
                        go_roundw
                        case rel =>
                          have s5 := hb5.size
                          have hb57 := below_next hb5 (Nat.le_refl _) hb7
                          exact ⟨c + 1, PN, NL, ao5, cap5, ao4, cap4, by omega, by omega, by go_num, rfl, rfl, by omega, hcapN, below_next (below_next hbZ (Nat.le_refl _) hb4) (Nat.le_refl _) hb57, HPN.out.1, HPN.out.2.symm, liesPg_next hl5 hb7 hb7.size, liesPr_next hlN hb57 hb57.size⟩
                        case measure => simp [intOf]; omega
                      | false =>
                        have h0 := (HLP y HY.out hky)
                        rw [show L.drop (J + 1) = [] from List.drop_eq_nil_of_le (by omega)] at h0
                        have HNL : Hid (L.take J ++ [(⟨x.key, x.val⟩ : Pr)] ++ ([] : List Pr) = LP) := h0
                        have HPN := HPP
                        have hturn := hturnP
                        have hpr := fun W ao cap hl => (hrightP W ao cap hl).1
                        have hrr := fun W ao cap hl => (hrightP W ao cap hl).2
                        clear h0 HPD HPP hturnD hturnP hrightD hrightP HLD HLP HLDn HLPn HE1 HE2 HJ1 HJ2
                        rw [hdel] at hstay k5
                        have hNl : LP.length ≤ c + 1 := by omega
                        clear hdl hil
                        generalize LP = NL at *
                        generalize PP = PN at *
                        go_wp2_with (first
                          | (at_builtin; refine wpList_app_pg _ rfl _ _ rfl Z.heap.size (.slice none 0 0) [] rfl (World.ownsRow_nil _ _ _ _) (some a4) (J + 1) (L.take J) (by rw [hJt]; rfl) (Num.LiesG.take hlLZ J) (by rw [hJt]; simp <;> omega) (Nat.le_refl _) ?_; intro v1 w1 ho1 hg1 hn1
                             rw [List.nil_append] at ho1
                             have hb1 : Below Z.heap.size Z w1 := ⟨hg1.os, hg1.tape, hg1.output, hg1.size, fun j hj => hg1.block j hj (by simp [Value.ownBlock])⟩
                             obtain ⟨ao1, cap1, rfl, _, _⟩ := own_lies ho1
                             rw [hJt] at ho1
                             obtain ⟨kb0, kb1, kb2, hlL1, hlP1⟩ := hstay w1 hb1
                             have s1 := hb1.size
                             have kbo := fun o : Obj => alloc_cell o kb0
                             have kbo1 := fun o : Obj => alloc_cell o kb1)
                          | (at_builtin; refine wpList_appX _ rfl _ _ 34 rfl 41 2 32 Try.underlying34 Try.infoPr Z.heap.size _ J (prCells (L.take J)) rfl (ho1.alloc _) ⟨w1.heap.size, 0, none⟩ 1 [.string x.key, .string x.val] rfl rfl (one2 ⟨x.key, x.val⟩) (two_cells _ _ rfl _ _) ⟨by omega, by decide, by decide, rfl⟩ (by simp; omega) ?_; intro v2 w2 ho2 hb2 hst2
                             have hb2s : Below Z.heap.size Z w2 := (hb1.alloc s1 _).trans hb2
                             obtain ⟨kc0, kc1, kc2, hlL2, hlP2⟩ := hstay w2 hb2s
                             have s2 := hb2s.size
                             obtain ⟨ao2, m2, cap2, rfl⟩ := own_shape ho2))
                        have e2 : ∀ z : Low w2, z.wd.cell? ⟨W0.heap.size, 0, none⟩ = some (.string x.key) := fun z => (z.cell (cell_lt kc0)).trans kc0
                        obtain ⟨a5, ea5, _, ky, _⟩ := hlL2 J y HY.out
                        cases ea5
                        have e1 : ∀ z : Low w2, z.wd.cell? (a4.add (J * 2)) = some (.string y.key) := fun z => (z.cell (cell_lt ky)).trans ky
                        refine wp_region_low (by kernel_rfl) (by kernel_rfl) fun hsome2 => ?_
                        repeat (go_big_quiet_step (fail))
                        refine wpQuiet_nil ?_
                        rintro _ ⟨z2, rfl⟩
                        have hz2 := z2.low
                        obtain ⟨Z2, hZ2⟩ : ∃ Z2, Z2 = z2.wd := ⟨_, rfl⟩
                        rw [← hZ2] at hz2 ⊢
                        have hbZ2 : Below Z.heap.size Z Z2 := below_next hb2s (Nat.le_refl _) hz2
                        obtain ⟨kd0, kd1, kd2, hlL3, hlP3⟩ := hstay Z2 hbZ2
                        have s3 := hbZ2.size
                        have hm3 : Z2.ownsRow Z.heap.size 41 2 (.slice ao2 m2 cap2) (L.take J ++ [(⟨x.key, x.val⟩ : Pr)]).length (prCells (L.take J ++ [(⟨x.key, x.val⟩ : Pr)])) := by rw [List.length_append, hJt, prCells_append]; exact own_below ho2 hz2
                        have hml : (L.take J ++ [(⟨x.key, x.val⟩ : Pr)]).length = J + 1 := by rw [List.length_append, hJt]; rfl
                        clear e2 hsome2 hZ2 e1
                        have HME : Hid ((L.take J ++ [(⟨x.key, x.val⟩ : Pr)]) ++ ([] : List Pr) = NL) := HNL
                        go_wp2_with (first
                          | (at_builtin; refine wpList_app_pg _ rfl _ _ rfl Z.heap.size (.slice ao2 m2 cap2) (L.take J ++ [(⟨x.key, x.val⟩ : Pr)]) rfl hm3 (some a4) 0 ([] : List Pr) (by first | rfl | (show Value.slice (some a4) (L.length - (J + 1)) 0 = _; rw [show L.length - (J + 1) = 0 by omega]; rfl)) (no_pr _ 0 _) (by rw [hml]; simp <;> omega) s3 ?_; intro v4 w4 ho4 hg4 hn4
                             rw [HME.out] at ho4
                             have hb4 : Below Z.heap.size Z w4 := hbZ2.trans ((Below.refl _ Z2).grown hg4 s3 (fun j hj => (hm3.lt j hj).1))
                             obtain ⟨ao4, cap4, rfl, hlN, hcapN⟩ := own_lies ho4
                             obtain ⟨ke0, ke1, ke2, hlL4, hlP4⟩ := hstay w4 hb4)
                          | (go_at_call 14; refine (hturn w4 hlP4).mono ?_; rintro e w5 ⟨ao5, cap5, rfl, hl5, hb5⟩)
                          | (go_at_call 10; refine (hrr w5 ao5 cap5 hl5).mono ?_; rintro e w6 ⟨rfl, hqq⟩; have hqq' := hqq.symm; clear hqq; subst hqq')
                          | (go_at_call 9; refine (hpr w5 ao5 cap5 hl5).mono ?_; rintro e w7 ⟨rfl, hb7⟩))
                        go_roundw
                        case rel =>
                          have s5 := hb5.size
                          have hb57 := below_next hb5 (Nat.le_refl _) hb7
                          exact ⟨c + 1, PN, NL, ao5, cap5, ao4, cap4, by omega, by omega, by go_num, rfl, rfl, by omega, hcapN, below_next (below_next hbZ (Nat.le_refl _) hb4) (Nat.le_refl _) hb57, HPN.out.1, HPN.out.2.symm, liesPg_next hl5 hb7 hb7.size, liesPr_next hlN hb57 hb57.size⟩
                        case measure => simp [intOf]; omega
                    · cases hdel : x.del with
                      | true =>
                        have h0 := (HLD y HY.out hky)
                        have HNL : Hid (L.take J ++ L.drop (J + 1) = LD) := h0
                        have HPN := HPD
                        have hturn := hturnD
                        have hpr := fun W ao cap hl => (hrightD W ao cap hl).1
                        have hrr := fun W ao cap hl => (hrightD W ao cap hl).2
                        clear h0 HPD HPP hturnD hturnP hrightD hrightP HLD HLP HLDn HLPn HE1 HE2 HJ1 HJ2
                        rw [hdel] at hstay k5
                        have hNl : LD.length ≤ c + 1 := by omega
                        clear hdl hil
                        generalize LD = NL at *
                        generalize PD = PN at *
                        go_wp2_with (first
                          | (at_builtin; refine wpList_app_pg _ rfl _ _ rfl Z.heap.size (.slice none 0 0) [] rfl (World.ownsRow_nil _ _ _ _) (some a4) capl (L.take J) (by rw [hJt]; rfl) (Num.LiesG.take hlLZ J) (by rw [hJt]; simp <;> omega) (Nat.le_refl _) ?_; intro v1 w1 ho1 hg1 hn1
                             rw [List.nil_append] at ho1
                             have hb1 : Below Z.heap.size Z w1 := ⟨hg1.os, hg1.tape, hg1.output, hg1.size, fun j hj => hg1.block j hj (by simp [Value.ownBlock])⟩
                             obtain ⟨ao1, cap1, rfl, _, _⟩ := own_lies ho1
                             rw [hJt] at ho1
                             obtain ⟨kb0, kb1, kb2, hlL1, hlP1⟩ := hstay w1 hb1
                             have s1 := hb1.size))
                        have e2 : ∀ z : Low w1, z.wd.cell? ⟨W0.heap.size, 0, none⟩ = some (.string x.key) := fun z => (z.cell (cell_lt kb0)).trans kb0
                        obtain ⟨a5, ea5, _, ky, _⟩ := hlL1 J y HY.out
                        cases ea5
                        have e1 : ∀ z : Low w1, z.wd.cell? (a4.add (J * 2)) = some (.string y.key) := fun z => (z.cell (cell_lt ky)).trans ky
                        refine wp_region_low (by kernel_rfl) (by kernel_rfl) fun hsome2 => ?_
                        repeat (go_big_quiet_step (fail))
                        refine wpQuiet_nil ?_
                        rintro _ ⟨z2, rfl⟩
                        have hz2 := z2.low
                        obtain ⟨Z2, hZ2⟩ : ∃ Z2, Z2 = z2.wd := ⟨_, rfl⟩
                        rw [← hZ2] at hz2 ⊢
                        have hbZ2 : Below Z.heap.size Z Z2 := below_next hb1 (Nat.le_refl _) hz2
                        obtain ⟨kd0, kd1, kd2, hlL3, hlP3⟩ := hstay Z2 hbZ2
                        have s3 := hbZ2.size
                        have hm3 : Z2.ownsRow Z.heap.size 41 2 (.slice ao1 J cap1) (L.take J).length (prCells (L.take J)) := by rw [hJt]; exact own_below ho1 hz2
                        have hml : (L.take J).length = J := hJt
                        clear e2 hsome2 hZ2 e1
                        have HME : Hid ((L.take J) ++ (L.drop (J + 1)) = NL) := HNL
                        go_wp2_with (first
                          | (at_builtin; refine wpList_app_pg _ rfl _ _ rfl Z.heap.size (.slice ao1 J cap1) (L.take J) rfl hm3 (some (a4.add ((J + 1) * 2))) (capl - (J + 1)) (L.drop (J + 1)) (by rw [List.length_drop]; rfl) (lies_drop' hlL3 (J + 1)) (by rw [hml]; simp <;> omega) s3 ?_; intro v4 w4 ho4 hg4 hn4
                             rw [HME.out] at ho4
                             have hb4 : Below Z.heap.size Z w4 := hbZ2.trans ((Below.refl _ Z2).grown hg4 s3 (fun j hj => (hm3.lt j hj).1))
                             obtain ⟨ao4, cap4, rfl, hlN, hcapN⟩ := own_lies ho4
                             obtain ⟨ke0, ke1, ke2, hlL4, hlP4⟩ := hstay w4 hb4)
                          | (go_at_call 16; refine (hturn w4 hlP4).mono ?_; rintro e w5 ⟨ao5, cap5, rfl, hl5, hb5⟩)
                          | (go_at_call 10; refine (hrr w5 ao5 cap5 hl5).mono ?_; rintro e w6 ⟨rfl, hqq⟩; have hqq' := hqq.symm; clear hqq; subst hqq')
                          | (go_at_call 9; refine (hpr w5 ao5 cap5 hl5).mono ?_; rintro e w7 ⟨rfl, hb7⟩))
                        go_roundw
                        case rel =>
                          have s5 := hb5.size
                          have hb57 := below_next hb5 (Nat.le_refl _) hb7
                          exact ⟨c + 1, PN, NL, ao5, cap5, ao4, cap4, by omega, by omega, by go_num, rfl, rfl, by omega, hcapN, below_next (below_next hbZ (Nat.le_refl _) hb4) (Nat.le_refl _) hb57, HPN.out.1, HPN.out.2.symm, liesPg_next hl5 hb7 hb7.size, liesPr_next hlN hb57 hb57.size⟩
                        case measure => simp [intOf]; omega
                      | false =>
                        have h0 := (HLP y HY.out hky)
                        have HNL : Hid (L.take J ++ [(⟨x.key, x.val⟩ : Pr)] ++ L.drop (J + 1) = LP) := h0
                        have HPN := HPP
                        have hturn := hturnP
                        have hpr := fun W ao cap hl => (hrightP W ao cap hl).1
                        have hrr := fun W ao cap hl => (hrightP W ao cap hl).2
                        clear h0 HPD HPP hturnD hturnP hrightD hrightP HLD HLP HLDn HLPn HE1 HE2 HJ1 HJ2
                        rw [hdel] at hstay k5
                        have hNl : LP.length ≤ c + 1 := by omega
                        clear hdl hil
                        generalize LP = NL at *
                        generalize PP = PN at *
                        go_wp2_with (first
                          | (at_builtin; refine wpList_app_pg _ rfl _ _ rfl Z.heap.size (.slice none 0 0) [] rfl (World.ownsRow_nil _ _ _ _) (some a4) capl (L.take J) (by rw [hJt]; rfl) (Num.LiesG.take hlLZ J) (by rw [hJt]; simp <;> omega) (Nat.le_refl _) ?_; intro v1 w1 ho1 hg1 hn1
                             rw [List.nil_append] at ho1
                             have hb1 : Below Z.heap.size Z w1 := ⟨hg1.os, hg1.tape, hg1.output, hg1.size, fun j hj => hg1.block j hj (by simp [Value.ownBlock])⟩
                             obtain ⟨ao1, cap1, rfl, _, _⟩ := own_lies ho1
                             rw [hJt] at ho1
                             obtain ⟨kb0, kb1, kb2, hlL1, hlP1⟩ := hstay w1 hb1
                             have s1 := hb1.size
                             have kbo := fun o : Obj => alloc_cell o kb0
                             have kbo1 := fun o : Obj => alloc_cell o kb1)
                          | (at_builtin; refine wpList_appX _ rfl _ _ 34 rfl 41 2 32 Try.underlying34 Try.infoPr Z.heap.size _ J (prCells (L.take J)) rfl (ho1.alloc _) ⟨w1.heap.size, 0, none⟩ 1 [.string x.key, .string x.val] rfl rfl (one2 ⟨x.key, x.val⟩) (two_cells _ _ rfl _ _) ⟨by omega, by decide, by decide, rfl⟩ (by simp; omega) ?_; intro v2 w2 ho2 hb2 hst2
                             have hb2s : Below Z.heap.size Z w2 := (hb1.alloc s1 _).trans hb2
                             obtain ⟨kc0, kc1, kc2, hlL2, hlP2⟩ := hstay w2 hb2s
                             have s2 := hb2s.size
                             obtain ⟨ao2, m2, cap2, rfl⟩ := own_shape ho2))
                        have e2 : ∀ z : Low w2, z.wd.cell? ⟨W0.heap.size, 0, none⟩ = some (.string x.key) := fun z => (z.cell (cell_lt kc0)).trans kc0
                        obtain ⟨a5, ea5, _, ky, _⟩ := hlL2 J y HY.out
                        cases ea5
                        have e1 : ∀ z : Low w2, z.wd.cell? (a4.add (J * 2)) = some (.string y.key) := fun z => (z.cell (cell_lt ky)).trans ky
                        refine wp_region_low (by kernel_rfl) (by kernel_rfl) fun hsome2 => ?_
                        repeat (go_big_quiet_step (fail))
                        refine wpQuiet_nil ?_
                        rintro _ ⟨z2, rfl⟩
                        have hz2 := z2.low
                        obtain ⟨Z2, hZ2⟩ : ∃ Z2, Z2 = z2.wd := ⟨_, rfl⟩
                        rw [← hZ2] at hz2 ⊢
                        have hbZ2 : Below Z.heap.size Z Z2 := below_next hb2s (Nat.le_refl _) hz2
                        obtain ⟨kd0, kd1, kd2, hlL3, hlP3⟩ := hstay Z2 hbZ2
                        have s3 := hbZ2.size
                        have hm3 : Z2.ownsRow Z.heap.size 41 2 (.slice ao2 m2 cap2) (L.take J ++ [(⟨x.key, x.val⟩ : Pr)]).length (prCells (L.take J ++ [(⟨x.key, x.val⟩ : Pr)])) := by rw [List.length_append, hJt, prCells_append]; exact own_below ho2 hz2
                        have hml : (L.take J ++ [(⟨x.key, x.val⟩ : Pr)]).length = J + 1 := by rw [List.length_append, hJt]; rfl
                        clear e2 hsome2 hZ2 e1
                        have HME : Hid ((L.take J ++ [(⟨x.key, x.val⟩ : Pr)]) ++ (L.drop (J + 1)) = NL) := HNL
                        go_wp2_with (first
                          | (at_builtin; refine wpList_app_pg _ rfl _ _ rfl Z.heap.size (.slice ao2 m2 cap2) (L.take J ++ [(⟨x.key, x.val⟩ : Pr)]) rfl hm3 (some (a4.add ((J + 1) * 2))) (capl - (J + 1)) (L.drop (J + 1)) (by rw [List.length_drop]; rfl) (lies_drop' hlL3 (J + 1)) (by rw [hml]; simp <;> omega) s3 ?_; intro v4 w4 ho4 hg4 hn4
                             rw [HME.out] at ho4
                             have hb4 : Below Z.heap.size Z w4 := hbZ2.trans ((Below.refl _ Z2).grown hg4 s3 (fun j hj => (hm3.lt j hj).1))
                             obtain ⟨ao4, cap4, rfl, hlN, hcapN⟩ := own_lies ho4
                             obtain ⟨ke0, ke1, ke2, hlL4, hlP4⟩ := hstay w4 hb4)
                          | (go_at_call 14; refine (hturn w4 hlP4).mono ?_; rintro e w5 ⟨ao5, cap5, rfl, hl5, hb5⟩)
                          | (go_at_call 10; refine (hrr w5 ao5 cap5 hl5).mono ?_; rintro e w6 ⟨rfl, hqq⟩; have hqq' := hqq.symm; clear hqq; subst hqq')
                          | (go_at_call 9; refine (hpr w5 ao5 cap5 hl5).mono ?_; rintro e w7 ⟨rfl, hb7⟩))
                        go_roundw
                        case rel =>
                          have s5 := hb5.size
                          have hb57 := below_next hb5 (Nat.le_refl _) hb7
                          exact ⟨c + 1, PN, NL, ao5, cap5, ao4, cap4, by omega, by omega, by go_num, rfl, rfl, by omega, hcapN, below_next (below_next hbZ (Nat.le_refl _) hb4) (Nat.le_refl _) hb57, HPN.out.1, HPN.out.2.symm, liesPg_next hl5 hb7 hb7.size, liesPr_next hlN hb57 hb57.size⟩
                        case measure => simp [intOf]; omega
                  · have heq : (y.key.toList == x.key.toList) = false := key_ne hky
                    have hcp : ¬ capl = J := by omega
                    cases hdel : x.del with
                    | true =>
                      have h0 := (HLDn (HE2 y HY.out hky))
                      have HNL : Hid (L.take J ++ L.drop J = LD) := h0
                      have HPN := HPD
                      have hturn := hturnD
                      have hpr := fun W ao cap hl => (hrightD W ao cap hl).1
                      have hrr := fun W ao cap hl => (hrightD W ao cap hl).2
                      clear h0 HPD HPP hturnD hturnP hrightD hrightP HLD HLP HLDn HLPn HE1 HE2 HJ1 HJ2
                      rw [hdel] at hstay k5
                      have hNl : LD.length ≤ c + 1 := by omega
                      clear hdl hil
                      generalize LD = NL at *
                      generalize PD = PN at *
                      go_wp2_with (first
                        | (at_builtin; refine wpList_app_pg _ rfl _ _ rfl Z.heap.size (.slice none 0 0) [] rfl (World.ownsRow_nil _ _ _ _) (some a4) capl (L.take J) (by rw [hJt]; rfl) (Num.LiesG.take hlLZ J) (by rw [hJt]; simp <;> omega) (Nat.le_refl _) ?_; intro v1 w1 ho1 hg1 hn1
                           rw [List.nil_append] at ho1
                           have hb1 : Below Z.heap.size Z w1 := ⟨hg1.os, hg1.tape, hg1.output, hg1.size, fun j hj => hg1.block j hj (by simp [Value.ownBlock])⟩
                           obtain ⟨ao1, cap1, rfl, _, _⟩ := own_lies ho1
                           rw [hJt] at ho1
                           obtain ⟨kb0, kb1, kb2, hlL1, hlP1⟩ := hstay w1 hb1
                           have s1 := hb1.size))
                      have e2 : ∀ z : Low w1, z.wd.cell? ⟨W0.heap.size, 0, none⟩ = some (.string x.key) := fun z => (z.cell (cell_lt kb0)).trans kb0
                      obtain ⟨a5, ea5, _, ky, _⟩ := hlL1 J y HY.out
                      cases ea5
                      have e1 : ∀ z : Low w1, z.wd.cell? (a4.add (J * 2)) = some (.string y.key) := fun z => (z.cell (cell_lt ky)).trans ky
                      refine wp_region_low (by kernel_rfl) (by kernel_rfl) fun hsome2 => ?_
                      repeat (go_big_quiet_step (fail))
                      refine wpQuiet_nil ?_
                      rintro _ ⟨z2, rfl⟩
                      have hz2 := z2.low
                      obtain ⟨Z2, hZ2⟩ : ∃ Z2, Z2 = z2.wd := ⟨_, rfl⟩
                      rw [← hZ2] at hz2 ⊢
                      have hbZ2 : Below Z.heap.size Z Z2 := below_next hb1 (Nat.le_refl _) hz2
                      obtain ⟨kd0, kd1, kd2, hlL3, hlP3⟩ := hstay Z2 hbZ2
                      have s3 := hbZ2.size
                      have hm3 : Z2.ownsRow Z.heap.size 41 2 (.slice ao1 J cap1) (L.take J).length (prCells (L.take J)) := by rw [hJt]; exact own_below ho1 hz2
                      have hml : (L.take J).length = J := hJt
                      clear e2 hsome2 hZ2 e1
                      have HME : Hid ((L.take J) ++ (L.drop J) = NL) := HNL
                      go_wp2_with (first
                        | (at_builtin; refine wpList_app_pg _ rfl _ _ rfl Z.heap.size (.slice ao1 J cap1) (L.take J) rfl hm3 (some (a4.add (J * 2))) (capl - J) (L.drop J) (by rw [List.length_drop]; rfl) (lies_drop' hlL3 J) (by rw [hml]; simp <;> omega) s3 ?_; intro v4 w4 ho4 hg4 hn4
                           rw [HME.out] at ho4
                           have hb4 : Below Z.heap.size Z w4 := hbZ2.trans ((Below.refl _ Z2).grown hg4 s3 (fun j hj => (hm3.lt j hj).1))
                           obtain ⟨ao4, cap4, rfl, hlN, hcapN⟩ := own_lies ho4
                           obtain ⟨ke0, ke1, ke2, hlL4, hlP4⟩ := hstay w4 hb4)
                        | (go_at_call 16; refine (hturn w4 hlP4).mono ?_; rintro e w5 ⟨ao5, cap5, rfl, hl5, hb5⟩)
                        | (go_at_call 10; refine (hrr w5 ao5 cap5 hl5).mono ?_; rintro e w6 ⟨rfl, hqq⟩; have hqq' := hqq.symm; clear hqq; subst hqq')
                        | (go_at_call 9; refine (hpr w5 ao5 cap5 hl5).mono ?_; rintro e w7 ⟨rfl, hb7⟩))
                      go_roundw
                      case rel =>
                        have s5 := hb5.size
                        have hb57 := below_next hb5 (Nat.le_refl _) hb7
                        exact ⟨c + 1, PN, NL, ao5, cap5, ao4, cap4, by omega, by omega, by go_num, rfl, rfl, by omega, hcapN, below_next (below_next hbZ (Nat.le_refl _) hb4) (Nat.le_refl _) hb57, HPN.out.1, HPN.out.2.symm, liesPg_next hl5 hb7 hb7.size, liesPr_next hlN hb57 hb57.size⟩
                      case measure => simp [intOf]; omega
                    | false =>
                      have h0 := (HLPn (HE2 y HY.out hky))
                      have HNL : Hid (L.take J ++ [(⟨x.key, x.val⟩ : Pr)] ++ L.drop J = LP) := h0
                      have HPN := HPP
                      have hturn := hturnP
                      have hpr := fun W ao cap hl => (hrightP W ao cap hl).1
                      have hrr := fun W ao cap hl => (hrightP W ao cap hl).2
                      clear h0 HPD HPP hturnD hturnP hrightD hrightP HLD HLP HLDn HLPn HE1 HE2 HJ1 HJ2
                      rw [hdel] at hstay k5
                      have hNl : LP.length ≤ c + 1 := by omega
                      clear hdl hil
                      generalize LP = NL at *
                      generalize PP = PN at *
                      go_wp2_with (first
                        | (at_builtin; refine wpList_app_pg _ rfl _ _ rfl Z.heap.size (.slice none 0 0) [] rfl (World.ownsRow_nil _ _ _ _) (some a4) capl (L.take J) (by rw [hJt]; rfl) (Num.LiesG.take hlLZ J) (by rw [hJt]; simp <;> omega) (Nat.le_refl _) ?_; intro v1 w1 ho1 hg1 hn1
                           rw [List.nil_append] at ho1
                           have hb1 : Below Z.heap.size Z w1 := ⟨hg1.os, hg1.tape, hg1.output, hg1.size, fun j hj => hg1.block j hj (by simp [Value.ownBlock])⟩
                           obtain ⟨ao1, cap1, rfl, _, _⟩ := own_lies ho1
                           rw [hJt] at ho1
                           obtain ⟨kb0, kb1, kb2, hlL1, hlP1⟩ := hstay w1 hb1
                           have s1 := hb1.size
                           have kbo := fun o : Obj => alloc_cell o kb0
                           have kbo1 := fun o : Obj => alloc_cell o kb1)
                        | (at_builtin; refine wpList_appX _ rfl _ _ 34 rfl 41 2 32 Try.underlying34 Try.infoPr Z.heap.size _ J (prCells (L.take J)) rfl (ho1.alloc _) ⟨w1.heap.size, 0, none⟩ 1 [.string x.key, .string x.val] rfl rfl (one2 ⟨x.key, x.val⟩) (two_cells _ _ rfl _ _) ⟨by omega, by decide, by decide, rfl⟩ (by simp; omega) ?_; intro v2 w2 ho2 hb2 hst2
                           have hb2s : Below Z.heap.size Z w2 := (hb1.alloc s1 _).trans hb2
                           obtain ⟨kc0, kc1, kc2, hlL2, hlP2⟩ := hstay w2 hb2s
                           have s2 := hb2s.size
                           obtain ⟨ao2, m2, cap2, rfl⟩ := own_shape ho2))
                      have e2 : ∀ z : Low w2, z.wd.cell? ⟨W0.heap.size, 0, none⟩ = some (.string x.key) := fun z => (z.cell (cell_lt kc0)).trans kc0
                      obtain ⟨a5, ea5, _, ky, _⟩ := hlL2 J y HY.out
                      cases ea5
                      have e1 : ∀ z : Low w2, z.wd.cell? (a4.add (J * 2)) = some (.string y.key) := fun z => (z.cell (cell_lt ky)).trans ky
                      refine wp_region_low (by kernel_rfl) (by kernel_rfl) fun hsome2 => ?_
                      repeat (go_big_quiet_step (fail))
                      refine wpQuiet_nil ?_
                      rintro _ ⟨z2, rfl⟩
                      have hz2 := z2.low
                      obtain ⟨Z2, hZ2⟩ : ∃ Z2, Z2 = z2.wd := ⟨_, rfl⟩
                      rw [← hZ2] at hz2 ⊢
                      have hbZ2 : Below Z.heap.size Z Z2 := below_next hb2s (Nat.le_refl _) hz2
                      obtain ⟨kd0, kd1, kd2, hlL3, hlP3⟩ := hstay Z2 hbZ2
                      have s3 := hbZ2.size
                      have hm3 : Z2.ownsRow Z.heap.size 41 2 (.slice ao2 m2 cap2) (L.take J ++ [(⟨x.key, x.val⟩ : Pr)]).length (prCells (L.take J ++ [(⟨x.key, x.val⟩ : Pr)])) := by rw [List.length_append, hJt, prCells_append]; exact own_below ho2 hz2
                      have hml : (L.take J ++ [(⟨x.key, x.val⟩ : Pr)]).length = J + 1 := by rw [List.length_append, hJt]; rfl
                      clear e2 hsome2 hZ2 e1
                      have HME : Hid ((L.take J ++ [(⟨x.key, x.val⟩ : Pr)]) ++ (L.drop J) = NL) := HNL
                      go_wp2_with (first
                        | (at_builtin; refine wpList_app_pg _ rfl _ _ rfl Z.heap.size (.slice ao2 m2 cap2) (L.take J ++ [(⟨x.key, x.val⟩ : Pr)]) rfl hm3 (some (a4.add (J * 2))) (capl - J) (L.drop J) (by rw [List.length_drop]; rfl) (lies_drop' hlL3 J) (by rw [hml]; simp <;> omega) s3 ?_; intro v4 w4 ho4 hg4 hn4
                           rw [HME.out] at ho4
                           have hb4 : Below Z.heap.size Z w4 := hbZ2.trans ((Below.refl _ Z2).grown hg4 s3 (fun j hj => (hm3.lt j hj).1))
                           obtain ⟨ao4, cap4, rfl, hlN, hcapN⟩ := own_lies ho4
                           obtain ⟨ke0, ke1, ke2, hlL4, hlP4⟩ := hstay w4 hb4)
                        | (go_at_call 14; refine (hturn w4 hlP4).mono ?_; rintro e w5 ⟨ao5, cap5, rfl, hl5, hb5⟩)
                        | (go_at_call 10; refine (hrr w5 ao5 cap5 hl5).mono ?_; rintro e w6 ⟨rfl, hqq⟩; have hqq' := hqq.symm; clear hqq; subst hqq')
                        | (go_at_call 9; refine (hpr w5 ao5 cap5 hl5).mono ?_; rintro e w7 ⟨rfl, hb7⟩))
                      go_roundw
                      case rel =>
                        have s5 := hb5.size
                        have hb57 := below_next hb5 (Nat.le_refl _) hb7
                        exact ⟨c + 1, PN, NL, ao5, cap5, ao4, cap4, by omega, by omega, by go_num, rfl, rfl, by omega, hcapN, below_next (below_next hbZ (Nat.le_refl _) hb4) (Nat.le_refl _) hb57, HPN.out.1, HPN.out.2.symm, liesPg_next hl5 hb7 hb7.size, liesPr_next hlN hb57 hb57.size⟩
                      case measure => simp [intOf]; omega
                · have hJe : J = L.length := by omega
                  have HJe : Hid (J = L.length) := hJe
                  have f1 : decide ((J : Int) < (L.length : Int)) = false := by simp; omega
                  have f2 : ¬ (J : Int) < (L.length : Int) := by omega
                  have hJt : (L.take J).length = J := hjt
                  have fJ : (J : Int) ≤ (capl : Int) := by omega
                  have fL : (J : Int) ≤ (L.length : Int) := by omega
                  clear hJe
                  go_wp2_with fail
                  refine wp_region_low (by kernel_rfl) (by kernel_rfl) fun hsome => ?_
                  repeat (go_big_quiet_step (fail))
                  refine wpQuiet_nil ?_
                  rintro _ ⟨z, rfl⟩
                  have hz := z.low
                  obtain ⟨Z, hZe⟩ : ∃ Z, Z = z.wd := ⟨_, rfl⟩
                  rw [← hZe] at hz ⊢
                  have hbt2 := below_next hbt (Nat.le_refl _) hz
                  obtain ⟨k3, k4, k5, hlLZ, hlPZ, hbZ⟩ := hstay0 Z hbt2
                  have hstay : ∀ w2, Below Z.heap.size Z w2 → w2.cell? ⟨W0.heap.size, 0, none⟩ = some (.string x.key) ∧ w2.cell? ⟨W0.heap.size, 1, none⟩ = some (.string x.val) ∧ w2.cell? ⟨W0.heap.size, 2, none⟩ = some (.bool x.del) ∧ LiesPr w2 w2.heap.size aol L ∧ LiesPg w2 w2.heap.size aop P := fun w2 hb => by
                    obtain ⟨g0, g1, g2, g3, g4, _⟩ := hstay0 w2 (below_next hbt2 (Nat.le_refl _) hb)
                    exact ⟨g0, g1, g2, g3, g4⟩
                  clear hstay0 hbt hbt2 hZe hsome hz k0 k1 k2 hlL hlP hbw e2
                  cases aol with
                  | none =>
                    have hL0 := lies_none hlLZ
                    subst hL0
                    obtain rfl : J = 0 := by have := HJe.out; simpa using this
                    cases hdel : x.del with
                    | true =>
                      have h0 := (HLDn (HE1 HJe.out))
                      rw [show ([] : List Pr).drop 0 = [] from List.drop_eq_nil_of_le (by have := HJe.out; omega)] at h0
                      have HNL : Hid (([] : List Pr).take 0 ++ ([] : List Pr) = LD) := h0
                      have HPN := HPD
                      have hturn := hturnD
                      have hpr := fun W ao cap hl => (hrightD W ao cap hl).1
                      have hrr := fun W ao cap hl => (hrightD W ao cap hl).2
                      clear h0 HPD HPP hturnD hturnP hrightD hrightP HLD HLP HLDn HLPn HE1 HE2 HJ1 HJ2
                      rw [hdel] at hstay k5
                      have hNl : LD.length ≤ c + 1 := by omega
                      clear hdl hil
                      generalize LD = NL at *
                      generalize PD = PN at *
                      go_wp2_with (first
                        | (at_builtin; refine wpList_app_pg _ rfl _ _ rfl Z.heap.size (.slice none 0 0) [] rfl (World.ownsRow_nil _ _ _ _) none capl (([] : List Pr).take 0) (by rw [hJt]; rfl) (Num.LiesG.take hlLZ 0) (by rw [hJt]; simp <;> omega) (Nat.le_refl _) ?_; intro v1 w1 ho1 hg1 hn1
                           rw [List.nil_append] at ho1
                           have hb1 : Below Z.heap.size Z w1 := ⟨hg1.os, hg1.tape, hg1.output, hg1.size, fun j hj => hg1.block j hj (by simp [Value.ownBlock])⟩
                           obtain ⟨ao1, cap1, rfl, _, _⟩ := own_lies ho1
                           rw [hJt] at ho1
                           obtain ⟨kb0, kb1, kb2, hlL1, hlP1⟩ := hstay w1 hb1
                           have s1 := hb1.size))
                      have e2 : ∀ z : Low w1, z.wd.cell? ⟨W0.heap.size, 0, none⟩ = some (.string x.key) := fun z => (z.cell (cell_lt kb0)).trans kb0
                      refine wp_region_low (by kernel_rfl) (by kernel_rfl) fun hsome2 => ?_
                      repeat (go_big_quiet_step (fail))
                      refine wpQuiet_nil ?_
                      rintro _ ⟨z2, rfl⟩
                      have hz2 := z2.low
                      obtain ⟨Z2, hZ2⟩ : ∃ Z2, Z2 = z2.wd := ⟨_, rfl⟩
                      rw [← hZ2] at hz2 ⊢
                      have hbZ2 : Below Z.heap.size Z Z2 := below_next hb1 (Nat.le_refl _) hz2
                      obtain ⟨kd0, kd1, kd2, hlL3, hlP3⟩ := hstay Z2 hbZ2
                      have s3 := hbZ2.size
                      have hm3 : Z2.ownsRow Z.heap.size 41 2 (.slice ao1 0 cap1) (([] : List Pr).take 0).length (prCells (([] : List Pr).take 0)) := by rw [hJt]; exact own_below ho1 hz2
                      have hml : (([] : List Pr).take 0).length = 0 := hJt
                      clear e2 hsome2 hZ2
                      have HME : Hid ((([] : List Pr).take 0) ++ ([] : List Pr) = NL) := HNL
                      go_wp2_with (first
                        | (at_builtin; refine wpList_app_pg _ rfl _ _ rfl Z.heap.size (.slice ao1 0 cap1) (([] : List Pr).take 0) rfl hm3 none capl ([] : List Pr) rfl (no_pr _ 0 _) (by rw [hml]; simp <;> omega) s3 ?_; intro v4 w4 ho4 hg4 hn4
                           rw [HME.out] at ho4
                           have hb4 : Below Z.heap.size Z w4 := hbZ2.trans ((Below.refl _ Z2).grown hg4 s3 (fun j hj => (hm3.lt j hj).1))
                           obtain ⟨ao4, cap4, rfl, hlN, hcapN⟩ := own_lies ho4
                           obtain ⟨ke0, ke1, ke2, hlL4, hlP4⟩ := hstay w4 hb4)
                        | (go_at_call 16; refine (hturn w4 hlP4).mono ?_; rintro e w5 ⟨ao5, cap5, rfl, hl5, hb5⟩)
                        | (go_at_call 10; refine (hrr w5 ao5 cap5 hl5).mono ?_; rintro e w6 ⟨rfl, hqq⟩; have hqq' := hqq.symm; clear hqq; subst hqq')
                        | (go_at_call 9; refine (hpr w5 ao5 cap5 hl5).mono ?_; rintro e w7 ⟨rfl, hb7⟩))
                      go_roundw
                      case rel =>
                        have s5 := hb5.size
                        have hb57 := below_next hb5 (Nat.le_refl _) hb7
                        exact ⟨c + 1, PN, NL, ao5, cap5, ao4, cap4, by omega, by omega, by go_num, rfl, rfl, by omega, hcapN, below_next (below_next hbZ (Nat.le_refl _) hb4) (Nat.le_refl _) hb57, HPN.out.1, HPN.out.2.symm, liesPg_next hl5 hb7 hb7.size, liesPr_next hlN hb57 hb57.size⟩
                      case measure => simp [intOf]; omega
                    | false =>
                      have h0 := (HLPn (HE1 HJe.out))
                      rw [show ([] : List Pr).drop 0 = [] from List.drop_eq_nil_of_le (by have := HJe.out; omega)] at h0
                      have HNL : Hid (([] : List Pr).take 0 ++ [(⟨x.key, x.val⟩ : Pr)] ++ ([] : List Pr) = LP) := h0
                      have HPN := HPP
                      have hturn := hturnP
                      have hpr := fun W ao cap hl => (hrightP W ao cap hl).1
                      have hrr := fun W ao cap hl => (hrightP W ao cap hl).2
                      clear h0 HPD HPP hturnD hturnP hrightD hrightP HLD HLP HLDn HLPn HE1 HE2 HJ1 HJ2
                      rw [hdel] at hstay k5
                      have hNl : LP.length ≤ c + 1 := by omega
                      clear hdl hil
                      generalize LP = NL at *
                      generalize PP = PN at *
                      go_wp2_with (first
                        | (at_builtin; refine wpList_app_pg _ rfl _ _ rfl Z.heap.size (.slice none 0 0) [] rfl (World.ownsRow_nil _ _ _ _) none capl (([] : List Pr).take 0) (by rw [hJt]; rfl) (Num.LiesG.take hlLZ 0) (by rw [hJt]; simp <;> omega) (Nat.le_refl _) ?_; intro v1 w1 ho1 hg1 hn1
                           rw [List.nil_append] at ho1
                           have hb1 : Below Z.heap.size Z w1 := ⟨hg1.os, hg1.tape, hg1.output, hg1.size, fun j hj => hg1.block j hj (by simp [Value.ownBlock])⟩
                           obtain ⟨ao1, cap1, rfl, _, _⟩ := own_lies ho1
                           rw [hJt] at ho1
                           obtain ⟨kb0, kb1, kb2, hlL1, hlP1⟩ := hstay w1 hb1
                           have s1 := hb1.size
                           have kbo := fun o : Obj => alloc_cell o kb0
                           have kbo1 := fun o : Obj => alloc_cell o kb1)
                        | (at_builtin; refine wpList_appX _ rfl _ _ 34 rfl 41 2 32 Try.underlying34 Try.infoPr Z.heap.size _ 0 (prCells (([] : List Pr).take 0)) rfl (ho1.alloc _) ⟨w1.heap.size, 0, none⟩ 1 [.string x.key, .string x.val] rfl rfl (one2 ⟨x.key, x.val⟩) (two_cells _ _ rfl _ _) ⟨by omega, by decide, by decide, rfl⟩ (by simp; omega) ?_; intro v2 w2 ho2 hb2 hst2
                           have hb2s : Below Z.heap.size Z w2 := (hb1.alloc s1 _).trans hb2
                           obtain ⟨kc0, kc1, kc2, hlL2, hlP2⟩ := hstay w2 hb2s
                           have s2 := hb2s.size
                           obtain ⟨ao2, m2, cap2, rfl⟩ := own_shape ho2))
                      have e2 : ∀ z : Low w2, z.wd.cell? ⟨W0.heap.size, 0, none⟩ = some (.string x.key) := fun z => (z.cell (cell_lt kc0)).trans kc0
                      refine wp_region_low (by kernel_rfl) (by kernel_rfl) fun hsome2 => ?_
                      repeat (go_big_quiet_step (fail))
                      refine wpQuiet_nil ?_
                      rintro _ ⟨z2, rfl⟩
                      have hz2 := z2.low
                      obtain ⟨Z2, hZ2⟩ : ∃ Z2, Z2 = z2.wd := ⟨_, rfl⟩
                      rw [← hZ2] at hz2 ⊢
                      have hbZ2 : Below Z.heap.size Z Z2 := below_next hb2s (Nat.le_refl _) hz2
                      obtain ⟨kd0, kd1, kd2, hlL3, hlP3⟩ := hstay Z2 hbZ2
                      have s3 := hbZ2.size
                      have hm3 : Z2.ownsRow Z.heap.size 41 2 (.slice ao2 m2 cap2) (([] : List Pr).take 0 ++ [(⟨x.key, x.val⟩ : Pr)]).length (prCells (([] : List Pr).take 0 ++ [(⟨x.key, x.val⟩ : Pr)])) := by rw [List.length_append, hJt, prCells_append]; exact own_below ho2 hz2
                      have hml : (([] : List Pr).take 0 ++ [(⟨x.key, x.val⟩ : Pr)]).length = 0 + 1 := by rw [List.length_append, hJt]; rfl
                      clear e2 hsome2 hZ2
                      have HME : Hid ((([] : List Pr).take 0 ++ [(⟨x.key, x.val⟩ : Pr)]) ++ ([] : List Pr) = NL) := HNL
                      go_wp2_with (first
                        | (at_builtin; refine wpList_app_pg _ rfl _ _ rfl Z.heap.size (.slice ao2 m2 cap2) (([] : List Pr).take 0 ++ [(⟨x.key, x.val⟩ : Pr)]) rfl hm3 none capl ([] : List Pr) rfl (no_pr _ 0 _) (by rw [hml]; simp <;> omega) s3 ?_; intro v4 w4 ho4 hg4 hn4
                           rw [HME.out] at ho4
                           have hb4 : Below Z.heap.size Z w4 := hbZ2.trans ((Below.refl _ Z2).grown hg4 s3 (fun j hj => (hm3.lt j hj).1))
                           obtain ⟨ao4, cap4, rfl, hlN, hcapN⟩ := own_lies ho4
                           obtain ⟨ke0, ke1, ke2, hlL4, hlP4⟩ := hstay w4 hb4)
                        | (go_at_call 14; refine (hturn w4 hlP4).mono ?_; rintro e w5 ⟨ao5, cap5, rfl, hl5, hb5⟩)
                        | (go_at_call 10; refine (hrr w5 ao5 cap5 hl5).mono ?_; rintro e w6 ⟨rfl, hqq⟩; have hqq' := hqq.symm; clear hqq; subst hqq')
                        | (go_at_call 9; refine (hpr w5 ao5 cap5 hl5).mono ?_; rintro e w7 ⟨rfl, hb7⟩))
                      go_roundw
                      case rel =>
                        have s5 := hb5.size
                        have hb57 := below_next hb5 (Nat.le_refl _) hb7
                        exact ⟨c + 1, PN, NL, ao5, cap5, ao4, cap4, by omega, by omega, by go_num, rfl, rfl, by omega, hcapN, below_next (below_next hbZ (Nat.le_refl _) hb4) (Nat.le_refl _) hb57, HPN.out.1, HPN.out.2.symm, liesPg_next hl5 hb7 hb7.size, liesPr_next hlN hb57 hb57.size⟩
                      case measure => simp [intOf]; omega
                  | some a4 =>
                    by_cases hcp : capl = J
                    · obtain rfl : J = capl := hcp.symm
                      cases hdel : x.del with
                      | true =>
                        have h0 := (HLDn (HE1 HJe.out))
                        rw [show L.drop J = [] from List.drop_eq_nil_of_le (by have := HJe.out; omega)] at h0
                        have HNL : Hid (L.take J ++ ([] : List Pr) = LD) := h0
                        have HPN := HPD
                        have hturn := hturnD
                        have hpr := fun W ao cap hl => (hrightD W ao cap hl).1
                        have hrr := fun W ao cap hl => (hrightD W ao cap hl).2
                        clear h0 HPD HPP hturnD hturnP hrightD hrightP HLD HLP HLDn HLPn HE1 HE2 HJ1 HJ2
                        rw [hdel] at hstay k5
                        have hNl : LD.length ≤ c + 1 := by omega
                        clear hdl hil
                        generalize LD = NL at *
                        generalize PD = PN at *
                        go_wp2_with (first
                          | (at_builtin; refine wpList_app_pg _ rfl _ _ rfl Z.heap.size (.slice none 0 0) [] rfl (World.ownsRow_nil _ _ _ _) (some a4) J (L.take J) (by rw [hJt]; rfl) (Num.LiesG.take hlLZ J) (by rw [hJt]; simp <;> omega) (Nat.le_refl _) ?_; intro v1 w1 ho1 hg1 hn1
                             rw [List.nil_append] at ho1
                             have hb1 : Below Z.heap.size Z w1 := ⟨hg1.os, hg1.tape, hg1.output, hg1.size, fun j hj => hg1.block j hj (by simp [Value.ownBlock])⟩
                             obtain ⟨ao1, cap1, rfl, _, _⟩ := own_lies ho1
                             rw [hJt] at ho1
                             obtain ⟨kb0, kb1, kb2, hlL1, hlP1⟩ := hstay w1 hb1
                             have s1 := hb1.size))
                        have e2 : ∀ z : Low w1, z.wd.cell? ⟨W0.heap.size, 0, none⟩ = some (.string x.key) := fun z => (z.cell (cell_lt kb0)).trans kb0
                        refine wp_region_low (by kernel_rfl) (by kernel_rfl) fun hsome2 => ?_
                        repeat (go_big_quiet_step (fail))
                        refine wpQuiet_nil ?_
                        rintro _ ⟨z2, rfl⟩
                        have hz2 := z2.low
                        obtain ⟨Z2, hZ2⟩ : ∃ Z2, Z2 = z2.wd := ⟨_, rfl⟩
                        rw [← hZ2] at hz2 ⊢
                        have hbZ2 : Below Z.heap.size Z Z2 := below_next hb1 (Nat.le_refl _) hz2
                        obtain ⟨kd0, kd1, kd2, hlL3, hlP3⟩ := hstay Z2 hbZ2
                        have s3 := hbZ2.size
                        have hm3 : Z2.ownsRow Z.heap.size 41 2 (.slice ao1 J cap1) (L.take J).length (prCells (L.take J)) := by rw [hJt]; exact own_below ho1 hz2
                        have hml : (L.take J).length = J := hJt
                        clear e2 hsome2 hZ2
                        have HME : Hid ((L.take J) ++ ([] : List Pr) = NL) := HNL
                        go_wp2_with (first
                          | (at_builtin; refine wpList_app_pg _ rfl _ _ rfl Z.heap.size (.slice ao1 J cap1) (L.take J) rfl hm3 (some a4) 0 ([] : List Pr) (by first | rfl | (show Value.slice (some a4) (L.length - J) 0 = _; rw [show L.length - J = 0 by have := HJe.out; omega]; rfl)) (no_pr _ 0 _) (by rw [hml]; simp <;> omega) s3 ?_; intro v4 w4 ho4 hg4 hn4
                             rw [HME.out] at ho4
                             have hb4 : Below Z.heap.size Z w4 := hbZ2.trans ((Below.refl _ Z2).grown hg4 s3 (fun j hj => (hm3.lt j hj).1))
                             obtain ⟨ao4, cap4, rfl, hlN, hcapN⟩ := own_lies ho4
                             obtain ⟨ke0, ke1, ke2, hlL4, hlP4⟩ := hstay w4 hb4)
                          | (go_at_call 16; refine (hturn w4 hlP4).mono ?_; rintro e w5 ⟨ao5, cap5, rfl, hl5, hb5⟩)
                          | (go_at_call 10; refine (hrr w5 ao5 cap5 hl5).mono ?_; rintro e w6 ⟨rfl, hqq⟩; have hqq' := hqq.symm; clear hqq; subst hqq')
                          | (go_at_call 9; refine (hpr w5 ao5 cap5 hl5).mono ?_; rintro e w7 ⟨rfl, hb7⟩))
                        go_roundw
                        case rel =>
                          have s5 := hb5.size
                          have hb57 := below_next hb5 (Nat.le_refl _) hb7
                          exact ⟨c + 1, PN, NL, ao5, cap5, ao4, cap4, by omega, by omega, by go_num, rfl, rfl, by omega, hcapN, below_next (below_next hbZ (Nat.le_refl _) hb4) (Nat.le_refl _) hb57, HPN.out.1, HPN.out.2.symm, liesPg_next hl5 hb7 hb7.size, liesPr_next hlN hb57 hb57.size⟩
                        case measure => simp [intOf]; omega
                      | false =>
                        have h0 := (HLPn (HE1 HJe.out))
                        rw [show L.drop J = [] from List.drop_eq_nil_of_le (by have := HJe.out; omega)] at h0
                        have HNL : Hid (L.take J ++ [(⟨x.key, x.val⟩ : Pr)] ++ ([] : List Pr) = LP) := h0
                        have HPN := HPP
                        have hturn := hturnP
                        have hpr := fun W ao cap hl => (hrightP W ao cap hl).1
                        have hrr := fun W ao cap hl => (hrightP W ao cap hl).2
                        clear h0 HPD HPP hturnD hturnP hrightD hrightP HLD HLP HLDn HLPn HE1 HE2 HJ1 HJ2
                        rw [hdel] at hstay k5
                        have hNl : LP.length ≤ c + 1 := by omega
                        clear hdl hil
                        generalize LP = NL at *
                        generalize PP = PN at *
                        go_wp2_with (first
                          | (at_builtin; refine wpList_app_pg _ rfl _ _ rfl Z.heap.size (.slice none 0 0) [] rfl (World.ownsRow_nil _ _ _ _) (some a4) J (L.take J) (by rw [hJt]; rfl) (Num.LiesG.take hlLZ J) (by rw [hJt]; simp <;> omega) (Nat.le_refl _) ?_; intro v1 w1 ho1 hg1 hn1
                             rw [List.nil_append] at ho1
                             have hb1 : Below Z.heap.size Z w1 := ⟨hg1.os, hg1.tape, hg1.output, hg1.size, fun j hj => hg1.block j hj (by simp [Value.ownBlock])⟩
                             obtain ⟨ao1, cap1, rfl, _, _⟩ := own_lies ho1
                             rw [hJt] at ho1
                             obtain ⟨kb0, kb1, kb2, hlL1, hlP1⟩ := hstay w1 hb1
                             have s1 := hb1.size
                             have kbo := fun o : Obj => alloc_cell o kb0
                             have kbo1 := fun o : Obj => alloc_cell o kb1)
                          | (at_builtin; refine wpList_appX _ rfl _ _ 34 rfl 41 2 32 Try.underlying34 Try.infoPr Z.heap.size _ J (prCells (L.take J)) rfl (ho1.alloc _) ⟨w1.heap.size, 0, none⟩ 1 [.string x.key, .string x.val] rfl rfl (one2 ⟨x.key, x.val⟩) (two_cells _ _ rfl _ _) ⟨by omega, by decide, by decide, rfl⟩ (by simp; omega) ?_; intro v2 w2 ho2 hb2 hst2
                             have hb2s : Below Z.heap.size Z w2 := (hb1.alloc s1 _).trans hb2
                             obtain ⟨kc0, kc1, kc2, hlL2, hlP2⟩ := hstay w2 hb2s
                             have s2 := hb2s.size
                             obtain ⟨ao2, m2, cap2, rfl⟩ := own_shape ho2))
                        have e2 : ∀ z : Low w2, z.wd.cell? ⟨W0.heap.size, 0, none⟩ = some (.string x.key) := fun z => (z.cell (cell_lt kc0)).trans kc0
                        refine wp_region_low (by kernel_rfl) (by kernel_rfl) fun hsome2 => ?_
                        repeat (go_big_quiet_step (fail))
                        refine wpQuiet_nil ?_
                        rintro _ ⟨z2, rfl⟩
                        have hz2 := z2.low
                        obtain ⟨Z2, hZ2⟩ : ∃ Z2, Z2 = z2.wd := ⟨_, rfl⟩
                        rw [← hZ2] at hz2 ⊢
                        have hbZ2 : Below Z.heap.size Z Z2 := below_next hb2s (Nat.le_refl _) hz2
                        obtain ⟨kd0, kd1, kd2, hlL3, hlP3⟩ := hstay Z2 hbZ2
                        have s3 := hbZ2.size
                        have hm3 : Z2.ownsRow Z.heap.size 41 2 (.slice ao2 m2 cap2) (L.take J ++ [(⟨x.key, x.val⟩ : Pr)]).length (prCells (L.take J ++ [(⟨x.key, x.val⟩ : Pr)])) := by rw [List.length_append, hJt, prCells_append]; exact own_below ho2 hz2
                        have hml : (L.take J ++ [(⟨x.key, x.val⟩ : Pr)]).length = J + 1 := by rw [List.length_append, hJt]; rfl
                        clear e2 hsome2 hZ2
                        have HME : Hid ((L.take J ++ [(⟨x.key, x.val⟩ : Pr)]) ++ ([] : List Pr) = NL) := HNL
                        go_wp2_with (first
                          | (at_builtin; refine wpList_app_pg _ rfl _ _ rfl Z.heap.size (.slice ao2 m2 cap2) (L.take J ++ [(⟨x.key, x.val⟩ : Pr)]) rfl hm3 (some a4) 0 ([] : List Pr) (by first | rfl | (show Value.slice (some a4) (L.length - J) 0 = _; rw [show L.length - J = 0 by have := HJe.out; omega]; rfl)) (no_pr _ 0 _) (by rw [hml]; simp <;> omega) s3 ?_; intro v4 w4 ho4 hg4 hn4
                             rw [HME.out] at ho4
                             have hb4 : Below Z.heap.size Z w4 := hbZ2.trans ((Below.refl _ Z2).grown hg4 s3 (fun j hj => (hm3.lt j hj).1))
                             obtain ⟨ao4, cap4, rfl, hlN, hcapN⟩ := own_lies ho4
                             obtain ⟨ke0, ke1, ke2, hlL4, hlP4⟩ := hstay w4 hb4)
                          | (go_at_call 14; refine (hturn w4 hlP4).mono ?_; rintro e w5 ⟨ao5, cap5, rfl, hl5, hb5⟩)
                          | (go_at_call 10; refine (hrr w5 ao5 cap5 hl5).mono ?_; rintro e w6 ⟨rfl, hqq⟩; have hqq' := hqq.symm; clear hqq; subst hqq')
                          | (go_at_call 9; refine (hpr w5 ao5 cap5 hl5).mono ?_; rintro e w7 ⟨rfl, hb7⟩))
                        go_roundw
                        case rel =>
                          have s5 := hb5.size
                          have hb57 := below_next hb5 (Nat.le_refl _) hb7
                          exact ⟨c + 1, PN, NL, ao5, cap5, ao4, cap4, by omega, by omega, by go_num, rfl, rfl, by omega, hcapN, below_next (below_next hbZ (Nat.le_refl _) hb4) (Nat.le_refl _) hb57, HPN.out.1, HPN.out.2.symm, liesPg_next hl5 hb7 hb7.size, liesPr_next hlN hb57 hb57.size⟩
                        case measure => simp [intOf]; omega
                    · cases hdel : x.del with
                      | true =>
                        have h0 := (HLDn (HE1 HJe.out))
                        have HNL : Hid (L.take J ++ L.drop J = LD) := h0
                        have HPN := HPD
                        have hturn := hturnD
                        have hpr := fun W ao cap hl => (hrightD W ao cap hl).1
                        have hrr := fun W ao cap hl => (hrightD W ao cap hl).2
                        clear h0 HPD HPP hturnD hturnP hrightD hrightP HLD HLP HLDn HLPn HE1 HE2 HJ1 HJ2
                        rw [hdel] at hstay k5
                        have hNl : LD.length ≤ c + 1 := by omega
                        clear hdl hil
                        generalize LD = NL at *
                        generalize PD = PN at *
                        go_wp2_with (first
                          | (at_builtin; refine wpList_app_pg _ rfl _ _ rfl Z.heap.size (.slice none 0 0) [] rfl (World.ownsRow_nil _ _ _ _) (some a4) capl (L.take J) (by rw [hJt]; rfl) (Num.LiesG.take hlLZ J) (by rw [hJt]; simp <;> omega) (Nat.le_refl _) ?_; intro v1 w1 ho1 hg1 hn1
                             rw [List.nil_append] at ho1
                             have hb1 : Below Z.heap.size Z w1 := ⟨hg1.os, hg1.tape, hg1.output, hg1.size, fun j hj => hg1.block j hj (by simp [Value.ownBlock])⟩
                             obtain ⟨ao1, cap1, rfl, _, _⟩ := own_lies ho1
                             rw [hJt] at ho1
                             obtain ⟨kb0, kb1, kb2, hlL1, hlP1⟩ := hstay w1 hb1
                             have s1 := hb1.size))
                        have e2 : ∀ z : Low w1, z.wd.cell? ⟨W0.heap.size, 0, none⟩ = some (.string x.key) := fun z => (z.cell (cell_lt kb0)).trans kb0
                        refine wp_region_low (by kernel_rfl) (by kernel_rfl) fun hsome2 => ?_
                        repeat (go_big_quiet_step (fail))
                        refine wpQuiet_nil ?_
                        rintro _ ⟨z2, rfl⟩
                        have hz2 := z2.low
                        obtain ⟨Z2, hZ2⟩ : ∃ Z2, Z2 = z2.wd := ⟨_, rfl⟩
                        rw [← hZ2] at hz2 ⊢
                        have hbZ2 : Below Z.heap.size Z Z2 := below_next hb1 (Nat.le_refl _) hz2
                        obtain ⟨kd0, kd1, kd2, hlL3, hlP3⟩ := hstay Z2 hbZ2
                        have s3 := hbZ2.size
                        have hm3 : Z2.ownsRow Z.heap.size 41 2 (.slice ao1 J cap1) (L.take J).length (prCells (L.take J)) := by rw [hJt]; exact own_below ho1 hz2
                        have hml : (L.take J).length = J := hJt
                        clear e2 hsome2 hZ2
                        have HME : Hid ((L.take J) ++ (L.drop J) = NL) := HNL
                        go_wp2_with (first
                          | (at_builtin; refine wpList_app_pg _ rfl _ _ rfl Z.heap.size (.slice ao1 J cap1) (L.take J) rfl hm3 (some (a4.add (J * 2))) (capl - J) (L.drop J) (by rw [List.length_drop]; rfl) (lies_drop' hlL3 J) (by rw [hml]; simp <;> omega) s3 ?_; intro v4 w4 ho4 hg4 hn4
                             rw [HME.out] at ho4
                             have hb4 : Below Z.heap.size Z w4 := hbZ2.trans ((Below.refl _ Z2).grown hg4 s3 (fun j hj => (hm3.lt j hj).1))
                             obtain ⟨ao4, cap4, rfl, hlN, hcapN⟩ := own_lies ho4
                             obtain ⟨ke0, ke1, ke2, hlL4, hlP4⟩ := hstay w4 hb4)
                          | (go_at_call 16; refine (hturn w4 hlP4).mono ?_; rintro e w5 ⟨ao5, cap5, rfl, hl5, hb5⟩)
                          | (go_at_call 10; refine (hrr w5 ao5 cap5 hl5).mono ?_; rintro e w6 ⟨rfl, hqq⟩; have hqq' := hqq.symm; clear hqq; subst hqq')
                          | (go_at_call 9; refine (hpr w5 ao5 cap5 hl5).mono ?_; rintro e w7 ⟨rfl, hb7⟩))
                        go_roundw
                        case rel =>
                          have s5 := hb5.size
                          have hb57 := below_next hb5 (Nat.le_refl _) hb7
                          exact ⟨c + 1, PN, NL, ao5, cap5, ao4, cap4, by omega, by omega, by go_num, rfl, rfl, by omega, hcapN, below_next (below_next hbZ (Nat.le_refl _) hb4) (Nat.le_refl _) hb57, HPN.out.1, HPN.out.2.symm, liesPg_next hl5 hb7 hb7.size, liesPr_next hlN hb57 hb57.size⟩
                        case measure => simp [intOf]; omega
                      | false =>
                        have h0 := (HLPn (HE1 HJe.out))
                        have HNL : Hid (L.take J ++ [(⟨x.key, x.val⟩ : Pr)] ++ L.drop J = LP) := h0
                        have HPN := HPP
                        have hturn := hturnP
                        have hpr := fun W ao cap hl => (hrightP W ao cap hl).1
                        have hrr := fun W ao cap hl => (hrightP W ao cap hl).2
                        clear h0 HPD HPP hturnD hturnP hrightD hrightP HLD HLP HLDn HLPn HE1 HE2 HJ1 HJ2
                        rw [hdel] at hstay k5
                        have hNl : LP.length ≤ c + 1 := by omega
                        clear hdl hil
                        generalize LP = NL at *
                        generalize PP = PN at *
                        go_wp2_with (first
                          | (at_builtin; refine wpList_app_pg _ rfl _ _ rfl Z.heap.size (.slice none 0 0) [] rfl (World.ownsRow_nil _ _ _ _) (some a4) capl (L.take J) (by rw [hJt]; rfl) (Num.LiesG.take hlLZ J) (by rw [hJt]; simp <;> omega) (Nat.le_refl _) ?_; intro v1 w1 ho1 hg1 hn1
                             rw [List.nil_append] at ho1
                             have hb1 : Below Z.heap.size Z w1 := ⟨hg1.os, hg1.tape, hg1.output, hg1.size, fun j hj => hg1.block j hj (by simp [Value.ownBlock])⟩
                             obtain ⟨ao1, cap1, rfl, _, _⟩ := own_lies ho1
                             rw [hJt] at ho1
                             obtain ⟨kb0, kb1, kb2, hlL1, hlP1⟩ := hstay w1 hb1
                             have s1 := hb1.size
                             have kbo := fun o : Obj => alloc_cell o kb0
                             have kbo1 := fun o : Obj => alloc_cell o kb1)
                          | (at_builtin; refine wpList_appX _ rfl _ _ 34 rfl 41 2 32 Try.underlying34 Try.infoPr Z.heap.size _ J (prCells (L.take J)) rfl (ho1.alloc _) ⟨w1.heap.size, 0, none⟩ 1 [.string x.key, .string x.val] rfl rfl (one2 ⟨x.key, x.val⟩) (two_cells _ _ rfl _ _) ⟨by omega, by decide, by decide, rfl⟩ (by simp; omega) ?_; intro v2 w2 ho2 hb2 hst2
                             have hb2s : Below Z.heap.size Z w2 := (hb1.alloc s1 _).trans hb2
                             obtain ⟨kc0, kc1, kc2, hlL2, hlP2⟩ := hstay w2 hb2s
                             have s2 := hb2s.size
                             obtain ⟨ao2, m2, cap2, rfl⟩ := own_shape ho2))
                        have e2 : ∀ z : Low w2, z.wd.cell? ⟨W0.heap.size, 0, none⟩ = some (.string x.key) := fun z => (z.cell (cell_lt kc0)).trans kc0
                        refine wp_region_low (by kernel_rfl) (by kernel_rfl) fun hsome2 => ?_
                        repeat (go_big_quiet_step (fail))
                        refine wpQuiet_nil ?_
                        rintro _ ⟨z2, rfl⟩
                        have hz2 := z2.low
                        obtain ⟨Z2, hZ2⟩ : ∃ Z2, Z2 = z2.wd := ⟨_, rfl⟩
                        rw [← hZ2] at hz2 ⊢
                        have hbZ2 : Below Z.heap.size Z Z2 := below_next hb2s (Nat.le_refl _) hz2
                        obtain ⟨kd0, kd1, kd2, hlL3, hlP3⟩ := hstay Z2 hbZ2
                        have s3 := hbZ2.size
                        have hm3 : Z2.ownsRow Z.heap.size 41 2 (.slice ao2 m2 cap2) (L.take J ++ [(⟨x.key, x.val⟩ : Pr)]).length (prCells (L.take J ++ [(⟨x.key, x.val⟩ : Pr)])) := by rw [List.length_append, hJt, prCells_append]; exact own_below ho2 hz2
                        have hml : (L.take J ++ [(⟨x.key, x.val⟩ : Pr)]).length = J + 1 := by rw [List.length_append, hJt]; rfl
                        clear e2 hsome2 hZ2
                        have HME : Hid ((L.take J ++ [(⟨x.key, x.val⟩ : Pr)]) ++ (L.drop J) = NL) := HNL
                        go_wp2_with (first
                          | (at_builtin; refine wpList_app_pg _ rfl _ _ rfl Z.heap.size (.slice ao2 m2 cap2) (L.take J ++ [(⟨x.key, x.val⟩ : Pr)]) rfl hm3 (some (a4.add (J * 2))) (capl - J) (L.drop J) (by rw [List.length_drop]; rfl) (lies_drop' hlL3 J) (by rw [hml]; simp <;> omega) s3 ?_; intro v4 w4 ho4 hg4 hn4
                             rw [HME.out] at ho4
                             have hb4 : Below Z.heap.size Z w4 := hbZ2.trans ((Below.refl _ Z2).grown hg4 s3 (fun j hj => (hm3.lt j hj).1))
                             obtain ⟨ao4, cap4, rfl, hlN, hcapN⟩ := own_lies ho4
                             obtain ⟨ke0, ke1, ke2, hlL4, hlP4⟩ := hstay w4 hb4)
                          | (go_at_call 14; refine (hturn w4 hlP4).mono ?_; rintro e w5 ⟨ao5, cap5, rfl, hl5, hb5⟩)
                          | (go_at_call 10; refine (hrr w5 ao5 cap5 hl5).mono ?_; rintro e w6 ⟨rfl, hqq⟩; have hqq' := hqq.symm; clear hqq; subst hqq')
                          | (go_at_call 9; refine (hpr w5 ao5 cap5 hl5).mono ?_; rintro e w7 ⟨rfl, hb7⟩))
                        go_roundw
                        case rel =>
                          have s5 := hb5.size
                          have hb57 := below_next hb5 (Nat.le_refl _) hb7
                          exact ⟨c + 1, PN, NL, ao5, cap5, ao4, cap4, by omega, by omega, by go_num, rfl, rfl, by omega, hcapN, below_next (below_next hbZ (Nat.le_refl _) hb4) (Nat.le_refl _) hb57, HPN.out.1, HPN.out.2.symm, liesPg_next hl5 hb7 hb7.size, liesPr_next hlN hb57 hb57.size⟩
                        case measure => simp [intOf]; omega
      · go_wp2_with (first
          | (go_at_call 21; refine hend.mono ?_; rintro e w2 ⟨ao2, cap2, rfl, hl2, hl3, hb2⟩)
          | (go_at_call 20; refine (pairs_same ao2 aol cap2 capl L (by omega) w2 hl2 hl3).mono ?_; rintro e w3 ⟨rfl, hb3⟩)
          | (go_at_call 11; refine (awake_any _).mono ?_; rintro e w4 ⟨rfl, hb4⟩))
        go_ret
        exact ⟨rfl, below_next (below_next (below_next hbel (Nat.le_refl _) hb2) (Nat.le_refl _) hb3) (Nat.le_refl _) hb4⟩
    · go_wp2_with (first
        | (go_at_call 21; refine hend.mono ?_; rintro e w2 ⟨ao2, cap2, rfl, hl2, hl3, hb2⟩)
        | (go_at_call 20; refine (pairs_same ao2 aol cap2 capl L (by omega) w2 hl2 hl3).mono ?_; rintro e w3 ⟨rfl, hb3⟩)
        | (go_at_call 11; refine (awake_any _).mono ?_; rintro e w4 ⟨rfl, hb4⟩))
      go_ret
      exact ⟨rfl, below_next (below_next (below_next hbel (Nat.le_refl _) hb2) (Nat.le_refl _) hb3) (Nat.le_refl _) hb4⟩

set_option maxRecDepth 100000 in
theorem lifted (os : Os) (started : os.Started) (H : Type) (enc : TypeId × Value → H) :
    ReturnsInHanded {} Try.checked os 7 .any (Rows.pageListsSpec.pre6 enc Try.prog Try.f7 Rows.pageListsRow.domain false) (Rows.pageListsSpec.post enc Try.prog Try.f7 false true false false) := by
  refine returnsInHanded_of_change (C := Try.checked) own started (by kernel_rfl) Try.func7
    (ChangeSpec.witness6 (enc := enc) (C := Try.checked) false ⟨#[], #[.slice none 0 0], []⟩ 8 (by kernel_rfl) (by kernel_rfl) (by kernel_rfl) (by kernel_rfl)) ?_
  intro W base args ds gs before hval0 hW hcnd _
  have hval : ∀ (j : Nat) t v, Try.f7.params[j]? = some t → args[j]? = some v → Value.okWide Try.prog W .any base t v := hval0
  have hW' := hW
  have hWk := hW
  obtain ⟨p, q, hA0, hV, rfl, hfz, hnd⟩ := hW
  have hA : DataW.TrodAll enc Try.prog W 0 (fun _ => true) true Try.f7.params.toList args.toList ds p := hA0
  rw [Try.params7] at hA hval
  obtain ⟨v0, vs0, d0, ds0, p0, q0, hargs, rfl, rfl, h0, r0⟩ := trodAll_cons hA
  obtain ⟨rfl, rfl, rfl⟩ := trodAll_nil r0
  obtain rfl : args = #[v0] := by cases args; simp_all
  obtain ⟨rfl, rfl⟩ := trodVars_none hV
  have hk0 := h0
  obtain ⟨ao0, cap0, l0, rfl, hlies0⟩ := open_acts (hval 0 37 v0 rfl rfl) h0
  have hlt0 : ∀ x ∈ p0, x.block < W.heap.size := fun x hx => by simpa using hWk.lt x (by simp [hx])
  clear hA0 hval0
  simp only [List.append_nil] at hW'

  refine (walk ao0 cap0 l0 W hlies0).mono fun e W' ⟨he, hg⟩ => ?_
  subst he
  exact ⟨_, rfl, _, _, _, [], _, [], hW', trodAll_cons_mk (shut_bool Try.underlying4 _) trodAll_mk0, (trodAll_cons_mk (Below.trod Try.laidOut (by kernel_rfl) (of_decide_eq_true (by kernel_rfl)) hk0 hg hlt0) trodAll_mk0), rfl, hg.frame _, fun h => by cases h⟩

theorem over : Rows.pageListsRow.holds Try.pinned (OpenSpec.ofChange Rows.pageListsSpec) :=
  OpenClaim.holds_of_wide 7 Try.f7 rfl rfl rfl rfl rfl rfl rfl ⟨rfl, rfl, rfl, rfl, rfl⟩ rfl rfl rfl rfl rfl (by kernel_rfl) Try.func7 (by kernel_rfl)
    (of_decide_eq_true (by kernel_rfl)) (by unfold Func.isWrapper; first | (rw [if_pos (by decide +kernel)]; kernel_rfl) | (rw [if_neg (by decide +kernel)]; exact ⟨rfl, rfl⟩))
    (fun os started H enc _ => lifted os started H enc)

theorem proved : Rows.PageListsSaid :=
  over
#print axioms proved
end Go.Proofs.Ytdllfplgenpalaa.pageLists
