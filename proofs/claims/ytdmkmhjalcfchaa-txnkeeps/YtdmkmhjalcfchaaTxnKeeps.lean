/-
  Nothing is written into the store, and a second transaction of the same reads the same, for every store of pairs and all acts.
-/
import Derived.Test.YtdmkmhjalcfchaaRows
import Derived.Test.YtdmkmhjalcfchaaTxR
import Derived.WalkKit
import Derived.ProofKit
import Derived.OpenShut
import Derived.ShutString
import Derived.Lib.SmallJoins
import Derived.Deep.RegionHeldLaw
namespace Go.Proofs.Ytdmkmhjalcfchaa.txnKeeps
open Go.ChangeShapes Go.WideShapes Go.ChangeAt Go.RowKit Go.Joins Num
open Go.ChangeMaps (open_string shut_string)
set_option linter.unusedVariables false
set_option maxRecDepth 100000

theorem own : ownKnob Try.prog.godebug = none := by kernel_rfl
set_option maxRecDepth 100000 in
set_option maxHeartbeats 4000000 in

theorem walk (ao0 : Option Addr) (cap0 : Nat) (l0 : List Pr) (ao1 : Option Addr) (cap1 : Nat) (l1 : List A15) (w : World) (hl0 : LiesPr w w.heap.size ao0 l0) (hl1 : LiesA15 w w.heap.size ao1 l1) :
    Calls Try.prog 5 #[.slice ao0 l0.length cap0, .slice ao1 l1.length cap1] w fun e w' => e = .returned (.bool true) ∧ Below w.heap.size w w' := by
  by_cases hlight : Light15 l1
  · have hheavy := heavy15_no l1 hlight ao1 cap1 w hl1
    have hboth := both_any l0 ao0 cap0 w hl0
    have hnew := duo_new l0
    have hsto := sto_scan l0
    have hsize := fun (gs B0 : Nat) w1 (h : HoldP B0 w1 gs (bothS l0)) => ssize_any B0 gs (bothS l0) w1 h
    have hfew := bothS_few l0
    have hscanx : ∀ (gs B0 : Nat) w1, HoldP B0 w1 gs (bothS l0) → ∃ r, ScanIs (bothS l0).vs 1000 ⟨#[]⟩ ⟨#[]⟩ r ∧ r.length ≤ 60 := fun gs B0 w1 h => by
      obtain ⟨r, hr⟩ := scan_ex w1.heap.size w1 (some gs) (bothS l0) (.inr ⟨gs, B0, w1, rfl, h, Nat.le_refl _, Below.refl _ _⟩) 1000 ⟨#[]⟩ ⟨#[]⟩
      have := scan_few hr
      exact ⟨r, hr, by omega⟩
    have hlen := hlight.1
    have HS : Hid (∀ x ∈ l1, x.key.size ≤ 500 ∧ x.val.size ≤ 500) := hlight.2
    clear hlight hl0 hfew
    generalize bothS l0 = st at *
    generalize st.vs.length = SN at *
    go_enter Try.func5, Try.ntmps5
    go_wp2_with (first
      | (go_at_call 11; have tk := hnew2; refine hnew2.mono ?_; rintro e w4 ⟨gu, rfl, hb4, hD4⟩)
      | (go_at_call 11; refine (hnew gs B1 w2 hP2).mono ?_; rintro e w3 ⟨rfl, hb3, hnew2⟩)
      | (go_at_call 26; refine (hsize gs B1 w2 hP2).mono ?_; rintro e wn ⟨rfl, hq⟩; have hq' := hq.symm; clear hq; subst hq')
      | (go_at_call 25; refine (hsto gs B1 r hr w1 hP).mono ?_; rintro e w2 ⟨aw, capw, rfl, hlw, hb2⟩
         have hP2 := hP.below hb2
         have hbw2 := below_next hb1 (Nat.le_refl _) hb2)
      | (go_at_call 10; refine hboth.mono ?_; rintro e w1 ⟨gs, gr, rfl, ⟨B1, hP⟩, _, hb1⟩
         obtain ⟨r, hr, hrl⟩ := hscanx gs B1 w1 hP)
      | (go_at_call 8; refine hheavy.mono ?_; rintro e wn ⟨rfl, hq⟩; have hq' := hq.symm; clear hq; subst hq'))
    have hbase : w.heap.size ≤ w2.heap.size := hbw2.size
    clear hnew hnew2 hheavy hboth hscanx hP hb3 hb1 hb2
    go_loopw [11] (fun i wr => ∃ c : Nat, c ≤ l1.length ∧ i = .int .i64 (c : Int) ∧ Below w2.heap.size w2 wr ∧ DuoS w2.heap.size wr w2.heap.size gu (some gs) st c) (fun i _ => l1.length - (intOf i).toNat)
    case atStart => exact ⟨0, by omega, rfl, hb4, hD4⟩
    case round =>
      obtain ⟨c, hc, rfl, hbel, hD⟩ := hrel
      have hsz := hbel.size
      have hbw := hbw2.trans (hbel.mono hbase)
      clear hD4 hb4
      by_cases hcl : (c : Int) < (l1.length : Int)
      · have HX : Hid (l1[c]? = some (l1[c]'(by omega))) := List.getElem?_eq_getElem _
        obtain ⟨a, rfl, hblk, d0, d1, d2, d3⟩ := hl1 c _ HX.out
        have hxs := HS.out _ (List.mem_of_getElem? HX.out)
        clear HX
        generalize (l1[c]'(by omega)) = x at *
        have hk9 : x.key.size ≤ 900000 := by omega
        have hblk4 : (a.add (c * 4)).block < w.heap.size := by rw [Addr.block_add]; exact hblk
        have HPC : Hid (∀ w1, Below w2.heap.size w2 w1 → w1.cell? (a.add (c * 4)) = some (.int .i64 x.op) ∧ w1.cell? ⟨(a.add (c * 4)).block, (a.add (c * 4)).off + 1, none⟩ = some (.int .i64 x.n) ∧ w1.cell? ⟨(a.add (c * 4)).block, (a.add (c * 4)).off + 2, none⟩ = some (.string x.key) ∧ w1.cell? ⟨(a.add (c * 4)).block, (a.add (c * 4)).off + 3, none⟩ = some (.string x.val)) := fun w1 hb => by
          have h0 := hbw2.trans (hb.mono hbase)
          exact ⟨(h0.cell hblk4).trans d0, (h0.cell (p := ⟨(a.add (c * 4)).block, (a.add (c * 4)).off + 1, none⟩) hblk4).trans d1, (h0.cell (p := ⟨(a.add (c * 4)).block, (a.add (c * 4)).off + 2, none⟩) hblk4).trans d2, (h0.cell (p := ⟨(a.add (c * 4)).block, (a.add (c * 4)).off + 3, none⟩) hblk4).trans d3⟩
        obtain ⟨e0, e1, e2, e3⟩ := HPC.out wr hbel
        clear d0 d1 d2 d3 hblk
        have hbd : Below wr.heap.size wr wr.drew := (Below.refl _ wr).drew
        have hbeld : Below w2.heap.size w2 wr.drew := below_next hbel (Nat.le_refl _) hbd
        obtain ⟨f0, f1, f2, f3⟩ := HPC.out wr.drew hbeld
        by_cases h2 : x.op = 2
        · have e0' : wr.cell? (a.add (c * 4)) = some (.int .i64 2) := by rw [e0, h2]
          have hsc := duo_scan (hD.below hbd) (by omega) x.key x.val x.n
          have hps := fun (ao0 ao1 : Option Addr) (cap0 cap1 : Nat) (l : List Pr) (hlen : l.length ≤ 2000) w h1 h2 => pairs_same ao0 ao1 cap0 cap1 l (by omega) w h1 h2
          clear e0 f0 h2 HS
          go_wp2_with fail
          go_region_held_law (fun w' => w'.cell? ⟨(a.add (c * 4)).block, (a.add (c * 4)).off + 1, none⟩ = some (.int .i64 x.n) ∧ w'.cell? ⟨(a.add (c * 4)).block, (a.add (c * 4)).off + 2, none⟩ = some (.string x.key) ∧ w'.cell? ⟨(a.add (c * 4)).block, (a.add (c * 4)).off + 3, none⟩ = some (.string x.val)) (first | exact ⟨f1, f2, f3⟩ | exact (HPC.out _ hw3).2 | exact (HPC.out _ hw4).2 | exact (HPC.out _ hw5).2)
            (first
              | (go_at_call 15; have tk := hD4; refine (hps ao3 ao4 cap3 cap4 told htl w4 hla hlb).mono ?_; rintro e w5 ⟨rfl, hb5⟩
                 have hw5 := below_next hw4 (Nat.le_refl _) hb5)
              | (go_at_call 16; have tk := hc3; refine (hc3 w3 (Below.refl _ _)).mono ?_; rintro e w4 ⟨ao4, cap4, rfl, hb4, hla, hlb, htl, hD4⟩
                 have hw4 := hw3.trans hb4)
              | (go_at_call 16; refine hsc.mono ?_; rintro e w3 ⟨told, ao3, cap3, rfl, hb3, hc3⟩
                 have hw3 := hbeld.trans hb3))
          go_wp2
          go_roundw
          case rel => exact ⟨c + 1, by omega, by go_num, hw5, hD4.below hb5⟩
          case measure => simp [intOf]; omega
        · have h2b : (x.op == 2) = false := by simpa using h2
          by_cases h5 : x.op = 5
          · have e0' : wr.cell? (a.add (c * 4)) = some (.int .i64 5) := by rw [e0, h5]
            have hdl := duo_del hD (by omega) x.key hk9
            clear e0 f0 f1 f2 f3 h2 h5 h2b HS
            go_wp2_with (first
              | (go_at_call 20; have tk := hc3; refine (hc3 w3 (Below.refl _ _)).mono ?_; rintro e w4 ⟨rfl, hb4, hD4⟩
                 have hw4 := hw3.trans hb4)
              | (go_at_call 20; refine hdl.mono ?_; rintro e w3 ⟨rfl, hb3, hc3⟩
                 have hw3 := hbel.trans hb3
                 obtain ⟨g0, g1, g2, g3⟩ := HPC.out w3 hw3))
            go_roundw
            case rel => exact ⟨c + 1, by omega, by go_num, hw4, hD4⟩
            case measure => simp [intOf]; omega
          · have h5b : (x.op == 5) = false := by simpa using h5
            have hpt := duo_put (hD.below hbd) (by omega) x.key x.val hk9
            clear HS
            go_wp2_with fail
            go_region_held_law (fun w' => w'.cell? ⟨(a.add (c * 4)).block, (a.add (c * 4)).off + 2, none⟩ = some (.string x.key) ∧ w'.cell? ⟨(a.add (c * 4)).block, (a.add (c * 4)).off + 3, none⟩ = some (.string x.val)) (first | exact ⟨f2, f3⟩ | exact (HPC.out _ hw3).2.2)
              (first
                | (go_at_call 18; refine hpt.mono ?_; rintro e w3 ⟨rfl, hb3, hc3⟩
                   have hw3 := hbeld.trans hb3))
            have hbd3 : Below w3.heap.size w3 w3.drew := (Below.refl _ w3).drew
            have hw3d := below_next hw3 (Nat.le_refl _) hbd3
            obtain ⟨_, _, g2, g3⟩ := HPC.out w3.drew hw3d
            have hc3d := hc3 w3.drew hbd3
            clear e0 e1 e2 e3 f0 f1 f2 f3 hc3
            go_wp2_with fail
            go_region_held_law (fun w' => w'.cell? ⟨(a.add (c * 4)).block, (a.add (c * 4)).off + 2, none⟩ = some (.string x.key) ∧ w'.cell? ⟨(a.add (c * 4)).block, (a.add (c * 4)).off + 3, none⟩ = some (.string x.val)) (first | exact ⟨g2, g3⟩ | exact (HPC.out _ hw4).2.2)
              (first
                | (go_at_call 18; refine hc3d.mono ?_; rintro e w4 ⟨rfl, hb4, hD4⟩
                   have hw4 := hw3d.trans hb4))
            go_wp2
            go_roundw
            case rel => exact ⟨c + 1, by omega, by go_num, hw4, hD4⟩
            case measure => simp [intOf]; omega
      · obtain ⟨B5, hP5⟩ := hD.sto
        have hsc := hsto gs B5 r hr wr hP5
        have hlwr : LiesPr wr wr.heap.size aw r := liesPr_next hlw hbel hbel.size
        have hps := fun (ao1 : Option Addr) (cap1 : Nat) w h1 h2 => pairs_same aw ao1 capw cap1 r (by omega) w h1 h2
        have hcl' : decide ((c : Int) < (l1.length : Int)) = false := decide_eq_false hcl
        clear hsto HS
        go_wp2_with (first
          | (go_at_call 9; refine (awake15_any _).mono ?_; rintro e w10 ⟨rfl, hb10⟩
             have hw10 := below_next hw9 (Nat.le_refl _) hb10)
          | (go_at_call 22; refine hc8.mono ?_; rintro e w9 ⟨rfl, hb9⟩
             have hw9 := below_next hw8 (Nat.le_refl _) hb9)
          | (go_at_call 23; have tk := hc7; refine hc7.mono ?_; rintro e w8 ⟨v8, rfl, hb8, hc8⟩
             have hw8 := below_next hw7 (Nat.le_refl _) hb8)
          | (go_at_call 23; refine (duo_cmd ((hD.below hb5).below hb6)).mono ?_; rintro e w7 ⟨v7, rfl, hb7, hc7⟩
             have hw7 := below_next hw6 (Nat.le_refl _) hb7)
          | (go_at_call 26; refine (hsize gs B5 w6 ((hP5.below hb5).below hb6)).mono ?_; rintro e wn ⟨rfl, hq⟩; have hq' := hq.symm; clear hq; subst hq')
          | (go_at_call 15; refine (hps ao5 cap5 w5 (liesPr_next hlwr hb5 hb5.size) hl5).mono ?_; rintro e w6 ⟨rfl, hb6⟩
             have hw6 := below_next hw5 (Nat.le_refl _) hb6)
          | (go_at_call 25; refine hsc.mono ?_; rintro e w5 ⟨ao5, cap5, rfl, hl5, hb5⟩
             have hw5 := below_next hbw (Nat.le_refl _) hb5))
        go_ret
        exact ⟨rfl, hw10⟩
  · have hheavy := heavy15_yes l1 hlight ao1 cap1 w hl1
    clear hl0 hl1
    go_enter Try.func5, Try.ntmps5
    go_wp2_with (first
      | (go_at_call 9; refine (awake15_any _).mono ?_; rintro e w5 ⟨rfl, hb5⟩)
      | (go_at_call 8; refine hheavy.mono ?_; rintro e wn ⟨rfl, hq⟩; have hq' := hq.symm; clear hq; subst hq'))
    go_ret
    exact ⟨rfl, hb5⟩

set_option maxRecDepth 100000 in
theorem lifted (os : Os) (started : os.Started) (H : Type) (enc : TypeId × Value → H) :
    ReturnsInHanded {} Try.checked os 5 .any (Rows.txnKeepsSpec.pre6 enc Try.prog Try.f5 Rows.txnKeepsRow.domain false) (Rows.txnKeepsSpec.post enc Try.prog Try.f5 false true false false) := by
  refine returnsInHanded_of_change (C := Try.checked) own started (by kernel_rfl) Try.func5
    (ChangeSpec.witness6 (enc := enc) (C := Try.checked) false ⟨#[], #[.slice none 0 0, .slice none 0 0], []⟩ 8 (by kernel_rfl) (by kernel_rfl) (by kernel_rfl) (by kernel_rfl)) ?_
  intro W base args ds gs before hval0 hW hcnd _
  have hval : ∀ (j : Nat) t v, Try.f5.params[j]? = some t → args[j]? = some v → Value.okWide Try.prog W .any base t v := hval0
  have hW' := hW
  have hWk := hW
  obtain ⟨p, q, hA0, hV, rfl, hfz, hnd⟩ := hW
  have hA : DataW.TrodAll enc Try.prog W 0 (fun _ => true) true Try.f5.params.toList args.toList ds p := hA0
  rw [Try.params5] at hA hval
  obtain ⟨v0, vs0, d0, ds0, p0, q0, hargs, rfl, rfl, h0, rt0⟩ := trodAll_cons hA
  obtain ⟨v1, vs1, d1, ds1, p1, q1, rfl, rfl, rfl, h1, rt1⟩ := trodAll_cons rt0
  obtain ⟨rfl, rfl, rfl⟩ := trodAll_nil rt1
  obtain rfl : args = #[v0, v1] := by cases args; simp_all
  obtain ⟨rfl, rfl⟩ := trodVars_none hV
  have hk0 := h0
  obtain ⟨ao0, cap0, l0, rfl, hlies0⟩ := open_prs (hval 0 22 v0 rfl rfl) h0
  have hlt0 : ∀ x ∈ p0, x.block < W.heap.size := fun x hx => by simpa using hWk.lt x (by simp [hx])
  have hk1 := h1
  obtain ⟨ao1, cap1, l1, rfl, hlies1⟩ := open_acts15 (hval 1 23 v1 rfl rfl) h1
  have hlt1 : ∀ x ∈ p1, x.block < W.heap.size := fun x hx => by simpa using hWk.lt x (by simp [hx])
  clear hA0 hval0
  simp only [List.append_nil] at hW'

  refine (walk ao0 cap0 l0 ao1 cap1 l1 W hlies0 hlies1).mono fun e W' ⟨he, hg⟩ => ?_
  subst he
  exact ⟨_, rfl, _, _, _, [], _, [], hW', trodAll_cons_mk (shut_bool Try.underlying4 _) trodAll_mk0, (trodAll_cons_mk (Below.trod Try.laidOut (by kernel_rfl) (of_decide_eq_true (by kernel_rfl)) hk0 hg hlt0) (trodAll_cons_mk (Below.trod Try.laidOut (by kernel_rfl) (of_decide_eq_true (by kernel_rfl)) hk1 hg hlt1) trodAll_mk0)), rfl, hg.frame _, fun h => by cases h⟩

theorem over : Rows.txnKeepsRow.holds Try.pinned (OpenSpec.ofChange Rows.txnKeepsSpec) :=
  OpenClaim.holds_of_wide 5 Try.f5 rfl rfl rfl rfl rfl rfl rfl ⟨rfl, rfl, rfl, rfl, rfl⟩ rfl rfl rfl rfl rfl (by kernel_rfl) Try.func5 (by kernel_rfl)
    (of_decide_eq_true (by kernel_rfl)) (by unfold Func.isWrapper; first | (rw [if_pos (by decide +kernel)]; kernel_rfl) | (rw [if_neg (by decide +kernel)]; exact ⟨rfl, rfl⟩))
    (fun os started H enc _ => lifted os started H enc)

theorem proved : Rows.TxnKeepsSaid :=
  over
#print axioms proved
end Go.Proofs.Ytdmkmhjalcfchaa.txnKeeps
