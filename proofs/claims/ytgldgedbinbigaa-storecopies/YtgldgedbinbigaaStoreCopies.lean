/-
  A copy has the same, and is another one, for every acts and acts.
-/
import Derived.Test.YtgldgedbinbigaaRows
import Derived.Test.YtgldgedbinbigaaSAct
import Derived.Test.YtgldgedbinbigaaSCopy
import Derived.WalkKit
import Derived.ProofKit
import Derived.OpenShut
import Derived.ShutString
import Derived.Lib.SmallJoins
namespace Go.Proofs.Ytgldgedbinbigaa.storeCopies
open Go.ChangeShapes Go.WideShapes Go.ChangeAt Go.RowKit Go.Joins Num
open Go.ChangeMaps (open_string shut_string)
set_option linter.unusedVariables false

theorem own : ownKnob Try.prog.godebug = none := by kernel_rfl
open scoped Classical
set_option maxRecDepth 100000 in
set_option maxHeartbeats 8000000 in

theorem walk (ao0 : Option Addr) (cap0 : Nat) (l0 : List A8) (ao1 : Option Addr) (cap1 : Nat) (l1 : List A8) (w : World) (hl0 : LiesA8 w w.heap.size ao0 l0) (hl1 : LiesA8 w w.heap.size ao1 l1) :
    Calls Try.prog 7 #[.slice ao0 l0.length cap0, .slice ao1 l1.length cap1] w fun e w' => e = .returned (.bool true) ∧ Below w.heap.size w w' := by
  have haw := fun W => awake_any W
  by_cases hL0 : Light l0
  · have hhv0 := heavy_no l0 hL0 ao0 cap0 w hl0
    by_cases hL1 : Light l1
    · have hhv1 := heavy_no l1 hL1 ao1 cap1 w hl1
      have hnew := new_yes 60 (by omega) (by omega) w
      have hrnew := fun W => rnew_yes 60 (by omega) (by omega) W
      have hL80 := hL0.1
      have hL81 := hL1.1
      go_enter Try.func7, Try.ntmps7
      go_wp2_with (first
        | (go_at_call_of 9 ao0; refine hhv0.mono ?_; rintro e wn ⟨rfl, hq⟩; have hq' := hq.symm; clear hq; subst hq')
        | (go_at_call_of 9 ao1; refine hhv1.mono ?_; rintro e wn ⟨rfl, hq⟩; have hq' := hq.symm; clear hq; subst hq')
        | (go_at_call 11; refine hnew.mono ?_; rintro e w1 ⟨gs, rfl, hh1, hb1⟩; clear hnew)
        | (go_at_call 12; refine (hrnew w1).mono ?_; rintro e w2 ⟨gr, rfl, hr2, hb2⟩; clear hrnew)
        | (go_at_call 13; refine (num_any _ _).mono ?_; rintro e wn ⟨rfl, hq⟩; have hq' := hq.symm; clear hq; subst hq'))
      have hs2 := hh1.below hb2
      have hr3 := HoldR.down hr2 hb1.size
      have hbw := below_next hb1 (Nat.le_refl _) hb2
      clear hh1 hr2 hb1 hb2 hhv0 hhv1
      go_loopw [9] (fun i wr => ∃ (c : Nat) (st : Sto), c ≤ l0.length ∧ i = .int .i64 (c : Int) ∧ HoldP w.heap.size wr gs st ∧ HoldR w.heap.size wr gr st ∧ st.vs.length ≤ c ∧ Below w.heap.size w wr) (fun i _ => l0.length - (intOf i).toNat)
      case atStart => exact ⟨0, ⟨60, 0, []⟩, by omega, rfl, hs2, hr3, Nat.le_refl _, hbw⟩
      case round =>
        obtain ⟨c, st, hc, rfl, hh1, hr1, hlen, hb1⟩ := hrel
        clear hs2 hr3 hbw
        by_cases hcl : c < l0.length
        · have HX : Hid (l0[c]? = some l0[c]) := List.getElem?_eq_getElem hcl
          obtain ⟨a, rfl, hblk, e0, e1, e2, e3, e4⟩ := (hl0.below A8At.fast hb1) c l0[c] HX.out
          obtain ⟨hks, hvs⟩ := hL0.2 l0[c] (List.getElem_mem hcl)
          generalize l0[c] = x at *
          have hact := act_any w.heap.size gs gr st x hks hvs (by omega) wr hh1 hr1
          clear haw HX
          go_wp2_with (first
            | (go_at_call 14; refine hact.mono ?_; rintro e w3 ⟨st3, rfl, hh3, hr3, hl3, hb3⟩))
          go_roundw
          case rel => exact ⟨c + 1, st3, by omega, by go_num, hh3, hr3, by omega, hb1.trans hb3⟩
          case measure => simp [intOf]; omega
        · have hcl2 : decide ((c : Int) < (l0.length : Int)) = false := decide_eq_false (by omega)
          have hlen2 : st.vs.length ≤ 80 := by omega
          have hcp := copy_any w.heap.size gs st (by omega) wr hh1
          clear hlen
          go_wp2_with (first
            | (go_at_call 24; refine hcp.mono ?_; rintro e w2 ⟨gt, rfl, ht2, hb2⟩; clear hcp))
          obtain ⟨WA, hWA⟩ : ∃ WA, WA = wr := ⟨_, rfl⟩
          subst hWA
          go_loopw [11] (fun i wr => ∃ (c : Nat) (stt : Sto), c ≤ l1.length ∧ i = .int .i64 (c : Int) ∧ HoldP WA.heap.size wr gt stt ∧ stt.vs.length ≤ 80 + c ∧ Below WA.heap.size WA wr) (fun i _ => l1.length - (intOf i).toNat)
          case atStart => exact ⟨0, st, by omega, rfl, ht2, by omega, hb2⟩
          case round =>
            obtain ⟨c, stt, hc, rfl, hh, hlt, hbx⟩ := hrel
            clear ht2 hb2
            have hbW : Below w.heap.size w wr := below_next hb1 (Nat.le_refl _) hbx
            by_cases hcl : c < l1.length
            · have HX : Hid (l1[c]? = some l1[c]) := List.getElem?_eq_getElem hcl
              obtain ⟨a, rfl, hblk, e0, e1, e2, e3, e4⟩ := (hl1.below A8At.fast hbW) c l1[c] HX.out
              obtain ⟨hks, hvs⟩ := hL1.2 l1[c] (List.getElem_mem hcl)
              generalize l1[c] = x at *
              have hblk2 : (a.add (c * 5)).block < WA.heap.size := by
                rw [Addr.block_add]
                exact Nat.lt_of_lt_of_le hblk hb1.size
              have hcl2 : (c : Int) < (l1.length : Int) := by omega
              have hhD : HoldP WA.heap.size wr.drew gt stt := hh.below below_drew
              clear haw HX hh1 hr1 hbW
              by_cases hd : x.op = 2
              · have hdA : decide (x.op = 2) = true := decide_eq_true hd
                have hdB : (x.op == 2) = true := by rw [hd]; rfl
                clear hd
                have hput := sdel_any WA.heap.size gt stt x.time x.key (key_small hks) (by omega) wr.drew hhD
                have hpl := put_len stt ⟨x.key, x.time, ⟨#[]⟩, true⟩
                generalize putS stt ⟨x.key, x.time, ⟨#[]⟩, true⟩ = out at *
                have hS0 : wr.drew.cell? ⟨(a.add (c * 5)).block, (a.add (c * 5)).off + 1, none⟩ = some (.int .i64 x.time) ∧ wr.drew.cell? ⟨(a.add (c * 5)).block, (a.add (c * 5)).off + 3, none⟩ = some (.string x.key) := ⟨e1, e3⟩
                have hS1 : ∀ w2, TurnP WA.heap.size wr.drew w2 → w2.cell? ⟨(a.add (c * 5)).block, (a.add (c * 5)).off + 1, none⟩ = some (.int .i64 x.time) ∧ w2.cell? ⟨(a.add (c * 5)).block, (a.add (c * 5)).off + 3, none⟩ = some (.string x.key) := fun w2 hT => ⟨(hT.below.cell (p := ⟨(a.add (c * 5)).block, (a.add (c * 5)).off + 1, none⟩) hblk2).trans e1, (hT.below.cell (p := ⟨(a.add (c * 5)).block, (a.add (c * 5)).off + 3, none⟩) hblk2).trans e3⟩
                go_wp2_with fail
                go_region_held_law (fun w' => w'.cell? ⟨(a.add (c * 5)).block, (a.add (c * 5)).off + 1, none⟩ = some (.int .i64 x.time) ∧ w'.cell? ⟨(a.add (c * 5)).block, (a.add (c * 5)).off + 3, none⟩ = some (.string x.key)) (first | exact hS0 | exact hS1 _ hT2)
                  (first
                    | (go_at_call 18; refine hput.mono ?_; rintro e w2 ⟨rfl, hh2, hT2⟩))
                go_wp2
                go_roundw
                case rel => exact ⟨c + 1, out.2, by omega, by go_num, hh2, by omega, (below_next hbx (Nat.le_refl _) below_drew).trans hT2.below⟩
                case measure => simp [intOf]; omega
              · have hdA : decide (x.op = 2) = false := decide_eq_false hd
                have hdB : (x.op == 2) = false := by simpa using hd
                clear hd
                have hput := sput_any WA.heap.size gt stt x.time x.key x.val (key_small hks) (by omega) wr.drew hhD
                have hpl := put_len stt ⟨x.key, x.time, x.val, false⟩
                generalize putS stt ⟨x.key, x.time, x.val, false⟩ = out at *
                have hS0 : wr.drew.cell? ⟨(a.add (c * 5)).block, (a.add (c * 5)).off + 1, none⟩ = some (.int .i64 x.time) ∧ wr.drew.cell? ⟨(a.add (c * 5)).block, (a.add (c * 5)).off + 3, none⟩ = some (.string x.key) ∧ wr.drew.cell? ⟨(a.add (c * 5)).block, (a.add (c * 5)).off + 4, none⟩ = some (.string x.val) := ⟨e1, e3, e4⟩
                have hS1 : ∀ w2, TurnP WA.heap.size wr.drew w2 → w2.cell? ⟨(a.add (c * 5)).block, (a.add (c * 5)).off + 1, none⟩ = some (.int .i64 x.time) ∧ w2.cell? ⟨(a.add (c * 5)).block, (a.add (c * 5)).off + 3, none⟩ = some (.string x.key) ∧ w2.cell? ⟨(a.add (c * 5)).block, (a.add (c * 5)).off + 4, none⟩ = some (.string x.val) := fun w2 hT => ⟨(hT.below.cell (p := ⟨(a.add (c * 5)).block, (a.add (c * 5)).off + 1, none⟩) hblk2).trans e1, (hT.below.cell (p := ⟨(a.add (c * 5)).block, (a.add (c * 5)).off + 3, none⟩) hblk2).trans e3, (hT.below.cell (p := ⟨(a.add (c * 5)).block, (a.add (c * 5)).off + 4, none⟩) hblk2).trans e4⟩
                go_wp2_with fail
                go_region_held_law (fun w' => w'.cell? ⟨(a.add (c * 5)).block, (a.add (c * 5)).off + 1, none⟩ = some (.int .i64 x.time) ∧ w'.cell? ⟨(a.add (c * 5)).block, (a.add (c * 5)).off + 3, none⟩ = some (.string x.key) ∧ w'.cell? ⟨(a.add (c * 5)).block, (a.add (c * 5)).off + 4, none⟩ = some (.string x.val)) (first | exact hS0 | exact hS1 _ hT2)
                  (first
                    | (go_at_call 15; refine hput.mono ?_; rintro e w2 ⟨rfl, hh2, hT2⟩))
                go_wp2
                go_roundw
                case rel => exact ⟨c + 1, out.2, by omega, by go_num, hh2, by omega, (below_next hbx (Nat.le_refl _) below_drew).trans hT2.below⟩
                case measure => simp [intOf]; omega
            · have hcl2 : decide ((c : Int) < (l1.length : Int)) = false := decide_eq_false (by omega)
              have hcp2 := copy_any w.heap.size gs st (by omega) wr (hh1.below hbx)
              clear hh hlt
              go_wp2_with (first
                | (go_at_call 24; refine hcp2.mono ?_; rintro e w3 ⟨gu, rfl, hu, hb3⟩; clear hcp2))
              have hbB : Below w.heap.size w w3 := below_next hbW (Nat.le_refl _) hb3
              have hu3 := HoldP.down hu (Nat.le_trans (Nat.le_refl _) hbW.size)
              have hr3 := (hr1.below hbx).below hb3
              clear hu hh1 hr1 hb1 hbx hb3
              go_loopw [13] (fun i wr => ∃ (c : Nat) (stu : Sto), c ≤ l1.length ∧ i = .int .i64 (c : Int) ∧ HoldP w.heap.size wr gu stu ∧ HoldR w.heap.size wr gr stu ∧ stu.vs.length ≤ 80 + c ∧ Below w.heap.size w wr) (fun i _ => l1.length - (intOf i).toNat)
              case atStart => exact ⟨0, st, by omega, rfl, hu3, hr3, by omega, hbB⟩
              case round =>
                obtain ⟨c, stu, hc, rfl, hh, hhr, hlen, hb⟩ := hrel
                clear hu3 hr3 hbB
                by_cases hcl : c < l1.length
                · have HX : Hid (l1[c]? = some l1[c]) := List.getElem?_eq_getElem hcl
                  obtain ⟨a, rfl, hblk, e0, e1, e2, e3, e4⟩ := (hl1.below A8At.fast hb) c l1[c] HX.out
                  obtain ⟨hks, hvs⟩ := hL1.2 l1[c] (List.getElem_mem hcl)
                  generalize l1[c] = x at *
                  have hact := act_any w.heap.size gu gr stu x hks hvs (by omega) wr hh hhr
                  clear haw HX
                  go_wp2_with (first
                    | (go_at_call 14; refine hact.mono ?_; rintro e w4 ⟨st4, rfl, hh4, hr4, hl4, hb4⟩))
                  go_roundw
                  case rel => exact ⟨c + 1, st4, by omega, by go_num, hh4, hr4, by omega, hb.trans hb4⟩
                  case measure => simp [intOf]; omega
                · have hcl2 : decide ((c : Int) < (l1.length : Int)) = false := decide_eq_false (by omega)
                  go_wp2_with (first
                    | (go_at_call 10; refine (haw wr).mono ?_; rintro e wa ⟨rfl, hba⟩))
                  go_ret
                  exact ⟨rfl, below_next hb (Nat.le_refl _) hba⟩
    · have hhv1 := heavy_yes l1 hL1 ao1 cap1 w hl1
      go_enter Try.func7, Try.ntmps7
      go_wp2_with (first
        | (go_at_call_of 9 ao0; refine hhv0.mono ?_; rintro e wn ⟨rfl, hq⟩; have hq' := hq.symm; clear hq; subst hq')
        | (go_at_call_of 9 ao1; refine hhv1.mono ?_; rintro e wn ⟨rfl, hq⟩; have hq' := hq.symm; clear hq; subst hq')
        | (go_at_call 10; refine (haw w).mono ?_; rintro e wa ⟨rfl, hba⟩))
      go_ret
      exact ⟨rfl, hba⟩
  · have hhv0 := heavy_yes l0 hL0 ao0 cap0 w hl0
    go_enter Try.func7, Try.ntmps7
    go_wp2_with (first
      | (go_at_call_of 9 ao0; refine hhv0.mono ?_; rintro e wn ⟨rfl, hq⟩; have hq' := hq.symm; clear hq; subst hq')
      | (go_at_call 10; refine (haw w).mono ?_; rintro e wa ⟨rfl, hba⟩))
    go_ret
    exact ⟨rfl, hba⟩

set_option maxRecDepth 100000 in
theorem lifted (os : Os) (started : os.Started) (H : Type) (enc : TypeId × Value → H) :
    ReturnsInHanded {} Try.checked os 7 .any (Rows.storeCopiesSpec.pre6 enc Try.prog Try.f7 Rows.storeCopiesRow.domain false) (Rows.storeCopiesSpec.post enc Try.prog Try.f7 false true false false) := by
  refine returnsInHanded_of_change (C := Try.checked) own started (by kernel_rfl) Try.func7
    (ChangeSpec.witness6 (enc := enc) (C := Try.checked) false ⟨#[], #[.slice none 0 0, .slice none 0 0], []⟩ 8 (by kernel_rfl) (by kernel_rfl) (by kernel_rfl) (by kernel_rfl)) ?_
  intro W base args ds gs before hval0 hW hcnd _
  have hval : ∀ (j : Nat) t v, Try.f7.params[j]? = some t → args[j]? = some v → Value.okWide Try.prog W .any base t v := hval0
  have hW' := hW
  have hWk := hW
  obtain ⟨p, q, hA0, hV, rfl, hfz, hnd⟩ := hW
  have hA : DataW.TrodAll enc Try.prog W 0 (fun _ => true) true Try.f7.params.toList args.toList ds p := hA0
  rw [Try.params7] at hA hval
  obtain ⟨v0, vs0, d0, ds0, p0, q0, hargs, rfl, rfl, h0, r0⟩ := trodAll_cons hA
  obtain ⟨v1, vs1, d1, ds1, p1, q1, rfl, rfl, rfl, h1, r1⟩ := trodAll_cons r0
  obtain ⟨rfl, rfl, rfl⟩ := trodAll_nil r1
  obtain rfl : args = #[v0, v1] := by cases args; simp_all
  obtain ⟨rfl, rfl⟩ := trodVars_none hV
  have hk0 := h0
  obtain ⟨ao0, cap0, l0, rfl, hlies0⟩ := open_acts8 (hval 0 22 v0 rfl rfl) h0
  have hlt0 : ∀ x ∈ p0, x.block < W.heap.size := fun x hx => by simpa using hWk.lt x (by simp [hx])
  have hk1 := h1
  obtain ⟨ao1, cap1, l1, rfl, hlies1⟩ := open_acts8 (hval 1 22 v1 rfl rfl) h1
  have hlt1 : ∀ x ∈ p1, x.block < W.heap.size := fun x hx => by simpa using hWk.lt x (by simp [hx])
  clear hA0 hval0
  simp only [List.append_nil] at hW'

  refine (walk ao0 cap0 l0 ao1 cap1 l1 W hlies0 hlies1).mono fun e W' ⟨he, hg⟩ => ?_
  subst he
  exact ⟨_, rfl, _, _, _, [], _, [], hW', trodAll_cons_mk (shut_bool Try.underlying4 _) trodAll_mk0, (trodAll_cons_mk (Below.trod Try.laidOut (by kernel_rfl) (of_decide_eq_true (by kernel_rfl)) hk0 hg hlt0) (trodAll_cons_mk (Below.trod Try.laidOut (by kernel_rfl) (of_decide_eq_true (by kernel_rfl)) hk1 hg hlt1) trodAll_mk0)), rfl, hg.frame _, fun h => by cases h⟩

theorem over : Rows.storeCopiesRow.holds Try.pinned (OpenSpec.ofChange Rows.storeCopiesSpec) :=
  OpenClaim.holds_of_wide 7 Try.f7 rfl rfl rfl rfl rfl rfl rfl ⟨rfl, rfl, rfl, rfl, rfl⟩ rfl rfl rfl rfl rfl (by kernel_rfl) Try.func7 (by kernel_rfl)
    (of_decide_eq_true (by kernel_rfl)) (by unfold Func.isWrapper; first | (rw [if_pos (by decide +kernel)]; kernel_rfl) | (rw [if_neg (by decide +kernel)]; exact ⟨rfl, rfl⟩))
    (fun os started H enc _ => lifted os started H enc)

theorem proved : Rows.StoreCopiesSaid :=
  over
#print axioms proved
end Go.Proofs.Ytgldgedbinbigaa.storeCopies
