/-
  Behind Trim all that is asked as of its time, or later, is as it was, for every acts and times.
-/
import Derived.Test.YtgldgedbinbigaaRows
import Derived.Test.YtgldgedbinbigaaSPstM
import Derived.Test.YtgldgedbinbigaaPCmp
import Derived.WalkKit
import Derived.ProofKit
import Derived.OpenShut
import Derived.ShutString
import Derived.Lib.SmallJoins
namespace Go.Proofs.Ytgldgedbinbigaa.storeTrims
open Go.ChangeShapes Go.WideShapes Go.ChangeAt Go.RowKit Go.Joins Num
open Go.ChangeMaps (open_string shut_string)
set_option linter.unusedVariables false

theorem own : ownKnob Try.prog.godebug = none := by kernel_rfl
open scoped Classical
theorem two_pairs (R : List Pr) (hR : R.length ≤ 1000) (W : World) (ao0 : Option Addr) (cap0 : Nat) (ao1 : Option Addr) (cap1 : Nat) (B0 B1 : Nat) (h0 : W.ownsRow B0 69 2 (.slice ao0 R.length cap0) R.length (prCells R)) (h1 : W.ownsRow B1 69 2 (.slice ao1 R.length cap1) R.length (prCells R)) :
    Calls Try.prog 19 #[.slice ao0 R.length cap0, .slice ao1 R.length cap1] W fun e w' => e = .returned (.bool true) ∧ Below W.heap.size W w' := by
  obtain ⟨a0, c0, e0, l0, _⟩ := own_lies h0
  obtain ⟨a1, c1, e1, l1, _⟩ := own_lies h1
  cases e0
  cases e1
  exact pairs_same ao0 ao1 cap0 cap1 R (by omega) W l0 l1
set_option maxRecDepth 100000 in
set_option maxHeartbeats 8000000 in

theorem walk (ao0 : Option Addr) (cap0 : Nat) (l0 : List A8) (a1 : Int) (ha1 : -9223372036854775808 ≤ a1 ∧ a1 ≤ 9223372036854775807) (a2 : Int) (ha2 : -9223372036854775808 ≤ a2 ∧ a2 ≤ 9223372036854775807) (w : World) (hl0 : LiesA8 w w.heap.size ao0 l0) :
    Calls Try.prog 5 #[.slice ao0 l0.length cap0, .int .i64 a1, .int .i64 a2] w fun e w' => e = .returned (.bool true) ∧ Below w.heap.size w w' := by
  have haw := fun W => awake_any W
  by_cases hL : Light l0
  · have hhv := heavy_no l0 hL ao0 cap0 w hl0
    by_cases hla : a2 < a1
    · go_enter Try.func5, Try.ntmps5
      go_wp2_with (first
        | (go_at_call 9; refine hhv.mono ?_; rintro e wn ⟨rfl, hq⟩; have hq' := hq.symm; clear hq; subst hq')
        | (go_at_call 10; refine (haw w).mono ?_; rintro e wa ⟨rfl, hba⟩))
      go_ret
      exact ⟨rfl, hba⟩
    · have hla2 : decide (a2 < a1) = false := decide_eq_false hla
      have hnew := new_yes 60 (by omega) (by omega) w
      have hL80 := hL.1
      go_enter Try.func5, Try.ntmps5
      go_wp2_with (first
        | (go_at_call 9; refine hhv.mono ?_; rintro e wn ⟨rfl, hq⟩; have hq' := hq.symm; clear hq; subst hq')
        | (go_at_call 11; refine hnew.mono ?_; rintro e w1 ⟨g, rfl, hh1, hb1⟩; clear hnew)
        | (go_at_call 13; refine (num_any _ _).mono ?_; rintro e wn ⟨rfl, hq⟩; have hq' := hq.symm; clear hq; subst hq'))
      go_loopw [9] (fun i wr => ∃ (c : Nat) (st : Sto), c ≤ l0.length ∧ i = .int .i64 (c : Int) ∧ HoldP w.heap.size wr g st ∧ st.vs.length ≤ c ∧ Below w.heap.size w wr) (fun i _ => l0.length - (intOf i).toNat)
      case atStart => exact ⟨0, ⟨60, 0, []⟩, by omega, rfl, hh1, Nat.le_refl _, hb1⟩
      case round =>
        obtain ⟨c, st, hc, rfl, hh, hlen, hb⟩ := hrel
        clear hh1 hb1 hhv
        by_cases hcl : c < l0.length
        · have HX : Hid (l0[c]? = some l0[c]) := List.getElem?_eq_getElem hcl
          obtain ⟨a, rfl, hblk, e0, e1, e2, e3, e4⟩ := (hl0.below A8At.fast hb) c l0[c] HX.out
          obtain ⟨hks, hvs⟩ := hL.2 l0[c] (List.getElem_mem hcl)
          generalize l0[c] = x at *
          have hblk2 : (a.add (c * 5)).block < w.heap.size := by rw [Addr.block_add]; exact hblk
          have hcl2 : (c : Int) < (l0.length : Int) := by omega
          clear haw HX hla hla2
          by_cases hd : x.op = 2
          · have hdA : decide (x.op = 2) = true := decide_eq_true hd
            have hdB : (x.op == 2) = true := by rw [hd]; rfl
            clear hd
            have hhD : HoldP w.heap.size wr.drew g st := hh.below below_drew
            have hput := sdel_any w.heap.size g st x.time x.key (key_small hks) (by omega) wr.drew hhD
            have hpl := put_len st ⟨x.key, x.time, ⟨#[]⟩, true⟩
            generalize putS st ⟨x.key, x.time, ⟨#[]⟩, true⟩ = out at *
            have hS0 : wr.drew.cell? ⟨(a.add (c * 5)).block, (a.add (c * 5)).off + 1, none⟩ = some (.int .i64 x.time) ∧ wr.drew.cell? ⟨(a.add (c * 5)).block, (a.add (c * 5)).off + 3, none⟩ = some (.string x.key) := ⟨e1, e3⟩
            have hS1 : ∀ w2, TurnP w.heap.size wr.drew w2 → w2.cell? ⟨(a.add (c * 5)).block, (a.add (c * 5)).off + 1, none⟩ = some (.int .i64 x.time) ∧ w2.cell? ⟨(a.add (c * 5)).block, (a.add (c * 5)).off + 3, none⟩ = some (.string x.key) := fun w2 hT => ⟨(hT.below.cell (p := ⟨(a.add (c * 5)).block, (a.add (c * 5)).off + 1, none⟩) hblk2).trans e1, (hT.below.cell (p := ⟨(a.add (c * 5)).block, (a.add (c * 5)).off + 3, none⟩) hblk2).trans e3⟩
            go_wp2_with fail
            go_region_held_law (fun w' => w'.cell? ⟨(a.add (c * 5)).block, (a.add (c * 5)).off + 1, none⟩ = some (.int .i64 x.time) ∧ w'.cell? ⟨(a.add (c * 5)).block, (a.add (c * 5)).off + 3, none⟩ = some (.string x.key)) (first | exact hS0 | exact hS1 _ hT2)
              (first
                | (go_at_call 18; refine hput.mono ?_; rintro e w2 ⟨rfl, hh2, hT2⟩))
            go_wp2
            go_roundw
            case rel => exact ⟨c + 1, out.2, by omega, by go_num, hh2, by omega, (below_next hb (Nat.le_refl _) below_drew).trans hT2.below⟩
            case measure => simp [intOf]; omega
          · have hdA : decide (x.op = 2) = false := decide_eq_false hd
            have hdB : (x.op == 2) = false := by simpa using hd
            clear hd
            have hhD : HoldP w.heap.size wr.drew g st := hh.below below_drew
            have hput := sput_any w.heap.size g st x.time x.key x.val (key_small hks) (by omega) wr.drew hhD
            have hpl := put_len st ⟨x.key, x.time, x.val, false⟩
            generalize putS st ⟨x.key, x.time, x.val, false⟩ = out at *
            have hS0 : wr.drew.cell? ⟨(a.add (c * 5)).block, (a.add (c * 5)).off + 1, none⟩ = some (.int .i64 x.time) ∧ wr.drew.cell? ⟨(a.add (c * 5)).block, (a.add (c * 5)).off + 3, none⟩ = some (.string x.key) ∧ wr.drew.cell? ⟨(a.add (c * 5)).block, (a.add (c * 5)).off + 4, none⟩ = some (.string x.val) := ⟨e1, e3, e4⟩
            have hS1 : ∀ w2, TurnP w.heap.size wr.drew w2 → w2.cell? ⟨(a.add (c * 5)).block, (a.add (c * 5)).off + 1, none⟩ = some (.int .i64 x.time) ∧ w2.cell? ⟨(a.add (c * 5)).block, (a.add (c * 5)).off + 3, none⟩ = some (.string x.key) ∧ w2.cell? ⟨(a.add (c * 5)).block, (a.add (c * 5)).off + 4, none⟩ = some (.string x.val) := fun w2 hT => ⟨(hT.below.cell (p := ⟨(a.add (c * 5)).block, (a.add (c * 5)).off + 1, none⟩) hblk2).trans e1, (hT.below.cell (p := ⟨(a.add (c * 5)).block, (a.add (c * 5)).off + 3, none⟩) hblk2).trans e3, (hT.below.cell (p := ⟨(a.add (c * 5)).block, (a.add (c * 5)).off + 4, none⟩) hblk2).trans e4⟩
            go_wp2_with fail
            go_region_held_law (fun w' => w'.cell? ⟨(a.add (c * 5)).block, (a.add (c * 5)).off + 1, none⟩ = some (.int .i64 x.time) ∧ w'.cell? ⟨(a.add (c * 5)).block, (a.add (c * 5)).off + 3, none⟩ = some (.string x.key) ∧ w'.cell? ⟨(a.add (c * 5)).block, (a.add (c * 5)).off + 4, none⟩ = some (.string x.val)) (first | exact hS0 | exact hS1 _ hT2)
              (first
                | (go_at_call 15; refine hput.mono ?_; rintro e w2 ⟨rfl, hh2, hT2⟩))
            go_wp2
            go_roundw
            case rel => exact ⟨c + 1, out.2, by omega, by go_num, hh2, by omega, (below_next hb (Nat.le_refl _) below_drew).trans hT2.below⟩
            case measure => simp [intOf]; omega
        · have hcl2 : decide ((c : Int) < (l0.length : Int)) = false := decide_eq_false (by omega)
          obtain ⟨r1, hr1⟩ := scan_exists hh a1 ⟨#[]⟩ ⟨#[]⟩
          obtain ⟨r2, hr2⟩ := scan_exists hh a2 ⟨#[]⟩ ⟨#[]⟩
          have hrl1 := scan_few hr1
          have hrl2 := scan_few hr2
          obtain ⟨R1, hR1⟩ : ∃ R, r1.take (100 : Int).toNat = R := ⟨_, rfl⟩
          obtain ⟨R2, hR2⟩ : ∃ R, r2.take (100 : Int).toNat = R := ⟨_, rfl⟩
          have hRl1 : R1.length ≤ 1000 := by rw [← hR1, List.length_take]; omega
          have hRl2 : R2.length ≤ 1000 := by rw [← hR2, List.length_take]; omega
          obtain ⟨st2, hst2⟩ : ∃ st2, st2 = (trimS st a1).2 := ⟨_, rfl⟩
          have htl := trim_len st.vs a1
          have hvs2 : st2.vs = trimAux st.vs a1 := by rw [hst2]; rfl
          have hlen2 : st2.vs.length ≤ c := by rw [hvs2]; omega
          have hp1 := two_pairs R1 hRl1
          have hp2 := two_pairs R2 hRl2
          have hsA : ∀ W, HoldP w.heap.size W g st → Calls Try.prog 16 #[.pointer (some ⟨g, 0, none⟩), .int .i64 a1, .string ⟨#[]⟩, .string ⟨#[]⟩, .int .i64 100] W fun e w' => ∃ ao' cap', e = .returned (.slice ao' R1.length cap') ∧ w'.ownsRow W.heap.size 69 2 (.slice ao' R1.length cap') R1.length (prCells R1) ∧ Below W.heap.size W w' := fun W h => by
            have := sscan_any w.heap.size g st a1 ⟨#[]⟩ ⟨#[]⟩ 100 (by omega) W h r1 hr1
            rw [hR1] at this
            exact this
          have hsB : ∀ W, HoldP w.heap.size W g st → Calls Try.prog 16 #[.pointer (some ⟨g, 0, none⟩), .int .i64 a2, .string ⟨#[]⟩, .string ⟨#[]⟩, .int .i64 100] W fun e w' => ∃ ao' cap', e = .returned (.slice ao' R2.length cap') ∧ w'.ownsRow W.heap.size 69 2 (.slice ao' R2.length cap') R2.length (prCells R2) ∧ Below W.heap.size W w' := fun W h => by
            have := sscan_any w.heap.size g st a2 ⟨#[]⟩ ⟨#[]⟩ 100 (by omega) W h r2 hr2
            rw [hR2] at this
            exact this
          have hsC : ∀ W, HoldP w.heap.size W g st2 → Calls Try.prog 16 #[.pointer (some ⟨g, 0, none⟩), .int .i64 a1, .string ⟨#[]⟩, .string ⟨#[]⟩, .int .i64 100] W fun e w' => ∃ ao' cap', e = .returned (.slice ao' R1.length cap') ∧ w'.ownsRow W.heap.size 69 2 (.slice ao' R1.length cap') R1.length (prCells R1) ∧ Below W.heap.size W w' := fun W h => by
            have := sscan_any w.heap.size g st2 a1 ⟨#[]⟩ ⟨#[]⟩ 100 (by omega) W h r1 (by rw [hvs2]; exact scan_same hr1 (fun k => trim_get hh.inv.1 (Int.le_refl _) k))
            rw [hR1] at this
            exact this
          have hsD : ∀ W, HoldP w.heap.size W g st2 → Calls Try.prog 16 #[.pointer (some ⟨g, 0, none⟩), .int .i64 a2, .string ⟨#[]⟩, .string ⟨#[]⟩, .int .i64 100] W fun e w' => ∃ ao' cap', e = .returned (.slice ao' R2.length cap') ∧ w'.ownsRow W.heap.size 69 2 (.slice ao' R2.length cap') R2.length (prCells R2) ∧ Below W.heap.size W w' := fun W h => by
            have := sscan_any w.heap.size g st2 a2 ⟨#[]⟩ ⟨#[]⟩ 100 (by omega) W h r2 (by rw [hvs2]; exact scan_same hr2 (fun k => trim_get hh.inv.1 (by omega) k))
            rw [hR2] at this
            exact this
          have hsz1 := ssize_any w.heap.size g st wr hh
          have hsz2 : ∀ W, HoldP w.heap.size W g st2 → Calls Try.prog 20 #[.pointer (some ⟨g, 0, none⟩)] W fun e w' => e = .returned (.int .i64 ((trimAux st.vs a1).length : Int)) ∧ w' = W := fun W h => by
            have := ssize_any w.heap.size g st2 W h
            rw [hvs2] at this
            exact this
          have htr1 : ∀ W, HoldP w.heap.size W g st → Calls Try.prog 21 #[.pointer (some ⟨g, 0, none⟩), .int .i64 a1] W fun e w' => e = .returned (.int .i64 ((st.vs.length : Int) - ((trimAux st.vs a1).length : Int))) ∧ HoldP w.heap.size w' g st2 ∧ TurnP w.heap.size W w' := fun W h => by
            have := strim_any w.heap.size g st a1 (by omega) W h
            rw [← hst2] at this
            exact this
          have htr2 : ∀ W, HoldP w.heap.size W g st2 → Calls Try.prog 21 #[.pointer (some ⟨g, 0, none⟩), .int .i64 a1] W fun e w' => e = .returned (.int .i64 0) ∧ TurnP w.heap.size W w' := fun W h => by
            have := strim_any w.heap.size g st2 a1 (by omega) W h
            have e0 : (trimS st2 a1).1 = 0 := by
              show (st2.vs.length : Int) - ((trimAux st2.vs a1).length : Int) = 0
              rw [hvs2, trim_twice]
              omega
            rw [e0] at this
            exact this.mono fun e w' h => ⟨h.1, h.2.2⟩
          generalize (trimAux st.vs a1).length = L2 at *
          generalize st.vs.length = L1 at *
          obtain ⟨N, hN⟩ : ∃ N : Int, (L1 : Int) - (L2 : Int) = N := ⟨_, rfl⟩
          rw [hN] at htr1
          have hN0 : 0 ≤ N := by omega
          have hN1 : (L1 : Int) - N = (L2 : Int) := by omega
          have hN2 : N ≤ 80 := by omega
          have hL1 : (L1 : Int) ≤ 80 := by omega
          clear hst2 hvs2 hr1 hr2 hR1 hR2 hN htl hlen2 hlen hrl1 hrl2 hRl1 hRl2 hla
          go_wp2_with (first
            | (go_at_call 16; refine (hsD w6 hh6).mono ?_; rintro e w7 ⟨ao7, cap7, rfl, ho7, hb7⟩
               have hh7 := hh6.below hb7
               have hB7 := own_below hB6 hb7)
            | (go_at_call 16; refine (hsC w4 hh4).mono ?_; rintro e w5 ⟨ao5, cap5, rfl, ho5, hb5⟩
               have hh5 := hh4.below hb5
               have hA5 := own_below hA4 hb5
               have hB5 := own_below hB4 hb5)
            | (go_at_call 16; refine (hsB w2 hh2).mono ?_; rintro e w3 ⟨ao3, cap3, rfl, hB3, hb3⟩
               have hh3 := hh2.below hb3
               have hA3 := own_below hA2 hb3)
            | (go_at_call 16; refine (hsA wr hh).mono ?_; rintro e w2 ⟨ao2, cap2, rfl, hA2, hb2⟩
               have hh2 := hh.below hb2)
            | (go_at_call 21; refine (htr2 w8 hh8).mono ?_; rintro e w9 ⟨rfl, hT9⟩)
            | (go_at_call 21; refine (htr1 w3 hh3).mono ?_; rintro e w4 ⟨rfl, hh4, hT4⟩
               have hA4 := pr_turn hT4 hA3
               have hB4 := pr_turn hT4 hB3)
            | (go_at_call 19; refine (hp2 w7 ao3 cap3 ao7 cap7 _ _ hB7 ho7).mono ?_; rintro e w8 ⟨rfl, hb8⟩
               have hh8 := hh7.below hb8)
            | (go_at_call 19; refine (hp1 w5 ao2 cap2 ao5 cap5 _ _ hA5 ho5).mono ?_; rintro e w6 ⟨rfl, hb6⟩
               have hh6 := hh5.below hb6
               have hB6 := own_below hB5 hb6)
            | (go_at_call 20; refine (hsz2 w8 hh8).mono ?_; rintro e wn ⟨rfl, hq⟩; have hq' := hq.symm; clear hq; subst hq')
            | (go_at_call 20; refine hsz1.mono ?_; rintro e wn ⟨rfl, hq⟩; have hq' := hq.symm; clear hq; subst hq')
            | (go_at_call 10; refine (haw w9).mono ?_; rintro e wa ⟨rfl, hba⟩))
          go_ret
          have b3 := below_next (below_next hb (Nat.le_refl _) hb2) (Nat.le_refl _) hb3
          have b4 := b3.trans hT4.below
          have b8 := below_next (below_next (below_next (below_next b4 (Nat.le_refl _) hb5) (Nat.le_refl _) hb6) (Nat.le_refl _) hb7) (Nat.le_refl _) hb8
          exact ⟨rfl, below_next (b8.trans hT9.below) (Nat.le_refl _) hba⟩
  · have hhv := heavy_yes l0 hL ao0 cap0 w hl0
    go_enter Try.func5, Try.ntmps5
    go_wp2_with (first
      | (go_at_call 9; refine hhv.mono ?_; rintro e wn ⟨rfl, hq⟩; have hq' := hq.symm; clear hq; subst hq')
      | (go_at_call 10; refine (haw w).mono ?_; rintro e wa ⟨rfl, hba⟩))
    go_ret
    exact ⟨rfl, hba⟩

set_option maxRecDepth 100000 in
theorem lifted (os : Os) (started : os.Started) (H : Type) (enc : TypeId × Value → H) :
    ReturnsInHanded {} Try.checked os 5 .any (Rows.storeTrimsSpec.pre6 enc Try.prog Try.f5 Rows.storeTrimsRow.domain false) (Rows.storeTrimsSpec.post enc Try.prog Try.f5 false true false false) := by
  refine returnsInHanded_of_change (C := Try.checked) own started (by kernel_rfl) Try.func5
    (ChangeSpec.witness6 (enc := enc) (C := Try.checked) false ⟨#[], #[.slice none 0 0, .int .i64 0, .int .i64 0], []⟩ 8 (by kernel_rfl) (by kernel_rfl) (by kernel_rfl) (by kernel_rfl)) ?_
  intro W base args ds gs before hval0 hW hcnd _
  have hval : ∀ (j : Nat) t v, Try.f5.params[j]? = some t → args[j]? = some v → Value.okWide Try.prog W .any base t v := hval0
  have hW' := hW
  have hWk := hW
  obtain ⟨p, q, hA0, hV, rfl, hfz, hnd⟩ := hW
  have hA : DataW.TrodAll enc Try.prog W 0 (fun _ => true) true Try.f5.params.toList args.toList ds p := hA0
  rw [Try.params5] at hA hval
  obtain ⟨v0, vs0, d0, ds0, p0, q0, hargs, rfl, rfl, h0, r0⟩ := trodAll_cons hA
  obtain ⟨v1, vs1, d1, ds1, p1, q1, rfl, rfl, rfl, h1, r1⟩ := trodAll_cons r0
  obtain ⟨v2, vs2, d2, ds2, p2, q2, rfl, rfl, rfl, h2, r2⟩ := trodAll_cons r1
  obtain ⟨rfl, rfl, rfl⟩ := trodAll_nil r2
  obtain rfl : args = #[v0, v1, v2] := by cases args; simp_all
  obtain ⟨rfl, rfl⟩ := trodVars_none hV
  have hk0 := h0
  obtain ⟨ao0, cap0, l0, rfl, hlies0⟩ := open_acts8 (hval 0 22 v0 rfl rfl) h0
  have hlt0 : ∀ x ∈ p0, x.block < W.heap.size := fun x hx => by simpa using hWk.lt x (by simp [hx])
  obtain ⟨a1, rfl, rfl, rfl, wa1⟩ := open_int Try.underlying3 (hval 1 3 v1 rfl rfl) h1
  have ba1 := bounds_i64 wa1
  obtain ⟨a2, rfl, rfl, rfl, wa2⟩ := open_int Try.underlying3 (hval 2 3 v2 rfl rfl) h2
  have ba2 := bounds_i64 wa2
  clear hA0 hval0
  simp only [List.append_nil] at hW'

  refine (walk ao0 cap0 l0 a1 (by omega) a2 (by omega) W hlies0).mono fun e W' ⟨he, hg⟩ => ?_
  subst he
  exact ⟨_, rfl, _, _, _, [], _, [], hW', trodAll_cons_mk (shut_bool Try.underlying4 _) trodAll_mk0, (trodAll_cons_mk (Below.trod Try.laidOut (by kernel_rfl) (of_decide_eq_true (by kernel_rfl)) hk0 hg hlt0) (trodAll_cons_mk (shut_int Try.underlying3 wa1) (trodAll_cons_mk (shut_int Try.underlying3 wa2) trodAll_mk0))), rfl, hg.frame _, fun h => by cases h⟩

theorem over : Rows.storeTrimsRow.holds Try.pinned (OpenSpec.ofChange Rows.storeTrimsSpec) :=
  OpenClaim.holds_of_wide 5 Try.f5 rfl rfl rfl rfl rfl rfl rfl ⟨rfl, rfl, rfl, rfl, rfl⟩ rfl rfl rfl rfl rfl (by kernel_rfl) Try.func5 (by kernel_rfl)
    (of_decide_eq_true (by kernel_rfl)) (by unfold Func.isWrapper; first | (rw [if_pos (by decide +kernel)]; kernel_rfl) | (rw [if_neg (by decide +kernel)]; exact ⟨rfl, rfl⟩))
    (fun os started H enc _ => lifted os started H enc)

theorem proved : Rows.StoreTrimsSaid :=
  over
#print axioms proved
end Go.Proofs.Ytgldgedbinbigaa.storeTrims
