/-
  What a transaction read is all that can hinder it: a change of any other key does not touch its keys and ranges, a change of one that it read, or found, does: for every store of pairs, all gets and scans, every key.
-/
import Derived.Test.YtdmkmhjalcfchaaRows
import Derived.Test.YtdmkmhjalcfchaaTxT
import Derived.WalkKit
import Derived.ProofKit
import Derived.OpenShut
import Derived.ShutString
import Derived.Lib.SmallJoins
import Derived.Deep.QuietTactic
import Derived.BigRegion
namespace Go.Proofs.Ytdmkmhjalcfchaa.txnNotes
open Go.ChangeShapes Go.WideShapes Go.ChangeAt Go.RowKit Go.Joins Num
open Go.ChangeMaps (open_string shut_string)
set_option linter.unusedVariables false
set_option maxRecDepth 100000

theorem own : ownKnob Try.prog.godebug = none := by kernel_rfl
theorem drewN_drewN (w : World) (a b : Nat) : (w.drewN a).drewN b = w.drewN (a + b) := by
  induction b with
  | zero => rfl
  | succ b ih =>
    show ((w.drewN a).drewN b).drew = (w.drewN (a + b)).drew
    rw [ih]
set_option maxRecDepth 100000 in
set_option maxHeartbeats 4000000 in

theorem walk (ao0 : Option Addr) (cap0 : Nat) (l0 : List Pr) (ao1 : Option Addr) (cap1 : Nat) (l1 : List A15) (s2 : ByteArray) (ws2 : s2.size ≤ maxLen) (w : World) (hl0 : LiesPr w w.heap.size ao0 l0) (hl1 : LiesA15 w w.heap.size ao1 l1) :
    Calls Try.prog 6 #[.slice ao0 l0.length cap0, .slice ao1 l1.length cap1, .string s2] w fun e w' => e = .returned (.bool true) ∧ Below w.heap.size w w' := by
  by_cases hlight : Light15 l1
  · have hheavy := heavy15_no l1 hlight ao1 cap1 w hl1
    by_cases hk : (500 : Int) < (s2.size : Int)
    · clear hl0 hl1
      go_enter Try.func6, Try.ntmps6
      go_wp2_with (first
        | (go_at_call 9; refine (awake15_any _).mono ?_; rintro e w5 ⟨rfl, hb5⟩)
        | (go_at_call 8; refine hheavy.mono ?_; rintro e wn ⟨rfl, hq⟩; have hq' := hq.symm; clear hq; subst hq'))
      go_ret
      exact ⟨rfl, hb5⟩
    · have hk2 : decide ((500 : Int) < (s2.size : Int)) = false := decide_eq_false hk
      have hboth := both_any l0 ao0 cap0 w hl0
      have hnew := note_new l0 s2
      have hput := fun (B2 gr : Nat) w1 (h : HoldR B2 w1 gr (bothS l0)) => note_put l0 s2 B2 gr w1 h
      have hlen := hlight.1
      have HS : Hid (∀ x ∈ l1, x.key.size ≤ 500 ∧ x.val.size ≤ 500) := hlight.2
      clear hlight hl0
      generalize bothS l0 = st at *
      go_enter Try.func6, Try.ntmps6
      go_wp2_with (first
        | (go_at_call 11; refine (hnew gs B1 w2 hP).mono ?_; rintro e w4 ⟨rfl, hb4, hN4⟩)
        | (go_at_call 10; refine hboth.mono ?_; rintro e w2 ⟨gs, gr, rfl, ⟨B1, hP⟩, ⟨B2, hR2, hB2⟩, hbw2⟩)
        | (go_at_call 8; refine hheavy.mono ?_; rintro e wn ⟨rfl, hq⟩; have hq' := hq.symm; clear hq; subst hq'))
      have hbase : w.heap.size ≤ w2.heap.size := hbw2.size
      clear hnew hheavy hboth hP
      go_loopw [10, 11] (fun rd i wr => ∃ (c : Nat) (b : Bool), c ≤ l1.length ∧ i = .int .i64 (c : Int) ∧ rd = .bool b ∧ Below w2.heap.size w2 wr ∧ NoteS w2.heap.size wr w2.heap.size (some gs) st c s2 b) (fun _ i _ => l1.length - (intOf i).toNat)
      case atStart => exact ⟨0, false, by omega, rfl, rfl, hb4, hN4⟩
      case round =>
        obtain ⟨c, b, hc, rfl, rfl, hbel, hNS⟩ := hrel
        have hsz := hbel.size
        clear hN4 hb4
        by_cases hcl : (c : Int) < (l1.length : Int)
        · have HX : Hid (l1[c]? = some (l1[c]'(by omega))) := List.getElem?_eq_getElem _
          obtain ⟨a, rfl, hblk, d0, d1, d2, d3⟩ := hl1 c _ HX.out
          have hxs := HS.out _ (List.mem_of_getElem? HX.out)
          clear HX
          generalize (l1[c]'(by omega)) = x at *
          obtain ⟨op, n, key, val⟩ := x
          simp only at d0 d1 d2 d3 hxs
          have hk9 : key.size ≤ 900000 := by omega
          have hblk4 : (a.add (c * 4)).block < w.heap.size := by rw [Addr.block_add]; exact hblk
          have h0 := hbw2.trans (hbel.mono hbase)
          have e0 := (h0.cell hblk4).trans d0
          have e1 := (h0.cell (p := ⟨(a.add (c * 4)).block, (a.add (c * 4)).off + 1, none⟩) hblk4).trans d1
          have e2 := (h0.cell (p := ⟨(a.add (c * 4)).block, (a.add (c * 4)).off + 2, none⟩) hblk4).trans d2
          have e3 := (h0.cell (p := ⟨(a.add (c * 4)).block, (a.add (c * 4)).off + 3, none⟩) hblk4).trans d3
          clear d0 d1 d2 d3 hblk hblk4 h0 HS hput hl1 hR2
          by_cases h2 : op = 2
          · subst h2
            by_cases hn : n < 1
            · cases b with
              | true =>
                have hbx : Below wr.heap.size wr (wr.alloc (.cells #[.int .i64 2, .int .i64 n, .string key, .string val] 35)) := (Below.refl _ wr).alloc (Nat.le_refl _) _
                have hsn := tscan_no w2.heap.size key val n hn (wr.alloc (.cells #[.int .i64 2, .int .i64 n, .string key, .string val] 35))
                have hz : ¬ 0 < n := by omega
                have hzd : decide (0 < n) = false := decide_eq_false hz
                go_wp2_with (first
                  | (go_at_call 16; refine hsn.mono ?_; rintro e wn ⟨rfl, hq⟩; have hq' := hq.symm; clear hq; subst hq'))
                go_roundw
                case rel => exact ⟨c + 1, true, by omega, by go_num, rfl, below_next hbel (Nat.le_refl _) hbx, (hNS.below hbx).more⟩
                case measure => simp [intOf]; omega
              | false =>
                have hbx : Below wr.heap.size wr (wr.alloc (.cells #[.int .i64 2, .int .i64 n, .string key, .string val] 35)) := (Below.refl _ wr).alloc (Nat.le_refl _) _
                have hsn := tscan_no w2.heap.size key val n hn (wr.alloc (.cells #[.int .i64 2, .int .i64 n, .string key, .string val] 35))
                have hz : ¬ 0 < n := by omega
                have hzd : decide (0 < n) = false := decide_eq_false hz
                go_wp2_with (first
                  | (go_at_call 16; refine hsn.mono ?_; rintro e wn ⟨rfl, hq⟩; have hq' := hq.symm; clear hq; subst hq'))
                go_roundw
                case rel => exact ⟨c + 1, false, by omega, by go_num, rfl, below_next hbel (Nat.le_refl _) hbx, (hNS.below hbx).more⟩
                case measure => simp [intOf]; omega
            · cases b with
              | true =>
                have hn1 : 1 ≤ n := by omega
                have hnp : 0 < n := by omega
                have hbx : Below wr.heap.size wr (wr.alloc (.cells #[.int .i64 2, .int .i64 n, .string key, .string val] 35)) := (Below.refl _ wr).alloc (Nat.le_refl _) _
                have hsn := note_scanC hNS hbx (by omega) key val n hn1
                have b1 : (wr.alloc (.cells #[.int .i64 2, .int .i64 n, .string key, .string val] 35)).cell? ⟨wr.heap.size, 1, none⟩ = some (.int .i64 n) := box_cell (heap_new wr _) 1 _ rfl
                have b2 : (wr.alloc (.cells #[.int .i64 2, .int .i64 n, .string key, .string val] 35)).cell? ⟨wr.heap.size, 2, none⟩ = some (.string key) := box_cell (heap_new wr _) 2 _ rfl
                have b3 : (wr.alloc (.cells #[.int .i64 2, .int .i64 n, .string key, .string val] 35)).cell? ⟨wr.heap.size, 3, none⟩ = some (.string val) := box_cell (heap_new wr _) 3 _ rfl
                have hz1 : (⟨#[0]⟩ : ByteArray).size = 1 := rfl
                have HNS : Hid _ := hNS
                clear hNS
                go_wp2_with (first
                  | (go_at_call 16; refine hsn.mono ?_; rintro e w3 ⟨told, ao3, cap3, rfl, hl3, hks3, hlen3, hr3, hNS3⟩
                     have q1 := hr3.2 ⟨wr.heap.size, 1, none⟩ _ (Nat.le_refl _) b1
                     have q2 := hr3.2 ⟨wr.heap.size, 2, none⟩ _ (Nat.le_refl _) b2
                     have q3 := hr3.2 ⟨wr.heap.size, 3, none⟩ _ (Nat.le_refl _) b3
                     have hbw3 : Below w2.heap.size w2 w3 := (below_next hbel (Nat.le_refl _) hbx).trans hr3.1
                     clear b1 b2 b3 hsn hr3
                     by_cases hN : (told.length : Int) = n <;> first
                       | (obtain ⟨m, hm⟩ : ∃ m, told.length = m + 1 := ⟨told.length - 1, by omega⟩
                          have hml : m < told.length := by omega
                          have hx : told[m]? = some told[m] := List.getElem?_eq_getElem hml
                          obtain ⟨a3, rfl, _, y0, _⟩ := hl3 m _ hx
                          have hkk := hks3 told[m] (List.getElem_mem hml)
                          rw [seenR_last hN hm hx] at hNS3
                          simp only [zeroB] at hNS3
                          generalize told[m] = y at *
                          subst hN
                          generalize told.length = L at *
                          have hmm : (L : Int) - 1 = (m : Int) := by omega
                          have hmi : (m : Int) < (L : Int) := by omega
                          have HNS3 : Hid _ := hNS3
                          clear hx hks3 hl3 hm hNS3)
                       | (rw [seenR_few hN] at hNS3
                          have hNe : ((told.length : Int) == n) = false := by simpa using hN
                          have HNS3 : Hid _ := hNS3
                          clear hNS3 hl3 hks3)))
                all_goals go_roundw
                all_goals first
                  | exact ⟨c + 1, _, by omega, by go_num, rfl, hbw3, HNS3.out⟩
                  | (simp [intOf]; omega)
              | false =>
                have hn1 : 1 ≤ n := by omega
                have hnp : 0 < n := by omega
                have hbx : Below wr.heap.size wr (wr.alloc (.cells #[.int .i64 2, .int .i64 n, .string key, .string val] 35)) := (Below.refl _ wr).alloc (Nat.le_refl _) _
                have hsn := note_scanC hNS hbx (by omega) key val n hn1
                have b1 : (wr.alloc (.cells #[.int .i64 2, .int .i64 n, .string key, .string val] 35)).cell? ⟨wr.heap.size, 1, none⟩ = some (.int .i64 n) := box_cell (heap_new wr _) 1 _ rfl
                have b2 : (wr.alloc (.cells #[.int .i64 2, .int .i64 n, .string key, .string val] 35)).cell? ⟨wr.heap.size, 2, none⟩ = some (.string key) := box_cell (heap_new wr _) 2 _ rfl
                have b3 : (wr.alloc (.cells #[.int .i64 2, .int .i64 n, .string key, .string val] 35)).cell? ⟨wr.heap.size, 3, none⟩ = some (.string val) := box_cell (heap_new wr _) 3 _ rfl
                have hz1 : (⟨#[0]⟩ : ByteArray).size = 1 := rfl
                have HNS : Hid _ := hNS
                clear hNS
                go_wp2_with (first
                  | (go_at_call 16; refine hsn.mono ?_; rintro e w3 ⟨told, ao3, cap3, rfl, hl3, hks3, hlen3, hr3, hNS3⟩
                     have q1 := hr3.2 ⟨wr.heap.size, 1, none⟩ _ (Nat.le_refl _) b1
                     have q2 := hr3.2 ⟨wr.heap.size, 2, none⟩ _ (Nat.le_refl _) b2
                     have q3 := hr3.2 ⟨wr.heap.size, 3, none⟩ _ (Nat.le_refl _) b3
                     have hbw3 : Below w2.heap.size w2 w3 := (below_next hbel (Nat.le_refl _) hbx).trans hr3.1
                     clear b1 b2 b3 hsn hr3
                     by_cases hN : (told.length : Int) = n <;> first
                       | (obtain ⟨m, hm⟩ : ∃ m, told.length = m + 1 := ⟨told.length - 1, by omega⟩
                          have hml : m < told.length := by omega
                          have hx : told[m]? = some told[m] := List.getElem?_eq_getElem hml
                          obtain ⟨a3, rfl, _, y0, _⟩ := hl3 m _ hx
                          have hkk := hks3 told[m] (List.getElem_mem hml)
                          rw [seenR_last hN hm hx] at hNS3
                          simp only [zeroB] at hNS3
                          generalize told[m] = y at *
                          subst hN
                          generalize told.length = L at *
                          have hmm : (L : Int) - 1 = (m : Int) := by omega
                          have hmi : (m : Int) < (L : Int) := by omega
                          have HNS3 : Hid _ := hNS3
                          clear hx hks3 hl3 hm hNS3)
                       | (rw [seenR_few hN] at hNS3
                          have hNe : ((told.length : Int) == n) = false := by simpa using hN
                          have HNS3 : Hid _ := hNS3
                          clear hNS3 hl3 hks3))
                  | (go_at_call 27; refine (within_any _ _ _ _).mono ?_; rintro e wn ⟨rfl, hq⟩; have hq' := hq.symm; clear hq; subst hq'))
                all_goals go_roundw
                all_goals first
                  | exact ⟨c + 1, _, by omega, by go_num, rfl, hbw3, HNS3.out⟩
                  | (simp [intOf]; omega)
          · have h2b : (op == 2) = false := by simpa using h2
            cases b with
            | true =>
              have hbx : Below wr.heap.size wr (wr.alloc (.cells #[.int .i64 op, .int .i64 n, .string key, .string val] 35)) := (Below.refl _ wr).alloc (Nat.le_refl _) _
              have hgt := note_getC hNS hbx (by omega) key hk9
              have b2 : (wr.alloc (.cells #[.int .i64 op, .int .i64 n, .string key, .string val] 35)).cell? ⟨wr.heap.size, 2, none⟩ = some (.string key) := box_cell (heap_new wr _) 2 _ rfl
              have HNS : Hid _ := hNS
              clear hNS
              go_wp2_with (first
                | (go_at_call 13; refine hgt.mono ?_; rintro e w3 ⟨s3, c3, rfl, hr3, hNS3⟩
                   have q2 := hr3.2 ⟨wr.heap.size, 2, none⟩ _ (Nat.le_refl _) b2
                   have hbw3 : Below w2.heap.size w2 w3 := (below_next hbel (Nat.le_refl _) hbx).trans hr3.1
                   have HNS3 : Hid _ := hNS3
                   clear hNS3 b2 hgt))
              go_roundw
              case rel => exact ⟨c + 1, _, by omega, by go_num, rfl, hbw3, HNS3.out⟩
              case measure => simp [intOf]; omega
            | false =>
              have hbx : Below wr.heap.size wr (wr.alloc (.cells #[.int .i64 op, .int .i64 n, .string key, .string val] 35)) := (Below.refl _ wr).alloc (Nat.le_refl _) _
              have hgt := note_getC hNS hbx (by omega) key hk9
              have b2 : (wr.alloc (.cells #[.int .i64 op, .int .i64 n, .string key, .string val] 35)).cell? ⟨wr.heap.size, 2, none⟩ = some (.string key) := box_cell (heap_new wr _) 2 _ rfl
              have HNS : Hid _ := hNS
              clear hNS
              go_wp2_with (first
                | (go_at_call 13; refine hgt.mono ?_; rintro e w3 ⟨s3, c3, rfl, hr3, hNS3⟩
                   have q2 := hr3.2 ⟨wr.heap.size, 2, none⟩ _ (Nat.le_refl _) b2
                   have hbw3 : Below w2.heap.size w2 w3 := (below_next hbel (Nat.le_refl _) hbx).trans hr3.1
                   have HNS3 : Hid _ := hNS3
                   clear hNS3 b2 hgt))
              go_roundw
              case rel => exact ⟨c + 1, _, by omega, by go_num, rfl, hbw3, HNS3.out⟩
              case measure => simp [intOf]; omega
        · obtain rfl : c = l1.length := by omega
          have hcl' : decide ((l1.length : Int) < (l1.length : Int)) = false := decide_eq_false (by omega)
          have hcm := note_cmd hNS (by omega)
          have hRw := hR2.below hbel
          have hbw0 := hbw2.trans (hbel.mono hbase)
          have HNS : Hid _ := hNS
          clear hNS HS hl1
          go_wp2_with (first
            | (go_at_call 23; refine hcm.mono ?_; rintro e w5 ⟨K, R, ko, ro, wo, kc, rc, wn, wc, rfl, hKR, hKl, hRl, hrK, hrR, hb5⟩
               have hputx := hput B2 gr (w5.alloc (.cells #[.int .i64 0, .int .i64 0, .int .i64 0, .int .i64 1000, .slice ko K.length kc, .slice ro R.length rc, .slice wo wn wc, .int .i64 0, .int .i64 0, .int .i64 0, .string ⟨#[]⟩, .int .i64 0, .slice none 0 0] 48)) ((hRw.below hb5).below ((Below.refl _ w5).alloc (Nat.le_refl _) _))
               have hbx5 := heap_new w5 (.cells #[.int .i64 0, .int .i64 0, .int .i64 0, .int .i64 1000, .slice ko K.length kc, .slice ro R.length rc, .slice wo wn wc, .int .i64 0, .int .i64 0, .int .i64 0, .string ⟨#[]⟩, .int .i64 0, .slice none 0 0] 48)
               have hbw5 : Below w.heap.size w (w5.alloc (.cells #[.int .i64 0, .int .i64 0, .int .i64 0, .int .i64 1000, .slice ko K.length kc, .slice ro R.length rc, .slice wo wn wc, .int .i64 0, .int .i64 0, .int .i64 0, .string ⟨#[]⟩, .int .i64 0, .slice none 0 0] 48)) := below_next (below_next hbw0 (Nat.le_refl _) hb5) (Nat.le_refl _) ((Below.refl _ w5).alloc (Nat.le_refl _) _)
               have hrK5 := hrK.alloc (.cells #[.int .i64 0, .int .i64 0, .int .i64 0, .int .i64 1000, .slice ko K.length kc, .slice ro R.length rc, .slice wo wn wc, .int .i64 0, .int .i64 0, .int .i64 0, .string ⟨#[]⟩, .int .i64 0, .slice none 0 0] 48)
               have hrR5 := hrR.alloc (.cells #[.int .i64 0, .int .i64 0, .int .i64 0, .int .i64 1000, .slice ko K.length kc, .slice ro R.length rc, .slice wo wn wc, .int .i64 0, .int .i64 0, .int .i64 0, .string ⟨#[]⟩, .int .i64 0, .slice none 0 0] 48)
               clear hrK hrR hcm hput)
            | (go_at_call 28; refine hputx.mono ?_; rintro e w7 ⟨n7, rfl, ⟨st2, hR7, hl7, hlast, hsince⟩, hT7⟩
               have hbx7 := hT7.keep _ _ hbx5 ⟨by decide, by decide⟩
               have hrK7 := row_turn hT7 hrK5 (by decide) (by decide)
               have hrR7 := row_turn hT7 hrR5 (by decide) (by decide)
               have hbw7 : Below w.heap.size w w7 := hbw5.trans (hT7.below.mono hB2)
               have z4 := box_cell hbx7 4 _ rfl
               have z5 := box_cell hbx7 5 _ rfl
               clear hbx5 hbx7 hrK5 hrR5 hbw5 hputx hT7))
          obtain ⟨_, _, eK, hlK⟩ := own_liesS hrK7
          cases eK
          obtain ⟨_, _, eR, hlR⟩ := own_liesQ hrR7
          cases eR
          have HKR : Hid ((K.any (fun y => y.toList == s2.toList) || R.any (fun g => withinB s2 g.lo g.hi)) = b) := hKR
          have HLAST : Hid (∀ x, decide (1000 < lastT st2.vs x) = (x.toList == s2.toList)) := hlast
          have HSINCE : Hid (∀ lo hi, sinceV st2.vs lo hi 1000 = withinB s2 lo hi) := hsince
          have hLst := fun x => rlastT_any B2 gr st2 x (by omega) w7 hR7
          have hSnc := fun (q : Nat) lo hi => rsince_any B2 gr st2 lo hi 1000 (by omega) (w7.drewN q) (hR7.below (below_drewN (Below.refl _ w7) q))
          clear hrK7 hrR7 hKR hlast hsince hRw hbel hR7 hb5
          go_loopw [16, 17] (fun tc i wr => ∃ c : Nat, c ≤ K.length ∧ i = .int .i64 (c : Int) ∧ wr = w7 ∧ tc = .bool ((K.take c).any (fun y => y.toList == s2.toList))) (fun _ i _ => K.length - (intOf i).toNat)
          case atStart => exact ⟨0, by omega, rfl, rfl, rfl⟩
          case round =>
            obtain ⟨c, hc, rfl, hwr, rfl⟩ := hrel
            have hwr' := hwr.symm
            clear hwr
            subst hwr'
            by_cases hcl : (c : Int) < (K.length : Int)
            · have HX : Hid (K[c]? = some (K[c]'(by omega))) := List.getElem?_eq_getElem _
              obtain ⟨a, rfl, _, y0⟩ := hlK c _ HX.out
              rw [Nat.mul_one] at y0
              unfold TxtAt at y0
              have hstep : (K.take (c + 1)).any (fun y => y.toList == s2.toList) = ((K.take c).any (fun y => y.toList == s2.toList) || ((K[c]'(by omega)).toList == s2.toList)) := by
                rw [take_succ_at HX.out, List.any_append]
                simp
              have hlx := HLAST.out (K[c]'(by omega))
              have hcx := hLst (K[c]'(by omega))
              clear HX
              generalize (K[c]'(by omega)) = y at *
              generalize (K.take c).any (fun y => y.toList == s2.toList) = t0 at *
              generalize lastT st2.vs y = LT at *
              have HSTEP : Hid ((K.take (c + 1)).any (fun y => y.toList == s2.toList) = (t0 || (y.toList == s2.toList))) := hstep
              have HLX : Hid (decide (1000 < LT) = (y.toList == s2.toList)) := hlx
              clear hstep hlx
              cases t0 with
              | true =>
                go_wp2
                go_roundw
                case rel => exact ⟨c + 1, by omega, by go_num, by first | rfl | trivial, by rw [HSTEP.out]; rfl⟩
                case measure => simp [intOf]; omega
              | false =>
                go_wp2_with (first
                  | (go_at_call 29; refine hcx.mono ?_; rintro e wn ⟨rfl, hq⟩; have hq' := hq.symm; clear hq; subst hq'))
                go_roundw
                case rel => exact ⟨c + 1, by omega, by go_num, by first | rfl | trivial, by rw [HSTEP.out, ← HLX.out]; simp⟩
                case measure => simp [intOf]; omega
            · obtain rfl : c = K.length := by omega
              rw [List.take_length]
              have hcl' : decide ((K.length : Int) < (K.length : Int)) = false := decide_eq_false (by omega)
              clear hLst HLAST hlK
              generalize K.any (fun y => y.toList == s2.toList) = kb at *
              go_wp2
              go_loopw [16, 18] (fun tc i wr => ∃ c : Nat, c ≤ R.length ∧ i = .int .i64 (c : Int) ∧ (∃ q, wr = w7.drewN q) ∧ tc = .bool (kb || (R.take c).any (fun g => withinB s2 g.lo g.hi))) (fun _ i _ => R.length - (intOf i).toNat)
              case atStart => exact ⟨0, by omega, rfl, ⟨0, rfl⟩, by simp⟩
              case round =>
                obtain ⟨c, hc, rfl, ⟨q, rfl⟩, rfl⟩ := hrel
                by_cases hcl : (c : Int) < (R.length : Int)
                · have HX : Hid (R[c]? = some (R[c]'(by omega))) := List.getElem?_eq_getElem _
                  obtain ⟨a, rfl, _, y0, y1⟩ := hlR c _ HX.out
                  have hstep : (kb || (R.take (c + 1)).any (fun g => withinB s2 g.lo g.hi)) = ((kb || (R.take c).any (fun g => withinB s2 g.lo g.hi)) || withinB s2 (R[c]'(by omega)).lo (R[c]'(by omega)).hi) := by
                    rw [take_succ_at HX.out, List.any_append, Bool.or_assoc]
                    simp
                  have hcx := fun q2 => hSnc q2 (R[c]'(by omega)).lo (R[c]'(by omega)).hi
                  rw [HSINCE.out] at hcx
                  clear HX
                  generalize (R[c]'(by omega)) = y at *
                  generalize (kb || (R.take c).any (fun g => withinB s2 g.lo g.hi)) = t0 at *
                  generalize withinB s2 y.lo y.hi = wb at *
                  have HSTEP : Hid _ := hstep
                  clear hstep
                  have v5 : (w7.drewN q).cell? ⟨w5.heap.size, 5, none⟩ = some (.slice (some a) R.length rc) := z5
                  have v0 : (w7.drewN q).cell? (a.add (c * 2)) = some (.string y.lo) := y0
                  have v1 : (w7.drewN q).cell? ⟨(a.add (c * 2)).block, (a.add (c * 2)).off + 1, none⟩ = some (.string y.hi) := y1
                  obtain ⟨Y, hY⟩ : ∃ Y, w7.drewN q = Y := ⟨_, rfl⟩
                  have hcy : ∀ m, Calls Try.prog 30 #[.pointer (some ⟨gr, 0, none⟩), .string y.lo, .string y.hi, .int .i64 1000] (Y.drewN m) fun e w' => e = .returned (.bool wb) ∧ w' = Y.drewN m := fun m => by
                    rw [← hY, drewN_drewN]
                    exact hcx _
                  have HYD : Hid (∀ m, ∃ q2, Y.drewN m = w7.drewN q2) := fun m => ⟨_, by rw [← hY, drewN_drewN]⟩
                  have HY0 : Hid (∃ q2, Y = w7.drewN q2) := ⟨q, hY.symm⟩
                  rw [hY] at v5 v0 v1 ⊢
                  clear hY hcx z4 z5 y0 y1
                  cases t0 with
                  | true =>
                    go_wp2_with fail
                    go_quiet (fail)
                    go_wp2
                    go_roundw
                    case rel => exact ⟨c + 1, by omega, by go_num, HYD.out _, by rw [HSTEP.out]; rfl⟩
                    case measure => simp [intOf]; omega
                  | false =>
                    go_wp2_with fail
                    go_quiet (first | (go_at_call 30; refine Calls.quiet_of_same (hcy _)))
                    go_wp2
                    go_roundw
                    case rel => exact ⟨c + 1, by omega, by go_num, HYD.out _, by rw [HSTEP.out]; rfl⟩
                    case measure => simp [intOf]; omega
                · obtain rfl : c = R.length := by omega
                  rw [List.take_length, HKR.out]
                  have hcl' : decide ((R.length : Int) < (R.length : Int)) = false := decide_eq_false (by omega)
                  have hbe : (b == b) = true := by simp
                  have hbwq : Below w.heap.size w (w7.drewN q) := below_drewN hbw7 q
                  have v5 : (w7.drewN q).cell? ⟨w5.heap.size, 5, none⟩ = some (.slice ro R.length rc) := z5
                  generalize w7.drewN q = Y at *
                  clear z4 z5 hSnc HSINCE hlR
                  go_wp2_with (first
                    | (go_at_call 9; refine (awake15_any _).mono ?_; rintro e w10 ⟨rfl, hb10⟩
                       have hw10 := below_next hbwq (Nat.le_refl _) hb10))
                  go_ret
                  exact ⟨rfl, hw10⟩
  · have hheavy := heavy15_yes l1 hlight ao1 cap1 w hl1
    clear hl0 hl1
    go_enter Try.func6, Try.ntmps6
    go_wp2_with (first
      | (go_at_call 9; refine (awake15_any _).mono ?_; rintro e w5 ⟨rfl, hb5⟩)
      | (go_at_call 8; refine hheavy.mono ?_; rintro e wn ⟨rfl, hq⟩; have hq' := hq.symm; clear hq; subst hq'))
    go_ret
    exact ⟨rfl, hb5⟩

set_option maxRecDepth 100000 in
theorem lifted (os : Os) (started : os.Started) (H : Type) (enc : TypeId × Value → H) :
    ReturnsInHanded {} Try.checked os 6 .any (Rows.txnNotesSpec.pre6 enc Try.prog Try.f6 Rows.txnNotesRow.domain false) (Rows.txnNotesSpec.post enc Try.prog Try.f6 false true false false) := by
  refine returnsInHanded_of_change (C := Try.checked) own started (by kernel_rfl) Try.func6
    (ChangeSpec.witness6 (enc := enc) (C := Try.checked) false ⟨#[], #[.slice none 0 0, .slice none 0 0, .string ByteArray.empty], []⟩ 8 (by kernel_rfl) (by kernel_rfl) (by kernel_rfl) (by kernel_rfl)) ?_
  intro W base args ds gs before hval0 hW hcnd _
  have hval : ∀ (j : Nat) t v, Try.f6.params[j]? = some t → args[j]? = some v → Value.okWide Try.prog W .any base t v := hval0
  have hW' := hW
  have hWk := hW
  obtain ⟨p, q, hA0, hV, rfl, hfz, hnd⟩ := hW
  have hA : DataW.TrodAll enc Try.prog W 0 (fun _ => true) true Try.f6.params.toList args.toList ds p := hA0
  rw [Try.params6] at hA hval
  obtain ⟨v0, vs0, d0, ds0, p0, q0, hargs, rfl, rfl, h0, rt0⟩ := trodAll_cons hA
  obtain ⟨v1, vs1, d1, ds1, p1, q1, rfl, rfl, rfl, h1, rt1⟩ := trodAll_cons rt0
  obtain ⟨v2, vs2, d2, ds2, p2, q2, rfl, rfl, rfl, h2, rt2⟩ := trodAll_cons rt1
  obtain ⟨rfl, rfl, rfl⟩ := trodAll_nil rt2
  obtain rfl : args = #[v0, v1, v2] := by cases args; simp_all
  obtain ⟨rfl, rfl⟩ := trodVars_none hV
  have hk0 := h0
  obtain ⟨ao0, cap0, l0, rfl, hlies0⟩ := open_prs (hval 0 22 v0 rfl rfl) h0
  have hlt0 : ∀ x ∈ p0, x.block < W.heap.size := fun x hx => by simpa using hWk.lt x (by simp [hx])
  have hk1 := h1
  obtain ⟨ao1, cap1, l1, rfl, hlies1⟩ := open_acts15 (hval 1 23 v1 rfl rfl) h1
  have hlt1 : ∀ x ∈ p1, x.block < W.heap.size := fun x hx => by simpa using hWk.lt x (by simp [hx])
  obtain ⟨s2, rfl, rfl, rfl, ws2⟩ := open_string Try.underlying9 (hval 2 9 v2 rfl rfl) h2
  clear hA0 hval0
  simp only [List.append_nil] at hW'

  refine (walk ao0 cap0 l0 ao1 cap1 l1 s2 ws2 W hlies0 hlies1).mono fun e W' ⟨he, hg⟩ => ?_
  subst he
  exact ⟨_, rfl, _, _, _, [], _, [], hW', trodAll_cons_mk (shut_bool Try.underlying4 _) trodAll_mk0, (trodAll_cons_mk (Below.trod Try.laidOut (by kernel_rfl) (of_decide_eq_true (by kernel_rfl)) hk0 hg hlt0) (trodAll_cons_mk (Below.trod Try.laidOut (by kernel_rfl) (of_decide_eq_true (by kernel_rfl)) hk1 hg hlt1) (trodAll_cons_mk (shut_string Try.underlying9 ws2) trodAll_mk0))), rfl, hg.frame _, fun h => by cases h⟩

theorem over : Rows.txnNotesRow.holds Try.pinned (OpenSpec.ofChange Rows.txnNotesSpec) :=
  OpenClaim.holds_of_wide 6 Try.f6 rfl rfl rfl rfl rfl rfl rfl ⟨rfl, rfl, rfl, rfl, rfl⟩ rfl rfl rfl rfl rfl (by kernel_rfl) Try.func6 (by kernel_rfl)
    (of_decide_eq_true (by kernel_rfl)) (by unfold Func.isWrapper; first | (rw [if_pos (by decide +kernel)]; kernel_rfl) | (rw [if_neg (by decide +kernel)]; exact ⟨rfl, rfl⟩))
    (fun os started H enc _ => lifted os started H enc)

theorem proved : Rows.TxnNotesSaid :=
  over
#print axioms proved
end Go.Proofs.Ytdmkmhjalcfchaa.txnNotes
