/-
  What was there at a time stays there, whatever is put in behind it, for every acts and time.
-/
import Derived.Test.YtgldgedbinbigaaRows
import Derived.Test.YtgldgedbinbigaaSPstM
import Derived.Test.YtgldgedbinbigaaPCmp
import Derived.WalkKit
import Derived.ProofKit
import Derived.OpenShut
import Derived.ShutString
import Derived.Lib.SmallJoins
namespace Go.Proofs.Ytgldgedbinbigaa.storePast
open Go.ChangeShapes Go.WideShapes Go.ChangeAt Go.RowKit Go.Joins Num
open Go.ChangeMaps (open_string shut_string)
set_option linter.unusedVariables false

theorem own : ownKnob Try.prog.godebug = none := by kernel_rfl
open scoped Classical
theorem two_pairs (R : List Pr) (hR : R.length ≤ 1000) (W : World) (ao0 : Option Addr) (cap0 : Nat) (ao1 : Option Addr) (cap1 : Nat) (B0 B1 : Nat) (h0 : W.ownsRow B0 69 2 (.slice ao0 R.length cap0) R.length (prCells R)) (h1 : W.ownsRow B1 69 2 (.slice ao1 R.length cap1) R.length (prCells R)) :
    Calls Try.prog 19 #[.slice ao0 R.length cap0, .slice ao1 R.length cap1] W fun e w' => e = .returned (.bool true) ∧ Below W.heap.size W w' := by
  obtain ⟨a0, c0, e0, l0, _⟩ := own_lies h0
  obtain ⟨a1, c1, e1, l1, _⟩ := own_lies h1
  cases e0
  cases e1
  exact pairs_same ao0 ao1 cap0 cap1 R (by omega) W l0 l1
set_option maxRecDepth 100000 in
set_option maxHeartbeats 8000000 in

theorem walk (ao0 : Option Addr) (cap0 : Nat) (l0 : List A8) (a1 : Int) (ha1 : -9223372036854775808 ≤ a1 ∧ a1 ≤ 9223372036854775807) (w : World) (hl0 : LiesA8 w w.heap.size ao0 l0) :
    Calls Try.prog 4 #[.slice ao0 l0.length cap0, .int .i64 a1] w fun e w' => e = .returned (.bool true) ∧ Below w.heap.size w w' := by
  have haw := fun W => awake_any W
  by_cases hL : Light l0
  · have hhv := heavy_no l0 hL ao0 cap0 w hl0
    have hnew := new_yes 50 (by omega) (by omega) w
    have hL80 := hL.1
    go_enter Try.func4, Try.ntmps4
    go_wp2_with (first
      | (go_at_call 9; refine hhv.mono ?_; rintro e wn ⟨rfl, hq⟩; have hq' := hq.symm; clear hq; subst hq')
      | (go_at_call 11; refine hnew.mono ?_; rintro e w1 ⟨g, rfl, hh1, hb1⟩; clear hnew)
      | (go_at_call 13; refine (num_any _ _).mono ?_; rintro e wn ⟨rfl, hq⟩; have hq' := hq.symm; clear hq; subst hq'))
    go_loopw [7] (fun i wr => ∃ (c : Nat) (st : Sto), c ≤ l0.length ∧ i = .int .i64 (c : Int) ∧ HoldP w.heap.size wr g st ∧ st.vs.length ≤ c ∧ Below w.heap.size w wr) (fun i _ => l0.length - (intOf i).toNat)
    case atStart => exact ⟨0, ⟨50, 0, []⟩, by omega, rfl, hh1, Nat.le_refl _, hb1⟩
    case round =>
      obtain ⟨c, st, hc, rfl, hh, hlen, hb⟩ := hrel
      clear hh1 hb1 hhv
      by_cases hcl : c < l0.length
      · have HX : Hid (l0[c]? = some l0[c]) := List.getElem?_eq_getElem hcl
        obtain ⟨a, rfl, hblk, e0, e1, e2, e3, e4⟩ := (hl0.below A8At.fast hb) c l0[c] HX.out
        obtain ⟨hks, hvs⟩ := hL.2 l0[c] (List.getElem_mem hcl)
        generalize l0[c] = x at *
        have hbA1 : Below wr.heap.size wr (wr.alloc (boxA x)) := (Below.refl _ wr).alloc (Nat.le_refl _) _
        have hhA := hh.below hbA1
        have hbA := below_next hb (Nat.le_refl _) hbA1
        have kbA := heap_new wr (boxA x)
        clear haw HX
        by_cases hdo : (2 : Int) < x.op
        · have hdo2 : decide (x.op ≤ 2) = false := decide_eq_false (by omega)
          go_wp2
          go_roundw
          case rel => exact ⟨c + 1, st, by omega, by go_num, hhA, by omega, hbA⟩
          case measure => simp [intOf]; omega
        · have hdo2 : x.op ≤ 2 := by omega
          have hdo3 : decide ((2 : Int) < x.op) = false := decide_eq_false hdo
          by_cases ht : x.time ≤ a1
          · by_cases ht0 : (0 : Int) < x.time
            · have hput := sput_any w.heap.size g st x.time x.key x.val (key_small hks) (by omega) (wr.alloc (boxA x)) hhA
              have hpl := put_len st ⟨x.key, x.time, x.val, false⟩
              generalize putS st ⟨x.key, x.time, x.val, false⟩ = out at *
              go_wp2_with (first
                | (go_at_call 15; refine hput.mono ?_; rintro e w2 ⟨rfl, hh2, hT2⟩))
              go_roundw
              case rel => exact ⟨c + 1, out.2, by omega, by go_num, hh2, by omega, hbA.trans hT2.below⟩
              case measure => simp [intOf]; omega
            · have ht1 : decide ((0 : Int) < x.time) = false := decide_eq_false ht0
              go_wp2
              go_roundw
              case rel => exact ⟨c + 1, st, by omega, by go_num, hhA, by omega, hbA⟩
              case measure => simp [intOf]; omega
          · have ht1 : decide (x.time ≤ a1) = false := decide_eq_false ht
            have ht2 : a1 < x.time := by omega
            obtain ⟨r, hr⟩ := scan_exists hh a1 ⟨#[]⟩ ⟨#[]⟩
            have hrl := scan_few hr
            obtain ⟨R, hR⟩ : ∃ R, r.take (100 : Int).toNat = R := ⟨_, rfl⟩
            have hRl : R.length ≤ 1000 := by rw [← hR, List.length_take]; omega
            have hpairs := two_pairs R hRl
            have hscan : ∀ W, HoldP w.heap.size W g st → Calls Try.prog 16 #[.pointer (some ⟨g, 0, none⟩), .int .i64 a1, .string ⟨#[]⟩, .string ⟨#[]⟩, .int .i64 100] W fun e w' => ∃ ao' cap', e = .returned (.slice ao' R.length cap') ∧ w'.ownsRow W.heap.size 69 2 (.slice ao' R.length cap') R.length (prCells R) ∧ Below W.heap.size W w' := fun W h => by
              have := sscan_any w.heap.size g st a1 ⟨#[]⟩ ⟨#[]⟩ 100 (by omega) W h r hr
              rw [hR] at this
              exact this
            by_cases hd : x.op = 2
            · have hdA : decide (x.op = 2) = true := decide_eq_true hd
              have hdB : (x.op == 2) = true := by rw [hd]; rfl
              clear hd
              cases hlast : sinceV st.vs ⟨#[]⟩ ⟨#[]⟩ a1 with
              | true =>
                obtain ⟨st2, hst2⟩ : ∃ st2, st2 = (putS st ⟨x.key, x.time, ⟨#[]⟩, true⟩).2 := ⟨_, rfl⟩
                have hlen2 : st2.vs.length ≤ c + 1 := by rw [hst2]; have := put_len st ⟨x.key, x.time, ⟨#[]⟩, true⟩; omega
                have hput : ∀ W, HoldP w.heap.size W g st → Calls Try.prog 18 #[.pointer (some ⟨g, 0, none⟩), .int .i64 x.time, .string x.key] W fun e w' => ∃ n, e = .returned (.int .i64 n) ∧ HoldP w.heap.size w' g st2 ∧ TurnP w.heap.size W w' := fun W h => by
                  have := sdel_any w.heap.size g st x.time x.key (key_small hks) (by omega) W h
                  rw [← hst2] at this
                  exact this.mono fun e w' h => ⟨_, h⟩
                have hscan2 : ∀ W, HoldP w.heap.size W g st2 → Calls Try.prog 16 #[.pointer (some ⟨g, 0, none⟩), .int .i64 a1, .string ⟨#[]⟩, .string ⟨#[]⟩, .int .i64 100] W fun e w' => ∃ ao' cap', e = .returned (.slice ao' R.length cap') ∧ w'.ownsRow W.heap.size 69 2 (.slice ao' R.length cap') R.length (prCells R) ∧ Below W.heap.size W w' := fun W h => by
                  have := sscan_any w.heap.size g st2 a1 ⟨#[]⟩ ⟨#[]⟩ 100 (by omega) W h r (by rw [hst2]; exact past_scan st ⟨x.key, x.time, ⟨#[]⟩, true⟩ ht2 hr)
                  rw [hR] at this
                  exact this
                have hsince : ∀ W, HoldP w.heap.size W g st → Calls Try.prog 17 #[.pointer (some ⟨g, 0, none⟩), .string ⟨#[]⟩, .string ⟨#[]⟩, .int .i64 a1] W fun e w' => e = .returned (.bool true) ∧ Below W.heap.size W w' := fun W h => by
                  have := ssince_any w.heap.size g st ⟨#[]⟩ ⟨#[]⟩ a1 (by omega) W h
                  rw [hlast] at this
                  exact this
                have hsince2 : ∀ W, HoldP w.heap.size W g st2 → Calls Try.prog 17 #[.pointer (some ⟨g, 0, none⟩), .string ⟨#[]⟩, .string ⟨#[]⟩, .int .i64 a1] W fun e w' => e = .returned (.bool true) ∧ Below W.heap.size W w' := fun W h => by
                  have := ssince_any w.heap.size g st2 ⟨#[]⟩ ⟨#[]⟩ a1 (by omega) W h
                  rw [hst2, since_put st ⟨x.key, x.time, ⟨#[]⟩, true⟩ ht2 hlast] at this
                  exact this
                clear hst2 hr hlast
                go_wp2_with (first
                  | (go_at_call 16; refine (hscan2 w4 hh4).mono ?_; rintro e w5 ⟨ao5, cap5, rfl, ho5, hb5⟩
                     have hh5 := hh4.below hb5
                     have how5 := own_below how4 hb5)
                  | (go_at_call 16; refine (hscan _ hhA).mono ?_; rintro e w2 ⟨ao2, cap2, rfl, how2, hb2⟩
                     have hh2 := hhA.below hb2)
                  | (go_at_call 17; refine (hsince2 w6 hh6).mono ?_; rintro e w7 ⟨rfl, hb7⟩)
                  | (go_at_call 17; refine (hsince w2 hh2).mono ?_; rintro e w3 ⟨rfl, hb3⟩
                     have hh3 := hh2.below hb3
                     have how3 := own_below how2 hb3
                     have kb3 := below_box hb3 (below_box hb2 kbA)
                     have q0 := box_cell kb3 0 _ rfl
                     have q1 := box_cell kb3 1 _ rfl
                     have q3 := box_cell kb3 3 _ rfl
                     have q4 := box_cell kb3 4 _ rfl)
                  | (go_at_call 18; refine (hput w3 hh3).mono ?_; rintro e w4 ⟨n4, rfl, hh4, hT4⟩
                     have how4 := pr_turn hT4 how3)
                  | (go_at_call 19; refine (hpairs w5 ao2 cap2 ao5 cap5 _ _ how5 ho5).mono ?_; rintro e w6 ⟨rfl, hb6⟩
                     have hh6 := hh5.below hb6))
                go_roundw
                case rel =>
                  have b3 : Below w.heap.size w w3 := below_next (below_next hbA (Nat.le_refl _) hb2) (Nat.le_refl _) hb3
                  have b4 := b3.trans hT4.below
                  have b6 := below_next (below_next b4 (Nat.le_refl _) hb5) (Nat.le_refl _) hb6
                  exact ⟨c + 1, st2, by omega, by go_num, hh6.below hb7, hlen2, below_next b6 (Nat.le_refl _) hb7⟩
                case measure => simp [intOf]; omega
              | false =>
                obtain ⟨st2, hst2⟩ : ∃ st2, st2 = (putS st ⟨x.key, x.time, ⟨#[]⟩, true⟩).2 := ⟨_, rfl⟩
                have hlen2 : st2.vs.length ≤ c + 1 := by rw [hst2]; have := put_len st ⟨x.key, x.time, ⟨#[]⟩, true⟩; omega
                have hput : ∀ W, HoldP w.heap.size W g st → Calls Try.prog 18 #[.pointer (some ⟨g, 0, none⟩), .int .i64 x.time, .string x.key] W fun e w' => ∃ n, e = .returned (.int .i64 n) ∧ HoldP w.heap.size w' g st2 ∧ TurnP w.heap.size W w' := fun W h => by
                  have := sdel_any w.heap.size g st x.time x.key (key_small hks) (by omega) W h
                  rw [← hst2] at this
                  exact this.mono fun e w' h => ⟨_, h⟩
                have hscan2 : ∀ W, HoldP w.heap.size W g st2 → Calls Try.prog 16 #[.pointer (some ⟨g, 0, none⟩), .int .i64 a1, .string ⟨#[]⟩, .string ⟨#[]⟩, .int .i64 100] W fun e w' => ∃ ao' cap', e = .returned (.slice ao' R.length cap') ∧ w'.ownsRow W.heap.size 69 2 (.slice ao' R.length cap') R.length (prCells R) ∧ Below W.heap.size W w' := fun W h => by
                  have := sscan_any w.heap.size g st2 a1 ⟨#[]⟩ ⟨#[]⟩ 100 (by omega) W h r (by rw [hst2]; exact past_scan st ⟨x.key, x.time, ⟨#[]⟩, true⟩ ht2 hr)
                  rw [hR] at this
                  exact this
                have hsince : ∀ W, HoldP w.heap.size W g st → Calls Try.prog 17 #[.pointer (some ⟨g, 0, none⟩), .string ⟨#[]⟩, .string ⟨#[]⟩, .int .i64 a1] W fun e w' => e = .returned (.bool false) ∧ Below W.heap.size W w' := fun W h => by
                  have := ssince_any w.heap.size g st ⟨#[]⟩ ⟨#[]⟩ a1 (by omega) W h
                  rw [hlast] at this
                  exact this
                clear hst2 hr hlast
                go_wp2_with (first
                  | (go_at_call 16; refine (hscan2 w4 hh4).mono ?_; rintro e w5 ⟨ao5, cap5, rfl, ho5, hb5⟩
                     have hh5 := hh4.below hb5
                     have how5 := own_below how4 hb5)
                  | (go_at_call 16; refine (hscan _ hhA).mono ?_; rintro e w2 ⟨ao2, cap2, rfl, how2, hb2⟩
                     have hh2 := hhA.below hb2)
                  | (go_at_call 17; refine (hsince w2 hh2).mono ?_; rintro e w3 ⟨rfl, hb3⟩
                     have hh3 := hh2.below hb3
                     have how3 := own_below how2 hb3
                     have kb3 := below_box hb3 (below_box hb2 kbA)
                     have q0 := box_cell kb3 0 _ rfl
                     have q1 := box_cell kb3 1 _ rfl
                     have q3 := box_cell kb3 3 _ rfl
                     have q4 := box_cell kb3 4 _ rfl)
                  | (go_at_call 18; refine (hput w3 hh3).mono ?_; rintro e w4 ⟨n4, rfl, hh4, hT4⟩
                     have how4 := pr_turn hT4 how3)
                  | (go_at_call 19; refine (hpairs w5 ao2 cap2 ao5 cap5 _ _ how5 ho5).mono ?_; rintro e w6 ⟨rfl, hb6⟩
                     have hh6 := hh5.below hb6))
                go_roundw
                case rel =>
                  have b3 : Below w.heap.size w w3 := below_next (below_next hbA (Nat.le_refl _) hb2) (Nat.le_refl _) hb3
                  have b4 := b3.trans hT4.below
                  have b6 := below_next (below_next b4 (Nat.le_refl _) hb5) (Nat.le_refl _) hb6
                  exact ⟨c + 1, st2, by omega, by go_num, hh6, hlen2, b6⟩
                case measure => simp [intOf]; omega
            · cases hlast : sinceV st.vs ⟨#[]⟩ ⟨#[]⟩ a1 with
              | true =>
                obtain ⟨st2, hst2⟩ : ∃ st2, st2 = (putS st ⟨x.key, x.time, x.val, false⟩).2 := ⟨_, rfl⟩
                have hlen2 : st2.vs.length ≤ c + 1 := by rw [hst2]; have := put_len st ⟨x.key, x.time, x.val, false⟩; omega
                have hput : ∀ W, HoldP w.heap.size W g st → Calls Try.prog 15 #[.pointer (some ⟨g, 0, none⟩), .int .i64 x.time, .string x.key, .string x.val] W fun e w' => ∃ n, e = .returned (.int .i64 n) ∧ HoldP w.heap.size w' g st2 ∧ TurnP w.heap.size W w' := fun W h => by
                  have := sput_any w.heap.size g st x.time x.key x.val (key_small hks) (by omega) W h
                  rw [← hst2] at this
                  exact this.mono fun e w' h => ⟨_, h⟩
                have hscan2 : ∀ W, HoldP w.heap.size W g st2 → Calls Try.prog 16 #[.pointer (some ⟨g, 0, none⟩), .int .i64 a1, .string ⟨#[]⟩, .string ⟨#[]⟩, .int .i64 100] W fun e w' => ∃ ao' cap', e = .returned (.slice ao' R.length cap') ∧ w'.ownsRow W.heap.size 69 2 (.slice ao' R.length cap') R.length (prCells R) ∧ Below W.heap.size W w' := fun W h => by
                  have := sscan_any w.heap.size g st2 a1 ⟨#[]⟩ ⟨#[]⟩ 100 (by omega) W h r (by rw [hst2]; exact past_scan st ⟨x.key, x.time, x.val, false⟩ ht2 hr)
                  rw [hR] at this
                  exact this
                have hsince : ∀ W, HoldP w.heap.size W g st → Calls Try.prog 17 #[.pointer (some ⟨g, 0, none⟩), .string ⟨#[]⟩, .string ⟨#[]⟩, .int .i64 a1] W fun e w' => e = .returned (.bool true) ∧ Below W.heap.size W w' := fun W h => by
                  have := ssince_any w.heap.size g st ⟨#[]⟩ ⟨#[]⟩ a1 (by omega) W h
                  rw [hlast] at this
                  exact this
                have hsince2 : ∀ W, HoldP w.heap.size W g st2 → Calls Try.prog 17 #[.pointer (some ⟨g, 0, none⟩), .string ⟨#[]⟩, .string ⟨#[]⟩, .int .i64 a1] W fun e w' => e = .returned (.bool true) ∧ Below W.heap.size W w' := fun W h => by
                  have := ssince_any w.heap.size g st2 ⟨#[]⟩ ⟨#[]⟩ a1 (by omega) W h
                  rw [hst2, since_put st ⟨x.key, x.time, x.val, false⟩ ht2 hlast] at this
                  exact this
                clear hst2 hr hlast
                go_wp2_with (first
                  | (go_at_call 16; refine (hscan2 w4 hh4).mono ?_; rintro e w5 ⟨ao5, cap5, rfl, ho5, hb5⟩
                     have hh5 := hh4.below hb5
                     have how5 := own_below how4 hb5)
                  | (go_at_call 16; refine (hscan _ hhA).mono ?_; rintro e w2 ⟨ao2, cap2, rfl, how2, hb2⟩
                     have hh2 := hhA.below hb2)
                  | (go_at_call 17; refine (hsince2 w6 hh6).mono ?_; rintro e w7 ⟨rfl, hb7⟩)
                  | (go_at_call 17; refine (hsince w2 hh2).mono ?_; rintro e w3 ⟨rfl, hb3⟩
                     have hh3 := hh2.below hb3
                     have how3 := own_below how2 hb3
                     have kb3 := below_box hb3 (below_box hb2 kbA)
                     have q0 := box_cell kb3 0 _ rfl
                     have q1 := box_cell kb3 1 _ rfl
                     have q3 := box_cell kb3 3 _ rfl
                     have q4 := box_cell kb3 4 _ rfl)
                  | (go_at_call 15; refine (hput w3 hh3).mono ?_; rintro e w4 ⟨n4, rfl, hh4, hT4⟩
                     have how4 := pr_turn hT4 how3)
                  | (go_at_call 19; refine (hpairs w5 ao2 cap2 ao5 cap5 _ _ how5 ho5).mono ?_; rintro e w6 ⟨rfl, hb6⟩
                     have hh6 := hh5.below hb6))
                go_roundw
                case rel =>
                  have b3 : Below w.heap.size w w3 := below_next (below_next hbA (Nat.le_refl _) hb2) (Nat.le_refl _) hb3
                  have b4 := b3.trans hT4.below
                  have b6 := below_next (below_next b4 (Nat.le_refl _) hb5) (Nat.le_refl _) hb6
                  exact ⟨c + 1, st2, by omega, by go_num, hh6.below hb7, hlen2, below_next b6 (Nat.le_refl _) hb7⟩
                case measure => simp [intOf]; omega
              | false =>
                obtain ⟨st2, hst2⟩ : ∃ st2, st2 = (putS st ⟨x.key, x.time, x.val, false⟩).2 := ⟨_, rfl⟩
                have hlen2 : st2.vs.length ≤ c + 1 := by rw [hst2]; have := put_len st ⟨x.key, x.time, x.val, false⟩; omega
                have hput : ∀ W, HoldP w.heap.size W g st → Calls Try.prog 15 #[.pointer (some ⟨g, 0, none⟩), .int .i64 x.time, .string x.key, .string x.val] W fun e w' => ∃ n, e = .returned (.int .i64 n) ∧ HoldP w.heap.size w' g st2 ∧ TurnP w.heap.size W w' := fun W h => by
                  have := sput_any w.heap.size g st x.time x.key x.val (key_small hks) (by omega) W h
                  rw [← hst2] at this
                  exact this.mono fun e w' h => ⟨_, h⟩
                have hscan2 : ∀ W, HoldP w.heap.size W g st2 → Calls Try.prog 16 #[.pointer (some ⟨g, 0, none⟩), .int .i64 a1, .string ⟨#[]⟩, .string ⟨#[]⟩, .int .i64 100] W fun e w' => ∃ ao' cap', e = .returned (.slice ao' R.length cap') ∧ w'.ownsRow W.heap.size 69 2 (.slice ao' R.length cap') R.length (prCells R) ∧ Below W.heap.size W w' := fun W h => by
                  have := sscan_any w.heap.size g st2 a1 ⟨#[]⟩ ⟨#[]⟩ 100 (by omega) W h r (by rw [hst2]; exact past_scan st ⟨x.key, x.time, x.val, false⟩ ht2 hr)
                  rw [hR] at this
                  exact this
                have hsince : ∀ W, HoldP w.heap.size W g st → Calls Try.prog 17 #[.pointer (some ⟨g, 0, none⟩), .string ⟨#[]⟩, .string ⟨#[]⟩, .int .i64 a1] W fun e w' => e = .returned (.bool false) ∧ Below W.heap.size W w' := fun W h => by
                  have := ssince_any w.heap.size g st ⟨#[]⟩ ⟨#[]⟩ a1 (by omega) W h
                  rw [hlast] at this
                  exact this
                clear hst2 hr hlast
                go_wp2_with (first
                  | (go_at_call 16; refine (hscan2 w4 hh4).mono ?_; rintro e w5 ⟨ao5, cap5, rfl, ho5, hb5⟩
                     have hh5 := hh4.below hb5
                     have how5 := own_below how4 hb5)
                  | (go_at_call 16; refine (hscan _ hhA).mono ?_; rintro e w2 ⟨ao2, cap2, rfl, how2, hb2⟩
                     have hh2 := hhA.below hb2)
                  | (go_at_call 17; refine (hsince w2 hh2).mono ?_; rintro e w3 ⟨rfl, hb3⟩
                     have hh3 := hh2.below hb3
                     have how3 := own_below how2 hb3
                     have kb3 := below_box hb3 (below_box hb2 kbA)
                     have q0 := box_cell kb3 0 _ rfl
                     have q1 := box_cell kb3 1 _ rfl
                     have q3 := box_cell kb3 3 _ rfl
                     have q4 := box_cell kb3 4 _ rfl)
                  | (go_at_call 15; refine (hput w3 hh3).mono ?_; rintro e w4 ⟨n4, rfl, hh4, hT4⟩
                     have how4 := pr_turn hT4 how3)
                  | (go_at_call 19; refine (hpairs w5 ao2 cap2 ao5 cap5 _ _ how5 ho5).mono ?_; rintro e w6 ⟨rfl, hb6⟩
                     have hh6 := hh5.below hb6))
                go_roundw
                case rel =>
                  have b3 : Below w.heap.size w w3 := below_next (below_next hbA (Nat.le_refl _) hb2) (Nat.le_refl _) hb3
                  have b4 := b3.trans hT4.below
                  have b6 := below_next (below_next b4 (Nat.le_refl _) hb5) (Nat.le_refl _) hb6
                  exact ⟨c + 1, st2, by omega, by go_num, hh6, hlen2, b6⟩
                case measure => simp [intOf]; omega
      · have hcl2 : decide ((c : Int) < (l0.length : Int)) = false := decide_eq_false (by omega)
        go_wp2_with (first
          | (go_at_call 10; refine (haw wr).mono ?_; rintro e wa ⟨rfl, hba⟩))
        go_ret
        exact ⟨rfl, below_next hb (Nat.le_refl _) hba⟩
  · have hhv := heavy_yes l0 hL ao0 cap0 w hl0
    go_enter Try.func4, Try.ntmps4
    go_wp2_with (first
      | (go_at_call 9; refine hhv.mono ?_; rintro e wn ⟨rfl, hq⟩; have hq' := hq.symm; clear hq; subst hq')
      | (go_at_call 10; refine (haw w).mono ?_; rintro e wa ⟨rfl, hba⟩))
    go_ret
    exact ⟨rfl, hba⟩

set_option maxRecDepth 100000 in
theorem lifted (os : Os) (started : os.Started) (H : Type) (enc : TypeId × Value → H) :
    ReturnsInHanded {} Try.checked os 4 .any (Rows.storePastSpec.pre6 enc Try.prog Try.f4 Rows.storePastRow.domain false) (Rows.storePastSpec.post enc Try.prog Try.f4 false true false false) := by
  refine returnsInHanded_of_change (C := Try.checked) own started (by kernel_rfl) Try.func4
    (ChangeSpec.witness6 (enc := enc) (C := Try.checked) false ⟨#[], #[.slice none 0 0, .int .i64 0], []⟩ 8 (by kernel_rfl) (by kernel_rfl) (by kernel_rfl) (by kernel_rfl)) ?_
  intro W base args ds gs before hval0 hW hcnd _
  have hval : ∀ (j : Nat) t v, Try.f4.params[j]? = some t → args[j]? = some v → Value.okWide Try.prog W .any base t v := hval0
  have hW' := hW
  have hWk := hW
  obtain ⟨p, q, hA0, hV, rfl, hfz, hnd⟩ := hW
  have hA : DataW.TrodAll enc Try.prog W 0 (fun _ => true) true Try.f4.params.toList args.toList ds p := hA0
  rw [Try.params4] at hA hval
  obtain ⟨v0, vs0, d0, ds0, p0, q0, hargs, rfl, rfl, h0, r0⟩ := trodAll_cons hA
  obtain ⟨v1, vs1, d1, ds1, p1, q1, rfl, rfl, rfl, h1, r1⟩ := trodAll_cons r0
  obtain ⟨rfl, rfl, rfl⟩ := trodAll_nil r1
  obtain rfl : args = #[v0, v1] := by cases args; simp_all
  obtain ⟨rfl, rfl⟩ := trodVars_none hV
  have hk0 := h0
  obtain ⟨ao0, cap0, l0, rfl, hlies0⟩ := open_acts8 (hval 0 22 v0 rfl rfl) h0
  have hlt0 : ∀ x ∈ p0, x.block < W.heap.size := fun x hx => by simpa using hWk.lt x (by simp [hx])
  obtain ⟨a1, rfl, rfl, rfl, wa1⟩ := open_int Try.underlying3 (hval 1 3 v1 rfl rfl) h1
  have ba1 := bounds_i64 wa1
  clear hA0 hval0
  simp only [List.append_nil] at hW'

  refine (walk ao0 cap0 l0 a1 (by omega) W hlies0).mono fun e W' ⟨he, hg⟩ => ?_
  subst he
  exact ⟨_, rfl, _, _, _, [], _, [], hW', trodAll_cons_mk (shut_bool Try.underlying4 _) trodAll_mk0, (trodAll_cons_mk (Below.trod Try.laidOut (by kernel_rfl) (of_decide_eq_true (by kernel_rfl)) hk0 hg hlt0) (trodAll_cons_mk (shut_int Try.underlying3 wa1) trodAll_mk0)), rfl, hg.frame _, fun h => by cases h⟩

theorem over : Rows.storePastRow.holds Try.pinned (OpenSpec.ofChange Rows.storePastSpec) :=
  OpenClaim.holds_of_wide 4 Try.f4 rfl rfl rfl rfl rfl rfl rfl ⟨rfl, rfl, rfl, rfl, rfl⟩ rfl rfl rfl rfl rfl (by kernel_rfl) Try.func4 (by kernel_rfl)
    (of_decide_eq_true (by kernel_rfl)) (by unfold Func.isWrapper; first | (rw [if_pos (by decide +kernel)]; kernel_rfl) | (rw [if_neg (by decide +kernel)]; exact ⟨rfl, rfl⟩))
    (fun os started H enc _ => lifted os started H enc)

theorem proved : Rows.StorePastSaid :=
  over
#print axioms proved
end Go.Proofs.Ytgldgedbinbigaa.storePast
