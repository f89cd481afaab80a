/-
  What is added behind others is taken behind them; nothing is there that was not put in, and nothing but that goes, for every messages, message and place.
-/
import Derived.Test.YtpimkfichadiiaaRows
import Derived.Test.YtpimkfichadiiaaMsLit
import Derived.Test.YtpimkfichadiiaaMsHev
import Derived.WalkKit
import Derived.ProofKit
import Derived.OpenShut
import Derived.ShutString
import Derived.Lib.SmallJoins
namespace Go.Proofs.Ytpimkfichadiiaa.postKeeps
open Go.ChangeShapes Go.WideShapes Go.ChangeAt Go.RowKit Go.Joins Num
open Go.ChangeMaps (open_string shut_string)
set_option linter.unusedVariables false

theorem own : ownKnob Try.prog.godebug = none := by kernel_rfl
set_option maxRecDepth 100000 in
set_option maxHeartbeats 2000000 in
theorem walk_many (ao0 : Option Addr) (cap0 : Nat) (l0 : Msgs) (m1 : Msg) (ao1 : Option Addr) (cap1 : Nat) (a2 : Int) (hmany : ¬ ((l0.length : Int) < 400 ∧ (m1.log.length : Int) ≤ 1000)) (w : World) (hl0 : LiesM w w.heap.size ao0 l0) :
    Calls Try.prog 6 #[.slice ao0 l0.length cap0, .agg #[.int .i64 m1.a0, .int .i64 m1.a1, .int .i64 m1.a2, .int .i64 m1.a3, .int .i64 m1.a4, .int .i64 m1.a5, .int .i64 m1.a6, .slice ao1 m1.log.length cap1], .int .i64 a2] w fun e w' => e = .returned (.bool true) ∧ Below w.heap.size w w' := by
  have hhv := heavy_any l0 ao0 cap0 (w.alloc (.cells #[.int .i64 m1.a0, .int .i64 m1.a1, .int .i64 m1.a2, .int .i64 m1.a3, .int .i64 m1.a4, .int .i64 m1.a5, .int .i64 m1.a6, .slice ao1 m1.log.length cap1] 29)) (liesM_next hl0 ((Below.refl _ w).alloc (Nat.le_refl _) _) (by simp))
  have hb0 : Below w.heap.size w (w.alloc (.cells #[.int .i64 m1.a0, .int .i64 m1.a1, .int .i64 m1.a2, .int .i64 m1.a3, .int .i64 m1.a4, .int .i64 m1.a5, .int .i64 m1.a6, .slice ao1 m1.log.length cap1] 29)) := (Below.refl _ w).alloc (Nat.le_refl _) _
  by_cases h4 : (l0.length : Int) < 400
  · have h5 : 1000 < (m1.log.length : Int) := by omega
    clear hmany
    go_enter Try.func6, Try.ntmps6
    go_wp2_with (first
      | (go_at_call 7; refine hhv.mono ?_; rintro e w1 ⟨⟨b, rfl, hs0⟩, hq⟩; have hq' := hq.symm; clear hq; subst hq'; cases b)
      | (go_at_call 8; refine (awake_any _).mono ?_; rintro e w7 ⟨rfl, hb7⟩))
    all_goals go_ret
    all_goals exact ⟨rfl, below_box0 hb7⟩
  · clear hmany
    go_enter Try.func6, Try.ntmps6
    go_wp2_with (first
      | (go_at_call 7; refine hhv.mono ?_; rintro e w1 ⟨⟨b, rfl, hs0⟩, hq⟩; have hq' := hq.symm; clear hq; subst hq'; cases b)
      | (go_at_call 8; refine (awake_any _).mono ?_; rintro e w7 ⟨rfl, hb7⟩))
    all_goals go_ret
    all_goals exact ⟨rfl, below_box0 hb7⟩
theorem keep_low {O : Msgs} {n K j : Nat} (h : O.length = n + 1) (hj : j < n) (hK : j < K) : ∃ z, (O.eraseIdx K)[j]? = some z ∧ O[j]? = some z := by
  have hx := List.getElem?_eq_getElem (show j < O.length by omega)
  exact ⟨_, by rw [List.getElem?_eraseIdx, if_pos hK]; exact hx, hx⟩
theorem keep_high {O : Msgs} {n K j : Nat} (h : O.length = n + 1) (hj : j < n) (hK : K ≤ j) : ∃ z, (O.eraseIdx K)[j]? = some z ∧ O[j + 1]? = some z := by
  have hx := List.getElem?_eq_getElem (show j + 1 < O.length by omega)
  exact ⟨_, by rw [List.getElem?_eraseIdx, if_neg (by omega)]; exact hx, hx⟩
theorem msgs_one (p q : Addr) (c d : Nat) (z : Msg) (hz : z.log.length ≤ 1000000) (w : World) (h1 : LiesM w w.heap.size (some p) [z]) (h2 : LiesM w w.heap.size (some q) [z]) :
    Calls Try.prog 10 #[.slice (some p) 1 c, .slice (some q) 1 d] w fun e w' => e = .returned (.bool true) ∧ Below w.heap.size w w' :=
  msgs_same (some p) (some q) c d [z] (by simp) (by simpa using hz) w h1 h2
theorem add_one (l : Msgs) (m : Msg) (h : l.length < 400) : addM l [m] = l ++ [m] := by
  unfold addM
  rw [List.take_of_length_le (by rw [List.length_singleton]; omega)]
set_option maxRecDepth 100000 in
set_option maxHeartbeats 2000000 in
theorem walk_few (ao0 : Option Addr) (cap0 : Nat) (l0 : Msgs) (m1 : Msg) (ao1 : Option Addr) (cap1 : Nat) (a2 : Int) (h4 : (l0.length : Int) < 400) (h5 : (m1.log.length : Int) ≤ 1000) (w : World) (hl0 : LiesM w w.heap.size ao0 l0) (hl1 : LiesE w w.heap.size ao1 m1.log) :
    Calls Try.prog 6 #[.slice ao0 l0.length cap0, .agg #[.int .i64 m1.a0, .int .i64 m1.a1, .int .i64 m1.a2, .int .i64 m1.a3, .int .i64 m1.a4, .int .i64 m1.a5, .int .i64 m1.a6, .slice ao1 m1.log.length cap1], .int .i64 a2] w fun e w' => e = .returned (.bool true) ∧ Below w.heap.size w w' := by
  have hb0 : Below w.heap.size w (w.alloc (.cells #[.int .i64 m1.a0, .int .i64 m1.a1, .int .i64 m1.a2, .int .i64 m1.a3, .int .i64 m1.a4, .int .i64 m1.a5, .int .i64 m1.a6, .slice ao1 m1.log.length cap1] 29)) := (Below.refl _ w).alloc (Nat.le_refl _) _
  have hhv := heavy_any l0 ao0 cap0 (w.alloc (.cells #[.int .i64 m1.a0, .int .i64 m1.a1, .int .i64 m1.a2, .int .i64 m1.a3, .int .i64 m1.a4, .int .i64 m1.a5, .int .i64 m1.a6, .slice ao1 m1.log.length cap1] 29)) (liesM_next hl0 hb0 (by simp))
  have hbx := heap_new w (.cells #[.int .i64 m1.a0, .int .i64 m1.a1, .int .i64 m1.a2, .int .i64 m1.a3, .int .i64 m1.a4, .int .i64 m1.a5, .int .i64 m1.a6, .slice ao1 m1.log.length cap1] 29)
  have hadd := fun (hs : SmallM l0) (W : World) (b : Nat) (hb : Below w.heap.size w W) (hk : W.heap[b]? = some (.cells #[.int .i64 m1.a0, .int .i64 m1.a1, .int .i64 m1.a2, .int .i64 m1.a3, .int .i64 m1.a4, .int .i64 m1.a5, .int .i64 m1.a6, .slice ao1 m1.log.length cap1] 29)) => add_any l0 [m1] ao0 (some ⟨b, 0, none⟩) cap0 1 hs.1 (by simp) (fun x hx => by
    rcases List.mem_append.1 hx with h | h
    · have := hs.2 x h
      omega
    · rw [List.mem_singleton.1 h]
      omega) W (liesM_next hl0 hb hb.size) (lit_lies hk (liesE_next hl1 hb hb.size) (Array.getElem?_eq_some_iff.1 hk).1)
  rw [add_one l0 m1 (by omega)] at hadd
  rw [List.length_singleton] at hadd
  obtain ⟨O, hO⟩ : ∃ O, l0 ++ [m1] = O := ⟨_, rfl⟩
  rw [hO] at hadd
  have hOl : O.length = l0.length + 1 := by rw [← hO, List.length_append, List.length_singleton]
  obtain ⟨u, K, hu, hK, hKm⟩ := place_mod a2 (l0.length + 1) (by omega)
  obtain ⟨y, HY⟩ : ∃ y, Hid (O[K]? = some y) := ⟨O[K], List.getElem?_eq_getElem (by omega)⟩
  have hK2 : (u : Int) % ((l0.length : Int) + 1) = (K : Int) := by rw [← hK]; rfl
  have hOm := fun (hs : SmallM l0) => fun x (hx : x ∈ O) => show x.log.length ≤ 1000 by
    rw [← hO] at hx
    rcases List.mem_append.1 hx with h | h
    · exact hs.2 x h
    · rw [List.mem_singleton.1 h]
      omega
  have htake := fun (hs : SmallM l0) ao cap W (h : LiesM W W.heap.size ao O) => take_yes O ao cap K y HY.out (by omega) (fun x hx => Nat.le_trans (hOm hs x hx) (by omega)) W h
  rw [hOl] at htake
  have hbA : Below w.heap.size w ((w.alloc (.cells #[.int .i64 m1.a0, .int .i64 m1.a1, .int .i64 m1.a2, .int .i64 m1.a3, .int .i64 m1.a4, .int .i64 m1.a5, .int .i64 m1.a6, .slice ao1 m1.log.length cap1] 29)).alloc (.cells #[.int .i64 m1.a0, .int .i64 m1.a1, .int .i64 m1.a2, .int .i64 m1.a3, .int .i64 m1.a4, .int .i64 m1.a5, .int .i64 m1.a6, .slice ao1 m1.log.length cap1] 29)) := hb0.alloc (by simp) _
  have hkA : ((w.alloc (.cells #[.int .i64 m1.a0, .int .i64 m1.a1, .int .i64 m1.a2, .int .i64 m1.a3, .int .i64 m1.a4, .int .i64 m1.a5, .int .i64 m1.a6, .slice ao1 m1.log.length cap1] 29)).alloc (.cells #[.int .i64 m1.a0, .int .i64 m1.a1, .int .i64 m1.a2, .int .i64 m1.a3, .int .i64 m1.a4, .int .i64 m1.a5, .int .i64 m1.a6, .slice ao1 m1.log.length cap1] 29)).heap[w.heap.size + 1]? = some (.cells #[.int .i64 m1.a0, .int .i64 m1.a1, .int .i64 m1.a2, .int .i64 m1.a3, .int .i64 m1.a4, .int .i64 m1.a5, .int .i64 m1.a6, .slice ao1 m1.log.length cap1] 29) := heap_newB _ _ _ (by simp)
  have hkB : ((w.alloc (.cells #[.int .i64 m1.a0, .int .i64 m1.a1, .int .i64 m1.a2, .int .i64 m1.a3, .int .i64 m1.a4, .int .i64 m1.a5, .int .i64 m1.a6, .slice ao1 m1.log.length cap1] 29)).alloc (.cells #[.int .i64 m1.a0, .int .i64 m1.a1, .int .i64 m1.a2, .int .i64 m1.a3, .int .i64 m1.a4, .int .i64 m1.a5, .int .i64 m1.a6, .slice ao1 m1.log.length cap1] 29)).heap[w.heap.size]? = some (.cells #[.int .i64 m1.a0, .int .i64 m1.a1, .int .i64 m1.a2, .int .i64 m1.a3, .int .i64 m1.a4, .int .i64 m1.a5, .int .i64 m1.a6, .slice ao1 m1.log.length cap1] 29) := alloc_box _ hbx
  have HO : Hid (O.length = l0.length + 1) := hOl
  have HL : Hid (O[l0.length]? = some m1) := by
    rw [← hO]
    show (l0 ++ [m1])[l0.length]? = some m1
    rw [List.getElem?_append_right (Nat.le_refl _), Nat.sub_self]
    rfl
  have HT : Hid (O.take l0.length = l0) := by
    rw [← hO]
    exact List.take_left
  clear hK hO
  go_enter Try.func6, Try.ntmps6
  go_wp2_with (first
    | (go_at_call 7; refine hhv.mono ?_; rintro e w1 ⟨⟨b, rfl, hs0⟩, hq⟩; have hq' := hq.symm; clear hq; subst hq'; cases b)
    | (go_at_call 9; have hs : SmallM l0 := (by first | exact hs0 rfl | exact hs0 trivial | exact hs0); refine (hadd hs _ _ hbA hkA).mono ?_; rintro e w2 ⟨v2, rfl, hown2, hb2⟩
       obtain ⟨ao2, cap2, rfl, hl2⟩ := ownO_lies hown2
       have hc2 := ownO_cap hown2
       obtain ⟨p2, rfl, _⟩ := hl2 K y HY.out
       have hk2 := below_box hb2 hkB
       have hb2' := below_next hbA (Nat.le_refl _) hb2
       clear hown2)
    | (go_at_call 12; refine (htake hs _ _ _ hl2).mono ?_; rintro e w3 ⟨bo3, c3, ao3, cap3, rfl, hl3, hle3, hb3, hc3⟩
       have hl23 := liesM_next hl2 hb3 hb3.size
       have hk3 := below_box hb3 hk2
       have hb3' := below_next hb2' (Nat.le_refl _) hb3)
    | (go_at_call 14; refine (num_any _ _).mono ?_; rintro e w5 ⟨rfl, hq⟩; have hq' := hq.symm; clear hq; subst hq')
    | (go_at_call 8; refine (awake_any _).mono ?_; rintro e w7 ⟨rfl, hb7⟩))
  · have hc2' : l0.length + 1 ≤ cap2 := by rw [← HO.out]; exact hc2
    have hc3' : l0.length ≤ cap3 := by omega
    obtain ⟨WX, hWX⟩ : ∃ WX, w3.alloc (.cells #[.int .i64 y.a0, .int .i64 y.a1, .int .i64 y.a2, .int .i64 y.a3, .int .i64 y.a4, .int .i64 y.a5, .int .i64 y.a6, .slice bo3 y.log.length c3] 29) = WX := ⟨_, rfl⟩
    have hbX : Below w3.heap.size w3 WX := by rw [← hWX]; exact (Below.refl _ w3).alloc (Nat.le_refl _) _
    have hkx : WX.heap[w3.heap.size]? = some (.cells #[.int .i64 y.a0, .int .i64 y.a1, .int .i64 y.a2, .int .i64 y.a3, .int .i64 y.a4, .int .i64 y.a5, .int .i64 y.a6, .slice bo3 y.log.length c3] 29) := by rw [← hWX]; exact heap_new w3 _
    have hkm := below_box hbX hk3
    have hlO := liesM_next hl23 hbX hbX.size
    have hlB := liesM_next hl3 hbX hbX.size
    have hleY := liesE_next hle3 hbX hbX.size
    have hbX' := below_next hb3' (Nat.le_refl _) hbX
    have hys := hOm hs y (List.mem_of_getElem? HY.out)
    rw [hWX]
    clear hl23 hl3 hle3 hl2 hk2 hk3 hbx hkA hkB hhv hadd htake hc2 hc3
    go_loopw [12] (fun i wr => ∃ j : Nat, j ≤ l0.length ∧ i = .int .i64 (j : Int) ∧ Below WX.heap.size WX wr) (fun i _ => l0.length - (intOf i).toNat)
    case atStart => exact ⟨0, by omega, rfl, Below.refl _ _⟩
    case round =>
      obtain ⟨j, hj, rfl, hbr⟩ := hrel
      have hO' := liesM_next hlO hbr hbr.size
      have hB' := liesM_next hlB hbr hbr.size
      by_cases hjl : j < l0.length
      · by_cases hjK : (K : Int) ≤ (j : Int)
        · have hz := keep_high HO.out hjl (show K ≤ j by omega)
          obtain ⟨z, hz1, hz2⟩ := hz
          have hzs := hOm hs z (List.mem_of_getElem? hz2)
          obtain ⟨p3, rfl, _⟩ := hB' j z hz1
          have hms : ∀ q : Low wr, Calls Try.prog 10 #[.slice (some (p3.add (j * 8))) 1 (cap3 - j), .slice (some (p2.add ((j + 1) * 8))) 1 (cap2 - (j + 1))] q.wd fun e w'' => e = .returned (.bool true) ∧ ∃ y : Low wr, w'' = y.wd := fun q => Calls.low_of (msgs_one (p3.add (j * 8)) (p2.add ((j + 1) * 8)) (cap3 - j) (cap2 - (j + 1)) z (by omega) q.wd (lies_one (liesM_next hB' q.low q.low.size) hz1) (lies_one (liesM_next hO' q.low q.low.size) hz2))
          have f1 : (j : Int) ≤ (l0.length : Int) := by omega
          have f2 : (j : Int) + 1 ≤ (cap3 : Int) := by omega
          have f3 : (j : Int) + 1 + 1 ≤ (cap2 : Int) := by omega
          have f4 : ¬ cap3 = j := by omega
          have f5 : ¬ cap2 = j + 1 := by omega
          have g1 : IntKind.i64.wrap ((j : Int) + 1) = (j : Int) + 1 := by rw [IntKind.wrap_i64]; omega
          have g2 : IntKind.i64.wrap ((j : Int) + 1 + 1) = (j : Int) + 1 + 1 := by rw [IntKind.wrap_i64]; omega
          clear hz1 hz2 hO' hB'
          go_wp2_with fail
          refine wp_region_low (by kernel_rfl) (by kernel_rfl) fun hsome => ?_
          repeat (go_big_quiet_step (exact hms _))
          refine wpQuiet_nil ?_
          rintro _ ⟨x5, rfl⟩
          have hb5 := x5.low
          go_wp2
          go_roundw
          case rel => exact ⟨j + 1, by omega, by go_num, below_next hbr (Nat.le_refl _) hb5⟩
          case measure => simp [intOf]; omega
        · have hz := keep_low HO.out hjl (show j < K by omega)
          obtain ⟨z, hz1, hz2⟩ := hz
          have hzs := hOm hs z (List.mem_of_getElem? hz2)
          obtain ⟨p3, rfl, _⟩ := hB' j z hz1
          have hms : ∀ q : Low wr, Calls Try.prog 10 #[.slice (some (p3.add (j * 8))) 1 (cap3 - j), .slice (some (p2.add (j * 8))) 1 (cap2 - j)] q.wd fun e w'' => e = .returned (.bool true) ∧ ∃ y : Low wr, w'' = y.wd := fun q => Calls.low_of (msgs_one (p3.add (j * 8)) (p2.add (j * 8)) (cap3 - j) (cap2 - j) z (by omega) q.wd (lies_one (liesM_next hB' q.low q.low.size) hz1) (lies_one (liesM_next hO' q.low q.low.size) hz2))
          have f2 : (j : Int) + 1 ≤ (cap3 : Int) := by omega
          have f3 : (j : Int) + 1 ≤ (cap2 : Int) := by omega
          have f4 : ¬ cap3 = j := by omega
          have f5 : ¬ cap2 = j := by omega
          have g1 : IntKind.i64.wrap ((j : Int) + 1) = (j : Int) + 1 := by rw [IntKind.wrap_i64]; omega
          have g2 : IntKind.i64.wrap ((j : Int) + 1 + 1) = (j : Int) + 1 + 1 := by rw [IntKind.wrap_i64]; omega
          clear hz1 hz2 hO' hB'
          go_wp2_with fail
          refine wp_region_low (by kernel_rfl) (by kernel_rfl) fun hsome => ?_
          repeat (go_big_quiet_step (exact hms _))
          refine wpQuiet_nil ?_
          rintro _ ⟨x5, rfl⟩
          have hb5 := x5.low
          go_wp2
          go_roundw
          case rel => exact ⟨j + 1, by omega, by go_num, below_next hbr (Nat.le_refl _) hb5⟩
          case measure => simp [intOf]; omega
      · obtain rfl : j = l0.length := by omega
        have hbr' := below_next hbX' (Nat.le_refl _) hbr
        have kx := below_box hbr hkx
        have km := below_box hbr hkm
        have hleR := liesE_next hleY hbr hbr.size
        obtain ⟨R1, hR1⟩ : ∃ R1, R1 = (wr.alloc (.cells #[.int .i64 y.a0, .int .i64 y.a1, .int .i64 y.a2, .int .i64 y.a3, .int .i64 y.a4, .int .i64 y.a5, .int .i64 y.a6, .slice bo3 y.log.length c3] 29)).drew := ⟨_, rfl⟩
        have hbR1 : Below wr.heap.size wr R1 := by rw [hR1]; exact ((Below.refl _ wr).alloc (Nat.le_refl _) _).drew
        have hR1s : wr.heap.size < R1.heap.size := by rw [hR1]; show wr.heap.size < (wr.heap.push _).size; simp
        have kr : R1.heap[wr.heap.size]? = some (.cells #[.int .i64 y.a0, .int .i64 y.a1, .int .i64 y.a2, .int .i64 y.a3, .int .i64 y.a4, .int .i64 y.a5, .int .i64 y.a6, .slice bo3 y.log.length c3] 29) := by rw [hR1]; exact heap_new wr _
        have hboth : ∀ X : World, X.heap[w3.heap.size]? = some (.cells #[.int .i64 y.a0, .int .i64 y.a1, .int .i64 y.a2, .int .i64 y.a3, .int .i64 y.a4, .int .i64 y.a5, .int .i64 y.a6, .slice bo3 y.log.length c3] 29) → X.heap[w.heap.size]? = some (.cells #[.int .i64 m1.a0, .int .i64 m1.a1, .int .i64 m1.a2, .int .i64 m1.a3, .int .i64 m1.a4, .int .i64 m1.a5, .int .i64 m1.a6, .slice ao1 m1.log.length cap1] 29) → X.cell? ⟨w3.heap.size, 0, none⟩ = some (.int .i64 y.a0) ∧ X.cell? ⟨w3.heap.size, 1, none⟩ = some (.int .i64 y.a1) ∧ X.cell? ⟨w3.heap.size, 2, none⟩ = some (.int .i64 y.a2) ∧ X.cell? ⟨w3.heap.size, 3, none⟩ = some (.int .i64 y.a3) ∧ X.cell? ⟨w3.heap.size, 4, none⟩ = some (.int .i64 y.a4) ∧ X.cell? ⟨w3.heap.size, 5, none⟩ = some (.int .i64 y.a5) ∧ X.cell? ⟨w3.heap.size, 6, none⟩ = some (.int .i64 y.a6) ∧ X.cell? ⟨w3.heap.size, 7, none⟩ = some (.slice bo3 y.log.length c3) ∧ X.cell? ⟨w.heap.size, 0, none⟩ = some (.int .i64 m1.a0) ∧ X.cell? ⟨w.heap.size, 1, none⟩ = some (.int .i64 m1.a1) ∧ X.cell? ⟨w.heap.size, 2, none⟩ = some (.int .i64 m1.a2) ∧ X.cell? ⟨w.heap.size, 3, none⟩ = some (.int .i64 m1.a3) ∧ X.cell? ⟨w.heap.size, 4, none⟩ = some (.int .i64 m1.a4) ∧ X.cell? ⟨w.heap.size, 5, none⟩ = some (.int .i64 m1.a5) ∧ X.cell? ⟨w.heap.size, 6, none⟩ = some (.int .i64 m1.a6) ∧ X.cell? ⟨w.heap.size, 7, none⟩ = some (.slice ao1 m1.log.length cap1) := fun X h1 h2 => ⟨box_cell h1 0 _ rfl, box_cell h1 1 _ rfl, box_cell h1 2 _ rfl, box_cell h1 3 _ rfl, box_cell h1 4 _ rfl, box_cell h1 5 _ rfl, box_cell h1 6 _ rfl, box_cell h1 7 _ rfl, box_cell h2 0 _ rfl, box_cell h2 1 _ rfl, box_cell h2 2 _ rfl, box_cell h2 3 _ rfl, box_cell h2 4 _ rfl, box_cell h2 5 _ rfl, box_cell h2 6 _ rfl, box_cell h2 7 _ rfl⟩
        have hS0 := hboth wr.drew kx km
        have hS1 := hboth _ (below_box hbR1 kx) (below_box hbR1 km)
        have hm1 := msgs_one (⟨wr.heap.size, 0, none⟩) (p2.add (K * 8)) 1 (cap2 - K) y (by omega) R1 (lit_lies kr (liesE_next hleR hbR1 hbR1.size) hR1s) (lies_one (liesM_next hO' hbR1 hbR1.size) HY.out)
        have f2 : (K : Int) + 1 ≤ (cap2 : Int) := by omega
        have f3 : (l0.length : Int) + 1 ≤ (cap2 : Int) := by omega
        have f4 : ¬ cap2 = K := by omega
        have f5 : ¬ cap2 = l0.length := by omega
        have f6 : (l0.length : Int) ≤ (cap2 : Int) := by omega
        have g1 : IntKind.i64.wrap ((K : Int) + 1) = (K : Int) + 1 := by rw [IntKind.wrap_i64]; omega
        have hm2 := fun w5 (h : Below wr.heap.size wr w5) => msgs_one (p2.add (l0.length * 8)) (⟨w5.heap.size, 0, none⟩) (cap2 - l0.length) 1 m1 (by omega) (w5.alloc (.cells #[.int .i64 m1.a0, .int .i64 m1.a1, .int .i64 m1.a2, .int .i64 m1.a3, .int .i64 m1.a4, .int .i64 m1.a5, .int .i64 m1.a6, .slice ao1 m1.log.length cap1] 29)) (lies_one (liesM_next (liesM_next hO' h h.size) ((Below.refl _ w5).alloc (Nat.le_refl _) _) (by simp)) HL.out) (lit_lies (heap_new w5 _) (liesE_next (liesE_next (liesE_next hl1 hbr' hbr'.size) h h.size) ((Below.refl _ w5).alloc (Nat.le_refl _) _) (by simp)) (by simp))
        have hm3 := fun w6 (h : Below wr.heap.size wr w6) => msgs_same (some p2) ao0 cap2 cap0 l0 (by omega) (fun x hx => Nat.le_trans (hs.2 x hx) (by omega)) w6 (by have h9 := Num.LiesG.take (liesM_next hO' h h.size) l0.length; rw [HT.out] at h9; exact h9) (liesM_next (liesM_next hl0 hbr' hbr'.size) h h.size)
        clear hO' hB' hlO hlB hleY hleR kr hR1s
        subst hR1
        go_wp2_with fail
        go_region_held_law (fun X => X.cell? ⟨w3.heap.size, 0, none⟩ = some (.int .i64 y.a0) ∧ X.cell? ⟨w3.heap.size, 1, none⟩ = some (.int .i64 y.a1) ∧ X.cell? ⟨w3.heap.size, 2, none⟩ = some (.int .i64 y.a2) ∧ X.cell? ⟨w3.heap.size, 3, none⟩ = some (.int .i64 y.a3) ∧ X.cell? ⟨w3.heap.size, 4, none⟩ = some (.int .i64 y.a4) ∧ X.cell? ⟨w3.heap.size, 5, none⟩ = some (.int .i64 y.a5) ∧ X.cell? ⟨w3.heap.size, 6, none⟩ = some (.int .i64 y.a6) ∧ X.cell? ⟨w3.heap.size, 7, none⟩ = some (.slice bo3 y.log.length c3) ∧ X.cell? ⟨w.heap.size, 0, none⟩ = some (.int .i64 m1.a0) ∧ X.cell? ⟨w.heap.size, 1, none⟩ = some (.int .i64 m1.a1) ∧ X.cell? ⟨w.heap.size, 2, none⟩ = some (.int .i64 m1.a2) ∧ X.cell? ⟨w.heap.size, 3, none⟩ = some (.int .i64 m1.a3) ∧ X.cell? ⟨w.heap.size, 4, none⟩ = some (.int .i64 m1.a4) ∧ X.cell? ⟨w.heap.size, 5, none⟩ = some (.int .i64 m1.a5) ∧ X.cell? ⟨w.heap.size, 6, none⟩ = some (.int .i64 m1.a6) ∧ X.cell? ⟨w.heap.size, 7, none⟩ = some (.slice ao1 m1.log.length cap1)) (first | with_reducible exact hS0 | with_reducible exact hS1 | with_reducible exact hS5 | with_reducible exact hS6 | with_reducible exact hS7 | with_reducible exact hS8 | with_reducible exact hS9)
          (first
            | (go_at_call 8; refine (awake_any _).mono ?_; rintro e w7 ⟨rfl, hb7⟩
               have hb7' := below_next hb8' (Nat.le_refl _) hb7
               have hS9 := hboth _ (below_box hb7' kx) (below_box hb7' km))
            | (have hk9 := hb6'; clear hk9; go_at_call 10; refine (hm3 _ hb6').mono ?_; rintro e w8 ⟨rfl, hb8⟩
               have hb8' := below_next hb6' (Nat.le_refl _) hb8
               have hS8 := hboth _ (below_box hb8' kx) (below_box hb8' km))
            | (have hk9 := hb5'; clear hk9; go_at_call 10; refine (hm2 _ hb5').mono ?_; rintro e w6 ⟨rfl, hb6⟩
               have hb6' := below_next hb5' (Nat.le_refl _) (below_box0 hb6)
               have hS7 := hboth _ (below_box hb6' kx) (below_box hb6' km))
            | (go_at_call 10; refine hm1.mono ?_; rintro e w5 ⟨rfl, hb5⟩
               have hb5' := below_next hbR1 (Nat.le_refl _) hb5
               have hS5 := hboth _ (below_box hb5' kx) (below_box hb5' km)
               have hS6 := hboth _ (alloc_box (.cells #[.int .i64 m1.a0, .int .i64 m1.a1, .int .i64 m1.a2, .int .i64 m1.a3, .int .i64 m1.a4, .int .i64 m1.a5, .int .i64 m1.a6, .slice ao1 m1.log.length cap1] 29) (below_box hb5' kx)) (alloc_box (.cells #[.int .i64 m1.a0, .int .i64 m1.a1, .int .i64 m1.a2, .int .i64 m1.a3, .int .i64 m1.a4, .int .i64 m1.a5, .int .i64 m1.a6, .slice ao1 m1.log.length cap1] 29) (below_box hb5' km))))
        all_goals go_wp2
        all_goals go_ret
        all_goals exact ⟨rfl, below_next hbr' (Nat.le_refl _) hb7'⟩
  · go_ret
    exact ⟨rfl, below_box0 hb7⟩

theorem walk (ao0 : Option Addr) (cap0 : Nat) (l0 : Msgs) (hcap0 : l0.length ≤ cap0) (m1 : Msg) (ao1 : Option Addr) (cap1 : Nat) (a2 : Int) (ha2 : -9223372036854775808 ≤ a2 ∧ a2 ≤ 9223372036854775807) (w : World) (hl0 : LiesM w w.heap.size ao0 l0) (hl1 : LiesE w w.heap.size ao1 m1.log) :
    Calls Try.prog 6 #[.slice ao0 l0.length cap0, .agg #[.int .i64 m1.a0, .int .i64 m1.a1, .int .i64 m1.a2, .int .i64 m1.a3, .int .i64 m1.a4, .int .i64 m1.a5, .int .i64 m1.a6, .slice ao1 m1.log.length cap1], .int .i64 a2] w fun e w' => e = .returned (.bool true) ∧ Below w.heap.size w w' := by
  by_cases h : (l0.length : Int) < 400 ∧ (m1.log.length : Int) ≤ 1000
  · exact walk_few ao0 cap0 l0 m1 ao1 cap1 a2 h.1 h.2 w hl0 hl1
  · exact walk_many ao0 cap0 l0 m1 ao1 cap1 a2 h w hl0

set_option maxRecDepth 100000 in
theorem lifted (os : Os) (started : os.Started) (H : Type) (enc : TypeId × Value → H) :
    ReturnsInHanded {} Try.checked os 6 .any (Rows.postKeepsSpec.pre6 enc Try.prog Try.f6 Rows.postKeepsRow.domain false) (Rows.postKeepsSpec.post enc Try.prog Try.f6 false true false false) := by
  refine returnsInHanded_of_change (C := Try.checked) own started (by kernel_rfl) Try.func6
    (ChangeSpec.witness6 (enc := enc) (C := Try.checked) false ⟨#[], #[.slice none 0 0, .agg #[.int .i64 0, .int .i64 0, .int .i64 0, .int .i64 0, .int .i64 0, .int .i64 0, .int .i64 0, .slice none 0 0], .int .i64 0], []⟩ 8 (by kernel_rfl) (by kernel_rfl) (by kernel_rfl) (by kernel_rfl)) ?_
  intro W base args ds gs before hval0 hW hcnd _
  have hval : ∀ (j : Nat) t v, Try.f6.params[j]? = some t → args[j]? = some v → Value.okWide Try.prog W .any base t v := hval0
  have hW' := hW
  have hWk := hW
  obtain ⟨p, q, hA0, hV, rfl, hfz, hnd⟩ := hW
  have hA : DataW.TrodAll enc Try.prog W 0 (fun _ => true) true Try.f6.params.toList args.toList ds p := hA0
  rw [Try.params6] at hA hval
  obtain ⟨v0, vs0, d0, ds0, p0, q0, hargs, rfl, rfl, h0, r0⟩ := trodAll_cons hA
  obtain ⟨v1, vs1, d1, ds1, p1, q1, rfl, rfl, rfl, h1, r1⟩ := trodAll_cons r0
  obtain ⟨v2, vs2, d2, ds2, p2, q2, rfl, rfl, rfl, h2, r2⟩ := trodAll_cons r1
  obtain ⟨rfl, rfl, rfl⟩ := trodAll_nil r2
  obtain rfl : args = #[v0, v1, v2] := by cases args; simp_all
  obtain ⟨rfl, rfl⟩ := trodVars_none hV
  have hk0 := h0
  obtain ⟨ao0, cap0, l0, rfl, hcap0, _, hlies0⟩ := open_msgs (hval 0 22 v0 rfl rfl) h0
  have hlt0 : ∀ x ∈ p0, x.block < W.heap.size := fun x hx => by simpa using hWk.lt x (by simp [hx])
  have hk1 := h1
  obtain ⟨m1, ao1, cap1, rfl, _, hlies1⟩ := open_msg (hval 1 29 v1 rfl rfl) h1
  have hlt1 : ∀ x ∈ p1, x.block < W.heap.size := fun x hx => by simpa using hWk.lt x (by simp [hx])
  obtain ⟨a2, rfl, rfl, rfl, wa2⟩ := open_int Try.underlying3 (hval 2 3 v2 rfl rfl) h2
  have ba2 := bounds_i64 wa2
  clear hA0 hval0
  simp only [List.append_nil] at hW'

  refine (walk ao0 cap0 l0 hcap0 m1 ao1 cap1 a2 (by omega) W hlies0 hlies1).mono fun e W' ⟨he, hg⟩ => ?_
  subst he
  exact ⟨_, rfl, _, _, _, [], _, [], hW', trodAll_cons_mk (shut_bool Try.underlying4 _) trodAll_mk0, (trodAll_cons_mk (Below.trod Try.laidOut (by kernel_rfl) (of_decide_eq_true (by kernel_rfl)) hk0 hg hlt0) (trodAll_cons_mk (Below.trod Try.laidOut (by kernel_rfl) (of_decide_eq_true (by kernel_rfl)) hk1 hg hlt1) (trodAll_cons_mk (shut_int Try.underlying3 wa2) trodAll_mk0))), rfl, hg.frame _, fun h => by cases h⟩

theorem over : Rows.postKeepsRow.holds Try.pinned (OpenSpec.ofChange Rows.postKeepsSpec) :=
  OpenClaim.holds_of_wide 6 Try.f6 rfl rfl rfl rfl rfl rfl rfl ⟨rfl, rfl, rfl, rfl, rfl⟩ rfl rfl rfl rfl rfl (by kernel_rfl) Try.func6 (by kernel_rfl)
    (of_decide_eq_true (by kernel_rfl)) (by unfold Func.isWrapper; first | (rw [if_pos (by decide +kernel)]; kernel_rfl) | (rw [if_neg (by decide +kernel)]; exact ⟨rfl, rfl⟩))
    (fun os started H enc _ => lifted os started H enc)

theorem proved : Rows.PostKeepsSaid :=
  over
#print axioms proved
end Go.Proofs.Ytpimkfichadiiaa.postKeeps
