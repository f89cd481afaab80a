/-
  Contracts: sort.Search with the two functions of find; the page of a key, and the place in it (7.1, 7.2).
-/
import Derived.Test.YtdmkmhjalcfchaaPR
import Derived.Test.YtdmkmhjalcfchaaPR
import Derived.Test.YtdmkmhjalcfchaaPl
namespace Go.Proofs.Ytdmkmhjalcfchaa
open Go.RowKit Num
set_option linter.unusedVariables false
set_option maxRecDepth 100000

set_option maxHeartbeats 1000000 in
theorem search_one (n : Nat) (b1 b2 : Nat) (p : Nat → Bool) (r : Nat) (hn : n ≤ 5000) (hr : r ≤ n) (hlo : ∀ i, i < r → p i = false) (hhi : ∀ i, r ≤ i → i < n → p i = true) (w : World)
    (hf : ∀ (W : World) (i : Nat), Below w.heap.size w W → i < n → Calls Try.prog 89 #[.int .i64 (i : Int), .pointer (some ⟨b1, 0, none⟩), .pointer (some ⟨b2, 0, none⟩)] W fun e w' => e = .returned (.bool (p i)) ∧ Below W.heap.size W w') :
    Calls Try.prog 67 #[.int .i64 (n : Int), .func (.func 89) #[] #[.pointer (some ⟨b1, 0, none⟩), .pointer (some ⟨b2, 0, none⟩)]] w fun e w' => e = .returned (.int .i64 (r : Int)) ∧ Below w.heap.size w w' := by
  have HLO : Hid (∀ i, i < r → p i = false) := hlo
  have HHI : Hid (∀ i, r ≤ i → i < n → p i = true) := hhi
  clear hlo hhi
  go_enter Try.func67, Try.ntmps67
  go_wp2
  go_loopw [5, 6] (fun u v wr => ∃ lo hi : Nat, lo ≤ r ∧ r ≤ hi ∧ hi ≤ n ∧ u = .int .i64 (lo : Int) ∧ v = .int .i64 (hi : Int) ∧ Below w.heap.size w wr) (fun u v _ => (intOf v).toNat - (intOf u).toNat)
  case atStart => exact ⟨0, n, by omega, hr, by omega, rfl, rfl, Below.refl _ _⟩
  case round =>
    obtain ⟨lo, hi, h1, h2, h3, rfl, rfl, hbel⟩ := hrel
    by_cases hlt : lo < hi
    · have hc := hf wr ((lo + hi) / 2) hbel (by omega)
      rw [show (((lo + hi) / 2 : Nat) : Int) = ((lo : Int) + (hi : Int)) / 2 by omega] at hc
      by_cases hm : (lo + hi) / 2 < r
      · rw [HLO.out _ hm] at hc
        go_wp2_with (first
          | (go_at_call 89; refine hc.mono ?_; rintro e w1 ⟨rfl, hb1⟩))
        go_roundw
        case rel => exact ⟨(lo + hi) / 2 + 1, hi, by omega, h2, h3, by rw [show ((lo : Int) + (hi : Int)) / 2 + 1 = (((lo + hi) / 2 + 1 : Nat) : Int) by omega], rfl, below_next hbel (Nat.le_refl _) hb1⟩
        case measure => simp [intOf]; omega
      · rw [HHI.out _ (by omega) (by omega)] at hc
        go_wp2_with (first
          | (go_at_call 89; refine hc.mono ?_; rintro e w1 ⟨rfl, hb1⟩))
        go_roundw
        case rel => exact ⟨lo, (lo + hi) / 2, h1, by omega, by omega, rfl, by rw [show ((lo : Int) + (hi : Int)) / 2 = (((lo + hi) / 2 : Nat) : Int) by omega], below_next hbel (Nat.le_refl _) hb1⟩
        case measure => simp [intOf]; omega
    · obtain rfl : lo = r := by omega
      go_wp2
      go_ret
      exact ⟨rfl, hbel⟩
set_option maxHeartbeats 1000000 in
theorem search_two (n : Nat) (b1 b2 : Nat) (p : Nat → Bool) (r : Nat) (hn : n ≤ 5000) (hr : r ≤ n) (hlo : ∀ i, i < r → p i = false) (hhi : ∀ i, r ≤ i → i < n → p i = true) (w : World)
    (hf : ∀ (W : World) (i : Nat), Below w.heap.size w W → i < n → Calls Try.prog 90 #[.int .i64 (i : Int), .pointer (some ⟨b1, 0, none⟩), .pointer (some ⟨b2, 0, none⟩)] W fun e w' => e = .returned (.bool (p i)) ∧ Below W.heap.size W w') :
    Calls Try.prog 67 #[.int .i64 (n : Int), .func (.func 90) #[] #[.pointer (some ⟨b1, 0, none⟩), .pointer (some ⟨b2, 0, none⟩)]] w fun e w' => e = .returned (.int .i64 (r : Int)) ∧ Below w.heap.size w w' := by
  have HLO : Hid (∀ i, i < r → p i = false) := hlo
  have HHI : Hid (∀ i, r ≤ i → i < n → p i = true) := hhi
  clear hlo hhi
  go_enter Try.func67, Try.ntmps67
  go_wp2
  go_loopw [5, 6] (fun u v wr => ∃ lo hi : Nat, lo ≤ r ∧ r ≤ hi ∧ hi ≤ n ∧ u = .int .i64 (lo : Int) ∧ v = .int .i64 (hi : Int) ∧ Below w.heap.size w wr) (fun u v _ => (intOf v).toNat - (intOf u).toNat)
  case atStart => exact ⟨0, n, by omega, hr, by omega, rfl, rfl, Below.refl _ _⟩
  case round =>
    obtain ⟨lo, hi, h1, h2, h3, rfl, rfl, hbel⟩ := hrel
    by_cases hlt : lo < hi
    · have hc := hf wr ((lo + hi) / 2) hbel (by omega)
      rw [show (((lo + hi) / 2 : Nat) : Int) = ((lo : Int) + (hi : Int)) / 2 by omega] at hc
      by_cases hm : (lo + hi) / 2 < r
      · rw [HLO.out _ hm] at hc
        go_wp2_with (first
          | (go_at_call 90; refine hc.mono ?_; rintro e w1 ⟨rfl, hb1⟩))
        go_roundw
        case rel => exact ⟨(lo + hi) / 2 + 1, hi, by omega, h2, h3, by rw [show ((lo : Int) + (hi : Int)) / 2 + 1 = (((lo + hi) / 2 + 1 : Nat) : Int) by omega], rfl, below_next hbel (Nat.le_refl _) hb1⟩
        case measure => simp [intOf]; omega
      · rw [HHI.out _ (by omega) (by omega)] at hc
        go_wp2_with (first
          | (go_at_call 90; refine hc.mono ?_; rintro e w1 ⟨rfl, hb1⟩))
        go_roundw
        case rel => exact ⟨lo, (lo + hi) / 2, h1, by omega, by omega, rfl, by rw [show ((lo : Int) + (hi : Int)) / 2 = (((lo + hi) / 2 : Nat) : Int) by omega], below_next hbel (Nat.le_refl _) hb1⟩
        case measure => simp [intOf]; omega
    · obtain rfl : lo = r := by omega
      go_wp2
      go_ret
      exact ⟨rfl, hbel⟩

theorem gtr_kl (a b : ByteArray) : (!(Op.bytesLess a.toList b.toList || a.toList == b.toList)) = Op.bytesLess b.toList a.toList := by
  rw [leq_kl]
  simp
set_option maxHeartbeats 1000000 in
theorem find1_any (ps : Pages) (ao : Option Addr) (cap : Nat) (k : ByteArray) (b1 b2 i : Nat) (p : List Pr) (x : Pr) (hp : ps[i]? = some p) (hx : p[0]? = some x) (hlen : ps.length ≤ 5000) (w : World) (h1 : w.cell? ⟨b1, 0, none⟩ = some (.slice ao ps.length cap)) (h2 : w.cell? ⟨b2, 0, none⟩ = some (.string k)) (hl : LiesPg w w.heap.size ao ps) :
    Calls Try.prog 89 #[.int .i64 (i : Int), .pointer (some ⟨b1, 0, none⟩), .pointer (some ⟨b2, 0, none⟩)] w fun e w' => e = .returned (.bool (Op.bytesLess k.toList x.key.toList)) ∧ Below w.heap.size w w' := by
  obtain ⟨a, rfl, hblk, bo, c, c0, hl2, hcap⟩ := hl i p hp
  rw [Nat.mul_one] at c0
  obtain ⟨a2, rfl, hblk2, e0, e1⟩ := hl2 0 x hx
  rw [show a2.add (0 * 2) = a2 from addr_zero a2] at e0
  have hil := (List.getElem?_eq_some_iff.1 hp).1
  have h0l := (List.getElem?_eq_some_iff.1 hx).1
  have hili : (i : Int) < (ps.length : Int) := by omega
  have h0li : (0 : Int) < (p.length : Int) := by omega
  have d1 : ∀ z : Low w, z.wd.cell? ⟨b1, 0, none⟩ = some (.slice (some a) ps.length cap) := fun z => (z.cell (cell_lt h1)).trans h1
  have d2 : ∀ z : Low w, z.wd.cell? ⟨b2, 0, none⟩ = some (.string k) := fun z => (z.cell (cell_lt h2)).trans h2
  have d3 : ∀ z : Low w, z.wd.cell? (a.add i) = some (.slice (some a2) p.length c) := fun z => (z.cell (cell_lt c0)).trans c0
  have d4 : ∀ z : Low w, z.wd.cell? a2 = some (.string x.key) := fun z => (z.cell (cell_lt e0)).trans e0
  rw [← gtr_kl]
  clear h1 h2 c0 e0 e1 hl hl2 hp hx hblk hblk2
  go_enter Try.func89, Try.ntmps89
  go_wp2_with fail
  refine wp_region_low (by kernel_rfl) (by kernel_rfl) fun hsome => ?_
  repeat (go_big_quiet_step (fail))
  refine wpQuiet_nil ?_
  rintro _ ⟨z, rfl⟩
  have hz := z.low
  go_wp2
  go_ret
  refine ⟨?_, hz⟩
  rw [Bool.not_or]
  rfl
set_option maxHeartbeats 1000000 in
theorem find2_any (p : List Pr) (bo : Option Addr) (c : Nat) (k : ByteArray) (b1 b2 i : Nat) (x : Pr) (hx : p[i]? = some x) (hlen : p.length ≤ 5000) (w : World) (h1 : w.cell? ⟨b1, 0, none⟩ = some (.slice bo p.length c)) (h2 : w.cell? ⟨b2, 0, none⟩ = some (.string k)) (hl : LiesPr w w.heap.size bo p) :
    Calls Try.prog 90 #[.int .i64 (i : Int), .pointer (some ⟨b1, 0, none⟩), .pointer (some ⟨b2, 0, none⟩)] w fun e w' => e = .returned (.bool (!Op.bytesLess x.key.toList k.toList)) ∧ Below w.heap.size w w' := by
  obtain ⟨a2, rfl, hblk2, e0, e1⟩ := hl i x hx
  have h0l := (List.getElem?_eq_some_iff.1 hx).1
  have h0li : (i : Int) < (p.length : Int) := by omega
  have d1 : ∀ z : Low w, z.wd.cell? ⟨b1, 0, none⟩ = some (.slice (some a2) p.length c) := fun z => (z.cell (cell_lt h1)).trans h1
  have d2 : ∀ z : Low w, z.wd.cell? ⟨b2, 0, none⟩ = some (.string k) := fun z => (z.cell (cell_lt h2)).trans h2
  have d4 : ∀ z : Low w, z.wd.cell? (a2.add (i * 2)) = some (.string x.key) := fun z => (z.cell (cell_lt e0)).trans e0
  clear h1 h2 e0 e1 hl hx hblk2
  go_enter Try.func90, Try.ntmps90
  go_wp2_with fail
  refine wp_region_low (by kernel_rfl) (by kernel_rfl) fun hsome => ?_
  repeat (go_big_quiet_step (fail))
  refine wpQuiet_nil ?_
  rintro _ ⟨z, rfl⟩
  have hz := z.low
  go_wp2
  go_ret
  exact ⟨rfl, hz⟩

theorem boxes_below (w : World) (o o2 : Obj) : Below w.heap.size w ((w.alloc o).alloc o2) := ((Below.refl _ w).alloc (Nat.le_refl _) o).alloc (by simp) o2
set_option maxRecDepth 100000 in
set_option maxHeartbeats 1000000 in
theorem find_any (ps : Pages) (hr : RightP ps) (ao : Option Addr) (cap : Nat) (k : ByteArray) (h1000 : ps.length ≤ 5000) (p : List Pr) (hp : ps[ofP ps k]? = some p) (w : World) (hl : LiesPg w w.heap.size ao ps) :
    Calls Try.prog 74 #[.slice ao ps.length cap, .string k] w fun e w' => e = .returned (.tuple #[.int .i64 (ofP ps k : Int), .int .i64 (cntK p k : Int), .bool (hasK p k)]) ∧ Below w.heap.size w w' := by
  have hpl := hr.1 p (List.mem_of_getElem? hp)
  have hol := (List.getElem?_eq_some_iff.1 hp).1
  have hcl := cnt_le ps k
  have hkl := cntK_le p k
  obtain ⟨W0, hW0⟩ : ∃ W0, W0 = (w.alloc (.cells #[.slice ao ps.length cap] 104)).alloc (.cells #[.string k] 9) := ⟨_, rfl⟩
  have hb0 : Below w.heap.size w W0 := by rw [hW0]; exact boxes_below _ _ _
  have hz0 : W0.heap.size = w.heap.size + 1 + 1 := by rw [hW0]; simp
  have k1 : W0.cell? ⟨w.heap.size, 0, none⟩ = some (.slice ao ps.length cap) := by rw [hW0]; exact alloc_cell _ (box_cell (heap_new w _) 0 _ rfl)
  have k2 : W0.cell? ⟨w.heap.size + 1, 0, none⟩ = some (.string k) := by rw [hW0]; exact box_cell (heap_newB _ _ _ (by simp)) 0 _ rfl
  have hl0 : LiesPg W0 W0.heap.size ao ps := liesPg_next hl hb0 hb0.size
  have hS1 := search_one ps.length w.heap.size (w.heap.size + 1) (headLess ps k) (cntP ps k) h1000 hcl
    (fun i hi => by
      have hp' : ps[i]? = some (ps[i]'(by omega)) := List.getElem?_eq_getElem _
      have h1 := (hr.1 _ (List.mem_of_getElem? hp')).1
      have hx' : (ps[i]'(by omega))[0]? = some ((ps[i]'(by omega))[0]'(by omega)) := List.getElem?_eq_getElem _
      unfold headLess
      rw [hp']
      simp only
      rw [hx']
      exact cnt_no hi hp' hx')
    (fun i hi hin => by
      have hp' : ps[i]? = some (ps[i]'(by omega)) := List.getElem?_eq_getElem _
      have h1 := (hr.1 _ (List.mem_of_getElem? hp')).1
      have hx' : (ps[i]'(by omega))[0]? = some ((ps[i]'(by omega))[0]'(by omega)) := List.getElem?_eq_getElem _
      unfold headLess
      rw [hp']
      simp only
      rw [hx']
      exact cnt_yes hr hi hp' hx') W0
    (fun W i hW hi => by
      have hp' : ps[i]? = some (ps[i]'(by omega)) := List.getElem?_eq_getElem _
      have h1 := (hr.1 _ (List.mem_of_getElem? hp')).1
      have hx' : (ps[i]'(by omega))[0]? = some ((ps[i]'(by omega))[0]'(by omega)) := List.getElem?_eq_getElem _
      have := find1_any ps ao cap k w.heap.size (w.heap.size + 1) i _ _ hp' hx' h1000 W ((hW.cell (cell_lt k1)).trans k1) ((hW.cell (cell_lt k2)).trans k2) (liesPg_next hl0 hW hW.size)
      unfold headLess
      rw [hp']
      simp only
      rw [hx']
      exact this)
  obtain ⟨a, rfl, hblk, bo, c, c0, hl2, hcap⟩ := hl0 (ofP ps k) p hp
  rw [Nat.mul_one] at c0
  have hri : Rises p := right_page hr hp
  have hS2 : ∀ w1, Below W0.heap.size W0 w1 → Calls Try.prog 67 #[.int .i64 (p.length : Int), .func (.func 90) #[] #[.pointer (some ⟨w1.heap.size, 0, none⟩), .pointer (some ⟨w.heap.size + 1, 0, none⟩)]] (w1.alloc (.cells #[.slice bo p.length c] 22)) fun e w' => e = .returned (.int .i64 (cntK p k : Int)) ∧ Below (w1.alloc (.cells #[.slice bo p.length c] 22)).heap.size (w1.alloc (.cells #[.slice bo p.length c] 22)) w' := by
    intro w1 hb1
    have hs1 := hb1.size
    refine search_two p.length w1.heap.size (w.heap.size + 1) (notLess p k) (cntK p k) (by omega) hkl (fun i hi => ?_) (fun i hi hin => ?_) _ (fun W i hW hi => ?_)
    · have hx' : p[i]? = some (p[i]'(by omega)) := List.getElem?_eq_getElem _
      unfold notLess
      rw [hx']
      simp only
      rw [cntK_no hi hx']
      rfl
    · have hx' : p[i]? = some (p[i]'(by omega)) := List.getElem?_eq_getElem _
      unfold notLess
      rw [hx']
      simp only
      rw [cntK_yes hri hi hx']
      rfl
    · have hx' : p[i]? = some (p[i]'(by omega)) := List.getElem?_eq_getElem _
      have g1 : (w1.alloc (.cells #[.slice bo p.length c] 22)).cell? ⟨w1.heap.size, 0, none⟩ = some (.slice bo p.length c) := box_cell (heap_new w1 _) 0 _ rfl
      have g2 : (w1.alloc (.cells #[.slice bo p.length c] 22)).cell? ⟨w.heap.size + 1, 0, none⟩ = some (.string k) := alloc_cell _ ((hb1.cell (cell_lt k2)).trans k2)
      have hbb : Below W0.heap.size W0 W := (hb1.alloc hs1 _).trans (hW.mono (by simp; omega))
      have := find2_any p bo c k w1.heap.size (w.heap.size + 1) i _ hx' (by omega) W ((hW.cell (cell_lt g1)).trans g1) ((hW.cell (cell_lt g2)).trans g2) (liesPr_next hl2 hbb hbb.size)
      unfold notLess
      rw [hx']
      exact this
  have HH : Hid (hasK p k = match p[cntK p k]? with | none => false | some x => x.key.toList == k.toList) := rfl
  have hmax : ofP ps k = cntP ps k - 1 := rfl
  have hne : ¬ ps = [] := by rintro rfl; simp at hol
  have k2' : ∀ w1, Below W0.heap.size W0 w1 → ∀ o w2, Below (w1.alloc o).heap.size (w1.alloc o) w2 → (∀ z : Low w2, z.wd.cell? ⟨w.heap.size + 1, 0, none⟩ = some (.string k)) := fun w1 hb1 o w2 hb2 z => by
    have h1 := alloc_cell o ((hb1.cell (cell_lt k2)).trans k2)
    have h2 := (hb2.cell (cell_lt h1)).trans h1
    exact (z.cell (cell_lt h2)).trans h2
  have k3' : ∀ w1, Below W0.heap.size W0 w1 → ∀ w2, Below (w1.alloc (.cells #[.slice bo p.length c] 22)).heap.size (w1.alloc (.cells #[.slice bo p.length c] 22)) w2 → (∀ z : Low w2, z.wd.cell? ⟨w1.heap.size, 0, none⟩ = some (.slice bo p.length c)) := fun w1 hb1 w2 hb2 z => by
    have h1 : (w1.alloc (.cells #[.slice bo p.length c] 22)).cell? ⟨w1.heap.size, 0, none⟩ = some (.slice bo p.length c) := box_cell (heap_new w1 _) 0 _ rfl
    have h2 := (hb2.cell (cell_lt h1)).trans h1
    exact (z.cell (cell_lt h2)).trans h2
  have HL2 : Hid (LiesPr W0 W0.heap.size bo p) := hl2
  have KC1 : ∀ w1, Below W0.heap.size W0 w1 → w1.cell? (a.add (ofP ps k)) = some (.slice bo p.length c) := fun w1 hb1 => (hb1.cell (cell_lt c0)).trans c0
  have KB1 : ∀ w1, Below W0.heap.size W0 w1 → w1.cell? ⟨w.heap.size, 0, none⟩ = some (.slice (some a) ps.length cap) := fun w1 hb1 => (hb1.cell (cell_lt k1)).trans k1
  clear hl hl0 hl2 hr hri hp c0 k2
  generalize hM : ofP ps k = M at *
  generalize hC : cntK p k = C at *
  generalize hG : hasK p k = G at *
  generalize cntP ps k = N at *
  rcases Nat.eq_zero_or_pos N with hN | hN
  · subst hN
    obtain rfl : M = 0 := hmax
    go_enter Try.func74, Try.ntmps74
    go_wp2_with (first
      | (go_at_call 67; rw [← hW0]; refine hS1.mono ?_; rintro e w1 ⟨rfl, hb1⟩
         have kc := KC1 w1 hb1
         rw [show a.add 0 = a from addr_zero a] at kc
         have kb := KB1 w1 hb1)
      | (go_at_call 67; refine (hS2 w1 hb1).mono ?_; rintro e w2 ⟨rfl, hb2⟩
         have d1 := k2' w1 hb1 _ w2 hb2
         have d2 := k3' w1 hb1 w2 hb2))
    have hbf : Below w.heap.size w w2 := (hb0.trans (hb1.mono hb0.size)).trans (((Below.refl _ w1).alloc (Nat.le_trans hb0.size hb1.size) _).trans (hb2.mono (by have := hb0.size; have := hb1.size; simp; omega)))
    clear hS1 hS2 k2' k3' KC1 KB1
    by_cases hlt : C < p.length
    · obtain ⟨a2, rfl, _, e0, _⟩ := HL2.out C p[C] (List.getElem?_eq_getElem hlt)
      have hlti : decide ((C : Int) < (p.length : Int)) = true := by simp; omega
      have hbz : Below W0.heap.size W0 w2 := (hb1.alloc hb1.size _).trans (hb2.mono (by have := hb1.size; simp; omega))
      have d3 : ∀ z : Low w2, z.wd.cell? (a2.add (C * 2)) = some (.string (p[C]).key) := fun z => by
        have h2 := (hbz.cell (cell_lt e0)).trans e0
        exact (z.cell (cell_lt h2)).trans h2
      have HG : Hid (G = ((p[C]).key.toList == k.toList)) := by
        unfold Hid
        rw [HH.out, List.getElem?_eq_getElem hlt]
      clear HH e0 HL2
      generalize p[C] = x at *
      refine wp_region_low (by kernel_rfl) (by kernel_rfl) fun hsome => ?_
      repeat (go_big_quiet_step (fail))
      refine wpQuiet_nil ?_
      rintro _ ⟨z, rfl⟩
      have hz := z.low
      go_wp2
      go_ret3
      rw [HG.out]
      exact ⟨rfl, below_next hbf (Nat.le_refl _) hz⟩
    · have hlti : decide ((C : Int) < (p.length : Int)) = false := by simp; omega
      have HG : Hid (G = false) := by
        unfold Hid
        rw [HH.out, List.getElem?_eq_none (by omega)]
      clear HH HL2
      refine wp_region_low (by kernel_rfl) (by kernel_rfl) fun hsome => ?_
      repeat (go_big_quiet_step (fail))
      refine wpQuiet_nil ?_
      rintro _ ⟨z, rfl⟩
      have hz := z.low
      go_wp2
      go_ret3
      rw [HG.out]
      exact ⟨rfl, below_next hbf (Nat.le_refl _) hz⟩
  · obtain ⟨N', rfl⟩ : ∃ N', N = N' + 1 := ⟨N - 1, by omega⟩
    obtain rfl : M = N' := by omega
    clear hmax hN
    go_enter Try.func74, Try.ntmps74
    go_wp2_with (first
      | (go_at_call 67; rw [← hW0]; refine hS1.mono ?_; rintro e w1 ⟨rfl, hb1⟩
         have kc := KC1 w1 hb1
         have kb := KB1 w1 hb1)
      | (go_at_call 67; refine (hS2 w1 hb1).mono ?_; rintro e w2 ⟨rfl, hb2⟩
         have d1 := k2' w1 hb1 _ w2 hb2
         have d2 := k3' w1 hb1 w2 hb2))
    have hbf : Below w.heap.size w w2 := (hb0.trans (hb1.mono hb0.size)).trans (((Below.refl _ w1).alloc (Nat.le_trans hb0.size hb1.size) _).trans (hb2.mono (by have := hb0.size; have := hb1.size; simp; omega)))
    clear hS1 hS2 k2' k3' KC1 KB1
    by_cases hlt : C < p.length
    · obtain ⟨a2, rfl, _, e0, _⟩ := HL2.out C p[C] (List.getElem?_eq_getElem hlt)
      have hlti : decide ((C : Int) < (p.length : Int)) = true := by simp; omega
      have hbz : Below W0.heap.size W0 w2 := (hb1.alloc hb1.size _).trans (hb2.mono (by have := hb1.size; simp; omega))
      have d3 : ∀ z : Low w2, z.wd.cell? (a2.add (C * 2)) = some (.string (p[C]).key) := fun z => by
        have h2 := (hbz.cell (cell_lt e0)).trans e0
        exact (z.cell (cell_lt h2)).trans h2
      have HG : Hid (G = ((p[C]).key.toList == k.toList)) := by
        unfold Hid
        rw [HH.out, List.getElem?_eq_getElem hlt]
      clear HH e0 HL2
      generalize p[C] = x at *
      refine wp_region_low (by kernel_rfl) (by kernel_rfl) fun hsome => ?_
      repeat (go_big_quiet_step (fail))
      refine wpQuiet_nil ?_
      rintro _ ⟨z, rfl⟩
      have hz := z.low
      go_wp2
      go_ret3
      rw [HG.out]
      exact ⟨rfl, below_next hbf (Nat.le_refl _) hz⟩
    · have hlti : decide ((C : Int) < (p.length : Int)) = false := by simp; omega
      have HG : Hid (G = false) := by
        unfold Hid
        rw [HH.out, List.getElem?_eq_none (by omega)]
      clear HH HL2
      refine wp_region_low (by kernel_rfl) (by kernel_rfl) fun hsome => ?_
      repeat (go_big_quiet_step (fail))
      refine wpQuiet_nil ?_
      rintro _ ⟨z, rfl⟩
      have hz := z.low
      go_wp2
      go_ret3
      rw [HG.out]
      exact ⟨rfl, below_next hbf (Nat.le_refl _) hz⟩
end Go.Proofs.Ytdmkmhjalcfchaa
