/-
  Contracts of the document's own store: New, Get, Last, Within, Since.
-/
import Derived.Test.YtdmkmhjalcfchaaQMem
namespace Go.Proofs.Ytdmkmhjalcfchaa
open Go.RowKit Num
open scoped Classical
set_option linter.unusedVariables false
set_option maxRecDepth 100000

theorem rnew_no (room : Int) (h : room < 1 ∨ 4096 < room) (w : World) : Calls Try.prog 32 #[.int .i64 room] w fun e w' => e = .returned (.tuple #[.pointer none, .int .i64 1]) ∧ w' = w := by
  by_cases h1 : room < 1
  · go_enter Try.func32, Try.ntmps32
    go_wp2
    go_ret2
    exact ⟨rfl, rfl⟩
  · have h2 : 4096 < room := by omega
    have h3 : decide (room < 1) = false := decide_eq_false h1
    clear h
    go_enter Try.func32, Try.ntmps32
    go_wp2
    go_ret2
    exact ⟨rfl, rfl⟩
theorem rnew_yes (room : Int) (h1 : 1 ≤ room) (h2 : room ≤ 4096) (w : World) : Calls Try.prog 32 #[.int .i64 room] w fun e w' => ∃ g, e = .returned (.tuple #[.pointer (some ⟨g, 0, none⟩), .int .i64 0]) ∧ HoldR w.heap.size w' g ⟨room, 0, []⟩ ∧ Below w.heap.size w w' := by
  have hh : HoldR w.heap.size (w.alloc (.cells #[.int .i64 room, .int .i64 0, .slice none 0 0] 89)) w.heap.size ⟨room, 0, []⟩ := ⟨none, 0, heap_new w _, Nat.le_refl _, World.ownsRow_nil _ _ _ _, inv_new room (by omega)⟩
  have h3 : decide (room < 1) = false := decide_eq_false (by omega)
  have h4 : decide (4096 < room) = false := decide_eq_false (by omega)
  go_enter Try.func32, Try.ntmps32
  go_wp2
  go_ret2
  exact ⟨w.heap.size, rfl, hh, (Below.refl _ w).alloc (Nat.le_refl _) _⟩
set_option maxRecDepth 100000 in
set_option maxHeartbeats 1000000 in
theorem rget_any (B g : Nat) (st : Sto) (t : Int) (k : ByteArray) (hn : st.vs.length ≤ 5000) (w : World) (h : HoldR B w g st) :
    Calls Try.prog 59 #[.pointer (some ⟨g, 0, none⟩), .int .i64 t, .string k] w fun e w' => e = .returned (.tuple #[.string (lookS (getV st.vs k t)), .bool (lookB (getV st.vs k t))]) ∧ w' = w := by
  have hla := rlast_any B g st k t hn w h
  obtain ⟨ao, cap, h⟩ := h
  obtain ⟨_, _, c2⟩ := ref_cells h
  have hl := ref_lies h
  clear h
  generalize st.vs = l at *
  cases hJ : lastJ k t l with
  | zero =>
    rw [show getV l k t = none by unfold getV; rw [lastV_zero hJ]]
    rw [hJ, show (((0 : Nat) : Int) - 1) = -1 by omega] at hla
    clear hJ
    go_enter Try.func59, Try.ntmps59
    go_wp2_with (first
      | (go_at_call 54; refine hla.mono ?_; rintro e wn ⟨rfl, hq⟩; have hq' := hq.symm; clear hq; subst hq'))
    go_ret2
    exact ⟨rfl, rfl⟩
  | succ j =>
    obtain ⟨v, hv, hh, hd⟩ := lastJ_succ hJ
    have hgv : getV l k t = if v.gone = true then none else some v.val := by unfold getV; rw [lastV_succ hv hh hd]
    rw [hgv]
    clear hgv
    rw [hJ, show (((j + 1 : Nat) : Int) - 1) = (j : Int) by omega] at hla
    obtain ⟨a, rfl, hblk, e0, e1, e2, e3⟩ := hl j v hv
    have hjl : (j : Int) < (l.length : Int) := by have := (List.getElem?_eq_some_iff.1 hv).1; omega
    clear hJ hv hh hd hl e0 e1
    have hj0 : decide ((j : Int) < 0) = false := decide_eq_false (by omega)
    cases hg : v.gone with
    | true =>
      rw [hg] at e3
      rw [if_pos rfl]
      clear hg
      go_enter Try.func59, Try.ntmps59
      go_wp2_with (first
        | (go_at_call 54; refine hla.mono ?_; rintro e wn ⟨rfl, hq⟩; have hq' := hq.symm; clear hq; subst hq'))
      go_ret2
      exact ⟨rfl, rfl⟩
    | false =>
      rw [hg] at e3
      rw [if_neg (by simp)]
      clear hg
      go_enter Try.func59, Try.ntmps59
      go_wp2_with (first
        | (go_at_call 54; refine hla.mono ?_; rintro e wn ⟨rfl, hq⟩; have hq' := hq.symm; clear hq; subst hq'))
      go_ret2
      exact ⟨rfl, rfl⟩
set_option maxRecDepth 100000 in
set_option maxHeartbeats 1000000 in
theorem rlastT_any (B g : Nat) (st : Sto) (k : ByteArray) (hn : st.vs.length ≤ 5000) (w : World) (h : HoldR B w g st) :
    Calls Try.prog 29 #[.pointer (some ⟨g, 0, none⟩), .string k] w fun e w' => e = .returned (.int .i64 (lastT st.vs k)) ∧ w' = w := by
  have hla := rlast_any B g st k 1099511627776 hn w h
  obtain ⟨ao, cap, h⟩ := h
  obtain ⟨_, _, c2⟩ := ref_cells h
  have hl := ref_lies h
  unfold lastT
  rw [← lastA_all h.inv]
  clear h
  generalize st.vs = l at *
  cases hJ : lastJ k 1099511627776 l with
  | zero =>
    rw [lastV_zero hJ]
    rw [hJ, show (((0 : Nat) : Int) - 1) = -1 by omega] at hla
    clear hJ
    go_enter Try.func29, Try.ntmps29
    go_wp2_with (first
      | (go_at_call 54; refine hla.mono ?_; rintro e wn ⟨rfl, hq⟩; have hq' := hq.symm; clear hq; subst hq'))
    go_ret
    exact ⟨rfl, rfl⟩
  | succ j =>
    obtain ⟨v, hv, hh, hd⟩ := lastJ_succ hJ
    rw [lastV_succ hv hh hd]
    rw [hJ, show (((j + 1 : Nat) : Int) - 1) = (j : Int) by omega] at hla
    obtain ⟨a, rfl, hblk, e0, e1, e2, e3⟩ := hl j v hv
    have hjl : (j : Int) < (l.length : Int) := by have := (List.getElem?_eq_some_iff.1 hv).1; omega
    clear hJ hv hh hd hl e0 e2
    have hj0 : decide ((j : Int) < 0) = false := decide_eq_false (by omega)
    go_enter Try.func29, Try.ntmps29
    go_wp2_with (first
      | (go_at_call 54; refine hla.mono ?_; rintro e wn ⟨rfl, hq⟩; have hq' := hq.symm; clear hq; subst hq'))
    go_ret
    exact ⟨rfl, rfl⟩
set_option maxHeartbeats 1000000 in
theorem within_any (k lo hi : ByteArray) (w : World) : Calls Try.prog 27 #[.string k, .string lo, .string hi] w fun e w' => e = .returned (.bool (withinB k lo hi)) ∧ w' = w := by
  unfold withinB
  cases hlo : Op.bytesLess k.toList lo.toList with
  | true =>
    go_enter Try.func27, Try.ntmps27
    go_wp2
    go_ret
    exact ⟨rfl, rfl⟩
  | false =>
    by_cases he : hi.toList = []
    · have he2 : (hi.toList == []) = true := by rw [he]; rfl
      have he3 : hi.toList.isEmpty = true := by rw [he]; rfl
      rw [he3]
      clear he3
      go_enter Try.func27, Try.ntmps27
      go_wp2
      go_ret
      exact ⟨rfl, rfl⟩
    · have he2 : (hi.toList == []) = false := by simpa using he
      have he3 : hi.toList.isEmpty = false := by
        cases h : hi.toList with
        | nil => exact absurd h he
        | cons a l => rfl
      rw [he3]
      go_enter Try.func27, Try.ntmps27
      go_wp2
      go_ret
      exact ⟨rfl, rfl⟩
set_option maxRecDepth 100000 in
set_option maxHeartbeats 2000000 in
theorem rsince_any (B g : Nat) (st : Sto) (lo hi : ByteArray) (t : Int) (hn : st.vs.length ≤ 5000) (w : World) (h : HoldR B w g st) :
    Calls Try.prog 30 #[.pointer (some ⟨g, 0, none⟩), .string lo, .string hi, .int .i64 t] w fun e w' => e = .returned (.bool (sinceV st.vs lo hi t)) ∧ w' = w := by
  obtain ⟨ao, cap, h⟩ := h
  obtain ⟨_, _, c2⟩ := ref_cells h
  have hl := ref_lies h
  clear h
  generalize st.vs = l at *
  obtain ⟨out, hout⟩ : ∃ out, sinceV l lo hi t = out := ⟨_, rfl⟩
  have HOUT : Hid (l.any (fun v => decide (t < v.time) && withinB v.key lo hi) = out) := hout
  rw [hout]
  clear hout
  go_enter Try.func30, Try.ntmps30
  go_wp2
  go_loop [9] (fun i => ∃ c : Nat, c ≤ l.length ∧ i = .int .i64 (c : Int) ∧ Hid (∀ (j : Nat) x, j < c → l[j]? = some x → (decide (t < x.time) && withinB x.key lo hi) = false)) (fun i => l.length - (intOf i).toNat)
  case atStart => exact ⟨0, by omega, rfl, fun j x hj => absurd hj (Nat.not_lt_zero _)⟩
  case round =>
    obtain ⟨c, hc, rfl, HF⟩ := hrel
    by_cases hcl : (c : Int) < (l.length : Int)
    · have HX : Hid (l[c]? = some (l[c]'(by omega))) := List.getElem?_eq_getElem _
      obtain ⟨a, rfl, hblk, e0, e1, e2, e3⟩ := hl c _ HX.out
      generalize (l[c]'(by omega)) = x at *
      have HN : Hid ((decide (t < x.time) && withinB x.key lo hi) = false → ∀ (j : Nat) y, j < c + 1 → l[j]? = some y → (decide (t < y.time) && withinB y.key lo hi) = false) := fun h0 j y hj hy => by
        rcases Nat.lt_or_ge j c with h | h
        · exact HF.out j y h hy
        · obtain rfl : j = c := by omega
          rw [HX.out] at hy
          cases hy
          exact h0
      have hw := within_any x.key lo hi w
      by_cases ht : t < x.time
      · cases hwb : withinB x.key lo hi with
        | true =>
          rw [hwb] at hw
          have hany : l.any (fun v => decide (t < v.time) && withinB v.key lo hi) = true := List.any_eq_true.2 ⟨x, List.mem_of_getElem? HX.out, by rw [hwb, decide_eq_true ht]; rfl⟩
          obtain rfl : true = out := hany.symm.trans HOUT.out
          clear hany HX HF HN HOUT hwb
          go_wp2_with (first
            | (go_at_call 27; refine hw.mono ?_; rintro e wn ⟨rfl, hq⟩; have hq' := hq.symm; clear hq; subst hq'))
          go_ret
          exact ⟨rfl, rfl⟩
        | false =>
          rw [hwb] at hw
          have HF2 := HN.out (by rw [hwb, Bool.and_false])
          have HF3 : Hid (∀ (j : Nat) y, j < c + 1 → l[j]? = some y → (decide (t < y.time) && withinB y.key lo hi) = false) := HF2
          clear HF2 HX HF HN HOUT hwb
          go_wp2_with (first
            | (go_at_call 27; refine hw.mono ?_; rintro e wn ⟨rfl, hq⟩; have hq' := hq.symm; clear hq; subst hq'))
          go_round
          case rel => exact ⟨c + 1, by omega, by go_num, HF3.out⟩
          case measure => simp [intOf]; omega
      · have HF2 := HN.out (by rw [decide_eq_false ht, Bool.false_and])
        have HF3 : Hid (∀ (j : Nat) y, j < c + 1 → l[j]? = some y → (decide (t < y.time) && withinB y.key lo hi) = false) := HF2
        have ht2 : decide (t < x.time) = false := decide_eq_false ht
        clear HF2 HX HF HN HOUT hw
        go_wp2
        go_round
        case rel => exact ⟨c + 1, by omega, by go_num, HF3.out⟩
        case measure => simp [intOf]; omega
    · have hany : l.any (fun v => decide (t < v.time) && withinB v.key lo hi) = false := any_take (fun j x hj hx => HF.out j x (by omega) hx)
      obtain rfl : false = out := hany.symm.trans HOUT.out
      clear hany HF HOUT
      go_wp2
      go_ret
      exact ⟨rfl, rfl⟩
end Go.Proofs.Ytdmkmhjalcfchaa
