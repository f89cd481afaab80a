/-
  Contracts: the document's own reader of floats and bytes.
-/
import Derived.Test.YtiajlhjjmlakmaaGreatDoorLxRt
import Derived.Test.YtiajlhjjmlakmaaGreatDoorLxJ
import Derived.Test.YtiajlhjjmlakmaaGreatDoorVGet1
namespace Go.Proofs.YtiajlhjjmlakmaaGreatDoor
open Go.RowKit Num
set_option linter.unusedVariables false
set_option maxRecDepth 100000

def halfV (b : UInt8) : Int := if hexB b = true then (nib b : Int) else -1
theorem half_any (b : UInt8) (w : World) :
    Calls Tryz.prog 108 #[.int .u8 (b.toNat : Int)] w fun e w' => e = .returned (.int .i64 (halfV b)) ∧ w' = w := by
  have hd := refDigit_any b
  have hlt := b.toNat_lt
  cases h : digB b with
  | true =>
    have hb := (digB_iff b).1 h
    have hv : Hid (halfV b = (b.toNat : Int) - 48) := by
      unfold Hid halfV nib
      rw [if_pos (by simp [hexB, h]), if_pos h]
      omega
    rw [h] at hd
    clear h
    go_enter Tryz.func108, Tryz.ntmps108
    go_wp2_with (go_at_call 71; refine (hd _).mono ?_; rintro e w1 ⟨rfl, rfl⟩)
    go_ret
    exact ⟨by rw [hv.out]; rfl, rfl⟩
  | false =>
    rw [h] at hd
    by_cases h1 : 97 ≤ b.toNat
    · have h1i : (97 : Int) ≤ (b.toNat : Int) := by omega
      by_cases h2 : b.toNat ≤ 102
      · have h2i : (b.toNat : Int) ≤ 102 := by omega
        have hv : Hid (halfV b = (b.toNat : Int) - 97 + 10) := by
          unfold Hid halfV nib
          rw [if_pos (by simp [hexB, h1, h2]), if_neg (by simp [h])]
          omega
        clear h h1 h2
        go_enter Tryz.func108, Tryz.ntmps108
        go_wp2_with (go_at_call 71; refine (hd _).mono ?_; rintro e w1 ⟨rfl, rfl⟩)
        go_ret
        exact ⟨by rw [hv.out]; rfl, rfl⟩
      · have h2i : ¬ (b.toNat : Int) ≤ 102 := by omega
        have hv : Hid (halfV b = -1) := by
          unfold Hid halfV
          rw [if_neg (by simp [hexB, h, h2])]
        clear h h1 h2
        go_enter Tryz.func108, Tryz.ntmps108
        go_wp2_with (go_at_call 71; refine (hd _).mono ?_; rintro e w1 ⟨rfl, rfl⟩)
        go_ret
        exact ⟨by rw [hv.out]; rfl, rfl⟩
    · have h1i : ¬ (97 : Int) ≤ (b.toNat : Int) := by omega
      have hv : Hid (halfV b = -1) := by
        unfold Hid halfV
        rw [if_neg (by simp [hexB, h, h1])]
      clear h h1
      go_enter Tryz.func108, Tryz.ntmps108
      go_wp2_with (go_at_call 71; refine (hd _).mono ?_; rintro e w1 ⟨rfl, rfl⟩)
      go_ret
      exact ⟨by rw [hv.out]; rfl, rfl⟩
theorem half_hex {b : UInt8} (h : hexB b = true) : halfV b = (nib b : Int) ∧ nib b < 16 := by
  refine ⟨?_, nib_lt h⟩
  unfold halfV
  rw [if_pos h]
theorem half_not {b : UInt8} (h : hexB b = false) : halfV b = -1 := by
  unfold halfV
  rw [if_neg (by simp [h])]
/-- The first so many are hexadecimal digits. -/
def HexTo (r : List UInt8) (n : Nat) : Prop := n ≤ r.length ∧ ∀ i (hi : i < r.length), i < n → hexB r[i] = true
theorem hexNone {r : List UInt8} (h : ∀ d, digsG r = some d → d.length % 2 = 1) : bytesT r = none ∧ floatT r = none := by
  unfold bytesT floatT
  cases hd : digsG r with
  | none => exact ⟨rfl, rfl⟩
  | some d =>
    have := h d hd
    simp only
    exact ⟨if_neg (by omega), if_neg (by omega)⟩
theorem digs_run {r d : List UInt8} (h : digsG r = some d) : d = r.take (runL hexB r) ∧ (r.drop (runL hexB r)).head? = some 39 := by
  unfold digsG at h
  split at h
  · exact ⟨(Option.some.inj h).symm, by assumption⟩
  · cases h
theorem digs_len {r d : List UInt8} (h : digsG r = some d) : d.length = runL hexB r := by
  rw [(digs_run h).1, List.length_take, Nat.min_eq_left (runL_le _ _)]
/-- The digits end here: at the text's end, or at a byte that is no digit and no quote. -/
theorem hex_stop {r : List UInt8} {n : Nat} (h : HexTo r n) (hs : r.length = n ∨ ∃ c q, r.drop n = c :: q ∧ hexB c = false ∧ c ≠ 39) : bytesT r = none ∧ floatT r = none := by
  refine hexNone fun d hd => ?_
  have h2 := (digs_run hd).2
  rcases hs with hs | ⟨c, q, hc, hx, hne⟩
  · rw [runL_all hexB r fun j hj => h.2 j hj (by omega), List.drop_length] at h2
    cases h2
  · have hn : n < r.length := by
      have := congrArg List.length hc
      rw [List.length_drop, List.length_cons] at this
      omega
    have hc2 : r[n] = c := by
      rw [List.drop_eq_getElem_cons hn] at hc
      exact (List.cons.inj hc).1
    rw [runL_at hexB r n hn h.2 (by rw [hc2]; exact hx), hc, List.head?_cons] at h2
    exact absurd (Option.some.inj h2) hne
/-- An odd number of digits. -/
theorem hex_odd {r : List UInt8} {n : Nat} (h : HexTo r (n + 1)) (hn : n % 2 = 0) (hs : r.length = n + 1 ∨ ∃ c q, r.drop (n + 1) = c :: q ∧ hexB c = false) : bytesT r = none ∧ floatT r = none := by
  refine hexNone fun d hd => ?_
  rw [digs_len hd]
  rcases hs with hs | ⟨c, q, hc, hx⟩
  · rw [runL_all hexB r fun j hj => h.2 j hj (by omega)]
    omega
  · have hl : n + 1 < r.length := by
      have := congrArg List.length hc
      rw [List.length_drop, List.length_cons] at this
      omega
    have hc2 : r[n + 1] = c := by
      rw [List.drop_eq_getElem_cons hl] at hc
      exact (List.cons.inj hc).1
    rw [runL_at hexB r (n + 1) hl h.2 (by rw [hc2]; exact hx)]
    omega
theorem hex_quote {r : List UInt8} {n : Nat} (h : HexTo r n) {q : List UInt8} (hc : r.drop n = 39 :: q) : digsG r = some (r.take n) := by
  have hn : n < r.length := by
    have := congrArg List.length hc
    rw [List.length_drop, List.length_cons] at this
    omega
  have hc2 : r[n] = 39 := by
    rw [List.drop_eq_getElem_cons hn] at hc
    exact (List.cons.inj hc).1
  have hr := runL_at hexB r n hn h.2 (by rw [hc2]; decide)
  unfold digsG
  rw [hr, hc]
  rfl
theorem numOf_pairs : ∀ (k : Nat) (d : List UInt8), 2 * k ≤ d.length → (∀ c ∈ d, hexB c = true) → numOf (pairsL (d.take (2 * k))) = hexNum (d.take (2 * k))
  | 0, d, _, _ => by simp [pairsL, numOf, hexNum]
  | k + 1, d, h, hx => by
    have ih := numOf_pairs k d (by omega) hx
    have ha := nib_lt (hx d[2 * k] (List.getElem_mem _))
    have hb := nib_lt (hx d[2 * k + 1] (List.getElem_mem _))
    have e : d.take (2 * (k + 1)) = d.take (2 * k) ++ [d[2 * k]] ++ [d[2 * k + 1]] := by
      rw [show 2 * (k + 1) = 2 * k + 1 + 1 by omega, List.take_add_one, List.take_add_one, List.getElem?_eq_getElem (by omega), List.getElem?_eq_getElem (by omega)]
      rfl
    rw [pairsL_next k d (by omega), numOf_snoc, ih, ofNat_toNat (by omega), e, hexNum_snoc, hexNum_snoc]
    omega
end Go.Proofs.YtiajlhjjmlakmaaGreatDoor
