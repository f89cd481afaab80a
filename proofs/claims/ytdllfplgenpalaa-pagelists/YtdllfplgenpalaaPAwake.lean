/-
  Contracts: the document's example: keys a to i put one by one.
-/
import Derived.Test.YtdllfplgenpalaaPPutC
import Derived.Laws.IdiomStrings
namespace Go.Proofs.Ytdllfplgenpalaa
open Go.RowKit Num
open scoped Classical
set_option linter.unusedVariables false

def Num.awK (c : Nat) : ByteArray := ⟨#[UInt8.ofNat (97 + c)]⟩
def Num.awX (c : Nat) : Pr := ⟨awK c, ⟨#[120]⟩⟩
def Num.awL (c : Nat) : List Pr := (List.range c).map awX
/-- The pages when so many keys are put. -/
def Num.awP (c : Nat) : Pages := if c = 0 then [] else splitP (awL c)
theorem aw_less : ∀ b, b < 9 → ∀ a, a < b → Op.bytesLess [UInt8.ofNat (97 + a)] [UInt8.ofNat (97 + b)] = true := by decide
theorem awK_kl {a b : Nat} (hb : b < 9) (h : a < b) : kl (awK a) (awK b) := by
  unfold kl awK
  rw [Lib.toList_data, Lib.toList_data]
  exact aw_less b hb a h
theorem awL_len (c : Nat) : (awL c).length = c := by simp [awL]
theorem awL_succ (c : Nat) : awL (c + 1) = awL c ++ [awX c] := by simp [awL, List.range_succ]
theorem awL_mem {c : Nat} {x : Pr} (h : x ∈ awL c) : ∃ a, a < c ∧ x = awX a := by
  unfold awL at h
  obtain ⟨a, ha, rfl⟩ := List.mem_map.1 h
  exact ⟨a, List.mem_range.1 ha, rfl⟩
theorem awP_short {c : Nat} (h0 : 1 ≤ c) (h : c ≤ 8) : awP c = [awL c] := by
  unfold awP splitP
  rw [if_neg (by omega), if_neg (by rw [awL_len]; omega)]
theorem aw_right {c : Nat} (h : c ≤ 8) : RightP (awP c) := by
  by_cases h0 : c = 0
  · subst h0
    exact right_nil
  · rw [awP_short (by omega) h]
    refine ⟨fun p hp => ?_, ?_⟩
    · rw [List.mem_singleton.1 hp, awL_len]
      omega
    · simp only [List.flatten_cons, List.flatten_nil, List.append_nil]
      unfold Rises awL
      rw [List.pairwise_map]
      refine List.Pairwise.imp_of_mem ?_ (List.pairwise_lt_range (n := c))
      intro a b ha hb hab
      exact awK_kl (by have := List.mem_range.1 hb; omega) hab
theorem aw_put {c : Nat} (h : c ≤ 8) : putA (awP c) (awK c) ⟨#[120]⟩ = awP (c + 1) := by
  rw [putA_yes (aw_right h)]
  by_cases h0 : c = 0
  · subst h0
    rfl
  · rw [awP_short (by omega) h]
    have hof : ofP [awL c] (awK c) = 0 := by
      have := cnt_le [awL c] (awK c)
      unfold ofP
      simp at this
      omega
    have hins : insL (awL c) (awK c) ⟨#[120]⟩ = awL (c + 1) := by
      have := insL_left (v := ⟨#[120]⟩) (awL c) [] (k := awK c) (fun x hx => by
        obtain ⟨a, ha, rfl⟩ := awL_mem hx
        exact awK_kl (by omega) ha)
      rw [List.append_nil] at this
      rw [this, awL_succ]
      rfl
    unfold putP
    rw [hof]
    show ([] : Pages) ++ (splitP (insL (awL c) (awK c) ⟨#[120]⟩) ++ []) = _
    rw [hins]
    unfold awP
    rw [if_neg (by omega)]
    simp
theorem aw_small {c : Nat} (h : c ≤ 8) : (awP c).length ≤ 900 ∧ ∀ p ∈ awP c, p.length ≤ 1000 := by
  by_cases h0 : c = 0
  · subst h0
    exact ⟨by simp [awP], by simp [awP]⟩
  · rw [awP_short (by omega) h]
    refine ⟨by simp, fun p hp => ?_⟩
    rw [List.mem_singleton.1 hp, awL_len]
    omega
theorem conv_one (W : World) (b n : Nat) (hn : n < 256) (h : W.heap[b]? = some (.cells #[.int .u8 (n : Int)] 5 (0, 0))) : (convert 43 9 (.slice (some ⟨b, 0, none⟩) 1 1)).run Try.prog W = .ok (.string ⟨#[UInt8.ofNat n]⟩) W := by
  have h1 := run_convert_bytes_back (P := Try.prog) W 43 9 5 ⟨b, 0, none⟩ 1 [UInt8.ofNat n] Try.underlying43 Try.underlying5 Try.underlying9 (fun j hj => by
    cases j with
    | zero =>
      rw [addr_zero, box_cell h 0 _ rfl]
      simp [UInt8.toNat_ofNat', Nat.mod_eq_of_lt hn]
    | succ j => simp at hj)
  exact h1
set_option maxRecDepth 100000 in
set_option maxHeartbeats 2000000 in
theorem awake_any (w : World) :
    Calls Try.prog 11 #[] w fun e w' => e = .returned (.bool true) ∧ Below w.heap.size w w' := by
  go_enter Try.func11, Try.ntmps11
  go_wp2
  go_loopw [1, 2] (fun v i wr => ∃ (c n cap : Nat) (ao : Option Addr), c ≤ 9 ∧ i = .int .i64 (c : Int) ∧ v = .slice ao n cap ∧ Below w.heap.size w wr ∧ Hid (n = (awP c).length ∧ LiesPg wr wr.heap.size ao (awP c))) (fun _ i _ => 9 - (intOf i).toNat)
  case atStart => exact ⟨0, 0, 0, none, by omega, rfl, rfl, Below.refl _ _, rfl, lies_nil _ _ _⟩
  case round =>
    obtain ⟨c, n, cap, ao, hc, rfl, rfl, hbel, HL⟩ := hrel
    have hsz := hbel.size
    by_cases hcl : (c : Int) < 9
    · have hconv : (convert 43 9 (.slice (some ⟨wr.heap.size, 0, none⟩) 1 1)).run Try.prog (wr.alloc (.cells #[.int .u8 (97 + (c : Int))] 5)) = .ok (.string (awK c)) (wr.alloc (.cells #[.int .u8 (97 + (c : Int))] 5)) := conv_one (wr.alloc (.cells #[.int .u8 (97 + (c : Int))] 5)) wr.heap.size (97 + c) (by omega) (heap_new wr _)
      have hput : Calls Try.prog 14 #[.slice ao n cap, .string (awK c), .string ⟨#[120]⟩] (wr.alloc (.cells #[.int .u8 (97 + (c : Int))] 5)) fun e w' => ∃ (m : Nat) (ao' : Option Addr) (cap' : Nat), e = .returned (.slice ao' m cap') ∧ Hid (m = (awP (c + 1)).length ∧ LiesPg w' w'.heap.size ao' (awP (c + 1))) ∧ Below wr.heap.size wr w' := by
        obtain ⟨h1, h2⟩ := aw_small (c := c) (by omega)
        have hb0 := (Below.refl _ wr).alloc (Nat.le_refl _) (.cells #[.int .u8 (97 + (c : Int))] 5)
        have h := put_any (awP c) ao cap (awK c) ⟨#[120]⟩ h1 h2 _ (liesPg_next HL.out.2 hb0 hb0.size)
        rw [aw_put (by omega), ← HL.out.1] at h
        refine h.mono ?_
        rintro e w' ⟨ao', cap', rfl, hl', hb'⟩
        exact ⟨_, ao', cap', rfl, ⟨rfl, hl'⟩, hb0.trans (hb'.mono (by simp))⟩
      clear HL
      go_wp2_with (first
        | (go_at_call 14; refine hput.mono ?_; rintro e w1 ⟨m, ao1, cap1, rfl, HL1, hb1⟩))
      go_roundw
      case rel => exact ⟨c + 1, m, cap1, ao1, by omega, by go_num, rfl, below_next hbel (Nat.le_refl _) hb1, HL1⟩
      case measure => simp [intOf]; omega
    · obtain rfl : c = 9 := by omega
      have e9 : awP 9 = [(awL 9).take 4, (awL 9).drop 4] := by
        unfold awP splitP
        rw [if_neg (by omega), if_pos (by rw [awL_len]; omega)]
      obtain ⟨hn, hl⟩ := HL.out
      clear HL
      rw [e9] at hn hl
      have hn2 : n = 2 := hn
      subst hn2
      obtain ⟨a, rfl, hblk, b0, c0, k0, hl0, _⟩ := hl 0 _ rfl
      obtain ⟨a', e', _, b1, c1, k1, hl1, _⟩ := hl 1 _ rfl
      cases e'
      have hx : ((awL 9).drop 4)[0]? = some (awX 4) := by simp [awL, List.range_succ]
      obtain ⟨a2, rfl, _, q0, q1⟩ := hl1 0 _ hx
      rw [Nat.mul_one, addr_zero] at k0
      rw [Nat.mul_one] at k1
      rw [show a2.add (0 * 2) = a2 from addr_zero a2] at q0
      rw [List.length_take, awL_len] at k0
      rw [List.length_drop, awL_len] at k1
      have q2 : wr.cell? a2 = some (.string ⟨#[101]⟩) := q0
      simp only [Nat.min_eq_left (show 4 ≤ 9 by omega), show 9 - 4 = 5 from rfl] at k0 k1
      have k2 : wr.cell? ⟨a.block, a.off + 1, none⟩ = some (.slice (some a2) 5 c1) := k1
      clear hl hl0 hl1 q0 q1 hn e9
      go_wp2
      go_ret
      exact ⟨rfl, hbel⟩
end Go.Proofs.Ytdllfplgenpalaa
