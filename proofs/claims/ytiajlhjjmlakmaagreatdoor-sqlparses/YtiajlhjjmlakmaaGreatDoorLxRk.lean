import Derived.Test.YtiajlhjjmlakmaaGreatDoorLxRi
import Derived.Test.YtiajlhjjmlakmaaGreatDoorLxRo
import Derived.Test.YtiajlhjjmlakmaaGreatDoorLxF
namespace Go.Proofs.YtiajlhjjmlakmaaGreatDoor
open Go.RowKit Num
set_option maxHeartbeats 1000000
set_option linter.unusedVariables false
set_option maxRecDepth 100000
set_option linter.unusedSimpArgs false

theorem refSays_open {s : ByteArray} {p : Nat} {o : Option Tk} {e : Ending} (h : RefSays s p o e) : ∃ k t v q i b, e = .returned (.tuple #[tokV k t v q, .int .i64 i, .bool b]) := by
 cases o with
 | none =>
  obtain ⟨k, t, v, q, i, rfl⟩ := h
  exact ⟨k, t, v, q, i, false, rfl⟩
 | some x => exact ⟨_, _, _, _, _, _, h⟩
theorem head_39 {s : ByteArray} {p : Nat} (h : p < s.size) : ((s.data.toList.drop p).head? = some 39) ↔ s[p].toNat = 39 := by
 rw [sdrop_at s p h, List.head?_cons]
 refine ⟨fun e => by rw [Option.some.inj e]; rfl, fun e => ?_⟩
 rw [show s[p] = 39 from UInt8.toNat_inj.1 e]
theorem head_end {s : ByteArray} {p : Nat} (h : ¬ p < s.size) : ¬ (s.data.toList.drop p).head? = some 39 := by
 have hl : s.data.toList.length = s.size := rfl
 rw [List.drop_of_length_le (by omega)]
 intro e
 cases e
theorem refNext_bytes (s : ByteArray) (p : Nat) (hp : p < s.size) (hs2 : s.size ≤ 1000) (hc : s[p].toNat = 120) (hp1 : p + 1 < s.size) (hq : s[p + 1].toNat = 39) (w : World) :
  Calls Tryz.prog 37 #[.string s, .int .i64 (p : Int)] w fun e w' => RefSays s p (tokL (s.data.toList.drop p)) e ∧ Below w.heap.size w w' := by
 have hdp := sdrop_at s p hp
 have hsm : (s.size : Int) ≤ 1000 := by omega
 have hpi : (p : Int) < (s.size : Int) := by omega
 have htok : tokL (s[p] :: s.data.toList.drop (p + 1)) = bytesT (s.data.toList.drop (p + 2)) := by
  rw [tokL, if_pos ⟨hc, (head_39 hp1).2 hq⟩, List.drop_drop]
 have hci : ((s[p].toNat : Nat) : Int) = 120 := by omega
 have hqi : ((s[p + 1].toNat : Nat) : Int) = 39 := by omega
 have hp1i : (p : Int) + 1 < (s.size : Int) := by omega
 have hv := refHex_any s p hp1 hs2
 rw [if_pos hc] at hv
 rw [hdp, htok]
 clear hdp htok hc hq
 go_enter Tryz.func37, Tryz.ntmps37
 go_wp2_with (first
  | (go_at_call 67; refine (hv _).mono ?_; rintro e w3 ⟨hS, hb3⟩; obtain ⟨tk, tt, tv, tq, ti, tb, rfl⟩ := refSays_open hS; simp only [tokV]; have hz := zboxR_at hb3; obtain ⟨q0, q1, q2, q3, q4, q5, q6⟩ := cells7 hz; obtain ⟨z0, z1, z2, z3, z4, z5, z6⟩ := free7 hz; clear hz))
 refine bodyPost_ret (v := .tuple #[tokV tk tt tv tq, .int .i64 ti, .bool tb]) (by simp [results, Tryz.results37, go_sem, tokV, q0, q1, q2, q3, q4, q5, q6]) rfl ⟨hS, ?_⟩
 exact below_set7 (below_box0 hb3) (Nat.le_refl _) _ _ _ _ _ _ _
theorem refNext_float (s : ByteArray) (p : Nat) (hp : p < s.size) (hs2 : s.size ≤ 1000) (hc : s[p].toNat = 102) (hp1 : p + 1 < s.size) (hq : s[p + 1].toNat = 39) (w : World) :
  Calls Tryz.prog 37 #[.string s, .int .i64 (p : Int)] w fun e w' => RefSays s p (tokL (s.data.toList.drop p)) e ∧ Below w.heap.size w w' := by
 have hdp := sdrop_at s p hp
 have hsm : (s.size : Int) ≤ 1000 := by omega
 have hpi : (p : Int) < (s.size : Int) := by omega
 have htok : tokL (s[p] :: s.data.toList.drop (p + 1)) = floatT (s.data.toList.drop (p + 2)) := by
  rw [tokL, if_neg (by omega), if_pos ⟨hc, (head_39 hp1).2 hq⟩, List.drop_drop]
 have hci : ((s[p].toNat : Nat) : Int) = 102 := by omega
 have hqi : ((s[p + 1].toNat : Nat) : Int) = 39 := by omega
 have hp1i : (p : Int) + 1 < (s.size : Int) := by omega
 have hv := refHex_any s p hp1 hs2
 rw [if_neg (show ¬ s[p].toNat = 120 by omega)] at hv
 rw [hdp, htok]
 clear hdp htok hc hq
 go_enter Tryz.func37, Tryz.ntmps37
 go_wp2_with (first
  | (go_at_call 67; refine (hv _).mono ?_; rintro e w3 ⟨hS, hb3⟩; obtain ⟨tk, tt, tv, tq, ti, tb, rfl⟩ := refSays_open hS; simp only [tokV]; have hz := zboxR_at hb3; obtain ⟨q0, q1, q2, q3, q4, q5, q6⟩ := cells7 hz; obtain ⟨z0, z1, z2, z3, z4, z5, z6⟩ := free7 hz; clear hz))
 refine bodyPost_ret (v := .tuple #[tokV tk tt tv tq, .int .i64 ti, .bool tb]) (by simp [results, Tryz.results37, go_sem, tokV, q0, q1, q2, q3, q4, q5, q6]) rfl ⟨hS, ?_⟩
 exact below_set7 (below_box0 hb3) (Nat.le_refl _) _ _ _ _ _ _ _
theorem refNext_digit (s : ByteArray) (p : Nat) (hp : p < s.size) (hs2 : s.size ≤ 1000) (hd : digB s[p] = true) (w : World) :
  Calls Tryz.prog 37 #[.string s, .int .i64 (p : Int)] w fun e w' => RefSays s p (tokL (s.data.toList.drop p)) e ∧ Below w.heap.size w w' := by
 have hdp := sdrop_at s p hp
 have hsm : (s.size : Int) ≤ 1000 := by omega
 have hpi : (p : Int) < (s.size : Int) := by omega
 have hr := (digB_iff s[p]).1 hd
 have hl : lowB s[p] = false := by
  unfold lowB
  rw [decide_eq_false (show ¬ 97 ≤ s[p].toNat by omega), Bool.false_and]
 have htok : tokL (s[p] :: s.data.toList.drop (p + 1)) = intT (s[p] :: (s.data.toList.drop (p + 1)).take (runL letB (s.data.toList.drop (p + 1)))) := by
  rw [tokL, if_neg (by omega), if_neg (by omega), if_neg (by rw [hl]; decide), if_pos (Or.inl hd)]
 have hv := refNumber_any s p hp hs2 (Or.inl hd)
 have hlow := refLow_any s[p]
 have hdig := refDigit_any s[p]
 rw [hl] at hlow
 rw [hd] at hdig
 have n1 : ¬ ((s[p].toNat : Nat) : Int) = 120 := by omega
 have n2 : ¬ ((s[p].toNat : Nat) : Int) = 102 := by omega
 rw [hdp, htok]
 clear hdp htok hd hl hr
 go_enter Tryz.func37, Tryz.ntmps37
 go_wp2_with (first
  | (go_at_call 72; refine (hv _).mono ?_; rintro e w3 ⟨hS, hb3⟩; obtain ⟨tk, tt, tv, tq, ti, tb, rfl⟩ := refSays_open hS; simp only [tokV]; have hz := zboxR_at hb3; obtain ⟨q0, q1, q2, q3, q4, q5, q6⟩ := cells7 hz; obtain ⟨z0, z1, z2, z3, z4, z5, z6⟩ := free7 hz; clear hz)
  | (go_at_call 68; refine (hlow _).mono ?_; rintro e w1 ⟨rfl, rfl⟩)
  | (go_at_call 71; refine (hdig _).mono ?_; rintro e w1 ⟨rfl, rfl⟩))
 refine bodyPost_ret (v := .tuple #[tokV tk tt tv tq, .int .i64 ti, .bool tb]) (by simp [results, Tryz.results37, go_sem, tokV, q0, q1, q2, q3, q4, q5, q6]) rfl ⟨hS, ?_⟩
 exact below_set7 (below_box0 hb3) (Nat.le_refl _) _ _ _ _ _ _ _
theorem refNext_minus (s : ByteArray) (p : Nat) (hp : p < s.size) (hs2 : s.size ≤ 1000) (hc : s[p].toNat = 45) (w : World) :
  Calls Tryz.prog 37 #[.string s, .int .i64 (p : Int)] w fun e w' => RefSays s p (tokL (s.data.toList.drop p)) e ∧ Below w.heap.size w w' := by
 have hdp := sdrop_at s p hp
 have hsm : (s.size : Int) ≤ 1000 := by omega
 have hpi : (p : Int) < (s.size : Int) := by omega
 have hl : lowB s[p] = false := by
  unfold lowB
  rw [decide_eq_false (show ¬ 97 ≤ s[p].toNat by omega), Bool.false_and]
 have htok : tokL (s[p] :: s.data.toList.drop (p + 1)) = intT (s[p] :: (s.data.toList.drop (p + 1)).take (runL letB (s.data.toList.drop (p + 1)))) := by
  rw [tokL, if_neg (by omega), if_neg (by omega), if_neg (by rw [hl]; decide), if_pos (Or.inr hc)]
 have hv := refNumber_any s p hp hs2 (Or.inr hc)
 have hci : ((s[p].toNat : Nat) : Int) = 45 := by omega
 have hlow : ∀ W, Calls Tryz.prog 68 #[.int .u8 45] W fun e w' => e = .returned (.bool false) ∧ w' = W := refLow_any 45
 have hdig : ∀ W, Calls Tryz.prog 71 #[.int .u8 45] W fun e w' => e = .returned (.bool false) ∧ w' = W := refDigit_any 45
 rw [hdp, htok]
 clear hdp htok hl hc
 go_enter Tryz.func37, Tryz.ntmps37
 go_wp2_with (first
  | (go_at_call 72; refine (hv _).mono ?_; rintro e w3 ⟨hS, hb3⟩; obtain ⟨tk, tt, tv, tq, ti, tb, rfl⟩ := refSays_open hS; simp only [tokV]; have hz := zboxR_at hb3; obtain ⟨q0, q1, q2, q3, q4, q5, q6⟩ := cells7 hz; obtain ⟨z0, z1, z2, z3, z4, z5, z6⟩ := free7 hz; clear hz)
  | (go_at_call 68; refine (hlow _).mono ?_; rintro e w1 ⟨rfl, rfl⟩)
  | (go_at_call 71; refine (hdig _).mono ?_; rintro e w1 ⟨rfl, rfl⟩))
 refine bodyPost_ret (v := .tuple #[tokV tk tt tv tq, .int .i64 ti, .bool tb]) (by simp [results, Tryz.results37, go_sem, tokV, q0, q1, q2, q3, q4, q5, q6]) rfl ⟨hS, ?_⟩
 exact below_set7 (below_box0 hb3) (Nat.le_refl _) _ _ _ _ _ _ _
theorem refNext_text (s : ByteArray) (p : Nat) (hp : p < s.size) (hs2 : s.size ≤ 1000) (hc : s[p].toNat = 39) (w : World) :
  Calls Tryz.prog 37 #[.string s, .int .i64 (p : Int)] w fun e w' => RefSays s p (tokL (s.data.toList.drop p)) e ∧ Below w.heap.size w w' := by
 have hdp := sdrop_at s p hp
 have hsm : (s.size : Int) ≤ 1000 := by omega
 have hpi : (p : Int) < (s.size : Int) := by omega
 have e : s[p] = 39 := UInt8.toNat_inj.1 hc
 have htok : tokL (s[p] :: s.data.toList.drop (p + 1)) = textT (s.data.toList.drop (p + 1)) := by
  rw [tokL, if_neg (by omega), if_neg (by omega), if_neg (by rw [e]; decide), if_neg (by rw [e]; decide), if_pos hc]
 have hv := refQuoted_any s p hp hs2
 have hci : ((s[p].toNat : Nat) : Int) = 39 := by omega
 have hlow : ∀ W, Calls Tryz.prog 68 #[.int .u8 39] W fun e w' => e = .returned (.bool false) ∧ w' = W := refLow_any 39
 have hdig : ∀ W, Calls Tryz.prog 71 #[.int .u8 39] W fun e w' => e = .returned (.bool false) ∧ w' = W := refDigit_any 39
 rw [hdp, htok]
 clear hdp htok hc e
 go_enter Tryz.func37, Tryz.ntmps37
 go_wp2_with (first
  | (go_at_call 73; refine (hv _).mono ?_; rintro e w3 ⟨hS, hb3⟩; obtain ⟨tk, tt, tv, tq, ti, tb, rfl⟩ := refSays_open hS; simp only [tokV]; have hz := zboxR_at hb3; obtain ⟨q0, q1, q2, q3, q4, q5, q6⟩ := cells7 hz; obtain ⟨z0, z1, z2, z3, z4, z5, z6⟩ := free7 hz; clear hz)
  | (go_at_call 68; refine (hlow _).mono ?_; rintro e w1 ⟨rfl, rfl⟩)
  | (go_at_call 71; refine (hdig _).mono ?_; rintro e w1 ⟨rfl, rfl⟩))
 refine bodyPost_ret (v := .tuple #[tokV tk tt tv tq, .int .i64 ti, .bool tb]) (by simp [results, Tryz.results37, go_sem, tokV, q0, q1, q2, q3, q4, q5, q6]) rfl ⟨hS, ?_⟩
 exact below_set7 (below_box0 hb3) (Nat.le_refl _) _ _ _ _ _ _ _
theorem refNext_sign40 (s : ByteArray) (p : Nat) (hp : p < s.size) (hs2 : s.size ≤ 1000) (hc : s[p].toNat = 40) (w : World) :
  Calls Tryz.prog 37 #[.string s, .int .i64 (p : Int)] w fun e w' => RefSays s p (tokL (s.data.toList.drop p)) e ∧ Below w.heap.size w w' := by
 have hdp := sdrop_at s p hp
 have hsm : (s.size : Int) ≤ 1000 := by omega
 have hpi : (p : Int) < (s.size : Int) := by omega
 have e : s[p] = 40 := UInt8.toNat_inj.1 hc
 have htok : tokL (s[p] :: s.data.toList.drop (p + 1)) = some (4, 1, noV) := by
  rw [tokL, if_neg (by omega), if_neg (by omega), if_neg (by rw [e]; decide), if_neg (by rw [e]; decide), if_neg (by rw [e]; decide), if_pos (by rw [e]; decide)]
 have hci : ((s[p].toNat : Nat) : Int) = 40 := by omega
 have hsay : RefSays s p (some (4, 1, noV)) (.returned (.tuple #[tokV 4 (s.extract p (p + 1)) noV (p : Int), .int .i64 ((p : Int) + 1), .bool true])) := by
  show _ = _
  rw [ext_sub, show p + 1 - p = 1 by omega]
  rfl
 have hb1 : (p : Int) ≤ (p : Int) + 1 := by omega
 have hb2 : (p : Int) + 1 ≤ (s.size : Int) := by omega
 have hb3 : (0 : Int) ≤ (p : Int) + 1 := by omega
 have hwr : IntKind.i64.wrap ((p : Int) + 1) = (p : Int) + 1 := by rw [IntKind.wrap_i64]; omega
 have hlow : ∀ W, Calls Tryz.prog 68 #[.int .u8 40] W fun e w' => e = .returned (.bool false) ∧ w' = W := refLow_any 40
 have hdig : ∀ W, Calls Tryz.prog 71 #[.int .u8 40] W fun e w' => e = .returned (.bool false) ∧ w' = W := refDigit_any 40
 rw [hdp, htok]
 clear hdp htok hc e
 go_enter Tryz.func37, Tryz.ntmps37
 go_wp2_with (first
  | (go_at_call 68; refine (hlow _).mono ?_; rintro e w1 ⟨rfl, rfl⟩)
  | (go_at_call 71; refine (hdig _).mono ?_; rintro e w1 ⟨rfl, rfl⟩))
 refine bodyPost_ret (v := .tuple #[tokV 4 (s.extract p (p + 1)) noV (p : Int), .int .i64 ((p : Int) + 1), .bool true]) (by simp [results, Tryz.results37, go_sem, tokV, noV]) rfl ⟨hsay, ?_⟩
 exact (Below.refl _ _).alloc (Nat.le_refl _) _
theorem refNext_sign41 (s : ByteArray) (p : Nat) (hp : p < s.size) (hs2 : s.size ≤ 1000) (hc : s[p].toNat = 41) (w : World) :
  Calls Tryz.prog 37 #[.string s, .int .i64 (p : Int)] w fun e w' => RefSays s p (tokL (s.data.toList.drop p)) e ∧ Below w.heap.size w w' := by
 have hdp := sdrop_at s p hp
 have hsm : (s.size : Int) ≤ 1000 := by omega
 have hpi : (p : Int) < (s.size : Int) := by omega
 have e : s[p] = 41 := UInt8.toNat_inj.1 hc
 have htok : tokL (s[p] :: s.data.toList.drop (p + 1)) = some (4, 1, noV) := by
  rw [tokL, if_neg (by omega), if_neg (by omega), if_neg (by rw [e]; decide), if_neg (by rw [e]; decide), if_neg (by rw [e]; decide), if_pos (by rw [e]; decide)]
 have hci : ((s[p].toNat : Nat) : Int) = 41 := by omega
 have hsay : RefSays s p (some (4, 1, noV)) (.returned (.tuple #[tokV 4 (s.extract p (p + 1)) noV (p : Int), .int .i64 ((p : Int) + 1), .bool true])) := by
  show _ = _
  rw [ext_sub, show p + 1 - p = 1 by omega]
  rfl
 have hb1 : (p : Int) ≤ (p : Int) + 1 := by omega
 have hb2 : (p : Int) + 1 ≤ (s.size : Int) := by omega
 have hb3 : (0 : Int) ≤ (p : Int) + 1 := by omega
 have hwr : IntKind.i64.wrap ((p : Int) + 1) = (p : Int) + 1 := by rw [IntKind.wrap_i64]; omega
 have hlow : ∀ W, Calls Tryz.prog 68 #[.int .u8 41] W fun e w' => e = .returned (.bool false) ∧ w' = W := refLow_any 41
 have hdig : ∀ W, Calls Tryz.prog 71 #[.int .u8 41] W fun e w' => e = .returned (.bool false) ∧ w' = W := refDigit_any 41
 rw [hdp, htok]
 clear hdp htok hc e
 go_enter Tryz.func37, Tryz.ntmps37
 go_wp2_with (first
  | (go_at_call 68; refine (hlow _).mono ?_; rintro e w1 ⟨rfl, rfl⟩)
  | (go_at_call 71; refine (hdig _).mono ?_; rintro e w1 ⟨rfl, rfl⟩))
 refine bodyPost_ret (v := .tuple #[tokV 4 (s.extract p (p + 1)) noV (p : Int), .int .i64 ((p : Int) + 1), .bool true]) (by simp [results, Tryz.results37, go_sem, tokV, noV]) rfl ⟨hsay, ?_⟩
 exact (Below.refl _ _).alloc (Nat.le_refl _) _
theorem refNext_sign44 (s : ByteArray) (p : Nat) (hp : p < s.size) (hs2 : s.size ≤ 1000) (hc : s[p].toNat = 44) (w : World) :
  Calls Tryz.prog 37 #[.string s, .int .i64 (p : Int)] w fun e w' => RefSays s p (tokL (s.data.toList.drop p)) e ∧ Below w.heap.size w w' := by
 have hdp := sdrop_at s p hp
 have hsm : (s.size : Int) ≤ 1000 := by omega
 have hpi : (p : Int) < (s.size : Int) := by omega
 have e : s[p] = 44 := UInt8.toNat_inj.1 hc
 have htok : tokL (s[p] :: s.data.toList.drop (p + 1)) = some (4, 1, noV) := by
  rw [tokL, if_neg (by omega), if_neg (by omega), if_neg (by rw [e]; decide), if_neg (by rw [e]; decide), if_neg (by rw [e]; decide), if_pos (by rw [e]; decide)]
 have hci : ((s[p].toNat : Nat) : Int) = 44 := by omega
 have hsay : RefSays s p (some (4, 1, noV)) (.returned (.tuple #[tokV 4 (s.extract p (p + 1)) noV (p : Int), .int .i64 ((p : Int) + 1), .bool true])) := by
  show _ = _
  rw [ext_sub, show p + 1 - p = 1 by omega]
  rfl
 have hb1 : (p : Int) ≤ (p : Int) + 1 := by omega
 have hb2 : (p : Int) + 1 ≤ (s.size : Int) := by omega
 have hb3 : (0 : Int) ≤ (p : Int) + 1 := by omega
 have hwr : IntKind.i64.wrap ((p : Int) + 1) = (p : Int) + 1 := by rw [IntKind.wrap_i64]; omega
 have hlow : ∀ W, Calls Tryz.prog 68 #[.int .u8 44] W fun e w' => e = .returned (.bool false) ∧ w' = W := refLow_any 44
 have hdig : ∀ W, Calls Tryz.prog 71 #[.int .u8 44] W fun e w' => e = .returned (.bool false) ∧ w' = W := refDigit_any 44
 rw [hdp, htok]
 clear hdp htok hc e
 go_enter Tryz.func37, Tryz.ntmps37
 go_wp2_with (first
  | (go_at_call 68; refine (hlow _).mono ?_; rintro e w1 ⟨rfl, rfl⟩)
  | (go_at_call 71; refine (hdig _).mono ?_; rintro e w1 ⟨rfl, rfl⟩))
 refine bodyPost_ret (v := .tuple #[tokV 4 (s.extract p (p + 1)) noV (p : Int), .int .i64 ((p : Int) + 1), .bool true]) (by simp [results, Tryz.results37, go_sem, tokV, noV]) rfl ⟨hsay, ?_⟩
 exact (Below.refl _ _).alloc (Nat.le_refl _) _
theorem refNext_sign59 (s : ByteArray) (p : Nat) (hp : p < s.size) (hs2 : s.size ≤ 1000) (hc : s[p].toNat = 59) (w : World) :
  Calls Tryz.prog 37 #[.string s, .int .i64 (p : Int)] w fun e w' => RefSays s p (tokL (s.data.toList.drop p)) e ∧ Below w.heap.size w w' := by
 have hdp := sdrop_at s p hp
 have hsm : (s.size : Int) ≤ 1000 := by omega
 have hpi : (p : Int) < (s.size : Int) := by omega
 have e : s[p] = 59 := UInt8.toNat_inj.1 hc
 have htok : tokL (s[p] :: s.data.toList.drop (p + 1)) = some (4, 1, noV) := by
  rw [tokL, if_neg (by omega), if_neg (by omega), if_neg (by rw [e]; decide), if_neg (by rw [e]; decide), if_neg (by rw [e]; decide), if_pos (by rw [e]; decide)]
 have hci : ((s[p].toNat : Nat) : Int) = 59 := by omega
 have hsay : RefSays s p (some (4, 1, noV)) (.returned (.tuple #[tokV 4 (s.extract p (p + 1)) noV (p : Int), .int .i64 ((p : Int) + 1), .bool true])) := by
  show _ = _
  rw [ext_sub, show p + 1 - p = 1 by omega]
  rfl
 have hb1 : (p : Int) ≤ (p : Int) + 1 := by omega
 have hb2 : (p : Int) + 1 ≤ (s.size : Int) := by omega
 have hb3 : (0 : Int) ≤ (p : Int) + 1 := by omega
 have hwr : IntKind.i64.wrap ((p : Int) + 1) = (p : Int) + 1 := by rw [IntKind.wrap_i64]; omega
 have hlow : ∀ W, Calls Tryz.prog 68 #[.int .u8 59] W fun e w' => e = .returned (.bool false) ∧ w' = W := refLow_any 59
 have hdig : ∀ W, Calls Tryz.prog 71 #[.int .u8 59] W fun e w' => e = .returned (.bool false) ∧ w' = W := refDigit_any 59
 rw [hdp, htok]
 clear hdp htok hc e
 go_enter Tryz.func37, Tryz.ntmps37
 go_wp2_with (first
  | (go_at_call 68; refine (hlow _).mono ?_; rintro e w1 ⟨rfl, rfl⟩)
  | (go_at_call 71; refine (hdig _).mono ?_; rintro e w1 ⟨rfl, rfl⟩))
 refine bodyPost_ret (v := .tuple #[tokV 4 (s.extract p (p + 1)) noV (p : Int), .int .i64 ((p : Int) + 1), .bool true]) (by simp [results, Tryz.results37, go_sem, tokV, noV]) rfl ⟨hsay, ?_⟩
 exact (Below.refl _ _).alloc (Nat.le_refl _) _
theorem refNext_sign61 (s : ByteArray) (p : Nat) (hp : p < s.size) (hs2 : s.size ≤ 1000) (hc : s[p].toNat = 61) (w : World) :
  Calls Tryz.prog 37 #[.string s, .int .i64 (p : Int)] w fun e w' => RefSays s p (tokL (s.data.toList.drop p)) e ∧ Below w.heap.size w w' := by
 have hdp := sdrop_at s p hp
 have hsm : (s.size : Int) ≤ 1000 := by omega
 have hpi : (p : Int) < (s.size : Int) := by omega
 have e : s[p] = 61 := UInt8.toNat_inj.1 hc
 have htok : tokL (s[p] :: s.data.toList.drop (p + 1)) = some (4, 1, noV) := by
  rw [tokL, if_neg (by omega), if_neg (by omega), if_neg (by rw [e]; decide), if_neg (by rw [e]; decide), if_neg (by rw [e]; decide), if_pos (by rw [e]; decide)]
 have hci : ((s[p].toNat : Nat) : Int) = 61 := by omega
 have hsay : RefSays s p (some (4, 1, noV)) (.returned (.tuple #[tokV 4 (s.extract p (p + 1)) noV (p : Int), .int .i64 ((p : Int) + 1), .bool true])) := by
  show _ = _
  rw [ext_sub, show p + 1 - p = 1 by omega]
  rfl
 have hb1 : (p : Int) ≤ (p : Int) + 1 := by omega
 have hb2 : (p : Int) + 1 ≤ (s.size : Int) := by omega
 have hb3 : (0 : Int) ≤ (p : Int) + 1 := by omega
 have hwr : IntKind.i64.wrap ((p : Int) + 1) = (p : Int) + 1 := by rw [IntKind.wrap_i64]; omega
 have hlow : ∀ W, Calls Tryz.prog 68 #[.int .u8 61] W fun e w' => e = .returned (.bool false) ∧ w' = W := refLow_any 61
 have hdig : ∀ W, Calls Tryz.prog 71 #[.int .u8 61] W fun e w' => e = .returned (.bool false) ∧ w' = W := refDigit_any 61
 rw [hdp, htok]
 clear hdp htok hc e
 go_enter Tryz.func37, Tryz.ntmps37
 go_wp2_with (first
  | (go_at_call 68; refine (hlow _).mono ?_; rintro e w1 ⟨rfl, rfl⟩)
  | (go_at_call 71; refine (hdig _).mono ?_; rintro e w1 ⟨rfl, rfl⟩))
 refine bodyPost_ret (v := .tuple #[tokV 4 (s.extract p (p + 1)) noV (p : Int), .int .i64 ((p : Int) + 1), .bool true]) (by simp [results, Tryz.results37, go_sem, tokV, noV]) rfl ⟨hsay, ?_⟩
 exact (Below.refl _ _).alloc (Nat.le_refl _) _
theorem refNext_sign60 (s : ByteArray) (p : Nat) (hp : p < s.size) (hs2 : s.size ≤ 1000) (hc : s[p].toNat = 60) (w : World) :
  Calls Tryz.prog 37 #[.string s, .int .i64 (p : Int)] w fun e w' => RefSays s p (tokL (s.data.toList.drop p)) e ∧ Below w.heap.size w w' := by
 have hdp := sdrop_at s p hp
 have hsm : (s.size : Int) ≤ 1000 := by omega
 have hpi : (p : Int) < (s.size : Int) := by omega
 have e : s[p] = 60 := UInt8.toNat_inj.1 hc
 have htok : tokL (s[p] :: s.data.toList.drop (p + 1)) = some (4, 1, noV) := by
  rw [tokL, if_neg (by omega), if_neg (by omega), if_neg (by rw [e]; decide), if_neg (by rw [e]; decide), if_neg (by rw [e]; decide), if_pos (by rw [e]; decide)]
 have hci : ((s[p].toNat : Nat) : Int) = 60 := by omega
 have hsay : RefSays s p (some (4, 1, noV)) (.returned (.tuple #[tokV 4 (s.extract p (p + 1)) noV (p : Int), .int .i64 ((p : Int) + 1), .bool true])) := by
  show _ = _
  rw [ext_sub, show p + 1 - p = 1 by omega]
  rfl
 have hb1 : (p : Int) ≤ (p : Int) + 1 := by omega
 have hb2 : (p : Int) + 1 ≤ (s.size : Int) := by omega
 have hb3 : (0 : Int) ≤ (p : Int) + 1 := by omega
 have hwr : IntKind.i64.wrap ((p : Int) + 1) = (p : Int) + 1 := by rw [IntKind.wrap_i64]; omega
 have hlow : ∀ W, Calls Tryz.prog 68 #[.int .u8 60] W fun e w' => e = .returned (.bool false) ∧ w' = W := refLow_any 60
 have hdig : ∀ W, Calls Tryz.prog 71 #[.int .u8 60] W fun e w' => e = .returned (.bool false) ∧ w' = W := refDigit_any 60
 rw [hdp, htok]
 clear hdp htok hc e
 go_enter Tryz.func37, Tryz.ntmps37
 go_wp2_with (first
  | (go_at_call 68; refine (hlow _).mono ?_; rintro e w1 ⟨rfl, rfl⟩)
  | (go_at_call 71; refine (hdig _).mono ?_; rintro e w1 ⟨rfl, rfl⟩))
 refine bodyPost_ret (v := .tuple #[tokV 4 (s.extract p (p + 1)) noV (p : Int), .int .i64 ((p : Int) + 1), .bool true]) (by simp [results, Tryz.results37, go_sem, tokV, noV]) rfl ⟨hsay, ?_⟩
 exact (Below.refl _ _).alloc (Nat.le_refl _) _
theorem refNext_sign62 (s : ByteArray) (p : Nat) (hp : p < s.size) (hs2 : s.size ≤ 1000) (hc : s[p].toNat = 62) (w : World) :
  Calls Tryz.prog 37 #[.string s, .int .i64 (p : Int)] w fun e w' => RefSays s p (tokL (s.data.toList.drop p)) e ∧ Below w.heap.size w w' := by
 have hdp := sdrop_at s p hp
 have hsm : (s.size : Int) ≤ 1000 := by omega
 have hpi : (p : Int) < (s.size : Int) := by omega
 have e : s[p] = 62 := UInt8.toNat_inj.1 hc
 have htok : tokL (s[p] :: s.data.toList.drop (p + 1)) = some (4, 1, noV) := by
  rw [tokL, if_neg (by omega), if_neg (by omega), if_neg (by rw [e]; decide), if_neg (by rw [e]; decide), if_neg (by rw [e]; decide), if_pos (by rw [e]; decide)]
 have hci : ((s[p].toNat : Nat) : Int) = 62 := by omega
 have hsay : RefSays s p (some (4, 1, noV)) (.returned (.tuple #[tokV 4 (s.extract p (p + 1)) noV (p : Int), .int .i64 ((p : Int) + 1), .bool true])) := by
  show _ = _
  rw [ext_sub, show p + 1 - p = 1 by omega]
  rfl
 have hb1 : (p : Int) ≤ (p : Int) + 1 := by omega
 have hb2 : (p : Int) + 1 ≤ (s.size : Int) := by omega
 have hb3 : (0 : Int) ≤ (p : Int) + 1 := by omega
 have hwr : IntKind.i64.wrap ((p : Int) + 1) = (p : Int) + 1 := by rw [IntKind.wrap_i64]; omega
 have hlow : ∀ W, Calls Tryz.prog 68 #[.int .u8 62] W fun e w' => e = .returned (.bool false) ∧ w' = W := refLow_any 62
 have hdig : ∀ W, Calls Tryz.prog 71 #[.int .u8 62] W fun e w' => e = .returned (.bool false) ∧ w' = W := refDigit_any 62
 rw [hdp, htok]
 clear hdp htok hc e
 go_enter Tryz.func37, Tryz.ntmps37
 go_wp2_with (first
  | (go_at_call 68; refine (hlow _).mono ?_; rintro e w1 ⟨rfl, rfl⟩)
  | (go_at_call 71; refine (hdig _).mono ?_; rintro e w1 ⟨rfl, rfl⟩))
 refine bodyPost_ret (v := .tuple #[tokV 4 (s.extract p (p + 1)) noV (p : Int), .int .i64 ((p : Int) + 1), .bool true]) (by simp [results, Tryz.results37, go_sem, tokV, noV]) rfl ⟨hsay, ?_⟩
 exact (Below.refl _ _).alloc (Nat.le_refl _) _
theorem refNext_sign43 (s : ByteArray) (p : Nat) (hp : p < s.size) (hs2 : s.size ≤ 1000) (hc : s[p].toNat = 43) (w : World) :
  Calls Tryz.prog 37 #[.string s, .int .i64 (p : Int)] w fun e w' => RefSays s p (tokL (s.data.toList.drop p)) e ∧ Below w.heap.size w w' := by
 have hdp := sdrop_at s p hp
 have hsm : (s.size : Int) ≤ 1000 := by omega
 have hpi : (p : Int) < (s.size : Int) := by omega
 have e : s[p] = 43 := UInt8.toNat_inj.1 hc
 have htok : tokL (s[p] :: s.data.toList.drop (p + 1)) = some (4, 1, noV) := by
  rw [tokL, if_neg (by omega), if_neg (by omega), if_neg (by rw [e]; decide), if_neg (by rw [e]; decide), if_neg (by rw [e]; decide), if_pos (by rw [e]; decide)]
 have hci : ((s[p].toNat : Nat) : Int) = 43 := by omega
 have hsay : RefSays s p (some (4, 1, noV)) (.returned (.tuple #[tokV 4 (s.extract p (p + 1)) noV (p : Int), .int .i64 ((p : Int) + 1), .bool true])) := by
  show _ = _
  rw [ext_sub, show p + 1 - p = 1 by omega]
  rfl
 have hb1 : (p : Int) ≤ (p : Int) + 1 := by omega
 have hb2 : (p : Int) + 1 ≤ (s.size : Int) := by omega
 have hb3 : (0 : Int) ≤ (p : Int) + 1 := by omega
 have hwr : IntKind.i64.wrap ((p : Int) + 1) = (p : Int) + 1 := by rw [IntKind.wrap_i64]; omega
 have hlow : ∀ W, Calls Tryz.prog 68 #[.int .u8 43] W fun e w' => e = .returned (.bool false) ∧ w' = W := refLow_any 43
 have hdig : ∀ W, Calls Tryz.prog 71 #[.int .u8 43] W fun e w' => e = .returned (.bool false) ∧ w' = W := refDigit_any 43
 rw [hdp, htok]
 clear hdp htok hc e
 go_enter Tryz.func37, Tryz.ntmps37
 go_wp2_with (first
  | (go_at_call 68; refine (hlow _).mono ?_; rintro e w1 ⟨rfl, rfl⟩)
  | (go_at_call 71; refine (hdig _).mono ?_; rintro e w1 ⟨rfl, rfl⟩))
 refine bodyPost_ret (v := .tuple #[tokV 4 (s.extract p (p + 1)) noV (p : Int), .int .i64 ((p : Int) + 1), .bool true]) (by simp [results, Tryz.results37, go_sem, tokV, noV]) rfl ⟨hsay, ?_⟩
 exact (Below.refl _ _).alloc (Nat.le_refl _) _
theorem refNext_sign42 (s : ByteArray) (p : Nat) (hp : p < s.size) (hs2 : s.size ≤ 1000) (hc : s[p].toNat = 42) (w : World) :
  Calls Tryz.prog 37 #[.string s, .int .i64 (p : Int)] w fun e w' => RefSays s p (tokL (s.data.toList.drop p)) e ∧ Below w.heap.size w w' := by
 have hdp := sdrop_at s p hp
 have hsm : (s.size : Int) ≤ 1000 := by omega
 have hpi : (p : Int) < (s.size : Int) := by omega
 have e : s[p] = 42 := UInt8.toNat_inj.1 hc
 have htok : tokL (s[p] :: s.data.toList.drop (p + 1)) = some (4, 1, noV) := by
  rw [tokL, if_neg (by omega), if_neg (by omega), if_neg (by rw [e]; decide), if_neg (by rw [e]; decide), if_neg (by rw [e]; decide), if_pos (by rw [e]; decide)]
 have hci : ((s[p].toNat : Nat) : Int) = 42 := by omega
 have hsay : RefSays s p (some (4, 1, noV)) (.returned (.tuple #[tokV 4 (s.extract p (p + 1)) noV (p : Int), .int .i64 ((p : Int) + 1), .bool true])) := by
  show _ = _
  rw [ext_sub, show p + 1 - p = 1 by omega]
  rfl
 have hb1 : (p : Int) ≤ (p : Int) + 1 := by omega
 have hb2 : (p : Int) + 1 ≤ (s.size : Int) := by omega
 have hb3 : (0 : Int) ≤ (p : Int) + 1 := by omega
 have hwr : IntKind.i64.wrap ((p : Int) + 1) = (p : Int) + 1 := by rw [IntKind.wrap_i64]; omega
 have hlow : ∀ W, Calls Tryz.prog 68 #[.int .u8 42] W fun e w' => e = .returned (.bool false) ∧ w' = W := refLow_any 42
 have hdig : ∀ W, Calls Tryz.prog 71 #[.int .u8 42] W fun e w' => e = .returned (.bool false) ∧ w' = W := refDigit_any 42
 rw [hdp, htok]
 clear hdp htok hc e
 go_enter Tryz.func37, Tryz.ntmps37
 go_wp2_with (first
  | (go_at_call 68; refine (hlow _).mono ?_; rintro e w1 ⟨rfl, rfl⟩)
  | (go_at_call 71; refine (hdig _).mono ?_; rintro e w1 ⟨rfl, rfl⟩))
 refine bodyPost_ret (v := .tuple #[tokV 4 (s.extract p (p + 1)) noV (p : Int), .int .i64 ((p : Int) + 1), .bool true]) (by simp [results, Tryz.results37, go_sem, tokV, noV]) rfl ⟨hsay, ?_⟩
 exact (Below.refl _ _).alloc (Nat.le_refl _) _
theorem refNext_none (s : ByteArray) (p : Nat) (hp : p < s.size) (hs2 : s.size ≤ 1000) (hl : lowB s[p] = false) (hd : digB s[p] = false) (h45 : ¬ s[p].toNat = 45) (h39 : ¬ s[p].toNat = 39) (hs : signB s[p] = false) (w : World) :
  Calls Tryz.prog 37 #[.string s, .int .i64 (p : Int)] w fun e w' => RefSays s p (tokL (s.data.toList.drop p)) e ∧ Below w.heap.size w w' := by
 have hdp := sdrop_at s p hp
 have hsm : (s.size : Int) ≤ 1000 := by omega
 have hpi : (p : Int) < (s.size : Int) := by omega
 have htok : tokL (s[p] :: s.data.toList.drop (p + 1)) = none := by
  rw [tokL, if_neg (fun h => low_not hl (by decide) (by decide) h.1), if_neg (fun h => low_not hl (by decide) (by decide) h.1), if_neg (by rw [hl]; decide), if_neg (by rw [hd]; intro h; rcases h with h | h; exact absurd h (by decide); exact h45 h), if_neg h39, if_neg (by rw [hs]; decide)]
 have hlow := refLow_any s[p]
 have hdig := refDigit_any s[p]
 rw [hl] at hlow
 rw [hd] at hdig
 have n1 : ¬ ((s[p].toNat : Nat) : Int) = 120 := fun e => low_not hl (n := 120) (by decide) (by decide) (by omega)
 have n2 : ¬ ((s[p].toNat : Nat) : Int) = 102 := fun e => low_not hl (n := 102) (by decide) (by decide) (by omega)
 have n3 : ¬ ((s[p].toNat : Nat) : Int) = 45 := by omega
 have n4 : ¬ ((s[p].toNat : Nat) : Int) = 39 := by omega
 have m0 : ¬ ((s[p].toNat : Nat) : Int) = 40 := fun e => by
  rw [show s[p] = 40 from UInt8.toNat_inj.1 (show s[p].toNat = 40 by omega)] at hs
  exact absurd hs (by decide)
 have m1 : ¬ ((s[p].toNat : Nat) : Int) = 41 := fun e => by
  rw [show s[p] = 41 from UInt8.toNat_inj.1 (show s[p].toNat = 41 by omega)] at hs
  exact absurd hs (by decide)
 have m2 : ¬ ((s[p].toNat : Nat) : Int) = 44 := fun e => by
  rw [show s[p] = 44 from UInt8.toNat_inj.1 (show s[p].toNat = 44 by omega)] at hs
  exact absurd hs (by decide)
 have m3 : ¬ ((s[p].toNat : Nat) : Int) = 59 := fun e => by
  rw [show s[p] = 59 from UInt8.toNat_inj.1 (show s[p].toNat = 59 by omega)] at hs
  exact absurd hs (by decide)
 have m4 : ¬ ((s[p].toNat : Nat) : Int) = 61 := fun e => by
  rw [show s[p] = 61 from UInt8.toNat_inj.1 (show s[p].toNat = 61 by omega)] at hs
  exact absurd hs (by decide)
 have m5 : ¬ ((s[p].toNat : Nat) : Int) = 60 := fun e => by
  rw [show s[p] = 60 from UInt8.toNat_inj.1 (show s[p].toNat = 60 by omega)] at hs
  exact absurd hs (by decide)
 have m6 : ¬ ((s[p].toNat : Nat) : Int) = 62 := fun e => by
  rw [show s[p] = 62 from UInt8.toNat_inj.1 (show s[p].toNat = 62 by omega)] at hs
  exact absurd hs (by decide)
 have m7 : ¬ ((s[p].toNat : Nat) : Int) = 43 := fun e => by
  rw [show s[p] = 43 from UInt8.toNat_inj.1 (show s[p].toNat = 43 by omega)] at hs
  exact absurd hs (by decide)
 have m8 : ¬ ((s[p].toNat : Nat) : Int) = 42 := fun e => by
  rw [show s[p] = 42 from UInt8.toNat_inj.1 (show s[p].toNat = 42 by omega)] at hs
  exact absurd hs (by decide)
 rw [hdp, htok]
 clear hdp htok hd hl h45 h39 hs
 go_enter Tryz.func37, Tryz.ntmps37
 go_wp2_with (first
  | (go_at_call 68; refine (hlow _).mono ?_; rintro e w1 ⟨rfl, rfl⟩)
  | (go_at_call 71; refine (hdig _).mono ?_; rintro e w1 ⟨rfl, rfl⟩))
 refine bodyPost_ret (v := .tuple #[tokV 0 ⟨#[]⟩ noV 0, .int .i64 0, .bool false]) (by simp [results, Tryz.results37, go_sem, tokV, noV]) rfl ⟨refSays_none rfl _ _ _ _ _, ?_⟩
 exact (Below.refl _ _).alloc (Nat.le_refl _) _
theorem refNext_name1 (s : ByteArray) (p : Nat) (hp : p < s.size) (hs2 : s.size ≤ 1000) (hc : s[p].toNat = 120) (hq : ¬ p + 1 < s.size) (w : World) :
  Calls Tryz.prog 37 #[.string s, .int .i64 (p : Int)] w fun e w' => RefSays s p (tokL (s.data.toList.drop p)) e ∧ Below w.heap.size w w' := by
 have hdp := sdrop_at s p hp
 have hsm : (s.size : Int) ≤ 1000 := by omega
 have hpi : (p : Int) < (s.size : Int) := by omega
 have htok : tokL (s[p] :: s.data.toList.drop (p + 1)) = nameT (s[p] :: s.data.toList.drop (p + 1)) := by
  rw [tokL, if_neg (fun h => head_end hq h.2), if_neg (by omega), if_pos (low_of hc (by decide) (by decide))]
 have hci : ((s[p].toNat : Nat) : Int) = 120 := by omega
 have hqi : ¬ (p : Int) + 1 < (s.size : Int) := by omega
 have hl2 : s.data.toList.length = s.size := rfl
 have hnl := runL_le letB (s.data.toList.drop p)
 rw [List.length_drop, hl2] at hnl
 have hin : Hid (∀ j (h : p + j < s.size), j < runL letB (s.data.toList.drop p) → letB s[p + j] = true) := by
  intro j h hj
  have h2 : j < (s.data.toList.drop p).length := by rw [List.length_drop, hl2]; omega
  have e : (s.data.toList.drop p)[j] = s[p + j] := List.getElem_drop
  rw [← e]
  exact runL_in letB _ j h2 hj
 have hout : Hid (∀ h : p + runL letB (s.data.toList.drop p) < s.size, letB s[p + runL letB (s.data.toList.drop p)] = false) := by
  intro h
  have h2 : runL letB (s.data.toList.drop p) < (s.data.toList.drop p).length := by rw [List.length_drop, hl2]; omega
  have e : (s.data.toList.drop p)[runL letB (s.data.toList.drop p)] = s[p + runL letB (s.data.toList.drop p)] := List.getElem_drop
  rw [← e]
  exact runL_end letB _ h2
 have hw := refWord_any (s.extract p (p + runL letB (s.data.toList.drop p)))
 have hex := ext_sub s p (p + runL letB (s.data.toList.drop p))
 rw [show p + runL letB (s.data.toList.drop p) - p = runL letB (s.data.toList.drop p) by omega] at hex
 rw [show words.contains (s.extract p (p + runL letB (s.data.toList.drop p))).toList = words.contains ((s.data.toList.drop p).take (runL letB (s.data.toList.drop p))) by rw [hex, Lib.toList_data, data_str]] at hw
 have hsay : Hid (∀ b : Bool, b = decide (runL letB (s.data.toList.drop p) ≤ 16) → RefSays s p (nameT (s.data.toList.drop p)) (.returned (.tuple #[tokV (if words.contains ((s.data.toList.drop p).take (runL letB (s.data.toList.drop p))) = true then 1 else 2) (s.extract p (p + runL letB (s.data.toList.drop p))) noV (p : Int), .int .i64 ((p + runL letB (s.data.toList.drop p) : Nat) : Int), .bool b]))) := by
  intro b hb
  subst hb
  unfold nameT
  by_cases h16 : runL letB (s.data.toList.drop p) ≤ 16
  ·rw [if_pos h16, decide_eq_true h16, hex]
   rfl
  ·rw [if_neg h16, decide_eq_false h16]
   exact ⟨_, _, _, _, _, rfl⟩
 rw [hdp, htok, ← hdp]
 clear hdp htok hex
 generalize nameT (s.data.toList.drop p) = o at *
 generalize words.contains ((s.data.toList.drop p).take (runL letB (s.data.toList.drop p))) = q at *
 generalize runL letB (s.data.toList.drop p) = n at *
 have hlow : ∀ W, Calls Tryz.prog 68 #[.int .u8 120] W fun e w' => e = .returned (.bool true) ∧ w' = W := refLow_any 120
 go_enter Tryz.func37, Tryz.ntmps37
 go_wp2_with (first
  | (go_at_call 68; refine (hlow _).mono ?_; rintro e w1 ⟨rfl, rfl⟩))
 go_loopw [8] (fun i wr => ∃ j : Nat, j ≤ n ∧ i = .int .i64 ((p + j : Nat) : Int) ∧ wr = w.alloc zBoxR) (fun i _ => s.size - (intOf i).toNat)
 case atStart => exact ⟨0, by omega, by go_num, rfl⟩
 case round =>
  obtain ⟨j, hj, rfl, rfl⟩ := hrel
  by_cases hjn : j < n
  ·have hks : p + j < s.size := by omega
   have hlt := hin.out j hks hjn
   obtain ⟨k, hkj⟩ : ∃ k, p + j = k := ⟨_, rfl⟩
   simp only [hkj] at hks hlt ⊢
   have hksi : (k : Int) < (s.size : Int) := by omega
   have hlet := refLetter_any s[k]
   rw [hlt] at hlet
   have hwr : IntKind.i64.wrap ((k : Int) + 1) = (k : Int) + 1 := by rw [IntKind.wrap_i64]; omega
   clear hlt hin hout hsay hw
   go_wp2_with (first
    | (go_at_call 69; refine (hlet _).mono ?_; rintro e w1 ⟨rfl, rfl⟩))
   go_roundw
   case rel => exact ⟨j + 1, by omega, by go_num, by first | trivial | rfl⟩
   case measure => simp [intOf]; omega
  ·obtain rfl : j = n := by omega
   obtain ⟨k, hkn⟩ : ∃ k, p + j = k := ⟨_, rfl⟩
   have hout := hout.out
   simp only [hkn] at hout hsay hw ⊢
   obtain ⟨y, hy⟩ : ∃ y, s.extract p k = y := ⟨_, rfl⟩
   rw [hy] at hsay hw
   have hb1 : (p : Int) ≤ (k : Int) := by omega
   have hb2 : (k : Int) ≤ (s.size : Int) := by omega
   have hb3 : (0 : Int) ≤ (k : Int) := by omega
   have hwr : IntKind.i64.wrap ((k : Int) - (p : Int)) = (k : Int) - (p : Int) := by rw [IntKind.wrap_i64]; omega
   by_cases hks : k < s.size
   ·have hlet := refLetter_any s[k]
    rw [hout hks] at hlet
    clear hout hin
    cases q with
    | true =>
     rw [if_pos rfl] at hsay
     go_wp2_with (first
         | (go_at_call 69; refine (hlet _).mono ?_; rintro e w1 ⟨rfl, rfl⟩)
         | (go_at_call 70; refine (hw _).mono ?_; rintro e w1 ⟨rfl, rfl⟩))
     refine bodyPost_ret (v := .tuple #[tokV 1 y noV (p : Int), .int .i64 (k : Int), .bool (decide ((k : Int) - (p : Int) ≤ 16))]) (by simp [results, Tryz.results37, go_sem, tokV, noV]) rfl ⟨hsay.out _ (by rw [← hkn]; by_cases h : j ≤ 16 <;> simp [h] <;> omega), ?_⟩
     exact ((Below.refl _ _).alloc (Nat.le_refl _) _).alloc (by simp) _
    | false =>
     rw [if_neg (by decide)] at hsay
     go_wp2_with (first
         | (go_at_call 69; refine (hlet _).mono ?_; rintro e w1 ⟨rfl, rfl⟩)
         | (go_at_call 70; refine (hw _).mono ?_; rintro e w1 ⟨rfl, rfl⟩))
     refine bodyPost_ret (v := .tuple #[tokV 2 y noV (p : Int), .int .i64 (k : Int), .bool (decide ((k : Int) - (p : Int) ≤ 16))]) (by simp [results, Tryz.results37, go_sem, tokV, noV]) rfl ⟨hsay.out _ (by rw [← hkn]; by_cases h : j ≤ 16 <;> simp [h] <;> omega), ?_⟩
     exact ((Below.refl _ _).alloc (Nat.le_refl _) _).alloc (by simp) _
   ·have hksi : ¬ (k : Int) < (s.size : Int) := by omega
    clear hout hin
    cases q with
    | true =>
     rw [if_pos rfl] at hsay
     go_wp2_with (first
         | (go_at_call 70; refine (hw _).mono ?_; rintro e w1 ⟨rfl, rfl⟩))
     refine bodyPost_ret (v := .tuple #[tokV 1 y noV (p : Int), .int .i64 (k : Int), .bool (decide ((k : Int) - (p : Int) ≤ 16))]) (by simp [results, Tryz.results37, go_sem, tokV, noV]) rfl ⟨hsay.out _ (by rw [← hkn]; by_cases h : j ≤ 16 <;> simp [h] <;> omega), ?_⟩
     exact ((Below.refl _ _).alloc (Nat.le_refl _) _).alloc (by simp) _
    | false =>
     rw [if_neg (by decide)] at hsay
     go_wp2_with (first
         | (go_at_call 70; refine (hw _).mono ?_; rintro e w1 ⟨rfl, rfl⟩))
     refine bodyPost_ret (v := .tuple #[tokV 2 y noV (p : Int), .int .i64 (k : Int), .bool (decide ((k : Int) - (p : Int) ≤ 16))]) (by simp [results, Tryz.results37, go_sem, tokV, noV]) rfl ⟨hsay.out _ (by rw [← hkn]; by_cases h : j ≤ 16 <;> simp [h] <;> omega), ?_⟩
     exact ((Below.refl _ _).alloc (Nat.le_refl _) _).alloc (by simp) _
theorem refNext_name2 (s : ByteArray) (p : Nat) (hp : p < s.size) (hs2 : s.size ≤ 1000) (hc : s[p].toNat = 120) (hp1 : p + 1 < s.size) (hq : ¬ s[p + 1].toNat = 39) (w : World) :
  Calls Tryz.prog 37 #[.string s, .int .i64 (p : Int)] w fun e w' => RefSays s p (tokL (s.data.toList.drop p)) e ∧ Below w.heap.size w w' := by
 have hdp := sdrop_at s p hp
 have hsm : (s.size : Int) ≤ 1000 := by omega
 have hpi : (p : Int) < (s.size : Int) := by omega
 have htok : tokL (s[p] :: s.data.toList.drop (p + 1)) = nameT (s[p] :: s.data.toList.drop (p + 1)) := by
  rw [tokL, if_neg (fun h => hq ((head_39 hp1).1 h.2)), if_neg (by omega), if_pos (low_of hc (by decide) (by decide))]
 have hci : ((s[p].toNat : Nat) : Int) = 120 := by omega
 have hqi : ¬ ((s[p + 1].toNat : Nat) : Int) = 39 := by omega
 have hp1i : (p : Int) + 1 < (s.size : Int) := by omega
 have hl2 : s.data.toList.length = s.size := rfl
 have hnl := runL_le letB (s.data.toList.drop p)
 rw [List.length_drop, hl2] at hnl
 have hin : Hid (∀ j (h : p + j < s.size), j < runL letB (s.data.toList.drop p) → letB s[p + j] = true) := by
  intro j h hj
  have h2 : j < (s.data.toList.drop p).length := by rw [List.length_drop, hl2]; omega
  have e : (s.data.toList.drop p)[j] = s[p + j] := List.getElem_drop
  rw [← e]
  exact runL_in letB _ j h2 hj
 have hout : Hid (∀ h : p + runL letB (s.data.toList.drop p) < s.size, letB s[p + runL letB (s.data.toList.drop p)] = false) := by
  intro h
  have h2 : runL letB (s.data.toList.drop p) < (s.data.toList.drop p).length := by rw [List.length_drop, hl2]; omega
  have e : (s.data.toList.drop p)[runL letB (s.data.toList.drop p)] = s[p + runL letB (s.data.toList.drop p)] := List.getElem_drop
  rw [← e]
  exact runL_end letB _ h2
 have hw := refWord_any (s.extract p (p + runL letB (s.data.toList.drop p)))
 have hex := ext_sub s p (p + runL letB (s.data.toList.drop p))
 rw [show p + runL letB (s.data.toList.drop p) - p = runL letB (s.data.toList.drop p) by omega] at hex
 rw [show words.contains (s.extract p (p + runL letB (s.data.toList.drop p))).toList = words.contains ((s.data.toList.drop p).take (runL letB (s.data.toList.drop p))) by rw [hex, Lib.toList_data, data_str]] at hw
 have hsay : Hid (∀ b : Bool, b = decide (runL letB (s.data.toList.drop p) ≤ 16) → RefSays s p (nameT (s.data.toList.drop p)) (.returned (.tuple #[tokV (if words.contains ((s.data.toList.drop p).take (runL letB (s.data.toList.drop p))) = true then 1 else 2) (s.extract p (p + runL letB (s.data.toList.drop p))) noV (p : Int), .int .i64 ((p + runL letB (s.data.toList.drop p) : Nat) : Int), .bool b]))) := by
  intro b hb
  subst hb
  unfold nameT
  by_cases h16 : runL letB (s.data.toList.drop p) ≤ 16
  ·rw [if_pos h16, decide_eq_true h16, hex]
   rfl
  ·rw [if_neg h16, decide_eq_false h16]
   exact ⟨_, _, _, _, _, rfl⟩
 rw [hdp, htok, ← hdp]
 clear hdp htok hex
 generalize nameT (s.data.toList.drop p) = o at *
 generalize words.contains ((s.data.toList.drop p).take (runL letB (s.data.toList.drop p))) = q at *
 generalize runL letB (s.data.toList.drop p) = n at *
 have hlow : ∀ W, Calls Tryz.prog 68 #[.int .u8 120] W fun e w' => e = .returned (.bool true) ∧ w' = W := refLow_any 120
 go_enter Tryz.func37, Tryz.ntmps37
 go_wp2_with (first
  | (go_at_call 68; refine (hlow _).mono ?_; rintro e w1 ⟨rfl, rfl⟩))
 go_loopw [8] (fun i wr => ∃ j : Nat, j ≤ n ∧ i = .int .i64 ((p + j : Nat) : Int) ∧ wr = w.alloc zBoxR) (fun i _ => s.size - (intOf i).toNat)
 case atStart => exact ⟨0, by omega, by go_num, rfl⟩
 case round =>
  obtain ⟨j, hj, rfl, rfl⟩ := hrel
  by_cases hjn : j < n
  ·have hks : p + j < s.size := by omega
   have hlt := hin.out j hks hjn
   obtain ⟨k, hkj⟩ : ∃ k, p + j = k := ⟨_, rfl⟩
   simp only [hkj] at hks hlt ⊢
   have hksi : (k : Int) < (s.size : Int) := by omega
   have hlet := refLetter_any s[k]
   rw [hlt] at hlet
   have hwr : IntKind.i64.wrap ((k : Int) + 1) = (k : Int) + 1 := by rw [IntKind.wrap_i64]; omega
   clear hlt hin hout hsay hw
   go_wp2_with (first
    | (go_at_call 69; refine (hlet _).mono ?_; rintro e w1 ⟨rfl, rfl⟩))
   go_roundw
   case rel => exact ⟨j + 1, by omega, by go_num, by first | trivial | rfl⟩
   case measure => simp [intOf]; omega
  ·obtain rfl : j = n := by omega
   obtain ⟨k, hkn⟩ : ∃ k, p + j = k := ⟨_, rfl⟩
   have hout := hout.out
   simp only [hkn] at hout hsay hw ⊢
   obtain ⟨y, hy⟩ : ∃ y, s.extract p k = y := ⟨_, rfl⟩
   rw [hy] at hsay hw
   have hb1 : (p : Int) ≤ (k : Int) := by omega
   have hb2 : (k : Int) ≤ (s.size : Int) := by omega
   have hb3 : (0 : Int) ≤ (k : Int) := by omega
   have hwr : IntKind.i64.wrap ((k : Int) - (p : Int)) = (k : Int) - (p : Int) := by rw [IntKind.wrap_i64]; omega
   by_cases hks : k < s.size
   ·have hlet := refLetter_any s[k]
    rw [hout hks] at hlet
    clear hout hin
    cases q with
    | true =>
     rw [if_pos rfl] at hsay
     go_wp2_with (first
         | (go_at_call 69; refine (hlet _).mono ?_; rintro e w1 ⟨rfl, rfl⟩)
         | (go_at_call 70; refine (hw _).mono ?_; rintro e w1 ⟨rfl, rfl⟩))
     refine bodyPost_ret (v := .tuple #[tokV 1 y noV (p : Int), .int .i64 (k : Int), .bool (decide ((k : Int) - (p : Int) ≤ 16))]) (by simp [results, Tryz.results37, go_sem, tokV, noV]) rfl ⟨hsay.out _ (by rw [← hkn]; by_cases h : j ≤ 16 <;> simp [h] <;> omega), ?_⟩
     exact ((Below.refl _ _).alloc (Nat.le_refl _) _).alloc (by simp) _
    | false =>
     rw [if_neg (by decide)] at hsay
     go_wp2_with (first
         | (go_at_call 69; refine (hlet _).mono ?_; rintro e w1 ⟨rfl, rfl⟩)
         | (go_at_call 70; refine (hw _).mono ?_; rintro e w1 ⟨rfl, rfl⟩))
     refine bodyPost_ret (v := .tuple #[tokV 2 y noV (p : Int), .int .i64 (k : Int), .bool (decide ((k : Int) - (p : Int) ≤ 16))]) (by simp [results, Tryz.results37, go_sem, tokV, noV]) rfl ⟨hsay.out _ (by rw [← hkn]; by_cases h : j ≤ 16 <;> simp [h] <;> omega), ?_⟩
     exact ((Below.refl _ _).alloc (Nat.le_refl _) _).alloc (by simp) _
   ·have hksi : ¬ (k : Int) < (s.size : Int) := by omega
    clear hout hin
    cases q with
    | true =>
     rw [if_pos rfl] at hsay
     go_wp2_with (first
         | (go_at_call 70; refine (hw _).mono ?_; rintro e w1 ⟨rfl, rfl⟩))
     refine bodyPost_ret (v := .tuple #[tokV 1 y noV (p : Int), .int .i64 (k : Int), .bool (decide ((k : Int) - (p : Int) ≤ 16))]) (by simp [results, Tryz.results37, go_sem, tokV, noV]) rfl ⟨hsay.out _ (by rw [← hkn]; by_cases h : j ≤ 16 <;> simp [h] <;> omega), ?_⟩
     exact ((Below.refl _ _).alloc (Nat.le_refl _) _).alloc (by simp) _
    | false =>
     rw [if_neg (by decide)] at hsay
     go_wp2_with (first
         | (go_at_call 70; refine (hw _).mono ?_; rintro e w1 ⟨rfl, rfl⟩))
     refine bodyPost_ret (v := .tuple #[tokV 2 y noV (p : Int), .int .i64 (k : Int), .bool (decide ((k : Int) - (p : Int) ≤ 16))]) (by simp [results, Tryz.results37, go_sem, tokV, noV]) rfl ⟨hsay.out _ (by rw [← hkn]; by_cases h : j ≤ 16 <;> simp [h] <;> omega), ?_⟩
     exact ((Below.refl _ _).alloc (Nat.le_refl _) _).alloc (by simp) _
theorem refNext_name3 (s : ByteArray) (p : Nat) (hp : p < s.size) (hs2 : s.size ≤ 1000) (hc : s[p].toNat = 102) (hq : ¬ p + 1 < s.size) (w : World) :
  Calls Tryz.prog 37 #[.string s, .int .i64 (p : Int)] w fun e w' => RefSays s p (tokL (s.data.toList.drop p)) e ∧ Below w.heap.size w w' := by
 have hdp := sdrop_at s p hp
 have hsm : (s.size : Int) ≤ 1000 := by omega
 have hpi : (p : Int) < (s.size : Int) := by omega
 have htok : tokL (s[p] :: s.data.toList.drop (p + 1)) = nameT (s[p] :: s.data.toList.drop (p + 1)) := by
  rw [tokL, if_neg (by omega), if_neg (fun h => head_end hq h.2), if_pos (low_of hc (by decide) (by decide))]
 have hci : ((s[p].toNat : Nat) : Int) = 102 := by omega
 have hqi : ¬ (p : Int) + 1 < (s.size : Int) := by omega
 have hl2 : s.data.toList.length = s.size := rfl
 have hnl := runL_le letB (s.data.toList.drop p)
 rw [List.length_drop, hl2] at hnl
 have hin : Hid (∀ j (h : p + j < s.size), j < runL letB (s.data.toList.drop p) → letB s[p + j] = true) := by
  intro j h hj
  have h2 : j < (s.data.toList.drop p).length := by rw [List.length_drop, hl2]; omega
  have e : (s.data.toList.drop p)[j] = s[p + j] := List.getElem_drop
  rw [← e]
  exact runL_in letB _ j h2 hj
 have hout : Hid (∀ h : p + runL letB (s.data.toList.drop p) < s.size, letB s[p + runL letB (s.data.toList.drop p)] = false) := by
  intro h
  have h2 : runL letB (s.data.toList.drop p) < (s.data.toList.drop p).length := by rw [List.length_drop, hl2]; omega
  have e : (s.data.toList.drop p)[runL letB (s.data.toList.drop p)] = s[p + runL letB (s.data.toList.drop p)] := List.getElem_drop
  rw [← e]
  exact runL_end letB _ h2
 have hw := refWord_any (s.extract p (p + runL letB (s.data.toList.drop p)))
 have hex := ext_sub s p (p + runL letB (s.data.toList.drop p))
 rw [show p + runL letB (s.data.toList.drop p) - p = runL letB (s.data.toList.drop p) by omega] at hex
 rw [show words.contains (s.extract p (p + runL letB (s.data.toList.drop p))).toList = words.contains ((s.data.toList.drop p).take (runL letB (s.data.toList.drop p))) by rw [hex, Lib.toList_data, data_str]] at hw
 have hsay : Hid (∀ b : Bool, b = decide (runL letB (s.data.toList.drop p) ≤ 16) → RefSays s p (nameT (s.data.toList.drop p)) (.returned (.tuple #[tokV (if words.contains ((s.data.toList.drop p).take (runL letB (s.data.toList.drop p))) = true then 1 else 2) (s.extract p (p + runL letB (s.data.toList.drop p))) noV (p : Int), .int .i64 ((p + runL letB (s.data.toList.drop p) : Nat) : Int), .bool b]))) := by
  intro b hb
  subst hb
  unfold nameT
  by_cases h16 : runL letB (s.data.toList.drop p) ≤ 16
  ·rw [if_pos h16, decide_eq_true h16, hex]
   rfl
  ·rw [if_neg h16, decide_eq_false h16]
   exact ⟨_, _, _, _, _, rfl⟩
 rw [hdp, htok, ← hdp]
 clear hdp htok hex
 generalize nameT (s.data.toList.drop p) = o at *
 generalize words.contains ((s.data.toList.drop p).take (runL letB (s.data.toList.drop p))) = q at *
 generalize runL letB (s.data.toList.drop p) = n at *
 have hlow : ∀ W, Calls Tryz.prog 68 #[.int .u8 102] W fun e w' => e = .returned (.bool true) ∧ w' = W := refLow_any 102
 go_enter Tryz.func37, Tryz.ntmps37
 go_wp2_with (first
  | (go_at_call 68; refine (hlow _).mono ?_; rintro e w1 ⟨rfl, rfl⟩))
 go_loopw [8] (fun i wr => ∃ j : Nat, j ≤ n ∧ i = .int .i64 ((p + j : Nat) : Int) ∧ wr = w.alloc zBoxR) (fun i _ => s.size - (intOf i).toNat)
 case atStart => exact ⟨0, by omega, by go_num, rfl⟩
 case round =>
  obtain ⟨j, hj, rfl, rfl⟩ := hrel
  by_cases hjn : j < n
  ·have hks : p + j < s.size := by omega
   have hlt := hin.out j hks hjn
   obtain ⟨k, hkj⟩ : ∃ k, p + j = k := ⟨_, rfl⟩
   simp only [hkj] at hks hlt ⊢
   have hksi : (k : Int) < (s.size : Int) := by omega
   have hlet := refLetter_any s[k]
   rw [hlt] at hlet
   have hwr : IntKind.i64.wrap ((k : Int) + 1) = (k : Int) + 1 := by rw [IntKind.wrap_i64]; omega
   clear hlt hin hout hsay hw
   go_wp2_with (first
    | (go_at_call 69; refine (hlet _).mono ?_; rintro e w1 ⟨rfl, rfl⟩))
   go_roundw
   case rel => exact ⟨j + 1, by omega, by go_num, by first | trivial | rfl⟩
   case measure => simp [intOf]; omega
  ·obtain rfl : j = n := by omega
   obtain ⟨k, hkn⟩ : ∃ k, p + j = k := ⟨_, rfl⟩
   have hout := hout.out
   simp only [hkn] at hout hsay hw ⊢
   obtain ⟨y, hy⟩ : ∃ y, s.extract p k = y := ⟨_, rfl⟩
   rw [hy] at hsay hw
   have hb1 : (p : Int) ≤ (k : Int) := by omega
   have hb2 : (k : Int) ≤ (s.size : Int) := by omega
   have hb3 : (0 : Int) ≤ (k : Int) := by omega
   have hwr : IntKind.i64.wrap ((k : Int) - (p : Int)) = (k : Int) - (p : Int) := by rw [IntKind.wrap_i64]; omega
   by_cases hks : k < s.size
   ·have hlet := refLetter_any s[k]
    rw [hout hks] at hlet
    clear hout hin
    cases q with
    | true =>
     rw [if_pos rfl] at hsay
     go_wp2_with (first
         | (go_at_call 69; refine (hlet _).mono ?_; rintro e w1 ⟨rfl, rfl⟩)
         | (go_at_call 70; refine (hw _).mono ?_; rintro e w1 ⟨rfl, rfl⟩))
     refine bodyPost_ret (v := .tuple #[tokV 1 y noV (p : Int), .int .i64 (k : Int), .bool (decide ((k : Int) - (p : Int) ≤ 16))]) (by simp [results, Tryz.results37, go_sem, tokV, noV]) rfl ⟨hsay.out _ (by rw [← hkn]; by_cases h : j ≤ 16 <;> simp [h] <;> omega), ?_⟩
     exact ((Below.refl _ _).alloc (Nat.le_refl _) _).alloc (by simp) _
    | false =>
     rw [if_neg (by decide)] at hsay
     go_wp2_with (first
         | (go_at_call 69; refine (hlet _).mono ?_; rintro e w1 ⟨rfl, rfl⟩)
         | (go_at_call 70; refine (hw _).mono ?_; rintro e w1 ⟨rfl, rfl⟩))
     refine bodyPost_ret (v := .tuple #[tokV 2 y noV (p : Int), .int .i64 (k : Int), .bool (decide ((k : Int) - (p : Int) ≤ 16))]) (by simp [results, Tryz.results37, go_sem, tokV, noV]) rfl ⟨hsay.out _ (by rw [← hkn]; by_cases h : j ≤ 16 <;> simp [h] <;> omega), ?_⟩
     exact ((Below.refl _ _).alloc (Nat.le_refl _) _).alloc (by simp) _
   ·have hksi : ¬ (k : Int) < (s.size : Int) := by omega
    clear hout hin
    cases q with
    | true =>
     rw [if_pos rfl] at hsay
     go_wp2_with (first
         | (go_at_call 70; refine (hw _).mono ?_; rintro e w1 ⟨rfl, rfl⟩))
     refine bodyPost_ret (v := .tuple #[tokV 1 y noV (p : Int), .int .i64 (k : Int), .bool (decide ((k : Int) - (p : Int) ≤ 16))]) (by simp [results, Tryz.results37, go_sem, tokV, noV]) rfl ⟨hsay.out _ (by rw [← hkn]; by_cases h : j ≤ 16 <;> simp [h] <;> omega), ?_⟩
     exact ((Below.refl _ _).alloc (Nat.le_refl _) _).alloc (by simp) _
    | false =>
     rw [if_neg (by decide)] at hsay
     go_wp2_with (first
         | (go_at_call 70; refine (hw _).mono ?_; rintro e w1 ⟨rfl, rfl⟩))
     refine bodyPost_ret (v := .tuple #[tokV 2 y noV (p : Int), .int .i64 (k : Int), .bool (decide ((k : Int) - (p : Int) ≤ 16))]) (by simp [results, Tryz.results37, go_sem, tokV, noV]) rfl ⟨hsay.out _ (by rw [← hkn]; by_cases h : j ≤ 16 <;> simp [h] <;> omega), ?_⟩
     exact ((Below.refl _ _).alloc (Nat.le_refl _) _).alloc (by simp) _
theorem refNext_name4 (s : ByteArray) (p : Nat) (hp : p < s.size) (hs2 : s.size ≤ 1000) (hc : s[p].toNat = 102) (hp1 : p + 1 < s.size) (hq : ¬ s[p + 1].toNat = 39) (w : World) :
  Calls Tryz.prog 37 #[.string s, .int .i64 (p : Int)] w fun e w' => RefSays s p (tokL (s.data.toList.drop p)) e ∧ Below w.heap.size w w' := by
 have hdp := sdrop_at s p hp
 have hsm : (s.size : Int) ≤ 1000 := by omega
 have hpi : (p : Int) < (s.size : Int) := by omega
 have htok : tokL (s[p] :: s.data.toList.drop (p + 1)) = nameT (s[p] :: s.data.toList.drop (p + 1)) := by
  rw [tokL, if_neg (by omega), if_neg (fun h => hq ((head_39 hp1).1 h.2)), if_pos (low_of hc (by decide) (by decide))]
 have hci : ((s[p].toNat : Nat) : Int) = 102 := by omega
 have hqi : ¬ ((s[p + 1].toNat : Nat) : Int) = 39 := by omega
 have hp1i : (p : Int) + 1 < (s.size : Int) := by omega
 have hl2 : s.data.toList.length = s.size := rfl
 have hnl := runL_le letB (s.data.toList.drop p)
 rw [List.length_drop, hl2] at hnl
 have hin : Hid (∀ j (h : p + j < s.size), j < runL letB (s.data.toList.drop p) → letB s[p + j] = true) := by
  intro j h hj
  have h2 : j < (s.data.toList.drop p).length := by rw [List.length_drop, hl2]; omega
  have e : (s.data.toList.drop p)[j] = s[p + j] := List.getElem_drop
  rw [← e]
  exact runL_in letB _ j h2 hj
 have hout : Hid (∀ h : p + runL letB (s.data.toList.drop p) < s.size, letB s[p + runL letB (s.data.toList.drop p)] = false) := by
  intro h
  have h2 : runL letB (s.data.toList.drop p) < (s.data.toList.drop p).length := by rw [List.length_drop, hl2]; omega
  have e : (s.data.toList.drop p)[runL letB (s.data.toList.drop p)] = s[p + runL letB (s.data.toList.drop p)] := List.getElem_drop
  rw [← e]
  exact runL_end letB _ h2
 have hw := refWord_any (s.extract p (p + runL letB (s.data.toList.drop p)))
 have hex := ext_sub s p (p + runL letB (s.data.toList.drop p))
 rw [show p + runL letB (s.data.toList.drop p) - p = runL letB (s.data.toList.drop p) by omega] at hex
 rw [show words.contains (s.extract p (p + runL letB (s.data.toList.drop p))).toList = words.contains ((s.data.toList.drop p).take (runL letB (s.data.toList.drop p))) by rw [hex, Lib.toList_data, data_str]] at hw
 have hsay : Hid (∀ b : Bool, b = decide (runL letB (s.data.toList.drop p) ≤ 16) → RefSays s p (nameT (s.data.toList.drop p)) (.returned (.tuple #[tokV (if words.contains ((s.data.toList.drop p).take (runL letB (s.data.toList.drop p))) = true then 1 else 2) (s.extract p (p + runL letB (s.data.toList.drop p))) noV (p : Int), .int .i64 ((p + runL letB (s.data.toList.drop p) : Nat) : Int), .bool b]))) := by
  intro b hb
  subst hb
  unfold nameT
  by_cases h16 : runL letB (s.data.toList.drop p) ≤ 16
  ·rw [if_pos h16, decide_eq_true h16, hex]
   rfl
  ·rw [if_neg h16, decide_eq_false h16]
   exact ⟨_, _, _, _, _, rfl⟩
 rw [hdp, htok, ← hdp]
 clear hdp htok hex
 generalize nameT (s.data.toList.drop p) = o at *
 generalize words.contains ((s.data.toList.drop p).take (runL letB (s.data.toList.drop p))) = q at *
 generalize runL letB (s.data.toList.drop p) = n at *
 have hlow : ∀ W, Calls Tryz.prog 68 #[.int .u8 102] W fun e w' => e = .returned (.bool true) ∧ w' = W := refLow_any 102
 go_enter Tryz.func37, Tryz.ntmps37
 go_wp2_with (first
  | (go_at_call 68; refine (hlow _).mono ?_; rintro e w1 ⟨rfl, rfl⟩))
 go_loopw [8] (fun i wr => ∃ j : Nat, j ≤ n ∧ i = .int .i64 ((p + j : Nat) : Int) ∧ wr = w.alloc zBoxR) (fun i _ => s.size - (intOf i).toNat)
 case atStart => exact ⟨0, by omega, by go_num, rfl⟩
 case round =>
  obtain ⟨j, hj, rfl, rfl⟩ := hrel
  by_cases hjn : j < n
  ·have hks : p + j < s.size := by omega
   have hlt := hin.out j hks hjn
   obtain ⟨k, hkj⟩ : ∃ k, p + j = k := ⟨_, rfl⟩
   simp only [hkj] at hks hlt ⊢
   have hksi : (k : Int) < (s.size : Int) := by omega
   have hlet := refLetter_any s[k]
   rw [hlt] at hlet
   have hwr : IntKind.i64.wrap ((k : Int) + 1) = (k : Int) + 1 := by rw [IntKind.wrap_i64]; omega
   clear hlt hin hout hsay hw
   go_wp2_with (first
    | (go_at_call 69; refine (hlet _).mono ?_; rintro e w1 ⟨rfl, rfl⟩))
   go_roundw
   case rel => exact ⟨j + 1, by omega, by go_num, by first | trivial | rfl⟩
   case measure => simp [intOf]; omega
  ·obtain rfl : j = n := by omega
   obtain ⟨k, hkn⟩ : ∃ k, p + j = k := ⟨_, rfl⟩
   have hout := hout.out
   simp only [hkn] at hout hsay hw ⊢
   obtain ⟨y, hy⟩ : ∃ y, s.extract p k = y := ⟨_, rfl⟩
   rw [hy] at hsay hw
   have hb1 : (p : Int) ≤ (k : Int) := by omega
   have hb2 : (k : Int) ≤ (s.size : Int) := by omega
   have hb3 : (0 : Int) ≤ (k : Int) := by omega
   have hwr : IntKind.i64.wrap ((k : Int) - (p : Int)) = (k : Int) - (p : Int) := by rw [IntKind.wrap_i64]; omega
   by_cases hks : k < s.size
   ·have hlet := refLetter_any s[k]
    rw [hout hks] at hlet
    clear hout hin
    cases q with
    | true =>
     rw [if_pos rfl] at hsay
     go_wp2_with (first
         | (go_at_call 69; refine (hlet _).mono ?_; rintro e w1 ⟨rfl, rfl⟩)
         | (go_at_call 70; refine (hw _).mono ?_; rintro e w1 ⟨rfl, rfl⟩))
     refine bodyPost_ret (v := .tuple #[tokV 1 y noV (p : Int), .int .i64 (k : Int), .bool (decide ((k : Int) - (p : Int) ≤ 16))]) (by simp [results, Tryz.results37, go_sem, tokV, noV]) rfl ⟨hsay.out _ (by rw [← hkn]; by_cases h : j ≤ 16 <;> simp [h] <;> omega), ?_⟩
     exact ((Below.refl _ _).alloc (Nat.le_refl _) _).alloc (by simp) _
    | false =>
     rw [if_neg (by decide)] at hsay
     go_wp2_with (first
         | (go_at_call 69; refine (hlet _).mono ?_; rintro e w1 ⟨rfl, rfl⟩)
         | (go_at_call 70; refine (hw _).mono ?_; rintro e w1 ⟨rfl, rfl⟩))
     refine bodyPost_ret (v := .tuple #[tokV 2 y noV (p : Int), .int .i64 (k : Int), .bool (decide ((k : Int) - (p : Int) ≤ 16))]) (by simp [results, Tryz.results37, go_sem, tokV, noV]) rfl ⟨hsay.out _ (by rw [← hkn]; by_cases h : j ≤ 16 <;> simp [h] <;> omega), ?_⟩
     exact ((Below.refl _ _).alloc (Nat.le_refl _) _).alloc (by simp) _
   ·have hksi : ¬ (k : Int) < (s.size : Int) := by omega
    clear hout hin
    cases q with
    | true =>
     rw [if_pos rfl] at hsay
     go_wp2_with (first
         | (go_at_call 70; refine (hw _).mono ?_; rintro e w1 ⟨rfl, rfl⟩))
     refine bodyPost_ret (v := .tuple #[tokV 1 y noV (p : Int), .int .i64 (k : Int), .bool (decide ((k : Int) - (p : Int) ≤ 16))]) (by simp [results, Tryz.results37, go_sem, tokV, noV]) rfl ⟨hsay.out _ (by rw [← hkn]; by_cases h : j ≤ 16 <;> simp [h] <;> omega), ?_⟩
     exact ((Below.refl _ _).alloc (Nat.le_refl _) _).alloc (by simp) _
    | false =>
     rw [if_neg (by decide)] at hsay
     go_wp2_with (first
         | (go_at_call 70; refine (hw _).mono ?_; rintro e w1 ⟨rfl, rfl⟩))
     refine bodyPost_ret (v := .tuple #[tokV 2 y noV (p : Int), .int .i64 (k : Int), .bool (decide ((k : Int) - (p : Int) ≤ 16))]) (by simp [results, Tryz.results37, go_sem, tokV, noV]) rfl ⟨hsay.out _ (by rw [← hkn]; by_cases h : j ≤ 16 <;> simp [h] <;> omega), ?_⟩
     exact ((Below.refl _ _).alloc (Nat.le_refl _) _).alloc (by simp) _
theorem refNext_name5 (s : ByteArray) (p : Nat) (hp : p < s.size) (hs2 : s.size ≤ 1000) (h1 : ¬ s[p].toNat = 120) (h2 : ¬ s[p].toNat = 102) (hl : lowB s[p] = true) (w : World) :
  Calls Tryz.prog 37 #[.string s, .int .i64 (p : Int)] w fun e w' => RefSays s p (tokL (s.data.toList.drop p)) e ∧ Below w.heap.size w w' := by
 have hdp := sdrop_at s p hp
 have hsm : (s.size : Int) ≤ 1000 := by omega
 have hpi : (p : Int) < (s.size : Int) := by omega
 have htok : tokL (s[p] :: s.data.toList.drop (p + 1)) = nameT (s[p] :: s.data.toList.drop (p + 1)) := by
  rw [tokL, if_neg (fun h => h1 h.1), if_neg (fun h => h2 h.1), if_pos hl]
 have n1 : ¬ ((s[p].toNat : Nat) : Int) = 120 := by omega
 have n2 : ¬ ((s[p].toNat : Nat) : Int) = 102 := by omega
 have hl2 : s.data.toList.length = s.size := rfl
 have hnl := runL_le letB (s.data.toList.drop p)
 rw [List.length_drop, hl2] at hnl
 have hin : Hid (∀ j (h : p + j < s.size), j < runL letB (s.data.toList.drop p) → letB s[p + j] = true) := by
  intro j h hj
  have h2 : j < (s.data.toList.drop p).length := by rw [List.length_drop, hl2]; omega
  have e : (s.data.toList.drop p)[j] = s[p + j] := List.getElem_drop
  rw [← e]
  exact runL_in letB _ j h2 hj
 have hout : Hid (∀ h : p + runL letB (s.data.toList.drop p) < s.size, letB s[p + runL letB (s.data.toList.drop p)] = false) := by
  intro h
  have h2 : runL letB (s.data.toList.drop p) < (s.data.toList.drop p).length := by rw [List.length_drop, hl2]; omega
  have e : (s.data.toList.drop p)[runL letB (s.data.toList.drop p)] = s[p + runL letB (s.data.toList.drop p)] := List.getElem_drop
  rw [← e]
  exact runL_end letB _ h2
 have hw := refWord_any (s.extract p (p + runL letB (s.data.toList.drop p)))
 have hex := ext_sub s p (p + runL letB (s.data.toList.drop p))
 rw [show p + runL letB (s.data.toList.drop p) - p = runL letB (s.data.toList.drop p) by omega] at hex
 rw [show words.contains (s.extract p (p + runL letB (s.data.toList.drop p))).toList = words.contains ((s.data.toList.drop p).take (runL letB (s.data.toList.drop p))) by rw [hex, Lib.toList_data, data_str]] at hw
 have hsay : Hid (∀ b : Bool, b = decide (runL letB (s.data.toList.drop p) ≤ 16) → RefSays s p (nameT (s.data.toList.drop p)) (.returned (.tuple #[tokV (if words.contains ((s.data.toList.drop p).take (runL letB (s.data.toList.drop p))) = true then 1 else 2) (s.extract p (p + runL letB (s.data.toList.drop p))) noV (p : Int), .int .i64 ((p + runL letB (s.data.toList.drop p) : Nat) : Int), .bool b]))) := by
  intro b hb
  subst hb
  unfold nameT
  by_cases h16 : runL letB (s.data.toList.drop p) ≤ 16
  ·rw [if_pos h16, decide_eq_true h16, hex]
   rfl
  ·rw [if_neg h16, decide_eq_false h16]
   exact ⟨_, _, _, _, _, rfl⟩
 rw [hdp, htok, ← hdp]
 clear hdp htok hex
 generalize nameT (s.data.toList.drop p) = o at *
 generalize words.contains ((s.data.toList.drop p).take (runL letB (s.data.toList.drop p))) = q at *
 generalize runL letB (s.data.toList.drop p) = n at *
 have hlow := refLow_any s[p]
 rw [hl] at hlow
 go_enter Tryz.func37, Tryz.ntmps37
 go_wp2_with (first
  | (go_at_call 68; refine (hlow _).mono ?_; rintro e w1 ⟨rfl, rfl⟩))
 go_loopw [8] (fun i wr => ∃ j : Nat, j ≤ n ∧ i = .int .i64 ((p + j : Nat) : Int) ∧ wr = w.alloc zBoxR) (fun i _ => s.size - (intOf i).toNat)
 case atStart => exact ⟨0, by omega, by go_num, rfl⟩
 case round =>
  obtain ⟨j, hj, rfl, rfl⟩ := hrel
  by_cases hjn : j < n
  ·have hks : p + j < s.size := by omega
   have hlt := hin.out j hks hjn
   obtain ⟨k, hkj⟩ : ∃ k, p + j = k := ⟨_, rfl⟩
   simp only [hkj] at hks hlt ⊢
   have hksi : (k : Int) < (s.size : Int) := by omega
   have hlet := refLetter_any s[k]
   rw [hlt] at hlet
   have hwr : IntKind.i64.wrap ((k : Int) + 1) = (k : Int) + 1 := by rw [IntKind.wrap_i64]; omega
   clear hlt hin hout hsay hw
   go_wp2_with (first
    | (go_at_call 69; refine (hlet _).mono ?_; rintro e w1 ⟨rfl, rfl⟩))
   go_roundw
   case rel => exact ⟨j + 1, by omega, by go_num, by first | trivial | rfl⟩
   case measure => simp [intOf]; omega
  ·obtain rfl : j = n := by omega
   obtain ⟨k, hkn⟩ : ∃ k, p + j = k := ⟨_, rfl⟩
   have hout := hout.out
   simp only [hkn] at hout hsay hw ⊢
   obtain ⟨y, hy⟩ : ∃ y, s.extract p k = y := ⟨_, rfl⟩
   rw [hy] at hsay hw
   have hb1 : (p : Int) ≤ (k : Int) := by omega
   have hb2 : (k : Int) ≤ (s.size : Int) := by omega
   have hb3 : (0 : Int) ≤ (k : Int) := by omega
   have hwr : IntKind.i64.wrap ((k : Int) - (p : Int)) = (k : Int) - (p : Int) := by rw [IntKind.wrap_i64]; omega
   by_cases hks : k < s.size
   ·have hlet := refLetter_any s[k]
    rw [hout hks] at hlet
    clear hout hin
    cases q with
    | true =>
     rw [if_pos rfl] at hsay
     go_wp2_with (first
         | (go_at_call 69; refine (hlet _).mono ?_; rintro e w1 ⟨rfl, rfl⟩)
         | (go_at_call 70; refine (hw _).mono ?_; rintro e w1 ⟨rfl, rfl⟩))
     refine bodyPost_ret (v := .tuple #[tokV 1 y noV (p : Int), .int .i64 (k : Int), .bool (decide ((k : Int) - (p : Int) ≤ 16))]) (by simp [results, Tryz.results37, go_sem, tokV, noV]) rfl ⟨hsay.out _ (by rw [← hkn]; by_cases h : j ≤ 16 <;> simp [h] <;> omega), ?_⟩
     exact ((Below.refl _ _).alloc (Nat.le_refl _) _).alloc (by simp) _
    | false =>
     rw [if_neg (by decide)] at hsay
     go_wp2_with (first
         | (go_at_call 69; refine (hlet _).mono ?_; rintro e w1 ⟨rfl, rfl⟩)
         | (go_at_call 70; refine (hw _).mono ?_; rintro e w1 ⟨rfl, rfl⟩))
     refine bodyPost_ret (v := .tuple #[tokV 2 y noV (p : Int), .int .i64 (k : Int), .bool (decide ((k : Int) - (p : Int) ≤ 16))]) (by simp [results, Tryz.results37, go_sem, tokV, noV]) rfl ⟨hsay.out _ (by rw [← hkn]; by_cases h : j ≤ 16 <;> simp [h] <;> omega), ?_⟩
     exact ((Below.refl _ _).alloc (Nat.le_refl _) _).alloc (by simp) _
   ·have hksi : ¬ (k : Int) < (s.size : Int) := by omega
    clear hout hin
    cases q with
    | true =>
     rw [if_pos rfl] at hsay
     go_wp2_with (first
         | (go_at_call 70; refine (hw _).mono ?_; rintro e w1 ⟨rfl, rfl⟩))
     refine bodyPost_ret (v := .tuple #[tokV 1 y noV (p : Int), .int .i64 (k : Int), .bool (decide ((k : Int) - (p : Int) ≤ 16))]) (by simp [results, Tryz.results37, go_sem, tokV, noV]) rfl ⟨hsay.out _ (by rw [← hkn]; by_cases h : j ≤ 16 <;> simp [h] <;> omega), ?_⟩
     exact ((Below.refl _ _).alloc (Nat.le_refl _) _).alloc (by simp) _
    | false =>
     rw [if_neg (by decide)] at hsay
     go_wp2_with (first
         | (go_at_call 70; refine (hw _).mono ?_; rintro e w1 ⟨rfl, rfl⟩))
     refine bodyPost_ret (v := .tuple #[tokV 2 y noV (p : Int), .int .i64 (k : Int), .bool (decide ((k : Int) - (p : Int) ≤ 16))]) (by simp [results, Tryz.results37, go_sem, tokV, noV]) rfl ⟨hsay.out _ (by rw [← hkn]; by_cases h : j ≤ 16 <;> simp [h] <;> omega), ?_⟩
     exact ((Below.refl _ _).alloc (Nat.le_refl _) _).alloc (by simp) _
theorem refNext_any (s : ByteArray) (p : Nat) (hp : p < s.size) (hs2 : s.size ≤ 1000) (w : World) :
  Calls Tryz.prog 37 #[.string s, .int .i64 (p : Int)] w fun e w' => RefSays s p (tokL (s.data.toList.drop p)) e ∧ Below w.heap.size w w' := by
 by_cases h1 : s[p].toNat = 120
 ·by_cases hp1 : p + 1 < s.size
  ·by_cases hq : s[p + 1].toNat = 39
   ·exact refNext_bytes s p hp hs2 h1 hp1 hq w
   ·exact refNext_name2 s p hp hs2 h1 hp1 hq w
  ·exact refNext_name1 s p hp hs2 h1 hp1 w
 by_cases h2 : s[p].toNat = 102
 ·by_cases hp1 : p + 1 < s.size
  ·by_cases hq : s[p + 1].toNat = 39
   ·exact refNext_float s p hp hs2 h2 hp1 hq w
   ·exact refNext_name4 s p hp hs2 h2 hp1 hq w
  ·exact refNext_name3 s p hp hs2 h2 hp1 w
 cases hl : lowB s[p] with
 | true => exact refNext_name5 s p hp hs2 h1 h2 hl w
 | false =>
  cases hd : digB s[p] with
  | true => exact refNext_digit s p hp hs2 hd w
  | false =>
   by_cases h45 : s[p].toNat = 45
   ·exact refNext_minus s p hp hs2 h45 w
   by_cases h39 : s[p].toNat = 39
   ·exact refNext_text s p hp hs2 h39 w
   cases hs : signB s[p] with
   | false => exact refNext_none s p hp hs2 hl hd h45 h39 hs w
   | true =>
    have hm : s[p] ∈ signs := by simpa [signB] using hs
    simp only [signs, List.mem_cons, List.not_mem_nil, or_false] at hm
    rcases hm with e | e | e | e | e | e | e | e | e
    ·exact refNext_sign40 s p hp hs2 (by rw [e]; rfl) w
    ·exact refNext_sign41 s p hp hs2 (by rw [e]; rfl) w
    ·exact refNext_sign44 s p hp hs2 (by rw [e]; rfl) w
    ·exact refNext_sign59 s p hp hs2 (by rw [e]; rfl) w
    ·exact refNext_sign61 s p hp hs2 (by rw [e]; rfl) w
    ·exact refNext_sign60 s p hp hs2 (by rw [e]; rfl) w
    ·exact refNext_sign62 s p hp hs2 (by rw [e]; rfl) w
    ·exact refNext_sign43 s p hp hs2 (by rw [e]; rfl) w
    ·exact refNext_sign42 s p hp hs2 (by rw [e]; rfl) w
end Go.Proofs.YtiajlhjjmlakmaaGreatDoor
