import Derived.Test.YtiajlhjjmlakmaaGreatDoorLxL
import Derived.Test.YtiajlhjjmlakmaaGreatDoorLxH
import Derived.Test.YtiajlhjjmlakmaaGreatDoorSqV
import Derived.Test.YtiajlhjjmlakmaaGreatDoorVWord
namespace Go.Proofs.YtiajlhjjmlakmaaGreatDoor
open Go.RowKit Num
set_option linter.unusedVariables false
set_option maxRecDepth 100000

def RefSays (s : ByteArray) (p : Nat) (o : Option Tk) (e : Ending) : Prop :=
 match o with
 | some x => e = .returned (.tuple #[tokV x.1 (str ((s.data.toList.drop p).take x.2.1)) x.2.2 (p : Int), .int .i64 ((p + x.2.1 : Nat) : Int), .bool true])
 | none => ∃ k t v q i, e = .returned (.tuple #[tokV k t v q, .int .i64 i, .bool false])
abbrev Num.zBoxR : Obj := .cells #[.int .i64 0, .string ⟨#[]⟩, .int .i64 0, .int .i64 0, .int .u64 0, .string ⟨#[]⟩, .int .i64 0] 62
theorem zboxR_at {w w1 : World} (hb : Below (w.alloc zBoxR).heap.size (w.alloc zBoxR) w1) : w1.heap[w.heap.size]? = some zBoxR := heap_next (heap_alloc_new w zBoxR) hb
theorem own_form {w : World} {B E sz n : Nat} {v : Value} {xs : List Value} (h : w.ownsRow B E sz v n xs) : ∃ ao cap, v = .slice ao n cap := by
 rcases h.2 with ⟨hv, h0⟩ | ⟨g, cap, cur, hv, _⟩
 ·exact ⟨none, 0, by rw [hv, h0]⟩
 ·exact ⟨_, cap, hv⟩
theorem ext_sub (s : ByteArray) (a b : Nat) : s.extract a b = str ((s.data.toList.drop a).take (b - a)) := by
 rw [← str_of (s.extract a b), Go.Lib.extract_data]
theorem refSays_none {s : ByteArray} {p : Nat} {o : Option Tk} (h : o = none) (k : Int) (t : ByteArray) (v : Val) (q i : Int) : RefSays s p o (.returned (.tuple #[tokV k t v q, .int .i64 i, .bool false])) := by
 subst h
 exact ⟨k, t, v, q, i, rfl⟩
set_option maxHeartbeats 1000000 in
theorem refQuoted_any (s : ByteArray) (p : Nat) (hp : p < s.size) (hs2 : s.size ≤ 1000) (w : World) :
  Calls Tryz.prog 73 #[.string s, .int .i64 (p : Int)] w fun e w' => RefSays s p (textT (s.data.toList.drop (p + 1))) e ∧ Below w.heap.size w w' := by
 have hl : s.data.toList.length = s.size := rfl
 have hr : Hid (∀ y, textG (s.data.toList.drop (p + 1)) = y → textT (s.data.toList.drop (p + 1)) = match y with | some z => if z.1.length ≤ 40 then some (3, z.2 + 1, ⟨5, 0, 0, str z.1⟩) else none | none => none) := by
  intro y hy
  rw [textT, hy]
  cases y <;> rfl
 have hsm : (s.size : Int) ≤ 1000 := by omega
 have hdd : Hid (∀ j, (s.data.toList.drop (p + 1)).drop j = s.data.toList.drop (p + 1 + j)) := fun j => List.drop_drop
 generalize hrr : s.data.toList.drop (p + 1) = r at *
 have hrl : Hid (r.length = s.size - (p + 1)) := by
  unfold Hid
  rw [← hrr, List.length_drop, hl]
 clear hrr hl
 go_enter Tryz.func73, Tryz.ntmps73
 go_wp2
 go_loopw [7, 8] (fun v i wr => ∃ (j : Nat) (B : List UInt8), p + 1 + j ≤ s.size ∧ B.length ≤ j ∧ i = .int .i64 ((p + 1 + j : Nat) : Int) ∧ Hid (TextTo r B j false) ∧ wr.ownsRow (w.heap.size + 1) 5 1 v B.length (cellsOf B) ∧ Below (w.alloc zBoxR).heap.size (w.alloc zBoxR) wr) (fun _ i _ => s.size - (intOf i).toNat)
 case atStart => exact ⟨0, [], by omega, by simp, by go_num, textTo_start _, World.ownsRow_nil _ _ _ _, Below.refl _ _⟩
 case round =>
  obtain ⟨j, B, hk, hBk, rfl, HT, hown, hbel⟩ := hrel
  have hsz : w.heap.size + 1 ≤ wr.heap.size := by have := hbel.size; simpa using this
  obtain ⟨k, hkj⟩ : ∃ k, p + 1 + j = k := ⟨_, rfl⟩
  have hdj := hdd.out j
  rw [hkj] at hdj hk ⊢
  have hpk : p + 1 ≤ k := by omega
  have hjk : Hid (j = k - (p + 1)) := by unfold Hid; omega
  have hB2 : B.length ≤ 1000 := by omega
  clear hkj
  have hzb := zboxR_at hbel
  obtain ⟨q0, q1, q2, q3, q4, q5, q6⟩ := cells7 hzb
  obtain ⟨z0, z1, z2, z3, z4, z5, z6⟩ := free7 hzb
  clear hzb
  by_cases hks : k < s.size
  ·have hdk := sdrop_at s k hks
   rw [hdk] at hdj
   have he := int_eq s[k] 39
   have he : (((s[k].toNat : Nat) : Int) == 39) = decide (s[k].toNat = 39) := he
   by_cases h39 : s[k].toNat = 39
   ·rw [decide_eq_true h39] at he
    by_cases hk1 : k + 1 < s.size
    ·have hk1i : (k : Int) + 1 < (s.size : Int) := by omega
     have hdk1 := sdrop_at s (k + 1) hk1
     have he1 := int_eq s[k + 1] 39
     have he1 : (((s[k + 1].toNat : Nat) : Int) == 39) = decide (s[k + 1].toNat = 39) := he1
     by_cases h391 : s[k + 1].toNat = 39
     ·rw [decide_eq_true h391] at he1
      rw [hdk1] at hdj
      have hp1 := textTo_pair HT.out hdj h39 h391
      have hp2 := textTo_second hp1 s[k + 1] _ (drop_two hdj)
      have hc39 : s[k + 1] = 39 := UInt8.toNat_inj.1 h391
      rw [hc39] at hp2
      have HN : Hid (TextTo r (B ++ [39]) (j + 2) false) := hp2.2
      clear HT hdj hdk hdk1 hp1 hp2 hc39 h39 h391 q0 q1 q2 q3 q4 q5 q6 z0 z1 z2 z3 z4 z5 z6
      go_wp2_with (first
       | (at_builtin; refine wpList_app _ rfl (.tmp 33) _ rfl (w.heap.size + 1) _ B.length _ rfl (World.ownsRow.alloc hown _) _ _ _ [39] rfl rfl (one_new _ _ _ _ rfl) (by omega) (by simp; omega) ?_; intro v4 w4 hown4 hbel4))
      go_roundw
      case rel => exact ⟨j + 2, B ++ [39], by have := hjk.out; omega, by simp; omega, by have := hjk.out; go_num, HN, by simpa using hown4, below_up hbel hbel4⟩
      case measure => simp [intOf]; omega
     ·rw [decide_eq_false h391] at he1
      have hend := textTo_end HT.out hdj h39 (by rw [hdk1, List.head?_cons]; intro e; have e := Option.some.inj e; rw [e] at h391; exact h391 rfl)
      have hfin := hr.out _ hend
      simp only at hfin
      obtain ⟨t, ht⟩ : ∃ t, s.extract p (k + 1) = t := ⟨_, rfl⟩
      have htd : str ((s.data.toList.drop p).take (j + 1 + 1)) = t := by
       rw [← ht, ext_sub]
       congr 2
       have := hjk.out
       omega
      have hjk2 : Hid (((p + (j + 1 + 1) : Nat) : Int) = (k : Int) + 1) := by
       have := hjk.out
       unfold Hid
       omega
      have hsay : Hid (∀ b : Bool, (b = decide (B.length ≤ 40)) → RefSays s p (textT r) (.returned (.tuple #[tokV 3 t ⟨5, 0, 0, str B⟩ (p : Int), .int .i64 ((k : Int) + 1), .bool b]))) := by
       intro b hb
       subst hb
       rw [hfin]
       by_cases h40 : B.length ≤ 40
       ·rw [if_pos h40, decide_eq_true h40]
        show _ = _
        rw [htd, hjk2.out]
       ·rw [if_neg h40, decide_eq_false h40]
        exact ⟨_, _, _, _, _, rfl⟩
      have hconv := conv_own wr.drew _ _ _ _ (World.ownsRow.drew hown)
      obtain ⟨ao, cap, rfl⟩ := own_form hown
      have hb1 : (p : Int) ≤ (k : Int) + 1 := by omega
      have hb2 : (k : Int) + 1 ≤ (s.size : Int) := by omega
      have hb3 : (0 : Int) ≤ (k : Int) + 1 := by omega
      clear HT hdj hdk hdk1 h39 h391 hr hend hfin htd
      go_wp2_with fail
      have hwr : IntKind.i64.wrap ((k : Int) + 1) = (k : Int) + 1 := by rw [IntKind.wrap_i64]; omega
      go_region
      all_goals
       go_wp2
       refine bodyPost_ret (v := .tuple #[tokV 3 t ⟨5, 0, 0, str B⟩ (p : Int), .int .i64 ((k : Int) + 1), .bool (decide ((B.length : Int) ≤ 40))]) ?_ rfl ?_
       ·simp [results, Tryz.results73, go_sem, tokV, q0, q1, q2, q3, q4, q5, q6]
       ·refine And.intro (hsay.out _ ?_) ?_
        ·rw [Bool.eq_iff_iff, decide_eq_true_iff, decide_eq_true_iff]
         omega
        ·exact (below_set7 (below_box0 hbel) (Nat.le_refl _) _ _ _ _ _ _ _).drew
    ·have hk1i : ¬ (k : Int) + 1 < (s.size : Int) := by omega
     have hend := textTo_end HT.out hdj h39 (by rw [List.drop_eq_nil_of_le (by have : s.data.toList.length = s.size := rfl; omega)]; intro e; cases e)
     have hfin := hr.out _ hend
     simp only at hfin
     obtain ⟨t, ht⟩ : ∃ t, s.extract p (k + 1) = t := ⟨_, rfl⟩
     have htd : str ((s.data.toList.drop p).take (j + 1 + 1)) = t := by
      rw [← ht, ext_sub]
      congr 2
      have := hjk.out
      omega
     have hjk2 : Hid (((p + (j + 1 + 1) : Nat) : Int) = (k : Int) + 1) := by
      have := hjk.out
      unfold Hid
      omega
     have hsay : Hid (∀ b : Bool, (b = decide (B.length ≤ 40)) → RefSays s p (textT r) (.returned (.tuple #[tokV 3 t ⟨5, 0, 0, str B⟩ (p : Int), .int .i64 ((k : Int) + 1), .bool b]))) := by
      intro b hb
      subst hb
      rw [hfin]
      by_cases h40 : B.length ≤ 40
      ·rw [if_pos h40, decide_eq_true h40]
       show _ = _
       rw [htd, hjk2.out]
      ·rw [if_neg h40, decide_eq_false h40]
       exact ⟨_, _, _, _, _, rfl⟩
     have hconv := conv_own wr.drew _ _ _ _ (World.ownsRow.drew hown)
     obtain ⟨ao, cap, rfl⟩ := own_form hown
     have hb1 : (p : Int) ≤ (k : Int) + 1 := by omega
     have hb2 : (k : Int) + 1 ≤ (s.size : Int) := by omega
     have hb3 : (0 : Int) ≤ (k : Int) + 1 := by omega
     clear HT hdj hdk h39 hr hend hfin htd
     go_wp2_with fail
     have hwr : IntKind.i64.wrap ((k : Int) + 1) = (k : Int) + 1 := by rw [IntKind.wrap_i64]; omega
     go_region
     all_goals
      go_wp2
      refine bodyPost_ret (v := .tuple #[tokV 3 t ⟨5, 0, 0, str B⟩ (p : Int), .int .i64 ((k : Int) + 1), .bool (decide ((B.length : Int) ≤ 40))]) ?_ rfl ?_
      ·simp [results, Tryz.results73, go_sem, tokV, q0, q1, q2, q3, q4, q5, q6]
      ·refine And.intro (hsay.out _ ?_) ?_
       ·rw [Bool.eq_iff_iff, decide_eq_true_iff, decide_eq_true_iff]
        omega
       ·exact (below_set7 (below_box0 hbel) (Nat.le_refl _) _ _ _ _ _ _ _).drew
   ·rw [decide_eq_false h39] at he
    by_cases hp32 : 32 ≤ s[k].toNat ∧ s[k].toNat ≤ 126
    ·have hpl : plainB s[k] = true := by simp [plainB, hp32]
     have hi1 : ¬ ((s[k].toNat : Nat) : Int) < 32 := by omega
     have hi2 : ¬ 126 < ((s[k].toNat : Nat) : Int) := by omega
     have HN : Hid (TextTo r (B ++ [s[k]]) (j + 1) false) := textTo_next HT.out hdj h39 hpl
     clear HT hdj hdk hpl h39 hp32 q0 q1 q2 q3 q4 q5 q6 z0 z1 z2 z3 z4 z5 z6
     go_wp2_with (first
      | (at_builtin; refine wpList_app _ rfl (.tmp 68) _ rfl (w.heap.size + 1) _ B.length _ rfl (World.ownsRow.alloc hown _) _ _ _ [s[k]] rfl rfl (one_new _ _ _ _ rfl) (by omega) (by simp; omega) ?_; intro v4 w4 hown4 hbel4))
     go_roundw
     case rel => exact ⟨j + 1, B ++ [s[k]], by have := hjk.out; omega, by simp; omega, by have := hjk.out; go_num, HN, by simpa using hown4, below_up hbel hbel4⟩
     case measure => simp [intOf]; omega
    ·have hpl : plainB s[k] = false := by
      rw [Bool.eq_false_iff]
      intro e
      simp [plainB] at e
      omega
     have hfin : Hid (textT r = none) := hr.out _ (textTo_bad HT.out hdj h39 hpl)
     have hi : ((s[k].toNat : Nat) : Int) < 32 ∨ (¬ ((s[k].toNat : Nat) : Int) < 32 ∧ 126 < ((s[k].toNat : Nat) : Int)) := by omega
     clear HT hdj hdk hpl h39 hp32 hr
     rcases hi with hi | ⟨hi, hi2⟩
     all_goals
      go_wp2
      refine bodyPost_ret (v := .tuple #[tokV 0 ⟨#[]⟩ noV 0, .int .i64 0, .bool false]) (by simp [results, Tryz.results73, go_sem, tokV, noV, q0, q1, q2, q3, q4, q5, q6]) rfl ⟨refSays_none hfin.out _ _ _ _ _, ?_⟩
      exact below_set7 (below_box0 hbel) (Nat.le_refl _) _ _ _ _ _ _ _
  ·have hov := textTo_over HT.out (by have := hrl.out; have := hjk.out; omega)
   have hfin : Hid (textT r = none) := hr.out _ hov.2
   clear HT hr hov hdj
   go_wp2
   refine bodyPost_ret (v := .tuple #[tokV 0 ⟨#[]⟩ noV 0, .int .i64 0, .bool false]) (by simp [results, Tryz.results73, go_sem, tokV, noV, q0, q1, q2, q3, q4, q5, q6]) rfl ⟨refSays_none hfin.out _ _ _ _ _, ?_⟩
   exact below_set7 (below_box0 hbel) (Nat.le_refl _) _ _ _ _ _ _ _

def halfV (b : UInt8) : Int := if hexB b = true then (nib b : Int) else -1
theorem half_any (b : UInt8) (w : World) :
  Calls Tryz.prog 108 #[.int .u8 (b.toNat : Int)] w fun e w' => e = .returned (.int .i64 (halfV b)) ∧ w' = w := by
 have hd := refDigit_any b
 have hlt := b.toNat_lt
 cases h : digB b with
 | true =>
  have hb := (digB_iff b).1 h
  have hv : Hid (halfV b = (b.toNat : Int) - 48) := by
   unfold Hid halfV nib
   rw [if_pos (by simp [hexB, h]), if_pos h]
   omega
  rw [h] at hd
  clear h
  go_enter Tryz.func108, Tryz.ntmps108
  go_wp2_with (go_at_call 71; refine (hd _).mono ?_; rintro e w1 ⟨rfl, rfl⟩)
  go_ret
  exact ⟨by rw [hv.out]; rfl, rfl⟩
 | false =>
  rw [h] at hd
  by_cases h1 : 97 ≤ b.toNat
  ·have h1i : (97 : Int) ≤ (b.toNat : Int) := by omega
   by_cases h2 : b.toNat ≤ 102
   ·have h2i : (b.toNat : Int) ≤ 102 := by omega
    have hv : Hid (halfV b = (b.toNat : Int) - 97 + 10) := by
     unfold Hid halfV nib
     rw [if_pos (by simp [hexB, h1, h2]), if_neg (by simp [h])]
     omega
    clear h h1 h2
    go_enter Tryz.func108, Tryz.ntmps108
    go_wp2_with (go_at_call 71; refine (hd _).mono ?_; rintro e w1 ⟨rfl, rfl⟩)
    go_ret
    exact ⟨by rw [hv.out]; rfl, rfl⟩
   ·have h2i : ¬ (b.toNat : Int) ≤ 102 := by omega
    have hv : Hid (halfV b = -1) := by
     unfold Hid halfV
     rw [if_neg (by simp [hexB, h, h2])]
    clear h h1 h2
    go_enter Tryz.func108, Tryz.ntmps108
    go_wp2_with (go_at_call 71; refine (hd _).mono ?_; rintro e w1 ⟨rfl, rfl⟩)
    go_ret
    exact ⟨by rw [hv.out]; rfl, rfl⟩
  ·have h1i : ¬ (97 : Int) ≤ (b.toNat : Int) := by omega
   have hv : Hid (halfV b = -1) := by
    unfold Hid halfV
    rw [if_neg (by simp [hexB, h, h1])]
   clear h h1
   go_enter Tryz.func108, Tryz.ntmps108
   go_wp2_with (go_at_call 71; refine (hd _).mono ?_; rintro e w1 ⟨rfl, rfl⟩)
   go_ret
   exact ⟨by rw [hv.out]; rfl, rfl⟩
theorem half_hex {b : UInt8} (h : hexB b = true) : halfV b = (nib b : Int) ∧ nib b < 16 := by
 refine ⟨?_, nib_lt h⟩
 unfold halfV
 rw [if_pos h]
theorem half_not {b : UInt8} (h : hexB b = false) : halfV b = -1 := by
 unfold halfV
 rw [if_neg (by simp [h])]
def HexTo (r : List UInt8) (n : Nat) : Prop := n ≤ r.length ∧ ∀ i (hi : i < r.length), i < n → hexB r[i] = true
theorem hexNone {r : List UInt8} (h : ∀ d, digsG r = some d → d.length % 2 = 1) : bytesT r = none ∧ floatT r = none := by
 unfold bytesT floatT
 cases hd : digsG r with
 | none => exact ⟨rfl, rfl⟩
 | some d =>
  have := h d hd
  simp only
  exact ⟨if_neg (by omega), if_neg (by omega)⟩
theorem digs_run {r d : List UInt8} (h : digsG r = some d) : d = r.take (runL hexB r) ∧ (r.drop (runL hexB r)).head? = some 39 := by
 unfold digsG at h
 split at h
 ·exact ⟨(Option.some.inj h).symm, by assumption⟩
 ·cases h
theorem digs_len {r d : List UInt8} (h : digsG r = some d) : d.length = runL hexB r := by
 rw [(digs_run h).1, List.length_take, Nat.min_eq_left (runL_le _ _)]
theorem hex_stop {r : List UInt8} {n : Nat} (h : HexTo r n) (hs : r.length = n ∨ ∃ c q, r.drop n = c :: q ∧ hexB c = false ∧ c ≠ 39) : bytesT r = none ∧ floatT r = none := by
 refine hexNone fun d hd => ?_
 have h2 := (digs_run hd).2
 rcases hs with hs | ⟨c, q, hc, hx, hne⟩
 ·rw [runL_all hexB r fun j hj => h.2 j hj (by omega), List.drop_length] at h2
  cases h2
 ·have hn : n < r.length := by
   have := congrArg List.length hc
   rw [List.length_drop, List.length_cons] at this
   omega
  have hc2 : r[n] = c := by
   rw [List.drop_eq_getElem_cons hn] at hc
   exact (List.cons.inj hc).1
  rw [runL_at hexB r n hn h.2 (by rw [hc2]; exact hx), hc, List.head?_cons] at h2
  exact absurd (Option.some.inj h2) hne
theorem hex_odd {r : List UInt8} {n : Nat} (h : HexTo r (n + 1)) (hn : n % 2 = 0) (hs : r.length = n + 1 ∨ ∃ c q, r.drop (n + 1) = c :: q ∧ hexB c = false) : bytesT r = none ∧ floatT r = none := by
 refine hexNone fun d hd => ?_
 rw [digs_len hd]
 rcases hs with hs | ⟨c, q, hc, hx⟩
 ·rw [runL_all hexB r fun j hj => h.2 j hj (by omega)]
  omega
 ·have hl : n + 1 < r.length := by
   have := congrArg List.length hc
   rw [List.length_drop, List.length_cons] at this
   omega
  have hc2 : r[n + 1] = c := by
   rw [List.drop_eq_getElem_cons hl] at hc
   exact (List.cons.inj hc).1
  rw [runL_at hexB r (n + 1) hl h.2 (by rw [hc2]; exact hx)]
  omega
theorem hex_quote {r : List UInt8} {n : Nat} (h : HexTo r n) {q : List UInt8} (hc : r.drop n = 39 :: q) : digsG r = some (r.take n) := by
 have hn : n < r.length := by
  have := congrArg List.length hc
  rw [List.length_drop, List.length_cons] at this
  omega
 have hc2 : r[n] = 39 := by
  rw [List.drop_eq_getElem_cons hn] at hc
  exact (List.cons.inj hc).1
 have hr := runL_at hexB r n hn h.2 (by rw [hc2]; decide)
 unfold digsG
 rw [hr, hc]
 rfl
theorem numOf_pairs : ∀ (k : Nat) (d : List UInt8), 2 * k ≤ d.length → (∀ c ∈ d, hexB c = true) → numOf (pairsL (d.take (2 * k))) = hexNum (d.take (2 * k))
 | 0, d, _, _ => by simp [pairsL, numOf, hexNum]
 | k + 1, d, h, hx => by
  have ih := numOf_pairs k d (by omega) hx
  have ha := nib_lt (hx d[2 * k] (List.getElem_mem _))
  have hb := nib_lt (hx d[2 * k + 1] (List.getElem_mem _))
  have e : d.take (2 * (k + 1)) = d.take (2 * k) ++ [d[2 * k]] ++ [d[2 * k + 1]] := by
   rw [show 2 * (k + 1) = 2 * k + 1 + 1 by omega, List.take_add_one, List.take_add_one, List.getElem?_eq_getElem (by omega), List.getElem?_eq_getElem (by omega)]
   rfl
  rw [pairsL_next k d (by omega), numOf_snoc, ih, ofNat_toNat (by omega), e, hexNum_snoc, hexNum_snoc]
  omega

theorem itoa_ne (n : Int) : ∃ a b, Go.Lib.itoa n = a :: b ∧ True := by
 unfold Go.Lib.itoa
 split
 ·exact ⟨_, _, rfl, trivial⟩
 ·obtain ⟨c, r, e, _⟩ := dec_head n.toNat
  exact ⟨c, r, e, trivial⟩
theorem plus_no {l : List UInt8} (hc : ∃ c d, l = c :: d ∧ c.toNat ≠ 45) (h : ¬ (canonD (l.take (runL letB l)) ∧ decVal (l.take (runL letB l)) < 9223372036854775808)) : intT (l.take (runL letB l)) = none := by
 obtain ⟨c, d, rfl, h45⟩ := hc
 cases hn : runL letB (c :: d) with
 | zero =>
  cases hx : intT ((c :: d).take 0) with
  | none => rfl
  | some x =>
   obtain ⟨n, _, _, e⟩ := intT_some hx
   obtain ⟨a, b, e2, _⟩ := itoa_ne n
   rw [e2] at e
   cases e
 | succ m =>
  rw [hn, List.take_succ_cons] at h
  rw [List.take_succ_cons]
  exact intT_plus_no c _ h45 h
end Go.Proofs.YtiajlhjjmlakmaaGreatDoor
