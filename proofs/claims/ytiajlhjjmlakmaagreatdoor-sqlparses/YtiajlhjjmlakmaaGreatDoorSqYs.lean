import Derived.Test.YtiajlhjjmlakmaaGreatDoorSqYc
namespace Go.Proofs.YtiajlhjjmlakmaaGreatDoor
open Go.RowKit Num
set_option linter.unusedSimpArgs false
set_option linter.unusedVariables false
set_option maxRecDepth 100000

theorem dat_at {g gt cap : Nat} {l : List Tok} {S : DS} {w : World} (hP : DAt g (.slice (some ⟨gt, 0, none⟩) l.length cap) l S w) : gt < w.heap.size ∧ ¬ gt = g ∧
  w.cell? ⟨g, 0, none⟩ = some (.slice (some ⟨gt, 0, none⟩) l.length cap) ∧ w.cell? ⟨g, 1, none⟩ = some (.int .i64 (S.i : Int)) ∧ w.cell? ⟨g, 2, none⟩ = some (.bool S.bad) ∧ w.cell? ⟨gt, S.i * 7, none⟩ = some (.int .i64 (tokAt l S.i).k) ∧ w.cell? ⟨gt, S.i * 7 + 1, none⟩ = some (.string (tokAt l S.i).t) := by
 obtain ⟨gt2, cap2, hv, h1, h2, h3, h4⟩ := dat_cells hP
 obtain ⟨e1, _, e3⟩ := Value.slice.inj hv
 obtain rfl : gt = gt2 := by cases e1; rfl
 subst e3
 exact ⟨h1, h2, h3.1, h3.2.1, h3.2.2.1, h4.1, h4.2.1⟩
theorem row_setN {w : World} {b B E sz n : Nat} {v : Value} {xs : List Value} (h : w.ownsRow B E sz v n xs) (hnb : ∀ k, v.ownBlock = some k → k ≠ b) (i : Nat) (u : Value) : (w.setCell ⟨b, i, none⟩ u).ownsRow B E sz v n xs := by
 refine ⟨h.1, ?_⟩
 rcases h.2 with hn | ⟨g, cap, cur, rfl, hB, hgg, rest⟩
 ·exact .inl hn
 ·exact .inr ⟨g, cap, cur, rfl, hB, (Below.heap_setCell w _ _ _ (show g ≠ b from hnb g rfl)).trans hgg, rest⟩
set_option maxHeartbeats 4000000 in
theorem dsets_any {g : Nat} {v : Value} {l : List Tok} (hE : EndK l) {S : DS} (w : World) (hP : DAt g v l S w) :
  Calls Tryz.prog 42 #[.pointer (some ⟨g, 0, none⟩)] w (DTells g v l S w (VL 65 6 cT) (setsD l S)) := by
 have hg0 := hP.g_lt
 have hsm := hP.sm
 obtain ⟨gt, cap, rfl, _⟩ := dat_cells hP
 rcases e0 : (bndD (setD1 l) fun a => moreD l ⟨#[44]⟩ (setD1 l) l.length ([] ++ [a])) S with ⟨ss, SL⟩
 have HO : Hid (setsD l S = (ss, (mostD ss.length SL).2)) := by
  unfold Hid setsD
  have h : (bndD (setD1 l) fun a => bndD (moreD l ⟨#[44]⟩ (setD1 l) l.length [a]) fun ss => bndD (mostD ss.length) fun _ => retD ss) S = (((bndD (setD1 l) fun a => moreD l ⟨#[44]⟩ (setD1 l) l.length ([] ++ [a])) S).1, (mostD ((bndD (setD1 l) fun a => moreD l ⟨#[44]⟩ (setD1 l) l.length ([] ++ [a])) S).1.length ((bndD (setD1 l) fun a => moreD l ⟨#[44]⟩ (setD1 l) l.length ([] ++ [a])) S).2).2) := rfl
  rw [h, e0]
 go_enter Tryz.func42, Tryz.ntmps42
 go_wp2
 go_loopw [3] (fun r wr => ∃ (acc : List Sett) (T : DS) (n : Nat) (acc_o : Option Addr) (acc_c : Nat), r = .slice acc_o acc.length acc_c ∧ Hid (DAt g (.slice (some ⟨gt, 0, none⟩) l.length cap) l T wr) ∧ Hid (w.grownBy wr (some g)) ∧ Hid ((bndD (setD1 l) fun a => moreD l ⟨#[44]⟩ (setD1 l) n (acc ++ [a])) T = (ss, SL)) ∧ Hid (l.length ≤ T.i + n) ∧ Hid (acc.length ≤ T.i) ∧ Hid (S.i ≤ T.i) ∧ wr.ownsRow w.heap.size 65 6 (.slice acc_o acc.length acc_c) acc.length (acc.flatMap cT)) (fun _ wr => l.length - (intOf ((wr.cell? ⟨g, 1, none⟩).getD (.int .i64 0))).toNat)
 case atStart => exact ⟨[], S, l.length, none, 0, rfl, hP, World.grownBy.refl w _, e0, by unfold Hid; omega, by unfold Hid; simp, Nat.le_refl _, World.ownsRow_nil _ _ _ _⟩
 case round =>
  obtain ⟨acc, T, n, acc_o, acc_c, rfl, HP, HK, HL, Hn, Ha, Hi, hown⟩ := hrel
  have hTl := HP.out.lt
  have hsr : w.heap.size ≤ wr.heap.size := HK.out.size
  have hal : acc.length ≤ 1001 := by have := Ha.out; omega
  rcases e1 : nameD l T with ⟨c, T1⟩
  rcases e2 : eatD l ⟨#[61]⟩ T1 with ⟨⟨⟩, T2⟩
  cases hbad : T2.bad with
  | true =>
   rcases e4 : valueD l T2 with ⟨⟨vk, vn, vf, vs⟩, T5⟩
   have hset : setD1 l T = (⟨c, false, ⟨vk, vn, vf, vs⟩⟩, T5) := by
    simp only [setD1, bndD, retD, e1, e2, e4, hbad, Bool.true_eq_false, false_and, if_false]
   have HN : Hid (moreD l ⟨#[44]⟩ (setD1 l) n (acc ++ [⟨c, false, ⟨vk, vn, vf, vs⟩⟩]) T5 = (ss, SL)) := by
    have h := HL.out
    unfold bndD at h
    rw [hset] at h
    exact h
   clear HL hset e0
   rcases Bool.eq_false_or_eq_true (isD l ⟨#[44]⟩ T5) with hb | hb
   ·obtain ⟨m, hm⟩ : ∃ m, n = m + 1 ∨ n = 0 := ⟨n - 1, by omega⟩
    have e6 := eatD_yes hb
    go_wp2_with (first
     | (go_at_call 18; refine (deat_any hE ⟨#[61]⟩ _ (hP1.alloc (.cells #[.string c, .bool false, .int .i64 0, .int .i64 0, .int .u64 0, .string ⟨#[]⟩] 65))).mono ?_; intro e w2 hT2; obtain ⟨_, rfl, hk2, hj2, hP2, rfl⟩ := dtells hT2 e2; have kk2 := (kp_alloc kk1 (.cells #[.string c, .bool false, .int .i64 0, .int .i64 0, .int .u64 0, .string ⟨#[]⟩] 65)).trans hk2; have hs2 := kk2.size; have b2 : Bx w2 w1.heap.size 65 #[.string c, .bool false, iZ, iZ, .int .u64 0, sZ] := Bx.kp (Bx.newB rfl) hk2 (by omega); have lb2 := b2.lt; have or2 := row_kp (or1.alloc (.cells #[.string c, .bool false, .int .i64 0, .int .i64 0, .int .u64 0, .string ⟨#[]⟩] 65)) hk2 hg0; have ng2 : ¬ g = w1.heap.size := (by omega); have gn2 := Ne.symm ng2; have hd2 := dat_at hP2; have hlt2 := hP2.lt; have q0 := hd2.2.2.1; have q1 := hd2.2.2.2.1; have hti : (T2.i : Int) < (l.length : Int) := (by omega); have q2 : w2.cell? ⟨g, 2, none⟩ = some (.bool true) := (by rw [← hbad]; exact hd2.2.2.2.2.1))
     | (go_at_call 19; refine (dname_any hE _ HP.out).mono ?_; intro e w1 hT1; obtain ⟨_, rfl, hk1, hj1, hP1, rfl⟩ := dtells hT1 e1; have kk1 := HK.out.trans hk1; have hs1 := kk1.size; have or1 := row_kp hown hk1 hg0; have hnb : ∀ k, (Value.slice acc_o acc.length acc_c).ownBlock = some k → k ≠ w1.heap.size := (fun k hk => by have := (or1.lt k hk).2; omega)))
    go_region
    go_wp2_with (first
     | (go_at_call 18; refine (deat_any hE ⟨#[44]⟩ _ hP7).mono ?_; intro e w8 hT8; obtain ⟨_, rfl, hk8, hj8, hP8, rfl⟩ := dtells hT8 e6)
     | (go_at_call 16; refine (dis_at hb _ hP6).mono ?_; rintro e w7 ⟨rfl, hk7, hP7⟩; have kk7 := kk6.trans hk7)
     | (at_builtin; have hz := kk5; clear hz; refine appQ_set _ rfl _ _ rfl w.heap.size _ acc rfl ((row_setN (row_setN (row_setN (row_setN or5 hnb 2 (.int .i64 vk)) hnb 3 (.int .i64 vn)) hnb 4 (.int .u64 (vf : Int))) hnb 5 (.string vs)).alloc (.cells #[.string c, .bool false, .int .i64 vk, .int .i64 vn, .int .u64 (vf : Int), .string vs] 65)) _ _ ⟨c, false, ⟨vk, vn, vf, vs⟩⟩ rfl (Bx.newB (by simp)) (by omega) (by simp; omega) ?_; intro v6 w6 hown6 hbel6; obtain ⟨nac_o, nac_c, rfl⟩ := own_formQ hown6; have kk6 := kp_belowB (kp_alloc (kp_set (kp_set (kp_set (kp_set kk5 (by omega) 2 (.int .i64 vk)) (by omega) 3 (.int .i64 vn)) (by omega) 4 (.int .u64 (vf : Int))) (by omega) 5 (.string vs)) (.cells #[.string c, .bool false, .int .i64 vk, .int .i64 vn, .int .u64 (vf : Int), .string vs] 65)) hbel6 (Nat.le_refl _); have hP6 : DAt g (.slice (some ⟨gt, 0, none⟩) l.length cap) l T5 w6 := hP.of_kp kk6 ((hbel6.block g hg0).trans (((((hP5.set b5 (by decide) (by omega) 2 (.int .i64 vk)).set (b5.set 2 (.int .i64 vk)) (by decide) (by omega) 3 (.int .i64 vn)).set ((b5.set 2 (.int .i64 vk)).set 3 (.int .i64 vn)) (by decide) (by omega) 4 (.int .u64 (vf : Int))).set (((b5.set 2 (.int .i64 vk)).set 3 (.int .i64 vn)).set 4 (.int .u64 (vf : Int))) (by decide) (by omega) 5 (.string vs)).alloc (.cells #[.string c, .bool false, .int .i64 vk, .int .i64 vn, .int .u64 (vf : Int), .string vs] 65)).box) hP5.lt; have hs6 := kk6.size)
     | (go_at_call 41; refine (dvalue_any hE _ hP2.drew).mono ?_; intro e w5 hT5; obtain ⟨u5, rfl, hk5, hj5, hP5, hV5⟩ := dtells hT5 e4; obtain rfl : u5 = .agg #[.int .i64 vk, .int .i64 vn, .int .u64 (vf : Int), .string vs] := hV5; have kk5 := (kp_drew kk2).trans hk5; have hs5 := kk5.size; have b5 : Bx w5 w1.heap.size 65 #[.string c, .bool false, iZ, iZ, .int .u64 0, sZ] := Bx.kp b2.drew hk5 (by omega); have lb5 := b5.lt; have or5 := row_kp or2.drew hk5 hg0; have c50 := b5.s0; have f50 := b5.open 0; have c51 := b5.s1; have f51 := b5.open 1; have c52 := b5.s2; have f52 := b5.open 2; have c53 := b5.s3; have f53 := b5.open 3; have c54 := b5.s4; have f54 := b5.open 4; have c55 := b5.s5; have f55 := b5.open 5))
    have hTT : T.i ≤ T5.i := Nat.le_trans hj1 (Nat.le_trans hj2 hj5)
    have hj9 := isD_lt (fun i x h => (hE i x h).1) hP6.lt hb
    have hnm : n = m + 1 := by
     rcases hm with h | h
     ·exact h
     ·exfalso
      have := Hn.out
      omega
    have HN2 : Hid ((bndD (setD1 l) fun a => moreD l ⟨#[44]⟩ (setD1 l) m (acc ++ [⟨c, false, ⟨vk, vn, vf, vs⟩⟩] ++ [a])) T5.inc = (ss, SL)) := by
     have h := HN.out
     rw [hnm] at h
     have h2 : moreD l ⟨#[44]⟩ (setD1 l) (m + 1) (acc ++ [⟨c, false, ⟨vk, vn, vf, vs⟩⟩]) T5 = (bndD (setD1 l) fun a => moreD l ⟨#[44]⟩ (setD1 l) m (acc ++ [⟨c, false, ⟨vk, vn, vf, vs⟩⟩] ++ [a])) T5.inc := by
      show optD _ _ _ _ _ = _
      unfold optD
      rw [hb, if_pos rfl]
      show (bndD (setD1 l) fun a => moreD l ⟨#[44]⟩ (setD1 l) m (acc ++ [⟨c, false, ⟨vk, vn, vf, vs⟩⟩] ++ [a])) (eatD l ⟨#[44]⟩ T5).2 = _
      rw [e6]
     rw [← h2]
     exact h
    go_roundw
    case rel => exact ⟨acc ++ [⟨c, false, ⟨vk, vn, vf, vs⟩⟩], T5.inc, m, nac_o, nac_c, by simp, hP8, kk7.trans hk8, HN2, by unfold Hid; have := Hn.out; show _ ≤ T5.i + 1 + m; omega, by unfold Hid; have := Ha.out; show _ ≤ T5.i + 1; simp; omega, by unfold Hid; have := Hi.out; show _ ≤ T5.i + 1; omega, row_kp (row_kp hown6 hk7 hg0) hk8 hg0⟩
    case measure =>
     have c1 : wr.cell? ⟨g, 1, none⟩ = some (.int .i64 (T.i : Int)) := HP.out.box.cell 1 _ rfl
     have c2 : w8.cell? ⟨g, 1, none⟩ = some (.int .i64 ((T5.i + 1 : Nat) : Int)) := hP8.box.cell 1 _ rfl
     rw [c1, c2]
     simp [intOf]
     omega
   ·have HL2 : Hid (acc ++ [⟨c, false, ⟨vk, vn, vf, vs⟩⟩] = ss ∧ T5 = SL) := by
     have h := HN.out
     rw [moreD_stop hb] at h
     exact ⟨(Prod.mk.inj h).1, (Prod.mk.inj h).2⟩
    have hLen : (acc ++ [(⟨c, false, ⟨vk, vn, vf, vs⟩⟩ : Sett)]).length = acc.length + 1 := by simp
    have hmost : ∀ W, DAt g (.slice (some ⟨gt, 0, none⟩) l.length cap) l T5 W → Calls Tryz.prog 39 #[.pointer (some ⟨g, 0, none⟩), .int .i64 ((acc.length : Int) + 1)] W (DTells g (.slice (some ⟨gt, 0, none⟩) l.length cap) l T5 W VU (mostD (acc.length + 1) T5)) := fun W h => by
     have h2 := dmost_any (acc.length + 1) W h
     rw [show ((acc.length + 1 : Nat) : Int) = (acc.length : Int) + 1 by omega] at h2
     exact h2
    go_wp2_with (first
     | (go_at_call 18; refine (deat_any hE ⟨#[61]⟩ _ (hP1.alloc (.cells #[.string c, .bool false, .int .i64 0, .int .i64 0, .int .u64 0, .string ⟨#[]⟩] 65))).mono ?_; intro e w2 hT2; obtain ⟨_, rfl, hk2, hj2, hP2, rfl⟩ := dtells hT2 e2; have kk2 := (kp_alloc kk1 (.cells #[.string c, .bool false, .int .i64 0, .int .i64 0, .int .u64 0, .string ⟨#[]⟩] 65)).trans hk2; have hs2 := kk2.size; have b2 : Bx w2 w1.heap.size 65 #[.string c, .bool false, iZ, iZ, .int .u64 0, sZ] := Bx.kp (Bx.newB rfl) hk2 (by omega); have lb2 := b2.lt; have or2 := row_kp (or1.alloc (.cells #[.string c, .bool false, .int .i64 0, .int .i64 0, .int .u64 0, .string ⟨#[]⟩] 65)) hk2 hg0; have ng2 : ¬ g = w1.heap.size := (by omega); have gn2 := Ne.symm ng2; have hd2 := dat_at hP2; have hlt2 := hP2.lt; have q0 := hd2.2.2.1; have q1 := hd2.2.2.2.1; have hti : (T2.i : Int) < (l.length : Int) := (by omega); have q2 : w2.cell? ⟨g, 2, none⟩ = some (.bool true) := (by rw [← hbad]; exact hd2.2.2.2.2.1))
     | (go_at_call 19; refine (dname_any hE _ HP.out).mono ?_; intro e w1 hT1; obtain ⟨_, rfl, hk1, hj1, hP1, rfl⟩ := dtells hT1 e1; have kk1 := HK.out.trans hk1; have hs1 := kk1.size; have or1 := row_kp hown hk1 hg0; have hnb : ∀ k, (Value.slice acc_o acc.length acc_c).ownBlock = some k → k ≠ w1.heap.size := (fun k hk => by have := (or1.lt k hk).2; omega)))
    go_region
    go_wp2_with (first
     | (go_at_call 39; refine (hmost _ hP7).mono ?_; intro e w8 hT8; obtain ⟨u8, rfl, hk8, hj8, hP8, hV8⟩ := dtells hT8 rfl)
     | (go_at_call 16; refine (dis_at hb _ hP6).mono ?_; rintro e w7 ⟨rfl, hk7, hP7⟩; have kk7 := kk6.trans hk7)
     | (at_builtin; have hz := kk5; clear hz; refine appQ_set _ rfl _ _ rfl w.heap.size _ acc rfl ((row_setN (row_setN (row_setN (row_setN or5 hnb 2 (.int .i64 vk)) hnb 3 (.int .i64 vn)) hnb 4 (.int .u64 (vf : Int))) hnb 5 (.string vs)).alloc (.cells #[.string c, .bool false, .int .i64 vk, .int .i64 vn, .int .u64 (vf : Int), .string vs] 65)) _ _ ⟨c, false, ⟨vk, vn, vf, vs⟩⟩ rfl (Bx.newB (by simp)) (by omega) (by simp; omega) ?_; intro v6 w6 hown6 hbel6; obtain ⟨nac_o, nac_c, rfl⟩ := own_formQ hown6; have kk6 := kp_belowB (kp_alloc (kp_set (kp_set (kp_set (kp_set kk5 (by omega) 2 (.int .i64 vk)) (by omega) 3 (.int .i64 vn)) (by omega) 4 (.int .u64 (vf : Int))) (by omega) 5 (.string vs)) (.cells #[.string c, .bool false, .int .i64 vk, .int .i64 vn, .int .u64 (vf : Int), .string vs] 65)) hbel6 (Nat.le_refl _); have hP6 : DAt g (.slice (some ⟨gt, 0, none⟩) l.length cap) l T5 w6 := hP.of_kp kk6 ((hbel6.block g hg0).trans (((((hP5.set b5 (by decide) (by omega) 2 (.int .i64 vk)).set (b5.set 2 (.int .i64 vk)) (by decide) (by omega) 3 (.int .i64 vn)).set ((b5.set 2 (.int .i64 vk)).set 3 (.int .i64 vn)) (by decide) (by omega) 4 (.int .u64 (vf : Int))).set (((b5.set 2 (.int .i64 vk)).set 3 (.int .i64 vn)).set 4 (.int .u64 (vf : Int))) (by decide) (by omega) 5 (.string vs)).alloc (.cells #[.string c, .bool false, .int .i64 vk, .int .i64 vn, .int .u64 (vf : Int), .string vs] 65)).box) hP5.lt; have hs6 := kk6.size)
     | (go_at_call 41; refine (dvalue_any hE _ hP2.drew).mono ?_; intro e w5 hT5; obtain ⟨u5, rfl, hk5, hj5, hP5, hV5⟩ := dtells hT5 e4; obtain rfl : u5 = .agg #[.int .i64 vk, .int .i64 vn, .int .u64 (vf : Int), .string vs] := hV5; have kk5 := (kp_drew kk2).trans hk5; have hs5 := kk5.size; have b5 : Bx w5 w1.heap.size 65 #[.string c, .bool false, iZ, iZ, .int .u64 0, sZ] := Bx.kp b2.drew hk5 (by omega); have lb5 := b5.lt; have or5 := row_kp or2.drew hk5 hg0; have c50 := b5.s0; have f50 := b5.open 0; have c51 := b5.s1; have f51 := b5.open 1; have c52 := b5.s2; have f52 := b5.open 2; have c53 := b5.s3; have f53 := b5.open 3; have c54 := b5.s4; have f54 := b5.open 4; have c55 := b5.s5; have f55 := b5.open 5))
    have hTT : T.i ≤ T5.i := Nat.le_trans hj1 (Nat.le_trans hj2 hj5)
    obtain ⟨h1, h2⟩ := HL2.out
    go_ret
    rw [HO.out, ← h1, ← h2, hLen]
    exact ⟨kk7.trans hk8, Nat.le_trans Hi.out (Nat.le_trans hTT hj8), hP8, _, rfl, nac_o, nac_c, by rw [hLen]; rfl, row_kp (row_kp hown6 hk7 hg0) hk8 hg0⟩
  | false =>
   by_cases hk : (tokAt l T2.i).k = 2
   ·by_cases htx : (tokAt l T2.i).t = c
    ·have hunused := hk
     clear hunused
     rcases e3 : eatD l ⟨#[43]⟩ T2.inc with ⟨⟨⟩, T4⟩
     rcases e4 : valueD l T4 with ⟨⟨vk, vn, vf, vs⟩, T5⟩
     have hset : setD1 l T = (⟨c, true, ⟨vk, vn, vf, vs⟩⟩, T5) := by
      simp only [setD1, bndD, retD, e1, e2, e4, hbad, hk, and_self, if_true, ne_eq, htx, not_true_eq_false, if_false, incD, e3]
     have HN : Hid (moreD l ⟨#[44]⟩ (setD1 l) n (acc ++ [⟨c, true, ⟨vk, vn, vf, vs⟩⟩]) T5 = (ss, SL)) := by
      have h := HL.out
      unfold bndD at h
      rw [hset] at h
      exact h
     clear HL hset e0
     rcases Bool.eq_false_or_eq_true (isD l ⟨#[44]⟩ T5) with hb | hb
     ·obtain ⟨m, hm⟩ : ∃ m, n = m + 1 ∨ n = 0 := ⟨n - 1, by omega⟩
      have e6 := eatD_yes hb
      go_wp2_with (first
       | (go_at_call 18; refine (deat_any hE ⟨#[61]⟩ _ (hP1.alloc (.cells #[.string c, .bool false, .int .i64 0, .int .i64 0, .int .u64 0, .string ⟨#[]⟩] 65))).mono ?_; intro e w2 hT2; obtain ⟨_, rfl, hk2, hj2, hP2, rfl⟩ := dtells hT2 e2; have kk2 := (kp_alloc kk1 (.cells #[.string c, .bool false, .int .i64 0, .int .i64 0, .int .u64 0, .string ⟨#[]⟩] 65)).trans hk2; have hs2 := kk2.size; have b2 : Bx w2 w1.heap.size 65 #[.string c, .bool false, iZ, iZ, .int .u64 0, sZ] := Bx.kp (Bx.newB rfl) hk2 (by omega); have lb2 := b2.lt; have or2 := row_kp (or1.alloc (.cells #[.string c, .bool false, .int .i64 0, .int .i64 0, .int .u64 0, .string ⟨#[]⟩] 65)) hk2 hg0; have ng2 : ¬ g = w1.heap.size := (by omega); have gn2 := Ne.symm ng2; have hd2 := dat_at hP2; have hlt2 := hP2.lt; have q0 := hd2.2.2.1; have q1 := hd2.2.2.2.1; have hti : (T2.i : Int) < (l.length : Int) := (by omega); have q2 : w2.cell? ⟨g, 2, none⟩ = some (.bool false) := (by rw [← hbad]; exact hd2.2.2.2.2.1); have s0 := b2.s0; have d0 : w2.cell? ⟨gt, T2.i * 7, none⟩ = some (.int .i64 2) := (by rw [← hk]; exact hd2.2.2.2.2.2.1); have d1 : w2.cell? ⟨gt, T2.i * 7 + 1, none⟩ = some (.string c) := (by rw [← htx]; exact hd2.2.2.2.2.2.2); have z1 := hP2.box.open 1; have hii : (T2.i : Int) + 1 ≤ 1000 := (by have := hP2.sm; omega))
       | (go_at_call 19; refine (dname_any hE _ HP.out).mono ?_; intro e w1 hT1; obtain ⟨_, rfl, hk1, hj1, hP1, rfl⟩ := dtells hT1 e1; have kk1 := HK.out.trans hk1; have hs1 := kk1.size; have or1 := row_kp hown hk1 hg0; have hnb : ∀ k, (Value.slice acc_o acc.length acc_c).ownBlock = some k → k ≠ w1.heap.size := (fun k hk => by have := (or1.lt k hk).2; omega)))
      go_region
      go_wp2_with fail
      go_region
      go_wp2_with (first
       | (go_at_call 18; refine (deat_any hE ⟨#[44]⟩ _ hP7).mono ?_; intro e w8 hT8; obtain ⟨_, rfl, hk8, hj8, hP8, rfl⟩ := dtells hT8 e6)
       | (go_at_call 16; refine (dis_at hb _ hP6).mono ?_; rintro e w7 ⟨rfl, hk7, hP7⟩; have kk7 := kk6.trans hk7)
       | (at_builtin; have hz := kk5; clear hz; refine appQ_set _ rfl _ _ rfl w.heap.size _ acc rfl ((row_setN (row_setN (row_setN (row_setN or5 hnb 2 (.int .i64 vk)) hnb 3 (.int .i64 vn)) hnb 4 (.int .u64 (vf : Int))) hnb 5 (.string vs)).alloc (.cells #[.string c, .bool true, .int .i64 vk, .int .i64 vn, .int .u64 (vf : Int), .string vs] 65)) _ _ ⟨c, true, ⟨vk, vn, vf, vs⟩⟩ rfl (Bx.newB (by simp)) (by omega) (by simp; omega) ?_; intro v6 w6 hown6 hbel6; obtain ⟨nac_o, nac_c, rfl⟩ := own_formQ hown6; have kk6 := kp_belowB (kp_alloc (kp_set (kp_set (kp_set (kp_set kk5 (by omega) 2 (.int .i64 vk)) (by omega) 3 (.int .i64 vn)) (by omega) 4 (.int .u64 (vf : Int))) (by omega) 5 (.string vs)) (.cells #[.string c, .bool true, .int .i64 vk, .int .i64 vn, .int .u64 (vf : Int), .string vs] 65)) hbel6 (Nat.le_refl _); have hP6 : DAt g (.slice (some ⟨gt, 0, none⟩) l.length cap) l T5 w6 := hP.of_kp kk6 ((hbel6.block g hg0).trans (((((hP5.set b5 (by decide) (by omega) 2 (.int .i64 vk)).set (b5.set 2 (.int .i64 vk)) (by decide) (by omega) 3 (.int .i64 vn)).set ((b5.set 2 (.int .i64 vk)).set 3 (.int .i64 vn)) (by decide) (by omega) 4 (.int .u64 (vf : Int))).set (((b5.set 2 (.int .i64 vk)).set 3 (.int .i64 vn)).set 4 (.int .u64 (vf : Int))) (by decide) (by omega) 5 (.string vs)).alloc (.cells #[.string c, .bool true, .int .i64 vk, .int .i64 vn, .int .u64 (vf : Int), .string vs] 65)).box) hP5.lt; have hs6 := kk6.size)
       | (go_at_call 41; refine (dvalue_any hE _ (hP4.set b4 (by decide) (by omega) 1 (.bool true))).mono ?_; intro e w5 hT5; obtain ⟨u5, rfl, hk5, hj5, hP5, hV5⟩ := dtells hT5 e4; obtain rfl : u5 = .agg #[.int .i64 vk, .int .i64 vn, .int .u64 (vf : Int), .string vs] := hV5; have kk5 := (kp_set kk4 (by omega) 1 (.bool true)).trans hk5; have hs5 := kk5.size; have b5 : Bx w5 w1.heap.size 65 #[.string c, .bool true, iZ, iZ, .int .u64 0, sZ] := Bx.kp (b4.set 1 (.bool true)) hk5 (by omega); have lb5 := b5.lt; have or5 := row_kp (row_setN or4 hnb 1 (.bool true)) hk5 hg0; have c50 := b5.s0; have f50 := b5.open 0; have c51 := b5.s1; have f51 := b5.open 1; have c52 := b5.s2; have f52 := b5.open 2; have c53 := b5.s3; have f53 := b5.open 3; have c54 := b5.s4; have f54 := b5.open 4; have c55 := b5.s5; have f55 := b5.open 5)
       | (go_at_call 18; refine (deat_any hE ⟨#[43]⟩ _ (hP2.drew.drew.inc (by have h := (hE T2.i _ hP2.tok).1; rcases h with h | h; exact h; exact absurd h.1 (by rw [hk]; decide)))).mono ?_; intro e w4 hT4; obtain ⟨_, rfl, hk4, hj4, hP4, rfl⟩ := dtells hT4 e3; have kk4 := (kp_setG (kp_drew (kp_drew kk2)) 1 (.int .i64 ((T2.i : Int) + 1))).trans hk4; have hs4 := kk4.size; have b4 : Bx w4 w1.heap.size 65 #[.string c, .bool false, iZ, iZ, .int .u64 0, sZ] := Bx.kp (b2.drew.drew.other (by omega) 1 (.int .i64 ((T2.i : Int) + 1))) hk4 (by omega); have lb4 := b4.lt; have or4 := row_kp (row_set or2.drew.drew hP2.drew.drew.box (by decide) 1 (.int .i64 ((T2.i : Int) + 1))) hk4 hg0; have c41 := b4.s1; have f41 := b4.open 1))
      have hTT : T.i ≤ T5.i := Nat.le_trans hj1 (Nat.le_trans hj2 (Nat.le_trans (Nat.le_succ _) (Nat.le_trans hj4 hj5)))
      have hj9 := isD_lt (fun i x h => (hE i x h).1) hP6.lt hb
      have hnm : n = m + 1 := by
       rcases hm with h | h
       ·exact h
       ·exfalso
        have := Hn.out
        omega
      have HN2 : Hid ((bndD (setD1 l) fun a => moreD l ⟨#[44]⟩ (setD1 l) m (acc ++ [⟨c, true, ⟨vk, vn, vf, vs⟩⟩] ++ [a])) T5.inc = (ss, SL)) := by
       have h := HN.out
       rw [hnm] at h
       have h2 : moreD l ⟨#[44]⟩ (setD1 l) (m + 1) (acc ++ [⟨c, true, ⟨vk, vn, vf, vs⟩⟩]) T5 = (bndD (setD1 l) fun a => moreD l ⟨#[44]⟩ (setD1 l) m (acc ++ [⟨c, true, ⟨vk, vn, vf, vs⟩⟩] ++ [a])) T5.inc := by
        show optD _ _ _ _ _ = _
        unfold optD
        rw [hb, if_pos rfl]
        show (bndD (setD1 l) fun a => moreD l ⟨#[44]⟩ (setD1 l) m (acc ++ [⟨c, true, ⟨vk, vn, vf, vs⟩⟩] ++ [a])) (eatD l ⟨#[44]⟩ T5).2 = _
        rw [e6]
       rw [← h2]
       exact h
      go_roundw
      case rel => exact ⟨acc ++ [⟨c, true, ⟨vk, vn, vf, vs⟩⟩], T5.inc, m, nac_o, nac_c, by simp, hP8, kk7.trans hk8, HN2, by unfold Hid; have := Hn.out; show _ ≤ T5.i + 1 + m; omega, by unfold Hid; have := Ha.out; show _ ≤ T5.i + 1; simp; omega, by unfold Hid; have := Hi.out; show _ ≤ T5.i + 1; omega, row_kp (row_kp hown6 hk7 hg0) hk8 hg0⟩
      case measure =>
       have c1 : wr.cell? ⟨g, 1, none⟩ = some (.int .i64 (T.i : Int)) := HP.out.box.cell 1 _ rfl
       have c2 : w8.cell? ⟨g, 1, none⟩ = some (.int .i64 ((T5.i + 1 : Nat) : Int)) := hP8.box.cell 1 _ rfl
       rw [c1, c2]
       simp [intOf]
       omega
     ·have HL2 : Hid (acc ++ [⟨c, true, ⟨vk, vn, vf, vs⟩⟩] = ss ∧ T5 = SL) := by
       have h := HN.out
       rw [moreD_stop hb] at h
       exact ⟨(Prod.mk.inj h).1, (Prod.mk.inj h).2⟩
      have hLen : (acc ++ [(⟨c, true, ⟨vk, vn, vf, vs⟩⟩ : Sett)]).length = acc.length + 1 := by simp
      have hmost : ∀ W, DAt g (.slice (some ⟨gt, 0, none⟩) l.length cap) l T5 W → Calls Tryz.prog 39 #[.pointer (some ⟨g, 0, none⟩), .int .i64 ((acc.length : Int) + 1)] W (DTells g (.slice (some ⟨gt, 0, none⟩) l.length cap) l T5 W VU (mostD (acc.length + 1) T5)) := fun W h => by
       have h2 := dmost_any (acc.length + 1) W h
       rw [show ((acc.length + 1 : Nat) : Int) = (acc.length : Int) + 1 by omega] at h2
       exact h2
      go_wp2_with (first
       | (go_at_call 18; refine (deat_any hE ⟨#[61]⟩ _ (hP1.alloc (.cells #[.string c, .bool false, .int .i64 0, .int .i64 0, .int .u64 0, .string ⟨#[]⟩] 65))).mono ?_; intro e w2 hT2; obtain ⟨_, rfl, hk2, hj2, hP2, rfl⟩ := dtells hT2 e2; have kk2 := (kp_alloc kk1 (.cells #[.string c, .bool false, .int .i64 0, .int .i64 0, .int .u64 0, .string ⟨#[]⟩] 65)).trans hk2; have hs2 := kk2.size; have b2 : Bx w2 w1.heap.size 65 #[.string c, .bool false, iZ, iZ, .int .u64 0, sZ] := Bx.kp (Bx.newB rfl) hk2 (by omega); have lb2 := b2.lt; have or2 := row_kp (or1.alloc (.cells #[.string c, .bool false, .int .i64 0, .int .i64 0, .int .u64 0, .string ⟨#[]⟩] 65)) hk2 hg0; have ng2 : ¬ g = w1.heap.size := (by omega); have gn2 := Ne.symm ng2; have hd2 := dat_at hP2; have hlt2 := hP2.lt; have q0 := hd2.2.2.1; have q1 := hd2.2.2.2.1; have hti : (T2.i : Int) < (l.length : Int) := (by omega); have q2 : w2.cell? ⟨g, 2, none⟩ = some (.bool false) := (by rw [← hbad]; exact hd2.2.2.2.2.1); have s0 := b2.s0; have d0 : w2.cell? ⟨gt, T2.i * 7, none⟩ = some (.int .i64 2) := (by rw [← hk]; exact hd2.2.2.2.2.2.1); have d1 : w2.cell? ⟨gt, T2.i * 7 + 1, none⟩ = some (.string c) := (by rw [← htx]; exact hd2.2.2.2.2.2.2); have z1 := hP2.box.open 1; have hii : (T2.i : Int) + 1 ≤ 1000 := (by have := hP2.sm; omega))
       | (go_at_call 19; refine (dname_any hE _ HP.out).mono ?_; intro e w1 hT1; obtain ⟨_, rfl, hk1, hj1, hP1, rfl⟩ := dtells hT1 e1; have kk1 := HK.out.trans hk1; have hs1 := kk1.size; have or1 := row_kp hown hk1 hg0; have hnb : ∀ k, (Value.slice acc_o acc.length acc_c).ownBlock = some k → k ≠ w1.heap.size := (fun k hk => by have := (or1.lt k hk).2; omega)))
      go_region
      go_wp2_with fail
      go_region
      go_wp2_with (first
       | (go_at_call 39; refine (hmost _ hP7).mono ?_; intro e w8 hT8; obtain ⟨u8, rfl, hk8, hj8, hP8, hV8⟩ := dtells hT8 rfl)
       | (go_at_call 16; refine (dis_at hb _ hP6).mono ?_; rintro e w7 ⟨rfl, hk7, hP7⟩; have kk7 := kk6.trans hk7)
       | (at_builtin; have hz := kk5; clear hz; refine appQ_set _ rfl _ _ rfl w.heap.size _ acc rfl ((row_setN (row_setN (row_setN (row_setN or5 hnb 2 (.int .i64 vk)) hnb 3 (.int .i64 vn)) hnb 4 (.int .u64 (vf : Int))) hnb 5 (.string vs)).alloc (.cells #[.string c, .bool true, .int .i64 vk, .int .i64 vn, .int .u64 (vf : Int), .string vs] 65)) _ _ ⟨c, true, ⟨vk, vn, vf, vs⟩⟩ rfl (Bx.newB (by simp)) (by omega) (by simp; omega) ?_; intro v6 w6 hown6 hbel6; obtain ⟨nac_o, nac_c, rfl⟩ := own_formQ hown6; have kk6 := kp_belowB (kp_alloc (kp_set (kp_set (kp_set (kp_set kk5 (by omega) 2 (.int .i64 vk)) (by omega) 3 (.int .i64 vn)) (by omega) 4 (.int .u64 (vf : Int))) (by omega) 5 (.string vs)) (.cells #[.string c, .bool true, .int .i64 vk, .int .i64 vn, .int .u64 (vf : Int), .string vs] 65)) hbel6 (Nat.le_refl _); have hP6 : DAt g (.slice (some ⟨gt, 0, none⟩) l.length cap) l T5 w6 := hP.of_kp kk6 ((hbel6.block g hg0).trans (((((hP5.set b5 (by decide) (by omega) 2 (.int .i64 vk)).set (b5.set 2 (.int .i64 vk)) (by decide) (by omega) 3 (.int .i64 vn)).set ((b5.set 2 (.int .i64 vk)).set 3 (.int .i64 vn)) (by decide) (by omega) 4 (.int .u64 (vf : Int))).set (((b5.set 2 (.int .i64 vk)).set 3 (.int .i64 vn)).set 4 (.int .u64 (vf : Int))) (by decide) (by omega) 5 (.string vs)).alloc (.cells #[.string c, .bool true, .int .i64 vk, .int .i64 vn, .int .u64 (vf : Int), .string vs] 65)).box) hP5.lt; have hs6 := kk6.size)
       | (go_at_call 41; refine (dvalue_any hE _ (hP4.set b4 (by decide) (by omega) 1 (.bool true))).mono ?_; intro e w5 hT5; obtain ⟨u5, rfl, hk5, hj5, hP5, hV5⟩ := dtells hT5 e4; obtain rfl : u5 = .agg #[.int .i64 vk, .int .i64 vn, .int .u64 (vf : Int), .string vs] := hV5; have kk5 := (kp_set kk4 (by omega) 1 (.bool true)).trans hk5; have hs5 := kk5.size; have b5 : Bx w5 w1.heap.size 65 #[.string c, .bool true, iZ, iZ, .int .u64 0, sZ] := Bx.kp (b4.set 1 (.bool true)) hk5 (by omega); have lb5 := b5.lt; have or5 := row_kp (row_setN or4 hnb 1 (.bool true)) hk5 hg0; have c50 := b5.s0; have f50 := b5.open 0; have c51 := b5.s1; have f51 := b5.open 1; have c52 := b5.s2; have f52 := b5.open 2; have c53 := b5.s3; have f53 := b5.open 3; have c54 := b5.s4; have f54 := b5.open 4; have c55 := b5.s5; have f55 := b5.open 5)
       | (go_at_call 18; refine (deat_any hE ⟨#[43]⟩ _ (hP2.drew.drew.inc (by have h := (hE T2.i _ hP2.tok).1; rcases h with h | h; exact h; exact absurd h.1 (by rw [hk]; decide)))).mono ?_; intro e w4 hT4; obtain ⟨_, rfl, hk4, hj4, hP4, rfl⟩ := dtells hT4 e3; have kk4 := (kp_setG (kp_drew (kp_drew kk2)) 1 (.int .i64 ((T2.i : Int) + 1))).trans hk4; have hs4 := kk4.size; have b4 : Bx w4 w1.heap.size 65 #[.string c, .bool false, iZ, iZ, .int .u64 0, sZ] := Bx.kp (b2.drew.drew.other (by omega) 1 (.int .i64 ((T2.i : Int) + 1))) hk4 (by omega); have lb4 := b4.lt; have or4 := row_kp (row_set or2.drew.drew hP2.drew.drew.box (by decide) 1 (.int .i64 ((T2.i : Int) + 1))) hk4 hg0; have c41 := b4.s1; have f41 := b4.open 1))
      have hTT : T.i ≤ T5.i := Nat.le_trans hj1 (Nat.le_trans hj2 (Nat.le_trans (Nat.le_succ _) (Nat.le_trans hj4 hj5)))
      obtain ⟨h1, h2⟩ := HL2.out
      go_ret
      rw [HO.out, ← h1, ← h2, hLen]
      exact ⟨kk7.trans hk8, Nat.le_trans Hi.out (Nat.le_trans hTT hj8), hP8, _, rfl, nac_o, nac_c, by rw [hLen]; rfl, row_kp (row_kp hown6 hk7 hg0) hk8 hg0⟩
    ·have hunused := hk
     clear hunused
     rcases e3 : eatD l ⟨#[43]⟩ (T2.fail l) with ⟨⟨⟩, T4⟩
     rcases e4 : valueD l T4 with ⟨⟨vk, vn, vf, vs⟩, T5⟩
     have hset : setD1 l T = (⟨c, true, ⟨vk, vn, vf, vs⟩⟩, T5) := by
      simp only [setD1, bndD, retD, e1, e2, e4, hbad, hk, and_self, if_true, ne_eq, htx, not_false_eq_true, failD, e3]
     have HN : Hid (moreD l ⟨#[44]⟩ (setD1 l) n (acc ++ [⟨c, true, ⟨vk, vn, vf, vs⟩⟩]) T5 = (ss, SL)) := by
      have h := HL.out
      unfold bndD at h
      rw [hset] at h
      exact h
     clear HL hset e0
     rcases Bool.eq_false_or_eq_true (isD l ⟨#[44]⟩ T5) with hb | hb
     ·obtain ⟨m, hm⟩ : ∃ m, n = m + 1 ∨ n = 0 := ⟨n - 1, by omega⟩
      have e6 := eatD_yes hb
      go_wp2_with (first
       | (go_at_call 18; refine (deat_any hE ⟨#[61]⟩ _ (hP1.alloc (.cells #[.string c, .bool false, .int .i64 0, .int .i64 0, .int .u64 0, .string ⟨#[]⟩] 65))).mono ?_; intro e w2 hT2; obtain ⟨_, rfl, hk2, hj2, hP2, rfl⟩ := dtells hT2 e2; have kk2 := (kp_alloc kk1 (.cells #[.string c, .bool false, .int .i64 0, .int .i64 0, .int .u64 0, .string ⟨#[]⟩] 65)).trans hk2; have hs2 := kk2.size; have b2 : Bx w2 w1.heap.size 65 #[.string c, .bool false, iZ, iZ, .int .u64 0, sZ] := Bx.kp (Bx.newB rfl) hk2 (by omega); have lb2 := b2.lt; have or2 := row_kp (or1.alloc (.cells #[.string c, .bool false, .int .i64 0, .int .i64 0, .int .u64 0, .string ⟨#[]⟩] 65)) hk2 hg0; have ng2 : ¬ g = w1.heap.size := (by omega); have gn2 := Ne.symm ng2; have hd2 := dat_at hP2; have hlt2 := hP2.lt; have q0 := hd2.2.2.1; have q1 := hd2.2.2.2.1; have hti : (T2.i : Int) < (l.length : Int) := (by omega); have q2 : w2.cell? ⟨g, 2, none⟩ = some (.bool false) := (by rw [← hbad]; exact hd2.2.2.2.2.1); have s0 := b2.s0; have d0 : w2.cell? ⟨gt, T2.i * 7, none⟩ = some (.int .i64 2) := (by rw [← hk]; exact hd2.2.2.2.2.2.1); have d1 := hd2.2.2.2.2.2.2; have hts := txt_ne htx)
       | (go_at_call 19; refine (dname_any hE _ HP.out).mono ?_; intro e w1 hT1; obtain ⟨_, rfl, hk1, hj1, hP1, rfl⟩ := dtells hT1 e1; have kk1 := HK.out.trans hk1; have hs1 := kk1.size; have or1 := row_kp hown hk1 hg0; have hnb : ∀ k, (Value.slice acc_o acc.length acc_c).ownBlock = some k → k ≠ w1.heap.size := (fun k hk => by have := (or1.lt k hk).2; omega)))
      go_region
      go_wp2_with fail
      go_region
      go_wp2_with (first
       | (go_at_call 18; refine (deat_any hE ⟨#[44]⟩ _ hP7).mono ?_; intro e w8 hT8; obtain ⟨_, rfl, hk8, hj8, hP8, rfl⟩ := dtells hT8 e6)
       | (go_at_call 16; refine (dis_at hb _ hP6).mono ?_; rintro e w7 ⟨rfl, hk7, hP7⟩; have kk7 := kk6.trans hk7)
       | (at_builtin; have hz := kk5; clear hz; refine appQ_set _ rfl _ _ rfl w.heap.size _ acc rfl ((row_setN (row_setN (row_setN (row_setN or5 hnb 2 (.int .i64 vk)) hnb 3 (.int .i64 vn)) hnb 4 (.int .u64 (vf : Int))) hnb 5 (.string vs)).alloc (.cells #[.string c, .bool true, .int .i64 vk, .int .i64 vn, .int .u64 (vf : Int), .string vs] 65)) _ _ ⟨c, true, ⟨vk, vn, vf, vs⟩⟩ rfl (Bx.newB (by simp)) (by omega) (by simp; omega) ?_; intro v6 w6 hown6 hbel6; obtain ⟨nac_o, nac_c, rfl⟩ := own_formQ hown6; have kk6 := kp_belowB (kp_alloc (kp_set (kp_set (kp_set (kp_set kk5 (by omega) 2 (.int .i64 vk)) (by omega) 3 (.int .i64 vn)) (by omega) 4 (.int .u64 (vf : Int))) (by omega) 5 (.string vs)) (.cells #[.string c, .bool true, .int .i64 vk, .int .i64 vn, .int .u64 (vf : Int), .string vs] 65)) hbel6 (Nat.le_refl _); have hP6 : DAt g (.slice (some ⟨gt, 0, none⟩) l.length cap) l T5 w6 := hP.of_kp kk6 ((hbel6.block g hg0).trans (((((hP5.set b5 (by decide) (by omega) 2 (.int .i64 vk)).set (b5.set 2 (.int .i64 vk)) (by decide) (by omega) 3 (.int .i64 vn)).set ((b5.set 2 (.int .i64 vk)).set 3 (.int .i64 vn)) (by decide) (by omega) 4 (.int .u64 (vf : Int))).set (((b5.set 2 (.int .i64 vk)).set 3 (.int .i64 vn)).set 4 (.int .u64 (vf : Int))) (by decide) (by omega) 5 (.string vs)).alloc (.cells #[.string c, .bool true, .int .i64 vk, .int .i64 vn, .int .u64 (vf : Int), .string vs] 65)).box) hP5.lt; have hs6 := kk6.size)
       | (go_at_call 41; refine (dvalue_any hE _ (hP4.set b4 (by decide) (by omega) 1 (.bool true))).mono ?_; intro e w5 hT5; obtain ⟨u5, rfl, hk5, hj5, hP5, hV5⟩ := dtells hT5 e4; obtain rfl : u5 = .agg #[.int .i64 vk, .int .i64 vn, .int .u64 (vf : Int), .string vs] := hV5; have kk5 := (kp_set kk4 (by omega) 1 (.bool true)).trans hk5; have hs5 := kk5.size; have b5 : Bx w5 w1.heap.size 65 #[.string c, .bool true, iZ, iZ, .int .u64 0, sZ] := Bx.kp (b4.set 1 (.bool true)) hk5 (by omega); have lb5 := b5.lt; have or5 := row_kp (row_setN or4 hnb 1 (.bool true)) hk5 hg0; have c50 := b5.s0; have f50 := b5.open 0; have c51 := b5.s1; have f51 := b5.open 1; have c52 := b5.s2; have f52 := b5.open 2; have c53 := b5.s3; have f53 := b5.open 3; have c54 := b5.s4; have f54 := b5.open 4; have c55 := b5.s5; have f55 := b5.open 5)
       | (go_at_call 18; refine (deat_any hE ⟨#[43]⟩ _ hP3).mono ?_; intro e w4 hT4; obtain ⟨_, rfl, hk4, hj4, hP4, rfl⟩ := dtells hT4 e3; have kk4 := kk3.trans hk4; have hs4 := kk4.size; have b4 := Bx.kp b3 hk4 (by omega); have lb4 := b4.lt; have or4 := row_kp or3 hk4 hg0; have c41 := b4.s1; have f41 := b4.open 1)
       | (go_at_call 22; refine (dfail_any _ hP2.drew.drew).mono ?_; intro e w3 hT3; obtain ⟨u3, rfl, hk3, hj3, hP3, hV3⟩ := dtells hT3 rfl; have kk3 := (kp_drew (kp_drew kk2)).trans hk3; have hs3 := kk3.size; have b3 := Bx.kp b2.drew.drew hk3 (by omega); have lb3 := b3.lt; have or3 := row_kp or2.drew.drew hk3 hg0))
      have hTT : T.i ≤ T5.i := Nat.le_trans hj1 (Nat.le_trans hj2 (Nat.le_trans hj3 (Nat.le_trans hj4 hj5)))
      have hj9 := isD_lt (fun i x h => (hE i x h).1) hP6.lt hb
      have hnm : n = m + 1 := by
       rcases hm with h | h
       ·exact h
       ·exfalso
        have := Hn.out
        omega
      have HN2 : Hid ((bndD (setD1 l) fun a => moreD l ⟨#[44]⟩ (setD1 l) m (acc ++ [⟨c, true, ⟨vk, vn, vf, vs⟩⟩] ++ [a])) T5.inc = (ss, SL)) := by
       have h := HN.out
       rw [hnm] at h
       have h2 : moreD l ⟨#[44]⟩ (setD1 l) (m + 1) (acc ++ [⟨c, true, ⟨vk, vn, vf, vs⟩⟩]) T5 = (bndD (setD1 l) fun a => moreD l ⟨#[44]⟩ (setD1 l) m (acc ++ [⟨c, true, ⟨vk, vn, vf, vs⟩⟩] ++ [a])) T5.inc := by
        show optD _ _ _ _ _ = _
        unfold optD
        rw [hb, if_pos rfl]
        show (bndD (setD1 l) fun a => moreD l ⟨#[44]⟩ (setD1 l) m (acc ++ [⟨c, true, ⟨vk, vn, vf, vs⟩⟩] ++ [a])) (eatD l ⟨#[44]⟩ T5).2 = _
        rw [e6]
       rw [← h2]
       exact h
      go_roundw
      case rel => exact ⟨acc ++ [⟨c, true, ⟨vk, vn, vf, vs⟩⟩], T5.inc, m, nac_o, nac_c, by simp, hP8, kk7.trans hk8, HN2, by unfold Hid; have := Hn.out; show _ ≤ T5.i + 1 + m; omega, by unfold Hid; have := Ha.out; show _ ≤ T5.i + 1; simp; omega, by unfold Hid; have := Hi.out; show _ ≤ T5.i + 1; omega, row_kp (row_kp hown6 hk7 hg0) hk8 hg0⟩
      case measure =>
       have c1 : wr.cell? ⟨g, 1, none⟩ = some (.int .i64 (T.i : Int)) := HP.out.box.cell 1 _ rfl
       have c2 : w8.cell? ⟨g, 1, none⟩ = some (.int .i64 ((T5.i + 1 : Nat) : Int)) := hP8.box.cell 1 _ rfl
       rw [c1, c2]
       simp [intOf]
       omega
     ·have HL2 : Hid (acc ++ [⟨c, true, ⟨vk, vn, vf, vs⟩⟩] = ss ∧ T5 = SL) := by
       have h := HN.out
       rw [moreD_stop hb] at h
       exact ⟨(Prod.mk.inj h).1, (Prod.mk.inj h).2⟩
      have hLen : (acc ++ [(⟨c, true, ⟨vk, vn, vf, vs⟩⟩ : Sett)]).length = acc.length + 1 := by simp
      have hmost : ∀ W, DAt g (.slice (some ⟨gt, 0, none⟩) l.length cap) l T5 W → Calls Tryz.prog 39 #[.pointer (some ⟨g, 0, none⟩), .int .i64 ((acc.length : Int) + 1)] W (DTells g (.slice (some ⟨gt, 0, none⟩) l.length cap) l T5 W VU (mostD (acc.length + 1) T5)) := fun W h => by
       have h2 := dmost_any (acc.length + 1) W h
       rw [show ((acc.length + 1 : Nat) : Int) = (acc.length : Int) + 1 by omega] at h2
       exact h2
      go_wp2_with (first
       | (go_at_call 18; refine (deat_any hE ⟨#[61]⟩ _ (hP1.alloc (.cells #[.string c, .bool false, .int .i64 0, .int .i64 0, .int .u64 0, .string ⟨#[]⟩] 65))).mono ?_; intro e w2 hT2; obtain ⟨_, rfl, hk2, hj2, hP2, rfl⟩ := dtells hT2 e2; have kk2 := (kp_alloc kk1 (.cells #[.string c, .bool false, .int .i64 0, .int .i64 0, .int .u64 0, .string ⟨#[]⟩] 65)).trans hk2; have hs2 := kk2.size; have b2 : Bx w2 w1.heap.size 65 #[.string c, .bool false, iZ, iZ, .int .u64 0, sZ] := Bx.kp (Bx.newB rfl) hk2 (by omega); have lb2 := b2.lt; have or2 := row_kp (or1.alloc (.cells #[.string c, .bool false, .int .i64 0, .int .i64 0, .int .u64 0, .string ⟨#[]⟩] 65)) hk2 hg0; have ng2 : ¬ g = w1.heap.size := (by omega); have gn2 := Ne.symm ng2; have hd2 := dat_at hP2; have hlt2 := hP2.lt; have q0 := hd2.2.2.1; have q1 := hd2.2.2.2.1; have hti : (T2.i : Int) < (l.length : Int) := (by omega); have q2 : w2.cell? ⟨g, 2, none⟩ = some (.bool false) := (by rw [← hbad]; exact hd2.2.2.2.2.1); have s0 := b2.s0; have d0 : w2.cell? ⟨gt, T2.i * 7, none⟩ = some (.int .i64 2) := (by rw [← hk]; exact hd2.2.2.2.2.2.1); have d1 := hd2.2.2.2.2.2.2; have hts := txt_ne htx)
       | (go_at_call 19; refine (dname_any hE _ HP.out).mono ?_; intro e w1 hT1; obtain ⟨_, rfl, hk1, hj1, hP1, rfl⟩ := dtells hT1 e1; have kk1 := HK.out.trans hk1; have hs1 := kk1.size; have or1 := row_kp hown hk1 hg0; have hnb : ∀ k, (Value.slice acc_o acc.length acc_c).ownBlock = some k → k ≠ w1.heap.size := (fun k hk => by have := (or1.lt k hk).2; omega)))
      go_region
      go_wp2_with fail
      go_region
      go_wp2_with (first
       | (go_at_call 39; refine (hmost _ hP7).mono ?_; intro e w8 hT8; obtain ⟨u8, rfl, hk8, hj8, hP8, hV8⟩ := dtells hT8 rfl)
       | (go_at_call 16; refine (dis_at hb _ hP6).mono ?_; rintro e w7 ⟨rfl, hk7, hP7⟩; have kk7 := kk6.trans hk7)
       | (at_builtin; have hz := kk5; clear hz; refine appQ_set _ rfl _ _ rfl w.heap.size _ acc rfl ((row_setN (row_setN (row_setN (row_setN or5 hnb 2 (.int .i64 vk)) hnb 3 (.int .i64 vn)) hnb 4 (.int .u64 (vf : Int))) hnb 5 (.string vs)).alloc (.cells #[.string c, .bool true, .int .i64 vk, .int .i64 vn, .int .u64 (vf : Int), .string vs] 65)) _ _ ⟨c, true, ⟨vk, vn, vf, vs⟩⟩ rfl (Bx.newB (by simp)) (by omega) (by simp; omega) ?_; intro v6 w6 hown6 hbel6; obtain ⟨nac_o, nac_c, rfl⟩ := own_formQ hown6; have kk6 := kp_belowB (kp_alloc (kp_set (kp_set (kp_set (kp_set kk5 (by omega) 2 (.int .i64 vk)) (by omega) 3 (.int .i64 vn)) (by omega) 4 (.int .u64 (vf : Int))) (by omega) 5 (.string vs)) (.cells #[.string c, .bool true, .int .i64 vk, .int .i64 vn, .int .u64 (vf : Int), .string vs] 65)) hbel6 (Nat.le_refl _); have hP6 : DAt g (.slice (some ⟨gt, 0, none⟩) l.length cap) l T5 w6 := hP.of_kp kk6 ((hbel6.block g hg0).trans (((((hP5.set b5 (by decide) (by omega) 2 (.int .i64 vk)).set (b5.set 2 (.int .i64 vk)) (by decide) (by omega) 3 (.int .i64 vn)).set ((b5.set 2 (.int .i64 vk)).set 3 (.int .i64 vn)) (by decide) (by omega) 4 (.int .u64 (vf : Int))).set (((b5.set 2 (.int .i64 vk)).set 3 (.int .i64 vn)).set 4 (.int .u64 (vf : Int))) (by decide) (by omega) 5 (.string vs)).alloc (.cells #[.string c, .bool true, .int .i64 vk, .int .i64 vn, .int .u64 (vf : Int), .string vs] 65)).box) hP5.lt; have hs6 := kk6.size)
       | (go_at_call 41; refine (dvalue_any hE _ (hP4.set b4 (by decide) (by omega) 1 (.bool true))).mono ?_; intro e w5 hT5; obtain ⟨u5, rfl, hk5, hj5, hP5, hV5⟩ := dtells hT5 e4; obtain rfl : u5 = .agg #[.int .i64 vk, .int .i64 vn, .int .u64 (vf : Int), .string vs] := hV5; have kk5 := (kp_set kk4 (by omega) 1 (.bool true)).trans hk5; have hs5 := kk5.size; have b5 : Bx w5 w1.heap.size 65 #[.string c, .bool true, iZ, iZ, .int .u64 0, sZ] := Bx.kp (b4.set 1 (.bool true)) hk5 (by omega); have lb5 := b5.lt; have or5 := row_kp (row_setN or4 hnb 1 (.bool true)) hk5 hg0; have c50 := b5.s0; have f50 := b5.open 0; have c51 := b5.s1; have f51 := b5.open 1; have c52 := b5.s2; have f52 := b5.open 2; have c53 := b5.s3; have f53 := b5.open 3; have c54 := b5.s4; have f54 := b5.open 4; have c55 := b5.s5; have f55 := b5.open 5)
       | (go_at_call 18; refine (deat_any hE ⟨#[43]⟩ _ hP3).mono ?_; intro e w4 hT4; obtain ⟨_, rfl, hk4, hj4, hP4, rfl⟩ := dtells hT4 e3; have kk4 := kk3.trans hk4; have hs4 := kk4.size; have b4 := Bx.kp b3 hk4 (by omega); have lb4 := b4.lt; have or4 := row_kp or3 hk4 hg0; have c41 := b4.s1; have f41 := b4.open 1)
       | (go_at_call 22; refine (dfail_any _ hP2.drew.drew).mono ?_; intro e w3 hT3; obtain ⟨u3, rfl, hk3, hj3, hP3, hV3⟩ := dtells hT3 rfl; have kk3 := (kp_drew (kp_drew kk2)).trans hk3; have hs3 := kk3.size; have b3 := Bx.kp b2.drew.drew hk3 (by omega); have lb3 := b3.lt; have or3 := row_kp or2.drew.drew hk3 hg0))
      have hTT : T.i ≤ T5.i := Nat.le_trans hj1 (Nat.le_trans hj2 (Nat.le_trans hj3 (Nat.le_trans hj4 hj5)))
      obtain ⟨h1, h2⟩ := HL2.out
      go_ret
      rw [HO.out, ← h1, ← h2, hLen]
      exact ⟨kk7.trans hk8, Nat.le_trans Hi.out (Nat.le_trans hTT hj8), hP8, _, rfl, nac_o, nac_c, by rw [hLen]; rfl, row_kp (row_kp hown6 hk7 hg0) hk8 hg0⟩
   ·have hunused := hk
    clear hunused
    rcases e4 : valueD l T2 with ⟨⟨vk, vn, vf, vs⟩, T5⟩
    have hset : setD1 l T = (⟨c, false, ⟨vk, vn, vf, vs⟩⟩, T5) := by
     simp only [setD1, bndD, retD, e1, e2, e4, hk, and_false, if_false]
    have HN : Hid (moreD l ⟨#[44]⟩ (setD1 l) n (acc ++ [⟨c, false, ⟨vk, vn, vf, vs⟩⟩]) T5 = (ss, SL)) := by
     have h := HL.out
     unfold bndD at h
     rw [hset] at h
     exact h
    clear HL hset e0
    rcases Bool.eq_false_or_eq_true (isD l ⟨#[44]⟩ T5) with hb | hb
    ·obtain ⟨m, hm⟩ : ∃ m, n = m + 1 ∨ n = 0 := ⟨n - 1, by omega⟩
     have e6 := eatD_yes hb
     go_wp2_with (first
      | (go_at_call 18; refine (deat_any hE ⟨#[61]⟩ _ (hP1.alloc (.cells #[.string c, .bool false, .int .i64 0, .int .i64 0, .int .u64 0, .string ⟨#[]⟩] 65))).mono ?_; intro e w2 hT2; obtain ⟨_, rfl, hk2, hj2, hP2, rfl⟩ := dtells hT2 e2; have kk2 := (kp_alloc kk1 (.cells #[.string c, .bool false, .int .i64 0, .int .i64 0, .int .u64 0, .string ⟨#[]⟩] 65)).trans hk2; have hs2 := kk2.size; have b2 : Bx w2 w1.heap.size 65 #[.string c, .bool false, iZ, iZ, .int .u64 0, sZ] := Bx.kp (Bx.newB rfl) hk2 (by omega); have lb2 := b2.lt; have or2 := row_kp (or1.alloc (.cells #[.string c, .bool false, .int .i64 0, .int .i64 0, .int .u64 0, .string ⟨#[]⟩] 65)) hk2 hg0; have ng2 : ¬ g = w1.heap.size := (by omega); have gn2 := Ne.symm ng2; have hd2 := dat_at hP2; have hlt2 := hP2.lt; have q0 := hd2.2.2.1; have q1 := hd2.2.2.2.1; have hti : (T2.i : Int) < (l.length : Int) := (by omega); have q2 : w2.cell? ⟨g, 2, none⟩ = some (.bool false) := (by rw [← hbad]; exact hd2.2.2.2.2.1); have d0 := hd2.2.2.2.2.2.1; have e9 : ((tokAt l T2.i).k == 2) = false := beq_eq_false_iff_ne.2 hk)
      | (go_at_call 19; refine (dname_any hE _ HP.out).mono ?_; intro e w1 hT1; obtain ⟨_, rfl, hk1, hj1, hP1, rfl⟩ := dtells hT1 e1; have kk1 := HK.out.trans hk1; have hs1 := kk1.size; have or1 := row_kp hown hk1 hg0; have hnb : ∀ k, (Value.slice acc_o acc.length acc_c).ownBlock = some k → k ≠ w1.heap.size := (fun k hk => by have := (or1.lt k hk).2; omega)))
     go_region
     go_wp2_with (first
      | (go_at_call 18; refine (deat_any hE ⟨#[44]⟩ _ hP7).mono ?_; intro e w8 hT8; obtain ⟨_, rfl, hk8, hj8, hP8, rfl⟩ := dtells hT8 e6)
      | (go_at_call 16; refine (dis_at hb _ hP6).mono ?_; rintro e w7 ⟨rfl, hk7, hP7⟩; have kk7 := kk6.trans hk7)
      | (at_builtin; have hz := kk5; clear hz; refine appQ_set _ rfl _ _ rfl w.heap.size _ acc rfl ((row_setN (row_setN (row_setN (row_setN or5 hnb 2 (.int .i64 vk)) hnb 3 (.int .i64 vn)) hnb 4 (.int .u64 (vf : Int))) hnb 5 (.string vs)).alloc (.cells #[.string c, .bool false, .int .i64 vk, .int .i64 vn, .int .u64 (vf : Int), .string vs] 65)) _ _ ⟨c, false, ⟨vk, vn, vf, vs⟩⟩ rfl (Bx.newB (by simp)) (by omega) (by simp; omega) ?_; intro v6 w6 hown6 hbel6; obtain ⟨nac_o, nac_c, rfl⟩ := own_formQ hown6; have kk6 := kp_belowB (kp_alloc (kp_set (kp_set (kp_set (kp_set kk5 (by omega) 2 (.int .i64 vk)) (by omega) 3 (.int .i64 vn)) (by omega) 4 (.int .u64 (vf : Int))) (by omega) 5 (.string vs)) (.cells #[.string c, .bool false, .int .i64 vk, .int .i64 vn, .int .u64 (vf : Int), .string vs] 65)) hbel6 (Nat.le_refl _); have hP6 : DAt g (.slice (some ⟨gt, 0, none⟩) l.length cap) l T5 w6 := hP.of_kp kk6 ((hbel6.block g hg0).trans (((((hP5.set b5 (by decide) (by omega) 2 (.int .i64 vk)).set (b5.set 2 (.int .i64 vk)) (by decide) (by omega) 3 (.int .i64 vn)).set ((b5.set 2 (.int .i64 vk)).set 3 (.int .i64 vn)) (by decide) (by omega) 4 (.int .u64 (vf : Int))).set (((b5.set 2 (.int .i64 vk)).set 3 (.int .i64 vn)).set 4 (.int .u64 (vf : Int))) (by decide) (by omega) 5 (.string vs)).alloc (.cells #[.string c, .bool false, .int .i64 vk, .int .i64 vn, .int .u64 (vf : Int), .string vs] 65)).box) hP5.lt; have hs6 := kk6.size)
      | (go_at_call 41; refine (dvalue_any hE _ hP2.drew).mono ?_; intro e w5 hT5; obtain ⟨u5, rfl, hk5, hj5, hP5, hV5⟩ := dtells hT5 e4; obtain rfl : u5 = .agg #[.int .i64 vk, .int .i64 vn, .int .u64 (vf : Int), .string vs] := hV5; have kk5 := (kp_drew kk2).trans hk5; have hs5 := kk5.size; have b5 : Bx w5 w1.heap.size 65 #[.string c, .bool false, iZ, iZ, .int .u64 0, sZ] := Bx.kp b2.drew hk5 (by omega); have lb5 := b5.lt; have or5 := row_kp or2.drew hk5 hg0; have c50 := b5.s0; have f50 := b5.open 0; have c51 := b5.s1; have f51 := b5.open 1; have c52 := b5.s2; have f52 := b5.open 2; have c53 := b5.s3; have f53 := b5.open 3; have c54 := b5.s4; have f54 := b5.open 4; have c55 := b5.s5; have f55 := b5.open 5))
     have hTT : T.i ≤ T5.i := Nat.le_trans hj1 (Nat.le_trans hj2 hj5)
     have hj9 := isD_lt (fun i x h => (hE i x h).1) hP6.lt hb
     have hnm : n = m + 1 := by
      rcases hm with h | h
      ·exact h
      ·exfalso
       have := Hn.out
       omega
     have HN2 : Hid ((bndD (setD1 l) fun a => moreD l ⟨#[44]⟩ (setD1 l) m (acc ++ [⟨c, false, ⟨vk, vn, vf, vs⟩⟩] ++ [a])) T5.inc = (ss, SL)) := by
      have h := HN.out
      rw [hnm] at h
      have h2 : moreD l ⟨#[44]⟩ (setD1 l) (m + 1) (acc ++ [⟨c, false, ⟨vk, vn, vf, vs⟩⟩]) T5 = (bndD (setD1 l) fun a => moreD l ⟨#[44]⟩ (setD1 l) m (acc ++ [⟨c, false, ⟨vk, vn, vf, vs⟩⟩] ++ [a])) T5.inc := by
       show optD _ _ _ _ _ = _
       unfold optD
       rw [hb, if_pos rfl]
       show (bndD (setD1 l) fun a => moreD l ⟨#[44]⟩ (setD1 l) m (acc ++ [⟨c, false, ⟨vk, vn, vf, vs⟩⟩] ++ [a])) (eatD l ⟨#[44]⟩ T5).2 = _
       rw [e6]
      rw [← h2]
      exact h
     go_roundw
     case rel => exact ⟨acc ++ [⟨c, false, ⟨vk, vn, vf, vs⟩⟩], T5.inc, m, nac_o, nac_c, by simp, hP8, kk7.trans hk8, HN2, by unfold Hid; have := Hn.out; show _ ≤ T5.i + 1 + m; omega, by unfold Hid; have := Ha.out; show _ ≤ T5.i + 1; simp; omega, by unfold Hid; have := Hi.out; show _ ≤ T5.i + 1; omega, row_kp (row_kp hown6 hk7 hg0) hk8 hg0⟩
     case measure =>
      have c1 : wr.cell? ⟨g, 1, none⟩ = some (.int .i64 (T.i : Int)) := HP.out.box.cell 1 _ rfl
      have c2 : w8.cell? ⟨g, 1, none⟩ = some (.int .i64 ((T5.i + 1 : Nat) : Int)) := hP8.box.cell 1 _ rfl
      rw [c1, c2]
      simp [intOf]
      omega
    ·have HL2 : Hid (acc ++ [⟨c, false, ⟨vk, vn, vf, vs⟩⟩] = ss ∧ T5 = SL) := by
      have h := HN.out
      rw [moreD_stop hb] at h
      exact ⟨(Prod.mk.inj h).1, (Prod.mk.inj h).2⟩
     have hLen : (acc ++ [(⟨c, false, ⟨vk, vn, vf, vs⟩⟩ : Sett)]).length = acc.length + 1 := by simp
     have hmost : ∀ W, DAt g (.slice (some ⟨gt, 0, none⟩) l.length cap) l T5 W → Calls Tryz.prog 39 #[.pointer (some ⟨g, 0, none⟩), .int .i64 ((acc.length : Int) + 1)] W (DTells g (.slice (some ⟨gt, 0, none⟩) l.length cap) l T5 W VU (mostD (acc.length + 1) T5)) := fun W h => by
      have h2 := dmost_any (acc.length + 1) W h
      rw [show ((acc.length + 1 : Nat) : Int) = (acc.length : Int) + 1 by omega] at h2
      exact h2
     go_wp2_with (first
      | (go_at_call 18; refine (deat_any hE ⟨#[61]⟩ _ (hP1.alloc (.cells #[.string c, .bool false, .int .i64 0, .int .i64 0, .int .u64 0, .string ⟨#[]⟩] 65))).mono ?_; intro e w2 hT2; obtain ⟨_, rfl, hk2, hj2, hP2, rfl⟩ := dtells hT2 e2; have kk2 := (kp_alloc kk1 (.cells #[.string c, .bool false, .int .i64 0, .int .i64 0, .int .u64 0, .string ⟨#[]⟩] 65)).trans hk2; have hs2 := kk2.size; have b2 : Bx w2 w1.heap.size 65 #[.string c, .bool false, iZ, iZ, .int .u64 0, sZ] := Bx.kp (Bx.newB rfl) hk2 (by omega); have lb2 := b2.lt; have or2 := row_kp (or1.alloc (.cells #[.string c, .bool false, .int .i64 0, .int .i64 0, .int .u64 0, .string ⟨#[]⟩] 65)) hk2 hg0; have ng2 : ¬ g = w1.heap.size := (by omega); have gn2 := Ne.symm ng2; have hd2 := dat_at hP2; have hlt2 := hP2.lt; have q0 := hd2.2.2.1; have q1 := hd2.2.2.2.1; have hti : (T2.i : Int) < (l.length : Int) := (by omega); have q2 : w2.cell? ⟨g, 2, none⟩ = some (.bool false) := (by rw [← hbad]; exact hd2.2.2.2.2.1); have d0 := hd2.2.2.2.2.2.1; have e9 : ((tokAt l T2.i).k == 2) = false := beq_eq_false_iff_ne.2 hk)
      | (go_at_call 19; refine (dname_any hE _ HP.out).mono ?_; intro e w1 hT1; obtain ⟨_, rfl, hk1, hj1, hP1, rfl⟩ := dtells hT1 e1; have kk1 := HK.out.trans hk1; have hs1 := kk1.size; have or1 := row_kp hown hk1 hg0; have hnb : ∀ k, (Value.slice acc_o acc.length acc_c).ownBlock = some k → k ≠ w1.heap.size := (fun k hk => by have := (or1.lt k hk).2; omega)))
     go_region
     go_wp2_with (first
      | (go_at_call 39; refine (hmost _ hP7).mono ?_; intro e w8 hT8; obtain ⟨u8, rfl, hk8, hj8, hP8, hV8⟩ := dtells hT8 rfl)
      | (go_at_call 16; refine (dis_at hb _ hP6).mono ?_; rintro e w7 ⟨rfl, hk7, hP7⟩; have kk7 := kk6.trans hk7)
      | (at_builtin; have hz := kk5; clear hz; refine appQ_set _ rfl _ _ rfl w.heap.size _ acc rfl ((row_setN (row_setN (row_setN (row_setN or5 hnb 2 (.int .i64 vk)) hnb 3 (.int .i64 vn)) hnb 4 (.int .u64 (vf : Int))) hnb 5 (.string vs)).alloc (.cells #[.string c, .bool false, .int .i64 vk, .int .i64 vn, .int .u64 (vf : Int), .string vs] 65)) _ _ ⟨c, false, ⟨vk, vn, vf, vs⟩⟩ rfl (Bx.newB (by simp)) (by omega) (by simp; omega) ?_; intro v6 w6 hown6 hbel6; obtain ⟨nac_o, nac_c, rfl⟩ := own_formQ hown6; have kk6 := kp_belowB (kp_alloc (kp_set (kp_set (kp_set (kp_set kk5 (by omega) 2 (.int .i64 vk)) (by omega) 3 (.int .i64 vn)) (by omega) 4 (.int .u64 (vf : Int))) (by omega) 5 (.string vs)) (.cells #[.string c, .bool false, .int .i64 vk, .int .i64 vn, .int .u64 (vf : Int), .string vs] 65)) hbel6 (Nat.le_refl _); have hP6 : DAt g (.slice (some ⟨gt, 0, none⟩) l.length cap) l T5 w6 := hP.of_kp kk6 ((hbel6.block g hg0).trans (((((hP5.set b5 (by decide) (by omega) 2 (.int .i64 vk)).set (b5.set 2 (.int .i64 vk)) (by decide) (by omega) 3 (.int .i64 vn)).set ((b5.set 2 (.int .i64 vk)).set 3 (.int .i64 vn)) (by decide) (by omega) 4 (.int .u64 (vf : Int))).set (((b5.set 2 (.int .i64 vk)).set 3 (.int .i64 vn)).set 4 (.int .u64 (vf : Int))) (by decide) (by omega) 5 (.string vs)).alloc (.cells #[.string c, .bool false, .int .i64 vk, .int .i64 vn, .int .u64 (vf : Int), .string vs] 65)).box) hP5.lt; have hs6 := kk6.size)
      | (go_at_call 41; refine (dvalue_any hE _ hP2.drew).mono ?_; intro e w5 hT5; obtain ⟨u5, rfl, hk5, hj5, hP5, hV5⟩ := dtells hT5 e4; obtain rfl : u5 = .agg #[.int .i64 vk, .int .i64 vn, .int .u64 (vf : Int), .string vs] := hV5; have kk5 := (kp_drew kk2).trans hk5; have hs5 := kk5.size; have b5 : Bx w5 w1.heap.size 65 #[.string c, .bool false, iZ, iZ, .int .u64 0, sZ] := Bx.kp b2.drew hk5 (by omega); have lb5 := b5.lt; have or5 := row_kp or2.drew hk5 hg0; have c50 := b5.s0; have f50 := b5.open 0; have c51 := b5.s1; have f51 := b5.open 1; have c52 := b5.s2; have f52 := b5.open 2; have c53 := b5.s3; have f53 := b5.open 3; have c54 := b5.s4; have f54 := b5.open 4; have c55 := b5.s5; have f55 := b5.open 5))
     have hTT : T.i ≤ T5.i := Nat.le_trans hj1 (Nat.le_trans hj2 hj5)
     obtain ⟨h1, h2⟩ := HL2.out
     go_ret
     rw [HO.out, ← h1, ← h2, hLen]
     exact ⟨kk7.trans hk8, Nat.le_trans Hi.out (Nat.le_trans hTT hj8), hP8, _, rfl, nac_o, nac_c, by rw [hLen]; rfl, row_kp (row_kp hown6 hk7 hg0) hk8 hg0⟩
end Go.Proofs.YtiajlhjjmlakmaaGreatDoor
