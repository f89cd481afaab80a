import Derived.Test.YtiajlhjjmlakmaaGreatDoorSqYa
import Derived.Test.YtiajlhjjmlakmaaGreatDoorSqYb
namespace Go.Proofs.YtiajlhjjmlakmaaGreatDoor
open Go.RowKit Num
set_option linter.unusedSimpArgs false
set_option linter.unusedVariables false
set_option maxRecDepth 100000

set_option maxHeartbeats 2000000 in
theorem dconds_any {g : Nat} {v : Value} {l : List Tok} (hE : EndK l) {S : DS} (w : World) (hP : DAt g v l S w) :
  Calls Tryz.prog 43 #[.pointer (some ⟨g, 0, none⟩)] w (DTells g v l S w (VL 67 6 cC) (whereD l S)) := by
 have hg0 := hP.g_lt
 have hsm := hP.sm
 rcases Bool.eq_false_or_eq_true (isD l ⟨#[119, 104, 101, 114, 101]⟩ S) with hb0 | hb0
 ·have hj0 : S.i ≤ S.i := Nat.le_refl _
  rcases e1 : eatD l ⟨#[119, 104, 101, 114, 101]⟩ S with ⟨⟨⟩, S1⟩
  rcases e2 : condD l S1 with ⟨a, S2⟩
  rcases e3 : moreD l ⟨#[97, 110, 100]⟩ (condD l) l.length [a] S2 with ⟨ns, S3⟩
  have HO : Hid (whereD l S = (ns, (S3.many (decide (4 < ns.length))))) := by
   unfold Hid
   simp only [whereD, bndD, retD, optD, e1, e2, e3, hb0, if_true]
  obtain ⟨ac, ad, ⟨ak, an, af, az⟩⟩ := a
  go_enter Tryz.func43, Tryz.ntmps43
  go_wp2_with (first
   | (go_at_call 74; have hz := hk1; clear hz; refine (dcond_any hE _ hP1).mono ?_; intro e w2 hT2; obtain ⟨u2, rfl, hk2, hj2, hP2, hV2⟩ := dtells hT2 e2; obtain rfl : u2 = .agg #[.string ac, .int .i64 ad, .int .i64 ak, .int .i64 an, .int .u64 (af : Int), .string az] := hV2)
   | (go_at_call 18; have hz := hk0; clear hz; refine (deat_any hE ⟨#[119, 104, 101, 114, 101]⟩ _ hP0).mono ?_; intro e w1 hT1; obtain ⟨u1, rfl, hk1, hj1, hP1, hV1⟩ := dtells hT1 e1)
   | (go_at_call 16; refine (dis_at hb0 _ hP).mono ?_; rintro e w0 ⟨rfl, hk0, hP0⟩))
  have hk12 : w.grownBy w2 (some g) := (hk0.trans hk1).trans hk2
  have hs2 : w.heap.size ≤ w2.heap.size := hk12.size
  have hrow : (w2.alloc (.cells #[.string ac, .int .i64 ad, .int .i64 ak, .int .i64 an, .int .u64 (af : Int), .string az] 67)).ownsRow w.heap.size 67 6 (.slice (some ⟨w2.heap.size, 0, none⟩) 1 1) ([⟨ac, ad, ⟨ak, an, af, az⟩⟩] : List (Cnd)).length (([⟨ac, ad, ⟨ak, an, af, az⟩⟩] : List (Cnd)).flatMap cC) :=
   World.ownsRow_lit w2 #[.string ac, .int .i64 ad, .int .i64 ak, .int .i64 an, .int .u64 (af : Int), .string az] 1 hs2 (by decide) rfl
  have hPa := hP2.alloc (.cells #[.string ac, .int .i64 ad, .int .i64 ak, .int .i64 an, .int .u64 (af : Int), .string az] 67)
  have hKa := kp_alloc hk12 (.cells #[.string ac, .int .i64 ad, .int .i64 ak, .int .i64 an, .int .u64 (af : Int), .string az] 67)
  clear e1 e2
  go_loopw [3] (fun r wr => ∃ (acc : List (Cnd)) (T : DS) (n : Nat), Hid (DAt g v l T wr) ∧ Hid (w.grownBy wr (some g)) ∧ Hid (moreD l ⟨#[97, 110, 100]⟩ (condD l) n acc T = (ns, S3)) ∧ Hid (l.length ≤ T.i + n) ∧ Hid (acc.length ≤ T.i + 1) ∧ Hid (S.i ≤ T.i) ∧ wr.ownsRow w.heap.size 67 6 r acc.length (acc.flatMap cC)) (fun _ wr => l.length - (intOf ((wr.cell? ⟨g, 1, none⟩).getD (.int .i64 0))).toNat)
  case atStart => exact ⟨[⟨ac, ad, ⟨ak, an, af, az⟩⟩], S2, l.length, hPa, hKa, e3, by unfold Hid; omega, by unfold Hid; simp, Nat.le_trans hj1 hj2, hrow⟩
  case round =>
   obtain ⟨acc, T, n, HP, HK, HL, Hn, Ha, Hi, hown⟩ := hrel
   have hTl := HP.out.lt
   have hgr := HP.out.g_lt
   have hsr : w.heap.size ≤ wr.heap.size := HK.out.size
   rcases Bool.eq_false_or_eq_true (isD l ⟨#[97, 110, 100]⟩ T) with hb | hb
   ·have hj1l := isD_lt (fun i x h => (hE i x h).1) hTl hb
    obtain ⟨m, rfl⟩ : ∃ m, n = m + 1 := ⟨n - 1, by have := Hn.out; omega⟩
    have e5 := eatD_yes hb
    rcases e6 : condD l T.inc with ⟨b, T2⟩
    have HN : Hid (moreD l ⟨#[97, 110, 100]⟩ (condD l) m (acc ++ [b]) T2 = (ns, S3)) := by
     unfold Hid
     rw [← moreD_more hb m acc e6]
     exact HL.out
    have hal : acc.length ≤ 1001 := by have := Ha.out; omega
    obtain ⟨bc, bd, ⟨bk, bn, bf, bz⟩⟩ := b
    clear HL e3
    go_wp2_with (first
     | (at_builtin; have hz := hk7; clear hz; refine appQ_cnd _ rfl _ _ rfl w.heap.size _ acc rfl ((row_kp (row_kp (row_kp hown hk5 hg0) hk6 hg0) hk7 hg0).alloc _) _ _ ⟨bc, bd, ⟨bk, bn, bf, bz⟩⟩ rfl (Bx.newB (by simp)) (by omega) (by have h5 := hk5.size; have h6 := hk6.size; have h7 := hk7.size; simp; omega) ?_; intro v8 w8 hown8 hbel8)
     | (go_at_call 74; have hz := hk6; clear hz; refine (dcond_any hE _ hP6).mono ?_; intro e w7 hT7; obtain ⟨u7, rfl, hk7, hj7, hP7, hV7⟩ := dtells hT7 e6; obtain rfl : u7 = .agg #[.string bc, .int .i64 bd, .int .i64 bk, .int .i64 bn, .int .u64 (bf : Int), .string bz] := hV7; have hs7 : wr.heap.size ≤ w7.heap.size := ((hk5.trans hk6).trans hk7).size)
     | (go_at_call 18; have hz := hk5; clear hz; refine (deat_any hE ⟨#[97, 110, 100]⟩ _ hP5).mono ?_; intro e w6 hT6; obtain ⟨u6, rfl, hk6, hj6, hP6, hV6⟩ := dtells hT6 e5)
     | (go_at_call 16; refine (dis_at hb _ HP.out).mono ?_; rintro e w5 ⟨rfl, hk5, hP5⟩))
    have hK8 : w.grownBy w8 (some g) := kp_belowB (kp_alloc (((HK.out.trans hk5).trans hk6).trans hk7) _) hbel8 (Nat.le_refl _)
    have hP8 : DAt g v l T2 w8 := hP.of_kp hK8 ((hbel8.block g hg0).trans (hP7.alloc _).box) hP7.lt
    have hT2i : T.i + 1 ≤ T2.i := hj7
    go_roundw
    case rel => exact ⟨_, T2, m, hP8, hK8, HN, by unfold Hid; have := Hn.out; omega, by unfold Hid; have := Ha.out; simp; omega, by unfold Hid; have := Hi.out; omega, hown8⟩
    case measure =>
     have c1 : wr.cell? ⟨g, 1, none⟩ = some (.int .i64 (T.i : Int)) := HP.out.box.cell 1 _ rfl
     have c2 : w8.cell? ⟨g, 1, none⟩ = some (.int .i64 (T2.i : Int)) := hP8.box.cell 1 _ rfl
     rw [c1, c2]
     simp [intOf]
     omega
   ·have HL2 : Hid (acc = ns ∧ T = S3) := by
     have h := HL.out
     rw [moreD_stop hb] at h
     exact ⟨(Prod.mk.inj h).1, (Prod.mk.inj h).2⟩
    obtain ⟨rfl, rfl⟩ := HL2.out
    obtain ⟨no, nc, rfl⟩ := own_formQ hown
    clear HL HL2 e3
    by_cases h4 : 4 < acc.length
    ·have h4i : (4 : Int) < (acc.length : Int) := by omega
     have HM : Hid (T.many (decide (4 < acc.length)) = { T with long := true }) := by unfold Hid DS.many; rw [if_pos (by simp [h4])]
     go_wp2_with (go_at_call 16; refine (dis_at hb _ HP.out).mono ?_; rintro e w5 ⟨rfl, hk5, hP5⟩; have p4 : w5.cell? ⟨g, 4, none⟩ = some (.bool T.long) := hP5.box.cell 4 _ rfl; have z4 := hP5.box.open 4)
     go_ret
     rw [HO.out]
     simp only []
     rw [HM.out]
     have hK := kp_setG (HK.out.trans hk5) 4 (.bool true)
     exact ⟨hK, Hi.out, hP.of_kp hK (hP5.box.set 4 (.bool true)) hP5.lt, _, rfl, no, nc, rfl, row_set (row_kp hown hk5 hg0) hP5.box (by decide) 4 (.bool true)⟩
    ·have h4i : ¬ (4 : Int) < (acc.length : Int) := by omega
     have HM : Hid (T.many (decide (4 < acc.length)) = T) := by unfold Hid DS.many; rw [if_neg (by simp [h4])]
     go_wp2_with (go_at_call 16; refine (dis_at hb _ HP.out).mono ?_; rintro e w5 ⟨rfl, hk5, hP5⟩)
     go_ret
     rw [HO.out]
     simp only []
     rw [HM.out]
     exact ⟨HK.out.trans hk5, Hi.out, hP5, _, rfl, no, nc, rfl, row_kp hown hk5 hg0⟩
 ·have HO : Hid (whereD l S = ([], S)) := by
   unfold Hid
   simp only [whereD, optD, retD, hb0, Bool.false_eq_true, if_false]
  go_enter Tryz.func43, Tryz.ntmps43
  go_wp2_with (go_at_call 16; refine (dis_at hb0 _ hP).mono ?_; rintro e w0 ⟨rfl, hk0, hP0⟩)
  go_ret
  rw [HO.out]
  exact ⟨hk0, Nat.le_refl _, hP0, _, rfl, none, 0, rfl, World.ownsRow_nil _ _ _ _⟩
end Go.Proofs.YtiajlhjjmlakmaaGreatDoor
