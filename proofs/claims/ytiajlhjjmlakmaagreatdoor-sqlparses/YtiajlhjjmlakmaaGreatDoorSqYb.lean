import Derived.Test.YtiajlhjjmlakmaaGreatDoorSqXb
namespace Go.Proofs.YtiajlhjjmlakmaaGreatDoor
open Go.RowKit Num
set_option linter.unusedSimpArgs false
set_option linter.unusedVariables false
set_option maxRecDepth 100000

theorem moreD_stop {α : Type} {l : List Tok} {sep : ByteArray} {rd : Dr α} {T : DS} (h : isD l sep T = false) (n : Nat) (acc : List α) : moreD l sep rd n acc T = (acc, T) := by
 cases n with
 | zero => rfl
 | succ n =>
  show optD _ _ _ _ _ = _
  unfold optD
  rw [h, if_neg (by decide)]
  rfl
theorem moreD_more {α : Type} {l : List Tok} {sep : ByteArray} {rd : Dr α} {T T2 : DS} {b : α} (h : isD l sep T = true) (n : Nat) (acc : List α) (hr : rd T.inc = (b, T2)) : moreD l sep rd (n + 1) acc T = moreD l sep rd n (acc ++ [b]) T2 := by
 show optD _ _ _ _ _ = _
 unfold optD bndD eatD
 rw [h, if_pos rfl, if_pos rfl]
 show (bndD rd fun a => moreD l sep rd n (acc ++ [a])) T.inc = _
 unfold bndD
 rw [hr]
theorem eatD_yes {l : List Tok} {s : ByteArray} {T : DS} (h : isD l s T = true) : eatD l s T = ((), T.inc) := if_pos h
set_option maxHeartbeats 2000000 in
theorem dnames_any {g : Nat} {v : Value} {l : List Tok} (hE : EndK l) {S : DS} (w : World) (hP : DAt g v l S w) :
  Calls Tryz.prog 40 #[.pointer (some ⟨g, 0, none⟩)] w (DTells g v l S w (VL 9 1 cS) (namesD l S)) := by
 have hg0 := hP.g_lt
 have hsm := hP.sm
 rcases e1 : eatD l ⟨#[40]⟩ S with ⟨⟨⟩, S1⟩
 rcases e2 : nameD l S1 with ⟨a, S2⟩
 rcases e3 : moreD l ⟨#[44]⟩ (nameD l) l.length [a] S2 with ⟨ns, S3⟩
 rcases e4 : eatD l ⟨#[41]⟩ S3 with ⟨⟨⟩, S4⟩
 have HO : Hid (namesD l S = (ns, (mostD ns.length S4).2)) := by
  unfold Hid
  simp only [namesD, bndD, retD, optD, e1, e2, e3, e4]
 go_enter Tryz.func40, Tryz.ntmps40
 go_wp2_with (first
  | (go_at_call 19; have hz := hk1; clear hz; refine (dname_any hE _ hP1).mono ?_; intro e w2 hT2; obtain ⟨_, rfl, hk2, hj2, hP2, rfl⟩ := dtells hT2 e2)
  | (go_at_call 18; refine (deat_any hE ⟨#[40]⟩ _ hP).mono ?_; intro e w1 hT1; obtain ⟨u1, rfl, hk1, hj1, hP1, hV1⟩ := dtells hT1 e1))
 have hk12 : w.grownBy w2 (some g) := hk1.trans hk2
 have hs2 : w.heap.size ≤ w2.heap.size := hk12.size
 have hrow : (w2.alloc (.cells #[.string a] 9)).ownsRow w.heap.size 9 1 (.slice (some ⟨w2.heap.size, 0, none⟩) 1 1) ([a] : List (ByteArray)).length (([a] : List (ByteArray)).flatMap cS) :=
  World.ownsRow_lit w2 #[.string a] 1 hs2 (by decide) rfl
 have hPa := hP2.alloc (.cells #[.string a] 9)
 have hKa := kp_alloc hk12 (.cells #[.string a] 9)
 clear e1 e2
 go_loopw [3] (fun r wr => ∃ (acc : List (ByteArray)) (T : DS) (n : Nat), Hid (DAt g v l T wr) ∧ Hid (w.grownBy wr (some g)) ∧ Hid (moreD l ⟨#[44]⟩ (nameD l) n acc T = (ns, S3)) ∧ Hid (l.length ≤ T.i + n) ∧ Hid (acc.length ≤ T.i + 1) ∧ Hid (S.i ≤ T.i) ∧ wr.ownsRow w.heap.size 9 1 r acc.length (acc.flatMap cS)) (fun _ wr => l.length - (intOf ((wr.cell? ⟨g, 1, none⟩).getD (.int .i64 0))).toNat)
 case atStart => exact ⟨[a], S2, l.length, hPa, hKa, e3, by unfold Hid; omega, by unfold Hid; simp, Nat.le_trans hj1 hj2, hrow⟩
 case round =>
  obtain ⟨acc, T, n, HP, HK, HL, Hn, Ha, Hi, hown⟩ := hrel
  have hTl := HP.out.lt
  have hgr := HP.out.g_lt
  have hsr : w.heap.size ≤ wr.heap.size := HK.out.size
  rcases Bool.eq_false_or_eq_true (isD l ⟨#[44]⟩ T) with hb | hb
  ·have hj1l := isD_lt (fun i x h => (hE i x h).1) hTl hb
   obtain ⟨m, rfl⟩ : ∃ m, n = m + 1 := ⟨n - 1, by have := Hn.out; omega⟩
   have e5 := eatD_yes hb
   rcases e6 : nameD l T.inc with ⟨b, T2⟩
   have HN : Hid (moreD l ⟨#[44]⟩ (nameD l) m (acc ++ [b]) T2 = (ns, S3)) := by
    unfold Hid
    rw [← moreD_more hb m acc e6]
    exact HL.out
   have hal : acc.length ≤ 1001 := by have := Ha.out; omega
   clear HL e3
   go_wp2_with (first
    | (at_builtin; have hz := hk7; clear hz; refine appQ_str _ rfl _ _ rfl w.heap.size _ acc rfl ((row_kp (row_kp (row_kp hown hk5 hg0) hk6 hg0) hk7 hg0).alloc _) _ _ b rfl (Bx.newB (by simp)) (by omega) (by have h5 := hk5.size; have h6 := hk6.size; have h7 := hk7.size; simp; omega) ?_; intro v8 w8 hown8 hbel8)
    | (go_at_call 19; have hz := hk6; clear hz; refine (dname_any hE _ hP6).mono ?_; intro e w7 hT7; obtain ⟨_, rfl, hk7, hj7, hP7, rfl⟩ := dtells hT7 e6; have hs7 : wr.heap.size ≤ w7.heap.size := ((hk5.trans hk6).trans hk7).size)
    | (go_at_call 18; have hz := hk5; clear hz; refine (deat_any hE ⟨#[44]⟩ _ hP5).mono ?_; intro e w6 hT6; obtain ⟨u6, rfl, hk6, hj6, hP6, hV6⟩ := dtells hT6 e5)
    | (go_at_call 16; refine (dis_at hb _ HP.out).mono ?_; rintro e w5 ⟨rfl, hk5, hP5⟩))
   have hK8 : w.grownBy w8 (some g) := kp_belowB (kp_alloc (((HK.out.trans hk5).trans hk6).trans hk7) _) hbel8 (Nat.le_refl _)
   have hP8 : DAt g v l T2 w8 := hP.of_kp hK8 ((hbel8.block g hg0).trans (hP7.alloc _).box) hP7.lt
   have hT2i : T.i + 1 ≤ T2.i := hj7
   go_roundw
   case rel => exact ⟨_, T2, m, hP8, hK8, HN, by unfold Hid; have := Hn.out; omega, by unfold Hid; have := Ha.out; simp; omega, by unfold Hid; have := Hi.out; omega, hown8⟩
   case measure =>
    have c1 : wr.cell? ⟨g, 1, none⟩ = some (.int .i64 (T.i : Int)) := HP.out.box.cell 1 _ rfl
    have c2 : w8.cell? ⟨g, 1, none⟩ = some (.int .i64 (T2.i : Int)) := hP8.box.cell 1 _ rfl
    rw [c1, c2]
    simp [intOf]
    omega
  ·have HL2 : Hid (acc = ns ∧ T = S3) := by
    have h := HL.out
    rw [moreD_stop hb] at h
    exact ⟨(Prod.mk.inj h).1, (Prod.mk.inj h).2⟩
   obtain ⟨rfl, rfl⟩ := HL2.out
   obtain ⟨no, nc, rfl⟩ := own_formQ hown
   clear HL HL2 e3
   go_wp2_with (first
    | (go_at_call 39; have hz := hk6; clear hz; refine (dmost_any acc.length _ hP6).mono ?_; intro e w7 hT7; obtain ⟨u7, rfl, hk7, hj7, hP7, hV7⟩ := dtells hT7 rfl)
    | (go_at_call 18; have hz := hk5; clear hz; refine (deat_any hE ⟨#[41]⟩ _ hP5).mono ?_; intro e w6 hT6; obtain ⟨u6, rfl, hk6, hj6, hP6, hV6⟩ := dtells hT6 e4)
    | (go_at_call 16; refine (dis_at hb _ HP.out).mono ?_; rintro e w5 ⟨rfl, hk5, hP5⟩))
   go_ret
   rw [HO.out]
   exact ⟨((HK.out.trans hk5).trans hk6).trans hk7, Nat.le_trans Hi.out (Nat.le_trans hj6 hj7), hP7, _, rfl, no, nc, rfl, row_kp (row_kp (row_kp hown hk5 hg0) hk6 hg0) hk7 hg0⟩
end Go.Proofs.YtiajlhjjmlakmaaGreatDoor
