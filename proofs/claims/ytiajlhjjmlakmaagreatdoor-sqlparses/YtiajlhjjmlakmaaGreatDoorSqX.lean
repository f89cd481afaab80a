import Derived.Test.YtiajlhjjmlakmaaGreatDoorSqW
namespace Go.Proofs.YtiajlhjjmlakmaaGreatDoor
open Go.RowKit Num
set_option linter.unusedSimpArgs false
set_option linter.unusedVariables false
set_option maxRecDepth 100000

theorem dis_any {g : Nat} {v : Value} {l : List Tok} {S : DS} (s : ByteArray) (w : World) (hP : DAt g v l S w) :
  Calls Tryz.prog 16 #[.pointer (some ⟨g, 0, none⟩), .string s] w fun e w' => e = .returned (.bool (isD l s S)) ∧ Below w.heap.size w w' := by
 obtain ⟨gt, cap, rfl, hgt, hne, ⟨p0, p1, p2, p3, p4⟩, d0, d1, d2, d3, d4, d5, d6⟩ := dat_cells hP
 have hg := hP.g_lt
 have hi := hP.lt
 have hsm := hP.sm
 have hD : isD l s S = (!S.bad && ((decide ((tokAt l S.i).k = 1) || decide ((tokAt l S.i).k = 4)) && decide ((tokAt l S.i).t = s))) := rfl
 rw [hD]
 clear hP hD
 generalize tokAt l S.i = x at *
 obtain ⟨i, bad, p, long⟩ := S
 obtain ⟨k, t, ⟨vk, vn, vf, vs⟩, P⟩ := x
 simp only at hi p1 p2 p3 p4 d0 d1 d2 d3 d4 d5 d6 ⊢
 cases bad with
 | true =>
  go_enter Tryz.func16, Tryz.ntmps16
  go_wp2_with fail
  go_region
  go_wp2
  go_ret
  exact ⟨by simp, ((Below.refl w.heap.size w).alloc (Nat.le_refl _) _).drew⟩
 | false =>
  by_cases ht : t = s
  ·subst ht
   by_cases h1 : k = 1
   ·subst h1
    go_enter Tryz.func16, Tryz.ntmps16
    go_wp2_with fail
    go_region
    go_wp2
    go_ret
    exact ⟨by simp, ((Below.refl w.heap.size w).alloc (Nat.le_refl _) _).drew⟩
   ·by_cases h4 : k = 4
    ·subst h4
     go_enter Tryz.func16, Tryz.ntmps16
     go_wp2_with fail
     go_region
     go_wp2
     go_ret
     exact ⟨by simp, ((Below.refl w.heap.size w).alloc (Nat.le_refl _) _).drew⟩
    ·have e1 : (k == 1) = false := beq_eq_false_iff_ne.2 h1
     have e4 : (k == 4) = false := beq_eq_false_iff_ne.2 h4
     go_enter Tryz.func16, Tryz.ntmps16
     go_wp2_with fail
     go_region
     go_wp2
     go_ret
     exact ⟨by simp [h1, h4], ((Below.refl w.heap.size w).alloc (Nat.le_refl _) _).drew⟩
  ·have hts := txt_ne ht
   have e : (decide (t = s)) = false := decide_eq_false ht
   rw [e, Bool.and_false, Bool.and_false]
   clear e
   by_cases h1 : k = 1
   ·subst h1
    go_enter Tryz.func16, Tryz.ntmps16
    go_wp2_with fail
    go_region
    go_wp2
    go_ret
    exact ⟨rfl, ((Below.refl w.heap.size w).alloc (Nat.le_refl _) _).drew⟩
   ·by_cases h4 : k = 4
    ·subst h4
     go_enter Tryz.func16, Tryz.ntmps16
     go_wp2_with fail
     go_region
     go_wp2
     go_ret
     exact ⟨rfl, ((Below.refl w.heap.size w).alloc (Nat.le_refl _) _).drew⟩
    ·have e1 : (k == 1) = false := beq_eq_false_iff_ne.2 h1
     have e4 : (k == 4) = false := beq_eq_false_iff_ne.2 h4
     go_enter Tryz.func16, Tryz.ntmps16
     go_wp2_with fail
     go_region
     go_wp2
     go_ret
     exact ⟨rfl, ((Below.refl w.heap.size w).alloc (Nat.le_refl _) _).drew⟩
theorem dis_at {g : Nat} {v : Value} {l : List Tok} {S : DS} {s : ByteArray} {b : Bool} (hb : isD l s S = b) (w : World) (hP : DAt g v l S w) :
  Calls Tryz.prog 16 #[.pointer (some ⟨g, 0, none⟩), .string s] w fun e w' => e = .returned (.bool b) ∧ w.grownBy w' (some g) ∧ DAt g v l S w' := by
 refine (dis_any s w hP).mono ?_
 rintro e w' ⟨rfl, h⟩
 exact ⟨by rw [hb], kp_of_below h, hP.below h⟩
theorem dfail_any {g : Nat} {v : Value} {l : List Tok} {S : DS} (w : World) (hP : DAt g v l S w) :
  Calls Tryz.prog 22 #[.pointer (some ⟨g, 0, none⟩)] w (DTells g v l S w VU ((), S.fail l)) := by
 obtain ⟨gt, cap, rfl, hgt, hne, ⟨p0, p1, p2, p3, p4⟩, d0, d1, d2, d3, d4, d5, d6⟩ := dat_cells hP
 have hg := hP.g_lt
 have hi := hP.lt
 have hsm := hP.sm
 have f1 := hP.box.open 1
 have f2 := hP.box.open 2
 have f3 := hP.box.open 3
 cases hb : S.bad with
 | true =>
  rw [hb] at p2
  have hF : S.fail l = S := by unfold DS.fail; rw [if_pos hb]
  rw [hF]
  clear hF
  go_enter Tryz.func22, Tryz.ntmps22
  go_wp2
  go_end0
  exact ⟨World.grownBy.refl w _, Nat.le_refl _, hP, _, rfl, rfl⟩
 | false =>
  rw [hb] at p2
  have hF : Hid (S.fail l = { S with bad := true, p := (tokAt l S.i).p }) := by unfold Hid DS.fail; rw [if_neg (by simp [hb])]
  rw [hF.out]
  have hbox := hP.box
  have hlt : (S.i : Int) < (l.length : Int) := by omega
  obtain ⟨P, hP2⟩ : ∃ P, (tokAt l S.i).p = P := ⟨_, rfl⟩
  rw [hP2] at d6
  clear hF
  go_enter Tryz.func22, Tryz.ntmps22
  go_wp2_with fail
  have hb1 : Bx (w.setCell ⟨g, 2, none⟩ (.bool true)) g 58 #[.slice (some ⟨gt, 0, none⟩) l.length cap, .int .i64 (S.i : Int), .bool true, .int .i64 (S.p : Int), .bool S.long] := hbox.set 2 _
  have e6 : (w.setCell ⟨g, 2, none⟩ (.bool true)).cell? ⟨gt, S.i * 7 + 6, none⟩ = some (.int .i64 (P : Int)) := (World.cell?_of_block (Below.heap_setCell w _ _ _ (show gt ≠ g from hne))).trans d6
  have k1 := kp_setG (gr w g) 2 (.bool true)
  have hz : (w.setCell ⟨g, 2, none⟩ (.bool true)).heap.size = w.heap.size := by show (w.heap.modify _ _).size = _; simp
  generalize w.setCell ⟨g, 2, none⟩ (.bool true) = W1 at *
  have q0 : W1.cell? ⟨g, 0, none⟩ = some (.slice (some ⟨gt, 0, none⟩) l.length cap) := hb1.cell 0 _ rfl
  have q1 : W1.cell? ⟨g, 1, none⟩ = some (.int .i64 (S.i : Int)) := hb1.cell 1 _ rfl
  have q3 : W1.cell? ⟨g, 3, none⟩ = some (.int .i64 (S.p : Int)) := hb1.cell 3 _ rfl
  have z3 := hb1.open 3
  clear p0 p1 p2 p3 p4 f1 f2 f3 d0 d1 d2 d3 d4 d5 d6
  go_region
  go_end0
  rw [hP2]
  have hK := kp_drew (kp_setG k1 3 (.int .i64 (P : Int)))
  exact ⟨hK, Nat.le_refl _, hP.of_kp hK (hb1.set 3 (.int .i64 (P : Int))).drew hi, _, rfl, rfl⟩
theorem deat_any {g : Nat} {v : Value} {l : List Tok} (hE : EndK l) {S : DS} (s : ByteArray) (w : World) (hP : DAt g v l S w) :
  Calls Tryz.prog 18 #[.pointer (some ⟨g, 0, none⟩), .string s] w (DTells g v l S w VU (eatD l s S)) := by
 have hi := hP.lt
 have hsm := hP.sm
 cases hb : isD l s S with
 | true =>
  have HO : Hid (eatD l s S = ((), S.inc)) := by unfold Hid eatD; rw [if_pos hb]
  have hj := isD_lt (fun i x h => (hE i x h).1) hi hb
  have hii : (S.i : Int) + 1 ≤ 1000 := by omega
  go_enter Tryz.func18, Tryz.ntmps18
  go_wp2_with (go_at_call 16; refine (dis_at hb _ hP).mono ?_; rintro e w1 ⟨rfl, hk1, hP1⟩; have p1 : w1.cell? ⟨g, 1, none⟩ = some (.int .i64 (S.i : Int)) := hP1.box.cell 1 _ rfl; have z1 := hP1.box.open 1)
  go_end0
  rw [HO.out]
  exact ⟨kp_setG hk1 1 _, Nat.le_succ _, hP1.inc hj, _, rfl, rfl⟩
 | false =>
  have HO : Hid (eatD l s S = ((), S.fail l)) := by unfold Hid eatD; rw [if_neg (by simp [hb])]
  go_enter Tryz.func18, Tryz.ntmps18
  go_wp2_with (first
   | (go_at_call 22; refine (dfail_any _ hP1).mono ?_; intro e w2 hT2; obtain ⟨u2, rfl, hk2, hj2, hP2, hV2⟩ := dtells hT2 rfl)
   | (go_at_call 16; refine (dis_at hb _ hP).mono ?_; rintro e w1 ⟨rfl, hk1, hP1⟩))
  go_end0
  rw [HO.out]
  exact ⟨hk1.trans hk2, hj2, hP2, _, rfl, rfl⟩
abbrev Num.tokW (w : World) (X : Tok) : World := (w.alloc (.cells #[.int .i64 X.k, .string X.t, .int .i64 X.v.k, .int .i64 X.v.n, .int .u64 (X.v.f : Int), .string X.v.s, .int .i64 (X.p : Int)] 62)).drew
theorem dname_any {g : Nat} {v : Value} {l : List Tok} (hE : EndK l) {S : DS} (w : World) (hP : DAt g v l S w) :
  Calls Tryz.prog 19 #[.pointer (some ⟨g, 0, none⟩)] w (DTells g v l S w VS (nameD l S)) := by
 have hi := hP.lt
 have hsm := hP.sm
 have hE2 := (hE S.i _ hP.tok).1
 obtain ⟨gt, cap, rfl, hgt, hne, ⟨p0, p1, p2, p3, p4⟩, d0, d1, d2, d3, d4, d5, d6⟩ := dat_cells hP
 have hg := hP.g_lt
 obtain ⟨X, hX⟩ : ∃ X, tokAt l S.i = X := ⟨_, rfl⟩
 rw [hX] at d0 d1 d2 d3 d4 d5 d6 hE2
 obtain ⟨k, t, ⟨vk, vn, vf, vs⟩, P⟩ := X
 simp only at d0 d1 d2 d3 d4 d5 d6 hE2
 cases hb : S.bad with
 | true =>
  rw [hb] at p2
  have HO : Hid (nameD l S = (⟨#[]⟩, S.fail l)) := by unfold Hid nameD; rw [if_pos (Or.inl hb)]
  have hPt : DAt g (.slice (some ⟨gt, 0, none⟩) l.length cap) l S (tokW w ⟨k, t, ⟨vk, vn, vf, vs⟩, P⟩) := (hP.alloc _).drew
  have hkt : w.grownBy (tokW w ⟨k, t, ⟨vk, vn, vf, vs⟩, P⟩) (some g) := kp_drew (kp_alloc (gr w g) _)
  go_enter Tryz.func19, Tryz.ntmps19
  go_wp2_with fail
  go_region
  go_wp2_with (go_at_call 22; refine (dfail_any _ hPt).mono ?_; intro e w2 hT2; obtain ⟨u2, rfl, hk2, hj2, hP2, hV2⟩ := dtells hT2 rfl)
  go_ret
  rw [HO.out]
  exact ⟨hkt.trans hk2, hj2, hP2, _, rfl, rfl⟩
 | false =>
  rw [hb] at p2
  by_cases h2 : k = 2
  ·subst h2
   have HO : Hid (nameD l S = (t, S.inc)) := by unfold Hid nameD; rw [hX, if_neg (by simp [hb])]
   have hj : S.i + 1 < l.length := by
    rcases hE2 with h | h
    ·exact h
    ·exact absurd h.1 (by decide)
   have hii : (S.i : Int) + 1 ≤ 1000 := by omega
   have z1 := hP.box.open 1
   have hPt : DAt g (.slice (some ⟨gt, 0, none⟩) l.length cap) l S (tokW w ⟨2, t, ⟨vk, vn, vf, vs⟩, P⟩) := (hP.alloc _).drew
   have hkt : w.grownBy (tokW w ⟨2, t, ⟨vk, vn, vf, vs⟩, P⟩) (some g) := kp_drew (kp_alloc (gr w g) _)
   go_enter Tryz.func19, Tryz.ntmps19
   go_wp2_with fail
   go_region
   go_wp2
   go_ret
   rw [HO.out]
   exact ⟨kp_drew (kp_alloc (kp_setG (gr w g) 1 _) _), Nat.le_succ _, ((hP.inc hj).alloc _).drew, _, rfl, rfl⟩
  ·have HO : Hid (nameD l S = (⟨#[]⟩, S.fail l)) := by unfold Hid nameD; rw [hX, if_pos (Or.inr h2)]
   have e2 : (k == 2) = false := beq_eq_false_iff_ne.2 h2
   have hPt : DAt g (.slice (some ⟨gt, 0, none⟩) l.length cap) l S (tokW w ⟨k, t, ⟨vk, vn, vf, vs⟩, P⟩) := (hP.alloc _).drew
   have hkt : w.grownBy (tokW w ⟨k, t, ⟨vk, vn, vf, vs⟩, P⟩) (some g) := kp_drew (kp_alloc (gr w g) _)
   go_enter Tryz.func19, Tryz.ntmps19
   go_wp2_with fail
   go_region
   go_wp2_with (go_at_call 22; refine (dfail_any _ hPt).mono ?_; intro e w2 hT2; obtain ⟨u2, rfl, hk2, hj2, hP2, hV2⟩ := dtells hT2 rfl)
   go_ret
   rw [HO.out]
   exact ⟨hkt.trans hk2, hj2, hP2, _, rfl, rfl⟩
end Go.Proofs.YtiajlhjjmlakmaaGreatDoor
