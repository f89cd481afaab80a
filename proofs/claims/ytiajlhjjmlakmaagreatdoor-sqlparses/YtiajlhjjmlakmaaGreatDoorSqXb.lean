import Derived.Test.YtiajlhjjmlakmaaGreatDoorSqX
namespace Go.Proofs.YtiajlhjjmlakmaaGreatDoor
open Go.RowKit Num
set_option maxHeartbeats 2000000
set_option linter.unusedSimpArgs false
set_option linter.unusedVariables false
set_option maxRecDepth 100000

theorem dvalue_null_w0 {g : Nat} {v : Value} {l : List Tok} (hE : EndK l) {S : DS} {k : Int} {t : ByteArray} {vk vn : Int} {vf : Nat} {vs : ByteArray} {P : Nat} (hX : tokAt l S.i = ⟨k, t, ⟨vk, vn, vf, vs⟩, P⟩) (hb1 : isD l ⟨#[110, 117, 108, 108]⟩ S = true) (w : World) (hP : DAt g v l S w) :
  Calls Tryz.prog 41 #[.pointer (some ⟨g, 0, none⟩)] w (DTells g v l S w VV (valueD l S)) := by
 have hg0 := hP.g_lt
 have HO : Hid (valueD l S = (⟨0, 0, 0, ⟨#[]⟩⟩, S.inc)) := by
  unfold Hid
  simp only [valueD, bndD, optD, retD, incD, failD, hb1, if_true]
 have hi := hP.lt
 have hsm := hP.sm
 have hE2 := (hE S.i _ hP.tok).1
 obtain ⟨gt, cap, rfl, hgt, hne, ⟨p0, p1, p2, p3, p4⟩, d0, d1, d2, d3, d4, d5, d6⟩ := dat_cells hP
 rw [hX] at d0 d1 d2 d3 d4 d5 d6 hE2
 simp only at d0 d1 d2 d3 d4 d5 d6 hE2
 have hP0 : DAt g (.slice (some ⟨gt, 0, none⟩) l.length cap) l S (tokW (w.alloc (.cells #[.int .i64 0, .int .i64 0, .int .u64 0, .string ⟨#[]⟩] 46)) ⟨k, t, ⟨vk, vn, vf, vs⟩, P⟩) := ((hP.alloc _).alloc _).drew
 have hk0 : w.grownBy (tokW (w.alloc (.cells #[.int .i64 0, .int .i64 0, .int .u64 0, .string ⟨#[]⟩] 46)) ⟨k, t, ⟨vk, vn, vf, vs⟩, P⟩) (some g) := kp_drew (kp_alloc (kp_alloc (gr w g) _) _)
 have br0 : Bx (tokW (w.alloc (.cells #[iZ, iZ, .int .u64 0, sZ] 46)) ⟨k, t, ⟨vk, vn, vf, vs⟩, P⟩) w.heap.size 46 #[.int .i64 0, .int .i64 0, .int .u64 0, .string ⟨#[]⟩] := ((Bx.new w _ _).alloc _).drew
 have bt0 : Bx (tokW (w.alloc (.cells #[iZ, iZ, .int .u64 0, sZ] 46)) ⟨k, t, ⟨vk, vn, vf, vs⟩, P⟩) (w.heap.size + 1) 62 #[.int .i64 k, .string t, .int .i64 vk, .int .i64 vn, .int .u64 (vf : Int), .string vs, .int .i64 (P : Int)] := (Bx.newB (by simp)).drew
 go_enter Tryz.func41, Tryz.ntmps41
 go_wp2_with fail
 go_region
 go_wp2_with (first
  | (go_at_call 16; refine (dis_at hb1 _ hP0).mono ?_; rintro e w1 ⟨rfl, hk1, hP1⟩; have kk1 := hk0.trans hk1; have hs1 := kk1.size; have br1 := Bx.kp br0 hk1 (by omega); have lr1 := br1.lt; have bt1 := Bx.kp bt0 hk1 (by omega); have lt1 := bt1.lt; have cr1_0 := br1.f0; have fr1_0 := br1.open 0; have cr1_1 := br1.f1; have fr1_1 := br1.open 1; have cr1_2 := br1.f2; have fr1_2 := br1.open 2; have cr1_3 := br1.f3; have fr1_3 := br1.open 3; have p1_1 : w1.cell? ⟨g, 1, none⟩ = some (.int .i64 (S.i : Int)) := hP1.box.cell 1 _ rfl; have z1_1 := hP1.box.open 1; have hj1_1 : S.i + 1 < l.length := isD_lt (fun i x h => (hE i x h).1) hP1.lt hb1; have hii1 : (S.i : Int) + 1 ≤ 1000 := (by have := hP1.sm; omega); have ngr1 : ¬ g = w.heap.size := (by omega); have ngt1 : ¬ g = w.heap.size + 1 := (by omega); have gnr1 : ¬ w.heap.size = g := (by omega); have gnt1 : ¬ w.heap.size + 1 = g := (by omega); clear hb1))
 refine bodyPost_ret (v := .agg #[.int .i64 0, .int .i64 0, .int .u64 0, .string ⟨#[]⟩]) (by simp [results, Tryz.results41, go_sem, cr1_0, cr1_1, cr1_2, cr1_3, lr1, ngr1, gnr1]) rfl ?_
 rw [HO.out]
 exact ⟨(kp_sets (kp_setG kk1 1 (.int .i64 ((S.i : Int) + 1))) (by omega) 0 [.int .i64 0, .int .i64 0, .int .u64 0, .string ⟨#[]⟩]), (Nat.le_succ_of_le (Nat.le_refl S.i)), (DAt.sets (hP1.inc hj1_1) (br1.other (by omega) 1 (.int .i64 ((S.i : Int) + 1))) (by decide) (by omega) 0 [.int .i64 0, .int .i64 0, .int .u64 0, .string ⟨#[]⟩]), _, rfl, rfl⟩
theorem dvalue_true_w0 {g : Nat} {v : Value} {l : List Tok} (hE : EndK l) {S : DS} {k vk vn : Int} {vf : Nat} {vs : ByteArray} {P : Nat} (hX : tokAt l S.i = ⟨k, ⟨#[116, 114, 117, 101]⟩, ⟨vk, vn, vf, vs⟩, P⟩) (hb1 : isD l ⟨#[110, 117, 108, 108]⟩ S = false) (hb2 : isD l ⟨#[116, 114, 117, 101]⟩ S = true) (w : World) (hP : DAt g v l S w) :
  Calls Tryz.prog 41 #[.pointer (some ⟨g, 0, none⟩)] w (DTells g v l S w VV (valueD l S)) := by
 have hg0 := hP.g_lt
 have HO : Hid (valueD l S = (⟨1, 1, 0, ⟨#[]⟩⟩, S.inc)) := by
  unfold Hid
  simp only [valueD, bndD, optD, retD, incD, failD, hb1, Bool.false_eq_true, if_false, hb2, if_true]
 have hi := hP.lt
 have hsm := hP.sm
 have hE2 := (hE S.i _ hP.tok).1
 obtain ⟨gt, cap, rfl, hgt, hne, ⟨p0, p1, p2, p3, p4⟩, d0, d1, d2, d3, d4, d5, d6⟩ := dat_cells hP
 rw [hX] at d0 d1 d2 d3 d4 d5 d6 hE2
 simp only at d0 d1 d2 d3 d4 d5 d6 hE2
 have hP0 : DAt g (.slice (some ⟨gt, 0, none⟩) l.length cap) l S (tokW (w.alloc (.cells #[.int .i64 0, .int .i64 0, .int .u64 0, .string ⟨#[]⟩] 46)) ⟨k, ⟨#[116, 114, 117, 101]⟩, ⟨vk, vn, vf, vs⟩, P⟩) := ((hP.alloc _).alloc _).drew
 have hk0 : w.grownBy (tokW (w.alloc (.cells #[.int .i64 0, .int .i64 0, .int .u64 0, .string ⟨#[]⟩] 46)) ⟨k, ⟨#[116, 114, 117, 101]⟩, ⟨vk, vn, vf, vs⟩, P⟩) (some g) := kp_drew (kp_alloc (kp_alloc (gr w g) _) _)
 have br0 : Bx (tokW (w.alloc (.cells #[iZ, iZ, .int .u64 0, sZ] 46)) ⟨k, ⟨#[116, 114, 117, 101]⟩, ⟨vk, vn, vf, vs⟩, P⟩) w.heap.size 46 #[.int .i64 0, .int .i64 0, .int .u64 0, .string ⟨#[]⟩] := ((Bx.new w _ _).alloc _).drew
 have bt0 : Bx (tokW (w.alloc (.cells #[iZ, iZ, .int .u64 0, sZ] 46)) ⟨k, ⟨#[116, 114, 117, 101]⟩, ⟨vk, vn, vf, vs⟩, P⟩) (w.heap.size + 1) 62 #[.int .i64 k, .string ⟨#[116, 114, 117, 101]⟩, .int .i64 vk, .int .i64 vn, .int .u64 (vf : Int), .string vs, .int .i64 (P : Int)] := (Bx.newB (by simp)).drew
 go_enter Tryz.func41, Tryz.ntmps41
 go_wp2_with fail
 go_region
 go_wp2_with (first
  | (go_at_call 16; refine (dis_at hb2 _ hP1).mono ?_; rintro e w2 ⟨rfl, hk2, hP2⟩; have kk2 := kk1.trans hk2; have hs2 := kk2.size; have br2 := Bx.kp br1 hk2 (by omega); have lr2 := br2.lt; have bt2 : Bx w2 (w.heap.size + 1) 62 #[.int .i64 k, .string ⟨#[116, 114, 117, 101]⟩, .int .i64 vk, .int .i64 vn, .int .u64 (vf : Int), .string vs, .int .i64 (P : Int)] := Bx.kp bt1 hk2 (by omega); have lt2 := bt2.lt; have ct2_0 : w2.cell? ⟨w.heap.size + 1, 0, none⟩ = some (.int .i64 k) := bt2.cell 0 _ rfl; have ct2_1 : w2.cell? ⟨w.heap.size + 1, 1, none⟩ = some (.string ⟨#[116, 114, 117, 101]⟩) := bt2.cell 1 _ rfl; have ct2_2 : w2.cell? ⟨w.heap.size + 1, 2, none⟩ = some (.int .i64 vk) := bt2.cell 2 _ rfl; have ct2_3 : w2.cell? ⟨w.heap.size + 1, 3, none⟩ = some (.int .i64 vn) := bt2.cell 3 _ rfl; have ct2_4 : w2.cell? ⟨w.heap.size + 1, 4, none⟩ = some (.int .u64 (vf : Int)) := bt2.cell 4 _ rfl; have ct2_5 : w2.cell? ⟨w.heap.size + 1, 5, none⟩ = some (.string vs) := bt2.cell 5 _ rfl; have ct2_6 : w2.cell? ⟨w.heap.size + 1, 6, none⟩ = some (.int .i64 (P : Int)) := bt2.cell 6 _ rfl; have cr2_0 := br2.f0; have fr2_0 := br2.open 0; have cr2_1 := br2.f1; have fr2_1 := br2.open 1; have cr2_2 := br2.f2; have fr2_2 := br2.open 2; have cr2_3 := br2.f3; have fr2_3 := br2.open 3; have p1_2 : w2.cell? ⟨g, 1, none⟩ = some (.int .i64 (S.i : Int)) := hP2.box.cell 1 _ rfl; have z1_2 := hP2.box.open 1; have hj1_2 : S.i + 1 < l.length := isD_lt (fun i x h => (hE i x h).1) hP2.lt hb2; have hii2 : (S.i : Int) + 1 ≤ 1000 := (by have := hP2.sm; omega); have ngr2 : ¬ g = w.heap.size := (by omega); have ngt2 : ¬ g = w.heap.size + 1 := (by omega); have gnr2 : ¬ w.heap.size = g := (by omega); have gnt2 : ¬ w.heap.size + 1 = g := (by omega); clear hb2)
  | (go_at_call 16; refine (dis_at hb1 _ hP0).mono ?_; rintro e w1 ⟨rfl, hk1, hP1⟩; have kk1 := hk0.trans hk1; have hs1 := kk1.size; have br1 := Bx.kp br0 hk1 (by omega); have lr1 := br1.lt; have bt1 : Bx w1 (w.heap.size + 1) 62 #[.int .i64 k, .string ⟨#[116, 114, 117, 101]⟩, .int .i64 vk, .int .i64 vn, .int .u64 (vf : Int), .string vs, .int .i64 (P : Int)] := Bx.kp bt0 hk1 (by omega); have lt1 := bt1.lt; have ngr1 : ¬ g = w.heap.size := (by omega); have ngt1 : ¬ g = w.heap.size + 1 := (by omega); have gnr1 : ¬ w.heap.size = g := (by omega); have gnt1 : ¬ w.heap.size + 1 = g := (by omega); clear hb1))
 refine bodyPost_ret (v := .agg #[.int .i64 1, .int .i64 1, .int .u64 0, .string ⟨#[]⟩]) (by simp [results, Tryz.results41, go_sem, cr2_0, cr2_1, cr2_2, cr2_3, lr2, ngr2, gnr2]) rfl ?_
 rw [HO.out]
 exact ⟨(kp_alloc (kp_sets (kp_setG kk2 1 (.int .i64 ((S.i : Int) + 1))) (by omega) 0 [.int .i64 1, .int .i64 1, .int .u64 0, .string ⟨#[]⟩]) _), (Nat.le_succ_of_le (Nat.le_refl S.i)), ((DAt.sets (hP2.inc hj1_2) (br2.other (by omega) 1 (.int .i64 ((S.i : Int) + 1))) (by decide) (by omega) 0 [.int .i64 1, .int .i64 1, .int .u64 0, .string ⟨#[]⟩]).alloc _), _, rfl, rfl⟩
theorem dvalue_false_w0 {g : Nat} {v : Value} {l : List Tok} (hE : EndK l) {S : DS} {k vk vn : Int} {vf : Nat} {vs : ByteArray} {P : Nat} (hX : tokAt l S.i = ⟨k, ⟨#[102, 97, 108, 115, 101]⟩, ⟨vk, vn, vf, vs⟩, P⟩) (hb1 : isD l ⟨#[110, 117, 108, 108]⟩ S = false) (hb2 : isD l ⟨#[116, 114, 117, 101]⟩ S = false) (hb3 : isD l ⟨#[102, 97, 108, 115, 101]⟩ S = true) (w : World) (hP : DAt g v l S w) :
  Calls Tryz.prog 41 #[.pointer (some ⟨g, 0, none⟩)] w (DTells g v l S w VV (valueD l S)) := by
 have hg0 := hP.g_lt
 have HO : Hid (valueD l S = (⟨1, 0, 0, ⟨#[]⟩⟩, S.inc)) := by
  unfold Hid
  simp only [valueD, bndD, optD, retD, incD, failD, hb1, Bool.false_eq_true, if_false, hb2, hb3, if_true]
 have hi := hP.lt
 have hsm := hP.sm
 have hE2 := (hE S.i _ hP.tok).1
 obtain ⟨gt, cap, rfl, hgt, hne, ⟨p0, p1, p2, p3, p4⟩, d0, d1, d2, d3, d4, d5, d6⟩ := dat_cells hP
 rw [hX] at d0 d1 d2 d3 d4 d5 d6 hE2
 simp only at d0 d1 d2 d3 d4 d5 d6 hE2
 have hP0 : DAt g (.slice (some ⟨gt, 0, none⟩) l.length cap) l S (tokW (w.alloc (.cells #[.int .i64 0, .int .i64 0, .int .u64 0, .string ⟨#[]⟩] 46)) ⟨k, ⟨#[102, 97, 108, 115, 101]⟩, ⟨vk, vn, vf, vs⟩, P⟩) := ((hP.alloc _).alloc _).drew
 have hk0 : w.grownBy (tokW (w.alloc (.cells #[.int .i64 0, .int .i64 0, .int .u64 0, .string ⟨#[]⟩] 46)) ⟨k, ⟨#[102, 97, 108, 115, 101]⟩, ⟨vk, vn, vf, vs⟩, P⟩) (some g) := kp_drew (kp_alloc (kp_alloc (gr w g) _) _)
 have br0 : Bx (tokW (w.alloc (.cells #[iZ, iZ, .int .u64 0, sZ] 46)) ⟨k, ⟨#[102, 97, 108, 115, 101]⟩, ⟨vk, vn, vf, vs⟩, P⟩) w.heap.size 46 #[.int .i64 0, .int .i64 0, .int .u64 0, .string ⟨#[]⟩] := ((Bx.new w _ _).alloc _).drew
 have bt0 : Bx (tokW (w.alloc (.cells #[iZ, iZ, .int .u64 0, sZ] 46)) ⟨k, ⟨#[102, 97, 108, 115, 101]⟩, ⟨vk, vn, vf, vs⟩, P⟩) (w.heap.size + 1) 62 #[.int .i64 k, .string ⟨#[102, 97, 108, 115, 101]⟩, .int .i64 vk, .int .i64 vn, .int .u64 (vf : Int), .string vs, .int .i64 (P : Int)] := (Bx.newB (by simp)).drew
 go_enter Tryz.func41, Tryz.ntmps41
 go_wp2_with fail
 go_region
 go_wp2_with (first
  | (go_at_call 16; refine (dis_at hb3 _ hP2).mono ?_; rintro e w3 ⟨rfl, hk3, hP3⟩; have kk3 := kk2.trans hk3; have hs3 := kk3.size; have br3 := Bx.kp br2 hk3 (by omega); have lr3 := br3.lt; have bt3 : Bx w3 (w.heap.size + 1) 62 #[.int .i64 k, .string ⟨#[102, 97, 108, 115, 101]⟩, .int .i64 vk, .int .i64 vn, .int .u64 (vf : Int), .string vs, .int .i64 (P : Int)] := Bx.kp bt2 hk3 (by omega); have lt3 := bt3.lt; have ct3_0 : w3.cell? ⟨w.heap.size + 1, 0, none⟩ = some (.int .i64 k) := bt3.cell 0 _ rfl; have ct3_1 : w3.cell? ⟨w.heap.size + 1, 1, none⟩ = some (.string ⟨#[102, 97, 108, 115, 101]⟩) := bt3.cell 1 _ rfl; have ct3_2 : w3.cell? ⟨w.heap.size + 1, 2, none⟩ = some (.int .i64 vk) := bt3.cell 2 _ rfl; have ct3_3 : w3.cell? ⟨w.heap.size + 1, 3, none⟩ = some (.int .i64 vn) := bt3.cell 3 _ rfl; have ct3_4 : w3.cell? ⟨w.heap.size + 1, 4, none⟩ = some (.int .u64 (vf : Int)) := bt3.cell 4 _ rfl; have ct3_5 : w3.cell? ⟨w.heap.size + 1, 5, none⟩ = some (.string vs) := bt3.cell 5 _ rfl; have ct3_6 : w3.cell? ⟨w.heap.size + 1, 6, none⟩ = some (.int .i64 (P : Int)) := bt3.cell 6 _ rfl; have cr3_0 := br3.f0; have fr3_0 := br3.open 0; have cr3_1 := br3.f1; have fr3_1 := br3.open 1; have cr3_2 := br3.f2; have fr3_2 := br3.open 2; have cr3_3 := br3.f3; have fr3_3 := br3.open 3; have p1_3 : w3.cell? ⟨g, 1, none⟩ = some (.int .i64 (S.i : Int)) := hP3.box.cell 1 _ rfl; have z1_3 := hP3.box.open 1; have hj1_3 : S.i + 1 < l.length := isD_lt (fun i x h => (hE i x h).1) hP3.lt hb3; have hii3 : (S.i : Int) + 1 ≤ 1000 := (by have := hP3.sm; omega); have ngr3 : ¬ g = w.heap.size := (by omega); have ngt3 : ¬ g = w.heap.size + 1 := (by omega); have gnr3 : ¬ w.heap.size = g := (by omega); have gnt3 : ¬ w.heap.size + 1 = g := (by omega); clear hb3)
  | (go_at_call 16; refine (dis_at hb2 _ hP1).mono ?_; rintro e w2 ⟨rfl, hk2, hP2⟩; have kk2 := kk1.trans hk2; have hs2 := kk2.size; have br2 := Bx.kp br1 hk2 (by omega); have lr2 := br2.lt; have bt2 : Bx w2 (w.heap.size + 1) 62 #[.int .i64 k, .string ⟨#[102, 97, 108, 115, 101]⟩, .int .i64 vk, .int .i64 vn, .int .u64 (vf : Int), .string vs, .int .i64 (P : Int)] := Bx.kp bt1 hk2 (by omega); have lt2 := bt2.lt; have ngr2 : ¬ g = w.heap.size := (by omega); have ngt2 : ¬ g = w.heap.size + 1 := (by omega); have gnr2 : ¬ w.heap.size = g := (by omega); have gnt2 : ¬ w.heap.size + 1 = g := (by omega); clear hb2)
  | (go_at_call 16; refine (dis_at hb1 _ hP0).mono ?_; rintro e w1 ⟨rfl, hk1, hP1⟩; have kk1 := hk0.trans hk1; have hs1 := kk1.size; have br1 := Bx.kp br0 hk1 (by omega); have lr1 := br1.lt; have bt1 : Bx w1 (w.heap.size + 1) 62 #[.int .i64 k, .string ⟨#[102, 97, 108, 115, 101]⟩, .int .i64 vk, .int .i64 vn, .int .u64 (vf : Int), .string vs, .int .i64 (P : Int)] := Bx.kp bt0 hk1 (by omega); have lt1 := bt1.lt; have ngr1 : ¬ g = w.heap.size := (by omega); have ngt1 : ¬ g = w.heap.size + 1 := (by omega); have gnr1 : ¬ w.heap.size = g := (by omega); have gnt1 : ¬ w.heap.size + 1 = g := (by omega); clear hb1))
 refine bodyPost_ret (v := .agg #[.int .i64 1, .int .i64 0, .int .u64 0, .string ⟨#[]⟩]) (by simp [results, Tryz.results41, go_sem, cr3_0, cr3_1, cr3_2, cr3_3, lr3, ngr3, gnr3]) rfl ?_
 rw [HO.out]
 exact ⟨(kp_alloc (kp_sets (kp_setG kk3 1 (.int .i64 ((S.i : Int) + 1))) (by omega) 0 [.int .i64 1, .int .i64 0, .int .u64 0, .string ⟨#[]⟩]) _), (Nat.le_succ_of_le (Nat.le_refl S.i)), ((DAt.sets (hP3.inc hj1_3) (br3.other (by omega) 1 (.int .i64 ((S.i : Int) + 1))) (by decide) (by omega) 0 [.int .i64 1, .int .i64 0, .int .u64 0, .string ⟨#[]⟩]).alloc _), _, rfl, rfl⟩
theorem dvalue_bad_w0 {g : Nat} {v : Value} {l : List Tok} (hE : EndK l) {S : DS} {k : Int} {t : ByteArray} {vk vn : Int} {vf : Nat} {vs : ByteArray} {P : Nat} (hX : tokAt l S.i = ⟨k, t, ⟨vk, vn, vf, vs⟩, P⟩) (hb0 : S.bad = true) (hb1 : isD l ⟨#[110, 117, 108, 108]⟩ S = false) (hb2 : isD l ⟨#[116, 114, 117, 101]⟩ S = false) (hb3 : isD l ⟨#[102, 97, 108, 115, 101]⟩ S = false) (w : World) (hP : DAt g v l S w) :
  Calls Tryz.prog 41 #[.pointer (some ⟨g, 0, none⟩)] w (DTells g v l S w VV (valueD l S)) := by
 have hg0 := hP.g_lt
 have HO : Hid (valueD l S = (⟨0, 0, 0, ⟨#[]⟩⟩, (S.fail l))) := by
  unfold Hid
  simp only [valueD, bndD, optD, retD, incD, failD, hb1, Bool.false_eq_true, if_false, hb2, hb3, hb0, true_or, if_true]
 have hi := hP.lt
 have hsm := hP.sm
 have hE2 := (hE S.i _ hP.tok).1
 obtain ⟨gt, cap, rfl, hgt, hne, ⟨p0, p1, p2, p3, p4⟩, d0, d1, d2, d3, d4, d5, d6⟩ := dat_cells hP
 rw [hX] at d0 d1 d2 d3 d4 d5 d6 hE2
 simp only at d0 d1 d2 d3 d4 d5 d6 hE2
 rw [hb0] at p2
 have hP0 : DAt g (.slice (some ⟨gt, 0, none⟩) l.length cap) l S (tokW (w.alloc (.cells #[.int .i64 0, .int .i64 0, .int .u64 0, .string ⟨#[]⟩] 46)) ⟨k, t, ⟨vk, vn, vf, vs⟩, P⟩) := ((hP.alloc _).alloc _).drew
 have hk0 : w.grownBy (tokW (w.alloc (.cells #[.int .i64 0, .int .i64 0, .int .u64 0, .string ⟨#[]⟩] 46)) ⟨k, t, ⟨vk, vn, vf, vs⟩, P⟩) (some g) := kp_drew (kp_alloc (kp_alloc (gr w g) _) _)
 have br0 : Bx (tokW (w.alloc (.cells #[iZ, iZ, .int .u64 0, sZ] 46)) ⟨k, t, ⟨vk, vn, vf, vs⟩, P⟩) w.heap.size 46 #[.int .i64 0, .int .i64 0, .int .u64 0, .string ⟨#[]⟩] := ((Bx.new w _ _).alloc _).drew
 have bt0 : Bx (tokW (w.alloc (.cells #[iZ, iZ, .int .u64 0, sZ] 46)) ⟨k, t, ⟨vk, vn, vf, vs⟩, P⟩) (w.heap.size + 1) 62 #[.int .i64 k, .string t, .int .i64 vk, .int .i64 vn, .int .u64 (vf : Int), .string vs, .int .i64 (P : Int)] := (Bx.newB (by simp)).drew
 go_enter Tryz.func41, Tryz.ntmps41
 go_wp2_with fail
 go_region
 go_wp2_with (first
  | (go_at_call 22; refine (dfail_any _ hP3).mono ?_; intro e w4 hT4; obtain ⟨u4, rfl, hk4, hj4, hP4, hV4⟩ := dtells hT4 rfl; have kk4 := kk3.trans hk4; have hs4 := kk4.size; have br4 := Bx.kp br3 hk4 (by omega); have lr4 := br4.lt; have bt4 := Bx.kp bt3 hk4 (by omega); have lt4 := bt4.lt; have cr4_0 := br4.f0; have fr4_0 := br4.open 0; have cr4_1 := br4.f1; have fr4_1 := br4.open 1; have cr4_2 := br4.f2; have fr4_2 := br4.open 2; have cr4_3 := br4.f3; have fr4_3 := br4.open 3; have ngr4 : ¬ g = w.heap.size := (by omega); have ngt4 : ¬ g = w.heap.size + 1 := (by omega); have gnr4 : ¬ w.heap.size = g := (by omega); have gnt4 : ¬ w.heap.size + 1 = g := (by omega))
  | (go_at_call 16; refine (dis_at hb3 _ hP2).mono ?_; rintro e w3 ⟨rfl, hk3, hP3⟩; have kk3 := kk2.trans hk3; have hs3 := kk3.size; have br3 := Bx.kp br2 hk3 (by omega); have lr3 := br3.lt; have bt3 := Bx.kp bt2 hk3 (by omega); have lt3 := bt3.lt; have ct3_0 : w3.cell? ⟨w.heap.size + 1, 0, none⟩ = some (.int .i64 k) := bt3.cell 0 _ rfl; have ct3_1 : w3.cell? ⟨w.heap.size + 1, 1, none⟩ = some (.string t) := bt3.cell 1 _ rfl; have ct3_2 : w3.cell? ⟨w.heap.size + 1, 2, none⟩ = some (.int .i64 vk) := bt3.cell 2 _ rfl; have ct3_3 : w3.cell? ⟨w.heap.size + 1, 3, none⟩ = some (.int .i64 vn) := bt3.cell 3 _ rfl; have ct3_4 : w3.cell? ⟨w.heap.size + 1, 4, none⟩ = some (.int .u64 (vf : Int)) := bt3.cell 4 _ rfl; have ct3_5 : w3.cell? ⟨w.heap.size + 1, 5, none⟩ = some (.string vs) := bt3.cell 5 _ rfl; have ct3_6 : w3.cell? ⟨w.heap.size + 1, 6, none⟩ = some (.int .i64 (P : Int)) := bt3.cell 6 _ rfl; have p2_3 : w3.cell? ⟨g, 2, none⟩ = some (.bool true) := (by rw [← hb0]; exact hP3.box.cell 2 _ rfl); have ngr3 : ¬ g = w.heap.size := (by omega); have ngt3 : ¬ g = w.heap.size + 1 := (by omega); have gnr3 : ¬ w.heap.size = g := (by omega); have gnt3 : ¬ w.heap.size + 1 = g := (by omega); clear hb3)
  | (go_at_call 16; refine (dis_at hb2 _ hP1).mono ?_; rintro e w2 ⟨rfl, hk2, hP2⟩; have kk2 := kk1.trans hk2; have hs2 := kk2.size; have br2 := Bx.kp br1 hk2 (by omega); have lr2 := br2.lt; have bt2 := Bx.kp bt1 hk2 (by omega); have lt2 := bt2.lt; have ngr2 : ¬ g = w.heap.size := (by omega); have ngt2 : ¬ g = w.heap.size + 1 := (by omega); have gnr2 : ¬ w.heap.size = g := (by omega); have gnt2 : ¬ w.heap.size + 1 = g := (by omega); clear hb2)
  | (go_at_call 16; refine (dis_at hb1 _ hP0).mono ?_; rintro e w1 ⟨rfl, hk1, hP1⟩; have kk1 := hk0.trans hk1; have hs1 := kk1.size; have br1 := Bx.kp br0 hk1 (by omega); have lr1 := br1.lt; have bt1 := Bx.kp bt0 hk1 (by omega); have lt1 := bt1.lt; have ngr1 : ¬ g = w.heap.size := (by omega); have ngt1 : ¬ g = w.heap.size + 1 := (by omega); have gnr1 : ¬ w.heap.size = g := (by omega); have gnt1 : ¬ w.heap.size + 1 = g := (by omega); clear hb1))
 refine bodyPost_ret (v := .agg #[.int .i64 0, .int .i64 0, .int .u64 0, .string ⟨#[]⟩]) (by simp [results, Tryz.results41, go_sem, cr4_0, cr4_1, cr4_2, cr4_3, lr4, ngr4, gnr4]) rfl ?_
 rw [HO.out]
 exact ⟨(kp_sets kk4 (by omega) 0 [.int .i64 0, .int .i64 0, .int .u64 0, .string ⟨#[]⟩]), (Nat.le_trans (Nat.le_refl S.i) hj4), (DAt.sets hP4 br4 (by decide) (by omega) 0 [.int .i64 0, .int .i64 0, .int .u64 0, .string ⟨#[]⟩]), _, rfl, rfl⟩
theorem dvalue_not_w0 {g : Nat} {v : Value} {l : List Tok} (hE : EndK l) {S : DS} {k : Int} {t : ByteArray} {vk vn : Int} {vf : Nat} {vs : ByteArray} {P : Nat} (hX : tokAt l S.i = ⟨k, t, ⟨vk, vn, vf, vs⟩, P⟩) (hb0 : S.bad = false) (h3 : ¬ k = 3) (hb1 : isD l ⟨#[110, 117, 108, 108]⟩ S = false) (hb2 : isD l ⟨#[116, 114, 117, 101]⟩ S = false) (hb3 : isD l ⟨#[102, 97, 108, 115, 101]⟩ S = false) (w : World) (hP : DAt g v l S w) :
  Calls Tryz.prog 41 #[.pointer (some ⟨g, 0, none⟩)] w (DTells g v l S w VV (valueD l S)) := by
 have hg0 := hP.g_lt
 have HO : Hid (valueD l S = (⟨0, 0, 0, ⟨#[]⟩⟩, (S.fail l))) := by
  unfold Hid
  simp only [valueD, bndD, optD, retD, incD, failD, hb1, Bool.false_eq_true, if_false, hb2, hb3, hX, hb0, h3, ne_eq, not_false_eq_true, or_true, if_true]
 have hi := hP.lt
 have hsm := hP.sm
 have hE2 := (hE S.i _ hP.tok).1
 obtain ⟨gt, cap, rfl, hgt, hne, ⟨p0, p1, p2, p3, p4⟩, d0, d1, d2, d3, d4, d5, d6⟩ := dat_cells hP
 rw [hX] at d0 d1 d2 d3 d4 d5 d6 hE2
 simp only at d0 d1 d2 d3 d4 d5 d6 hE2
 rw [hb0] at p2
 have e3 : (k == 3) = false := beq_eq_false_iff_ne.2 h3
 have hP0 : DAt g (.slice (some ⟨gt, 0, none⟩) l.length cap) l S (tokW (w.alloc (.cells #[.int .i64 0, .int .i64 0, .int .u64 0, .string ⟨#[]⟩] 46)) ⟨k, t, ⟨vk, vn, vf, vs⟩, P⟩) := ((hP.alloc _).alloc _).drew
 have hk0 : w.grownBy (tokW (w.alloc (.cells #[.int .i64 0, .int .i64 0, .int .u64 0, .string ⟨#[]⟩] 46)) ⟨k, t, ⟨vk, vn, vf, vs⟩, P⟩) (some g) := kp_drew (kp_alloc (kp_alloc (gr w g) _) _)
 have br0 : Bx (tokW (w.alloc (.cells #[iZ, iZ, .int .u64 0, sZ] 46)) ⟨k, t, ⟨vk, vn, vf, vs⟩, P⟩) w.heap.size 46 #[.int .i64 0, .int .i64 0, .int .u64 0, .string ⟨#[]⟩] := ((Bx.new w _ _).alloc _).drew
 have bt0 : Bx (tokW (w.alloc (.cells #[iZ, iZ, .int .u64 0, sZ] 46)) ⟨k, t, ⟨vk, vn, vf, vs⟩, P⟩) (w.heap.size + 1) 62 #[.int .i64 k, .string t, .int .i64 vk, .int .i64 vn, .int .u64 (vf : Int), .string vs, .int .i64 (P : Int)] := (Bx.newB (by simp)).drew
 go_enter Tryz.func41, Tryz.ntmps41
 go_wp2_with fail
 go_region
 go_wp2_with (first
  | (go_at_call 22; refine (dfail_any _ hP3).mono ?_; intro e w4 hT4; obtain ⟨u4, rfl, hk4, hj4, hP4, hV4⟩ := dtells hT4 rfl; have kk4 := kk3.trans hk4; have hs4 := kk4.size; have br4 := Bx.kp br3 hk4 (by omega); have lr4 := br4.lt; have bt4 := Bx.kp bt3 hk4 (by omega); have lt4 := bt4.lt; have cr4_0 := br4.f0; have fr4_0 := br4.open 0; have cr4_1 := br4.f1; have fr4_1 := br4.open 1; have cr4_2 := br4.f2; have fr4_2 := br4.open 2; have cr4_3 := br4.f3; have fr4_3 := br4.open 3; have ngr4 : ¬ g = w.heap.size := (by omega); have ngt4 : ¬ g = w.heap.size + 1 := (by omega); have gnr4 : ¬ w.heap.size = g := (by omega); have gnt4 : ¬ w.heap.size + 1 = g := (by omega))
  | (go_at_call 16; refine (dis_at hb3 _ hP2).mono ?_; rintro e w3 ⟨rfl, hk3, hP3⟩; have kk3 := kk2.trans hk3; have hs3 := kk3.size; have br3 := Bx.kp br2 hk3 (by omega); have lr3 := br3.lt; have bt3 := Bx.kp bt2 hk3 (by omega); have lt3 := bt3.lt; have ct3_0 : w3.cell? ⟨w.heap.size + 1, 0, none⟩ = some (.int .i64 k) := bt3.cell 0 _ rfl; have ct3_1 : w3.cell? ⟨w.heap.size + 1, 1, none⟩ = some (.string t) := bt3.cell 1 _ rfl; have ct3_2 : w3.cell? ⟨w.heap.size + 1, 2, none⟩ = some (.int .i64 vk) := bt3.cell 2 _ rfl; have ct3_3 : w3.cell? ⟨w.heap.size + 1, 3, none⟩ = some (.int .i64 vn) := bt3.cell 3 _ rfl; have ct3_4 : w3.cell? ⟨w.heap.size + 1, 4, none⟩ = some (.int .u64 (vf : Int)) := bt3.cell 4 _ rfl; have ct3_5 : w3.cell? ⟨w.heap.size + 1, 5, none⟩ = some (.string vs) := bt3.cell 5 _ rfl; have ct3_6 : w3.cell? ⟨w.heap.size + 1, 6, none⟩ = some (.int .i64 (P : Int)) := bt3.cell 6 _ rfl; have p2_3 : w3.cell? ⟨g, 2, none⟩ = some (.bool false) := (by rw [← hb0]; exact hP3.box.cell 2 _ rfl); have ngr3 : ¬ g = w.heap.size := (by omega); have ngt3 : ¬ g = w.heap.size + 1 := (by omega); have gnr3 : ¬ w.heap.size = g := (by omega); have gnt3 : ¬ w.heap.size + 1 = g := (by omega); clear hb3)
  | (go_at_call 16; refine (dis_at hb2 _ hP1).mono ?_; rintro e w2 ⟨rfl, hk2, hP2⟩; have kk2 := kk1.trans hk2; have hs2 := kk2.size; have br2 := Bx.kp br1 hk2 (by omega); have lr2 := br2.lt; have bt2 := Bx.kp bt1 hk2 (by omega); have lt2 := bt2.lt; have ngr2 : ¬ g = w.heap.size := (by omega); have ngt2 : ¬ g = w.heap.size + 1 := (by omega); have gnr2 : ¬ w.heap.size = g := (by omega); have gnt2 : ¬ w.heap.size + 1 = g := (by omega); clear hb2)
  | (go_at_call 16; refine (dis_at hb1 _ hP0).mono ?_; rintro e w1 ⟨rfl, hk1, hP1⟩; have kk1 := hk0.trans hk1; have hs1 := kk1.size; have br1 := Bx.kp br0 hk1 (by omega); have lr1 := br1.lt; have bt1 := Bx.kp bt0 hk1 (by omega); have lt1 := bt1.lt; have ngr1 : ¬ g = w.heap.size := (by omega); have ngt1 : ¬ g = w.heap.size + 1 := (by omega); have gnr1 : ¬ w.heap.size = g := (by omega); have gnt1 : ¬ w.heap.size + 1 = g := (by omega); clear hb1))
 refine bodyPost_ret (v := .agg #[.int .i64 0, .int .i64 0, .int .u64 0, .string ⟨#[]⟩]) (by simp [results, Tryz.results41, go_sem, cr4_0, cr4_1, cr4_2, cr4_3, lr4, ngr4, gnr4]) rfl ?_
 rw [HO.out]
 exact ⟨(kp_sets kk4 (by omega) 0 [.int .i64 0, .int .i64 0, .int .u64 0, .string ⟨#[]⟩]), (Nat.le_trans (Nat.le_refl S.i) hj4), (DAt.sets hP4 br4 (by decide) (by omega) 0 [.int .i64 0, .int .i64 0, .int .u64 0, .string ⟨#[]⟩]), _, rfl, rfl⟩
theorem dvalue_yes_w0 {g : Nat} {v : Value} {l : List Tok} (hE : EndK l) {S : DS} {t : ByteArray} {vk vn : Int} {vf : Nat} {vs : ByteArray} {P : Nat} (hX : tokAt l S.i = ⟨3, t, ⟨vk, vn, vf, vs⟩, P⟩) (hb0 : S.bad = false) (hb1 : isD l ⟨#[110, 117, 108, 108]⟩ S = false) (hb2 : isD l ⟨#[116, 114, 117, 101]⟩ S = false) (hb3 : isD l ⟨#[102, 97, 108, 115, 101]⟩ S = false) (w : World) (hP : DAt g v l S w) :
  Calls Tryz.prog 41 #[.pointer (some ⟨g, 0, none⟩)] w (DTells g v l S w VV (valueD l S)) := by
 have hg0 := hP.g_lt
 have HO : Hid (valueD l S = (⟨vk, vn, vf, vs⟩, S.inc)) := by
  unfold Hid
  simp only [valueD, bndD, optD, retD, incD, failD, hb1, Bool.false_eq_true, if_false, hb2, hb3, hX, hb0, ne_eq, not_true_eq_false, or_self]
 have hi := hP.lt
 have hsm := hP.sm
 have hE2 := (hE S.i _ hP.tok).1
 obtain ⟨gt, cap, rfl, hgt, hne, ⟨p0, p1, p2, p3, p4⟩, d0, d1, d2, d3, d4, d5, d6⟩ := dat_cells hP
 rw [hX] at d0 d1 d2 d3 d4 d5 d6 hE2
 simp only at d0 d1 d2 d3 d4 d5 d6 hE2
 rw [hb0] at p2
 have hP0 : DAt g (.slice (some ⟨gt, 0, none⟩) l.length cap) l S (tokW (w.alloc (.cells #[.int .i64 0, .int .i64 0, .int .u64 0, .string ⟨#[]⟩] 46)) ⟨3, t, ⟨vk, vn, vf, vs⟩, P⟩) := ((hP.alloc _).alloc _).drew
 have hk0 : w.grownBy (tokW (w.alloc (.cells #[.int .i64 0, .int .i64 0, .int .u64 0, .string ⟨#[]⟩] 46)) ⟨3, t, ⟨vk, vn, vf, vs⟩, P⟩) (some g) := kp_drew (kp_alloc (kp_alloc (gr w g) _) _)
 have br0 : Bx (tokW (w.alloc (.cells #[iZ, iZ, .int .u64 0, sZ] 46)) ⟨3, t, ⟨vk, vn, vf, vs⟩, P⟩) w.heap.size 46 #[.int .i64 0, .int .i64 0, .int .u64 0, .string ⟨#[]⟩] := ((Bx.new w _ _).alloc _).drew
 have bt0 : Bx (tokW (w.alloc (.cells #[iZ, iZ, .int .u64 0, sZ] 46)) ⟨3, t, ⟨vk, vn, vf, vs⟩, P⟩) (w.heap.size + 1) 62 #[.int .i64 3, .string t, .int .i64 vk, .int .i64 vn, .int .u64 (vf : Int), .string vs, .int .i64 (P : Int)] := (Bx.newB (by simp)).drew
 go_enter Tryz.func41, Tryz.ntmps41
 go_wp2_with fail
 go_region
 go_wp2_with (first
  | (go_at_call 16; refine (dis_at hb3 _ hP2).mono ?_; rintro e w3 ⟨rfl, hk3, hP3⟩; have kk3 := kk2.trans hk3; have hs3 := kk3.size; have br3 := Bx.kp br2 hk3 (by omega); have lr3 := br3.lt; have bt3 := Bx.kp bt2 hk3 (by omega); have lt3 := bt3.lt; have ct3_0 : w3.cell? ⟨w.heap.size + 1, 0, none⟩ = some (.int .i64 3) := bt3.cell 0 _ rfl; have ct3_1 : w3.cell? ⟨w.heap.size + 1, 1, none⟩ = some (.string t) := bt3.cell 1 _ rfl; have ct3_2 : w3.cell? ⟨w.heap.size + 1, 2, none⟩ = some (.int .i64 vk) := bt3.cell 2 _ rfl; have ct3_3 : w3.cell? ⟨w.heap.size + 1, 3, none⟩ = some (.int .i64 vn) := bt3.cell 3 _ rfl; have ct3_4 : w3.cell? ⟨w.heap.size + 1, 4, none⟩ = some (.int .u64 (vf : Int)) := bt3.cell 4 _ rfl; have ct3_5 : w3.cell? ⟨w.heap.size + 1, 5, none⟩ = some (.string vs) := bt3.cell 5 _ rfl; have ct3_6 : w3.cell? ⟨w.heap.size + 1, 6, none⟩ = some (.int .i64 (P : Int)) := bt3.cell 6 _ rfl; have cr3_0 := br3.f0; have fr3_0 := br3.open 0; have cr3_1 := br3.f1; have fr3_1 := br3.open 1; have cr3_2 := br3.f2; have fr3_2 := br3.open 2; have cr3_3 := br3.f3; have fr3_3 := br3.open 3; have p2_3 : w3.cell? ⟨g, 2, none⟩ = some (.bool false) := (by rw [← hb0]; exact hP3.box.cell 2 _ rfl); have p1_3 : w3.cell? ⟨g, 1, none⟩ = some (.int .i64 (S.i : Int)) := hP3.box.cell 1 _ rfl; have z1_3 := hP3.box.open 1; have hj1_3 : S.i + 1 < l.length := (hE2.resolve_right (fun h => absurd h.1 (by decide))); have hii3 : (S.i : Int) + 1 ≤ 1000 := (by have := hP3.sm; omega); have ngr3 : ¬ g = w.heap.size := (by omega); have ngt3 : ¬ g = w.heap.size + 1 := (by omega); have gnr3 : ¬ w.heap.size = g := (by omega); have gnt3 : ¬ w.heap.size + 1 = g := (by omega); clear hb3)
  | (go_at_call 16; refine (dis_at hb2 _ hP1).mono ?_; rintro e w2 ⟨rfl, hk2, hP2⟩; have kk2 := kk1.trans hk2; have hs2 := kk2.size; have br2 := Bx.kp br1 hk2 (by omega); have lr2 := br2.lt; have bt2 := Bx.kp bt1 hk2 (by omega); have lt2 := bt2.lt; have ngr2 : ¬ g = w.heap.size := (by omega); have ngt2 : ¬ g = w.heap.size + 1 := (by omega); have gnr2 : ¬ w.heap.size = g := (by omega); have gnt2 : ¬ w.heap.size + 1 = g := (by omega); clear hb2)
  | (go_at_call 16; refine (dis_at hb1 _ hP0).mono ?_; rintro e w1 ⟨rfl, hk1, hP1⟩; have kk1 := hk0.trans hk1; have hs1 := kk1.size; have br1 := Bx.kp br0 hk1 (by omega); have lr1 := br1.lt; have bt1 := Bx.kp bt0 hk1 (by omega); have lt1 := bt1.lt; have ngr1 : ¬ g = w.heap.size := (by omega); have ngt1 : ¬ g = w.heap.size + 1 := (by omega); have gnr1 : ¬ w.heap.size = g := (by omega); have gnt1 : ¬ w.heap.size + 1 = g := (by omega); clear hb1))
 refine bodyPost_ret (v := .agg #[.int .i64 vk, .int .i64 vn, .int .u64 (vf : Int), .string vs]) (by simp [results, Tryz.results41, go_sem, cr3_0, cr3_1, cr3_2, cr3_3, lr3, ngr3, gnr3]) rfl ?_
 rw [HO.out]
 exact ⟨(kp_sets (kp_setG kk3 1 (.int .i64 ((S.i : Int) + 1))) (by omega) 0 [.int .i64 vk, .int .i64 vn, .int .u64 (vf : Int), .string vs]), (Nat.le_succ_of_le (Nat.le_refl S.i)), (DAt.sets (hP3.inc hj1_3) (br3.other (by omega) 1 (.int .i64 ((S.i : Int) + 1))) (by decide) (by omega) 0 [.int .i64 vk, .int .i64 vn, .int .u64 (vf : Int), .string vs]), _, rfl, rfl⟩
theorem isD_text {l : List Tok} {s : ByteArray} {S : DS} (h : isD l s S = true) : (tokAt l S.i).t = s := by
 unfold isD at h
 simp only [Bool.and_eq_true, decide_eq_true_eq] at h
 exact h.2.2
theorem dvalue_any {g : Nat} {v : Value} {l : List Tok} (hE : EndK l) {S : DS} (w : World) (hP : DAt g v l S w) :
  Calls Tryz.prog 41 #[.pointer (some ⟨g, 0, none⟩)] w (DTells g v l S w VV (valueD l S)) := by
 rcases hX : tokAt l S.i with ⟨k, t, ⟨vk, vn, vf, vs⟩, P⟩
 rcases Bool.eq_false_or_eq_true (isD l ⟨#[110, 117, 108, 108]⟩ S) with hb1 | hb1
 ·exact dvalue_null_w0 hE hX hb1 w hP
 rcases Bool.eq_false_or_eq_true (isD l ⟨#[116, 114, 117, 101]⟩ S) with hb2 | hb2
 ·have ht := isD_text hb2
  rw [hX] at ht
  obtain rfl : t = ⟨#[116, 114, 117, 101]⟩ := ht
  exact dvalue_true_w0 hE hX hb1 hb2 w hP
 rcases Bool.eq_false_or_eq_true (isD l ⟨#[102, 97, 108, 115, 101]⟩ S) with hb3 | hb3
 ·have ht := isD_text hb3
  rw [hX] at ht
  obtain rfl : t = ⟨#[102, 97, 108, 115, 101]⟩ := ht
  exact dvalue_false_w0 hE hX hb1 hb2 hb3 w hP
 cases hb0 : S.bad with
 | true => exact dvalue_bad_w0 hE hX hb0 hb1 hb2 hb3 w hP
 | false =>
  by_cases h3 : k = 3
  ·subst h3
   exact dvalue_yes_w0 hE hX hb0 hb1 hb2 hb3 w hP
  ·exact dvalue_not_w0 hE hX hb0 h3 hb1 hb2 hb3 w hP
theorem dmost_any {g : Nat} {v : Value} {l : List Tok} {S : DS} (n : Nat) (w : World) (hP : DAt g v l S w) :
  Calls Tryz.prog 39 #[.pointer (some ⟨g, 0, none⟩), .int .i64 (n : Int)] w (DTells g v l S w VU (mostD n S)) := by
 have p4 : w.cell? ⟨g, 4, none⟩ = some (.bool S.long) := hP.box.cell 4 _ rfl
 have z4 := hP.box.open 4
 by_cases h8 : 8 < n
 ·have h8i : (8 : Int) < (n : Int) := by omega
  have HO : Hid (mostD n S = ((), { S with long := true })) := by unfold Hid mostD DS.many; rw [if_pos (by simp [h8])]
  go_enter Tryz.func39, Tryz.ntmps39
  go_wp2
  go_end0
  rw [HO.out]
  have hK := kp_setG (gr w g) 4 (.bool true)
  exact ⟨hK, Nat.le_refl _, hP.of_kp hK (hP.box.set 4 (.bool true)) hP.lt, _, rfl, rfl⟩
 ·have h8i : ¬ (8 : Int) < (n : Int) := by omega
  have HO : Hid (mostD n S = ((), S)) := by unfold Hid mostD DS.many; rw [if_neg (by simp [h8])]
  go_enter Tryz.func39, Tryz.ntmps39
  go_wp2
  go_end0
  rw [HO.out]
  exact ⟨World.grownBy.refl w _, Nat.le_refl _, hP, _, rfl, rfl⟩
def Num.kindN (l : List Tok) : Nat → Dr Int
 | 0 => bndD (failD l) fun _ => retD 0
 | 1 => optD l ⟨#[116, 101, 120, 116]⟩ (bndD incD fun _ => retD 5) (kindN l 0)
 | 2 => optD l ⟨#[98, 121, 116, 101, 115]⟩ (bndD incD fun _ => retD 4) (kindN l 1)
 | 3 => optD l ⟨#[102, 108, 111, 97, 116]⟩ (bndD incD fun _ => retD 3) (kindN l 2)
 | 4 => optD l ⟨#[105, 110, 116]⟩ (bndD incD fun _ => retD 2) (kindN l 3)
 | 5 => optD l ⟨#[98, 111, 111, 108]⟩ (bndD incD fun _ => retD 1) (kindN l 4)
 | _ + 6 => retD 0
theorem dkind_any {g : Nat} {v : Value} {l : List Tok} (hE : EndK l) {S : DS} (w : World) (hP : DAt g v l S w) :
  Calls Tryz.prog 38 #[.pointer (some ⟨g, 0, none⟩)] w (DTells g v l S w VI (kindD l S)) := by
 have hg0 := hP.g_lt
 have hsm := hP.sm
 have hkd : Hid (kindD l S = kindN l 5 S) := by
  unfold Hid kindD
  simp only [kindN]
 have hrow : Bx (w.alloc (.cells #[.string ⟨#[]⟩, .string ⟨#[98, 111, 111, 108]⟩, .string ⟨#[105, 110, 116]⟩, .string ⟨#[102, 108, 111, 97, 116]⟩, .string ⟨#[98, 121, 116, 101, 115]⟩, .string ⟨#[116, 101, 120, 116]⟩] 9)) w.heap.size 9 #[.string ⟨#[]⟩, .string ⟨#[98, 111, 111, 108]⟩, .string ⟨#[105, 110, 116]⟩, .string ⟨#[102, 108, 111, 97, 116]⟩, .string ⟨#[98, 121, 116, 101, 115]⟩, .string ⟨#[116, 101, 120, 116]⟩] := Bx.newB rfl
 have hP0 := hP.alloc (.cells #[.string ⟨#[]⟩, .string ⟨#[98, 111, 111, 108]⟩, .string ⟨#[105, 110, 116]⟩, .string ⟨#[102, 108, 111, 97, 116]⟩, .string ⟨#[98, 121, 116, 101, 115]⟩, .string ⟨#[116, 101, 120, 116]⟩] 9)
 have hk0 := kp_alloc (gr w g) (.cells #[.string ⟨#[]⟩, .string ⟨#[98, 111, 111, 108]⟩, .string ⟨#[105, 110, 116]⟩, .string ⟨#[102, 108, 111, 97, 116]⟩, .string ⟨#[98, 121, 116, 101, 115]⟩, .string ⟨#[116, 101, 120, 116]⟩] 9)
 go_enter Tryz.func38, Tryz.ntmps38
 go_wp2
 go_loopw [4] (fun i wr => ∃ j : Nat, j ≤ 5 ∧ i = .int .i64 ((6 - j : Nat) : Int) ∧ Hid (kindD l S = kindN l j S) ∧ Hid (DAt g v l S wr) ∧ Hid (w.grownBy wr (some g)) ∧ Hid (Bx wr w.heap.size 9 #[.string ⟨#[]⟩, .string ⟨#[98, 111, 111, 108]⟩, .string ⟨#[105, 110, 116]⟩, .string ⟨#[102, 108, 111, 97, 116]⟩, .string ⟨#[98, 121, 116, 101, 115]⟩, .string ⟨#[116, 101, 120, 116]⟩])) (fun i _ => 6 - (intOf i).toNat)
 case atStart => exact ⟨5, by omega, rfl, hkd, hP0, hk0, hrow⟩
 case round =>
  obtain ⟨j, hj, rfl, HD, HP, HK, HR⟩ := hrel
  match j, hj with
  | 1, _ =>
   have c : wr.cell? ⟨w.heap.size, 5, none⟩ = some (.string ⟨#[116, 101, 120, 116]⟩) := HR.out.cell 5 _ rfl
   have hl := HR.out.lt
   rcases Bool.eq_false_or_eq_true (isD l ⟨#[116, 101, 120, 116]⟩ S) with hb | hb
   ·have HO : Hid (kindD l S = (5, S.inc)) := by
     unfold Hid
     rw [HD.out]
     simp only [kindN, optD, bndD, incD, retD, hb, if_true]
    have hj1 := isD_lt (fun i x h => (hE i x h).1) hP.lt hb
    have hii : (S.i : Int) + 1 ≤ 1000 := by omega
    clear HD
    go_wp2_with (go_at_call 16; refine (dis_at hb _ HP.out).mono ?_; rintro e w1 ⟨rfl, hk1, hP1⟩; have p1 : w1.cell? ⟨g, 1, none⟩ = some (.int .i64 (S.i : Int)) := hP1.box.cell 1 _ rfl; have z1 := hP1.box.open 1)
    go_ret
    rw [HO.out]
    exact ⟨kp_setG (HK.out.trans hk1) 1 _, Nat.le_succ _, hP1.inc hj1, _, rfl, rfl⟩
   ·have HD2 : Hid (kindD l S = kindN l 0 S) := by
     unfold Hid
     rw [HD.out]
     simp only [kindN, optD, hb, Bool.false_eq_true, if_false]
    clear HD
    go_wp2_with (go_at_call 16; refine (dis_at hb _ HP.out).mono ?_; rintro e w1 ⟨rfl, hk1, hP1⟩)
    go_roundw
    case rel => exact ⟨0, by omega, by go_num, HD2, hP1, HK.out.trans hk1, HR.out.kp hk1 (by omega)⟩
    case measure => simp [intOf]
  | 2, _ =>
   have c : wr.cell? ⟨w.heap.size, 4, none⟩ = some (.string ⟨#[98, 121, 116, 101, 115]⟩) := HR.out.cell 4 _ rfl
   have hl := HR.out.lt
   rcases Bool.eq_false_or_eq_true (isD l ⟨#[98, 121, 116, 101, 115]⟩ S) with hb | hb
   ·have HO : Hid (kindD l S = (4, S.inc)) := by
     unfold Hid
     rw [HD.out]
     simp only [kindN, optD, bndD, incD, retD, hb, if_true]
    have hj1 := isD_lt (fun i x h => (hE i x h).1) hP.lt hb
    have hii : (S.i : Int) + 1 ≤ 1000 := by omega
    clear HD
    go_wp2_with (go_at_call 16; refine (dis_at hb _ HP.out).mono ?_; rintro e w1 ⟨rfl, hk1, hP1⟩; have p1 : w1.cell? ⟨g, 1, none⟩ = some (.int .i64 (S.i : Int)) := hP1.box.cell 1 _ rfl; have z1 := hP1.box.open 1)
    go_ret
    rw [HO.out]
    exact ⟨kp_setG (HK.out.trans hk1) 1 _, Nat.le_succ _, hP1.inc hj1, _, rfl, rfl⟩
   ·have HD2 : Hid (kindD l S = kindN l 1 S) := by
     unfold Hid
     rw [HD.out]
     simp only [kindN, optD, hb, Bool.false_eq_true, if_false]
    clear HD
    go_wp2_with (go_at_call 16; refine (dis_at hb _ HP.out).mono ?_; rintro e w1 ⟨rfl, hk1, hP1⟩)
    go_roundw
    case rel => exact ⟨1, by omega, by go_num, HD2, hP1, HK.out.trans hk1, HR.out.kp hk1 (by omega)⟩
    case measure => simp [intOf]
  | 3, _ =>
   have c : wr.cell? ⟨w.heap.size, 3, none⟩ = some (.string ⟨#[102, 108, 111, 97, 116]⟩) := HR.out.cell 3 _ rfl
   have hl := HR.out.lt
   rcases Bool.eq_false_or_eq_true (isD l ⟨#[102, 108, 111, 97, 116]⟩ S) with hb | hb
   ·have HO : Hid (kindD l S = (3, S.inc)) := by
     unfold Hid
     rw [HD.out]
     simp only [kindN, optD, bndD, incD, retD, hb, if_true]
    have hj1 := isD_lt (fun i x h => (hE i x h).1) hP.lt hb
    have hii : (S.i : Int) + 1 ≤ 1000 := by omega
    clear HD
    go_wp2_with (go_at_call 16; refine (dis_at hb _ HP.out).mono ?_; rintro e w1 ⟨rfl, hk1, hP1⟩; have p1 : w1.cell? ⟨g, 1, none⟩ = some (.int .i64 (S.i : Int)) := hP1.box.cell 1 _ rfl; have z1 := hP1.box.open 1)
    go_ret
    rw [HO.out]
    exact ⟨kp_setG (HK.out.trans hk1) 1 _, Nat.le_succ _, hP1.inc hj1, _, rfl, rfl⟩
   ·have HD2 : Hid (kindD l S = kindN l 2 S) := by
     unfold Hid
     rw [HD.out]
     simp only [kindN, optD, hb, Bool.false_eq_true, if_false]
    clear HD
    go_wp2_with (go_at_call 16; refine (dis_at hb _ HP.out).mono ?_; rintro e w1 ⟨rfl, hk1, hP1⟩)
    go_roundw
    case rel => exact ⟨2, by omega, by go_num, HD2, hP1, HK.out.trans hk1, HR.out.kp hk1 (by omega)⟩
    case measure => simp [intOf]
  | 4, _ =>
   have c : wr.cell? ⟨w.heap.size, 2, none⟩ = some (.string ⟨#[105, 110, 116]⟩) := HR.out.cell 2 _ rfl
   have hl := HR.out.lt
   rcases Bool.eq_false_or_eq_true (isD l ⟨#[105, 110, 116]⟩ S) with hb | hb
   ·have HO : Hid (kindD l S = (2, S.inc)) := by
     unfold Hid
     rw [HD.out]
     simp only [kindN, optD, bndD, incD, retD, hb, if_true]
    have hj1 := isD_lt (fun i x h => (hE i x h).1) hP.lt hb
    have hii : (S.i : Int) + 1 ≤ 1000 := by omega
    clear HD
    go_wp2_with (go_at_call 16; refine (dis_at hb _ HP.out).mono ?_; rintro e w1 ⟨rfl, hk1, hP1⟩; have p1 : w1.cell? ⟨g, 1, none⟩ = some (.int .i64 (S.i : Int)) := hP1.box.cell 1 _ rfl; have z1 := hP1.box.open 1)
    go_ret
    rw [HO.out]
    exact ⟨kp_setG (HK.out.trans hk1) 1 _, Nat.le_succ _, hP1.inc hj1, _, rfl, rfl⟩
   ·have HD2 : Hid (kindD l S = kindN l 3 S) := by
     unfold Hid
     rw [HD.out]
     simp only [kindN, optD, hb, Bool.false_eq_true, if_false]
    clear HD
    go_wp2_with (go_at_call 16; refine (dis_at hb _ HP.out).mono ?_; rintro e w1 ⟨rfl, hk1, hP1⟩)
    go_roundw
    case rel => exact ⟨3, by omega, by go_num, HD2, hP1, HK.out.trans hk1, HR.out.kp hk1 (by omega)⟩
    case measure => simp [intOf]
  | 5, _ =>
   have c : wr.cell? ⟨w.heap.size, 1, none⟩ = some (.string ⟨#[98, 111, 111, 108]⟩) := HR.out.cell 1 _ rfl
   have hl := HR.out.lt
   rcases Bool.eq_false_or_eq_true (isD l ⟨#[98, 111, 111, 108]⟩ S) with hb | hb
   ·have HO : Hid (kindD l S = (1, S.inc)) := by
     unfold Hid
     rw [HD.out]
     simp only [kindN, optD, bndD, incD, retD, hb, if_true]
    have hj1 := isD_lt (fun i x h => (hE i x h).1) hP.lt hb
    have hii : (S.i : Int) + 1 ≤ 1000 := by omega
    clear HD
    go_wp2_with (go_at_call 16; refine (dis_at hb _ HP.out).mono ?_; rintro e w1 ⟨rfl, hk1, hP1⟩; have p1 : w1.cell? ⟨g, 1, none⟩ = some (.int .i64 (S.i : Int)) := hP1.box.cell 1 _ rfl; have z1 := hP1.box.open 1)
    go_ret
    rw [HO.out]
    exact ⟨kp_setG (HK.out.trans hk1) 1 _, Nat.le_succ _, hP1.inc hj1, _, rfl, rfl⟩
   ·have HD2 : Hid (kindD l S = kindN l 4 S) := by
     unfold Hid
     rw [HD.out]
     simp only [kindN, optD, hb, Bool.false_eq_true, if_false]
    clear HD
    go_wp2_with (go_at_call 16; refine (dis_at hb _ HP.out).mono ?_; rintro e w1 ⟨rfl, hk1, hP1⟩)
    go_roundw
    case rel => exact ⟨4, by omega, by go_num, HD2, hP1, HK.out.trans hk1, HR.out.kp hk1 (by omega)⟩
    case measure => simp [intOf]
  | 0, _ =>
   go_wp2_with (go_at_call 22; refine (dfail_any _ HP.out).mono ?_; intro e w2 hT2; obtain ⟨u2, rfl, hk2, hj2, hP2, hV2⟩ := dtells hT2 rfl)
   go_ret
   rw [HD.out]
   simp only [kindN, bndD, failD, retD]
   exact ⟨HK.out.trans hk2, hj2, hP2, _, rfl, rfl⟩
end Go.Proofs.YtiajlhjjmlakmaaGreatDoor
