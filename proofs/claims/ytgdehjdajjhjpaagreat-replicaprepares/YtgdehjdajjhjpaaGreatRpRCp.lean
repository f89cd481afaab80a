/-
  Contracts: the document's own copy of a replica.
-/
import Derived.Test.YtgdehjdajjhjpaaGreatRpG8
import Derived.Test.YtgdehjdajjhjpaaGreatRpG10
import Derived.Test.YtgdehjdajjhjpaaGreatRpG9
namespace Go.Proofs.YtgdehjdajjhjpaaGreat
open Go.RowKit Num
set_option linter.unusedVariables false
set_option maxRecDepth 100000

set_option maxRecDepth 100000 in
set_option maxHeartbeats 1000000 in
theorem rcopy_any (r : Rep) (s : Sl) (hsm : SmallR r) (w : World) (hl : LiesR w w.heap.size s r) :
    Calls Tryz.prog 11 #[repV r s] w fun e w' => ∃ s', e = .returned (repV r s') ∧ RowsS w.heap.size w' r s' ∧ Below w.heap.size w w' := by
  have hw0 : Below w.heap.size w ((w.alloc (repO r (.slice s.lo r.log.length s.lc) (.slice s.ao r.acked.length s.ac) (.slice s.vo r.votes.length s.vc) (.slice s.wo r.voters.length s.wc) (.slice s.bo r.best.length s.bc) 25)).alloc (repO0 25)) := ((Below.refl _ w).alloc (Nat.le_refl _) _).alloc (by simp) _
  have bx0 := (box_rep w r (.slice s.lo r.log.length s.lc) (.slice s.ao r.acked.length s.ac) (.slice s.vo r.votes.length s.vc) (.slice s.wo r.voters.length s.wc) (.slice s.bo r.best.length s.bc) undef 25 w.heap.size rfl).alloc (repO0 25)
  have by0 := box_rep0 (w.alloc (repO r (.slice s.lo r.log.length s.lc) (.slice s.ao r.acked.length s.ac) (.slice s.vo r.votes.length s.vc) (.slice s.wo r.voters.length s.wc) (.slice s.bo r.best.length s.bc) 25)) undef 25 (w.heap.size + 1) (by simp)
  have hz0 : ((w.alloc (repO r (.slice s.lo r.log.length s.lc) (.slice s.ao r.acked.length s.ac) (.slice s.vo r.votes.length s.vc) (.slice s.wo r.voters.length s.wc) (.slice s.bo r.best.length s.bc) 25)).alloc (repO0 25)).heap.size = w.heap.size + 1 + 1 := by simp
  have hl0 := liesR_next hl hw0 hw0.size
  have hm0 := own_made0 ((w.alloc (repO r (.slice s.lo r.log.length s.lc) (.slice s.ao r.acked.length s.ac) (.slice s.vo r.votes.length s.vc) (.slice s.wo r.voters.length s.wc) (.slice s.bo r.best.length s.bc) 25)).alloc (repO0 25)) 46 2
  rw [hz0] at hm0
  have tok0 : True := trivial
  go_enter Tryz.func11, Tryz.ntmps11
  go_wp2_with (first
    | (at_builtin; have tk := tok0; refine wpList_app_g Tryz.underlying22 Tryz.infoEn (by decide) _ rfl _ _ rfl (w.heap.size + 1 + 1) (.slice (some ⟨w.heap.size + 1 + 1, 0, none⟩) 0 0) 0 [] rfl hm0 s.lo r.log.length s.lc (enCells r.log) rfl (src_next (liesE_src hl0.log) ((Below.refl _ ((w.alloc (repO r (.slice s.lo r.log.length s.lc) (.slice s.ao r.acked.length s.ac) (.slice s.vo r.votes.length s.vc) (.slice s.wo r.voters.length s.wc) (.slice s.bo r.best.length s.bc) 25)).alloc (repO0 25))).alloc (Nat.le_refl _) _)) (by have := hsm.log; omega) (by simp) ?_; intro v5 y5 hown5 hgr5 _; clear tok0 tk
       rw [List.nil_append] at hown5
       simp only [Nat.zero_add] at hown5
       rw [← hz0] at hown5 hgr5
       obtain ⟨o5, c5, rfl⟩ := own_form hown5
       have hb5 := below_made hgr5
       clear hm0 hgr5
       have bb5 := bx0.below hb5
       have q5 := bb5.cell 5 (by omega)
       have z5 := bb5.unfrozen 5
       have bx1 : BoxF (y5.setCell ⟨w.heap.size, 5, none⟩ (.slice o5 r.log.length c5)) w.heap.size 25 13 (repF r (.slice o5 r.log.length c5) (.slice s.ao r.acked.length s.ac) (.slice s.vo r.votes.length s.vc) (.slice s.wo r.voters.length s.wc) (.slice s.bo r.best.length s.bc) undef) := (sets_box [(5, .slice o5 r.log.length c5)] bb5).1.ext14 (by omega) ⟨rfl, rfl, rfl, rfl, rfl, rfl, rfl, rfl, rfl, rfl, rfl, rfl, rfl, rfl⟩
       have hS5 : Stay (fun _ => False) 25 y5 (y5.setCell ⟨w.heap.size, 5, none⟩ (.slice o5 r.log.length c5)) := (sets_box [(5, .slice o5 r.log.length c5)] bb5).2
       have by1 : BoxF (y5.setCell ⟨w.heap.size, 5, none⟩ (.slice o5 r.log.length c5)) (w.heap.size + 1) 25 13 (repF rep0 (.slice none 0 0) (.slice none 0 0) (.slice none 0 0) (.slice none 0 0) (.slice none 0 0) undef) := (by0.below hb5).kept (Below.heap_setCell _ _ _ _ (by simp))
       have hw1 : Below w.heap.size w (y5.setCell ⟨w.heap.size, 5, none⟩ (.slice o5 r.log.length c5)) := (below_next hw0 (Nat.le_refl _) hb5).trans (sets_below (Nat.le_refl _) [(5, .slice o5 r.log.length c5)] y5)
       have hz1 : (y5.setCell ⟨w.heap.size, 5, none⟩ (.slice o5 r.log.length c5)).heap.size = y5.heap.size := by simp [World.setCell]
       have w5_0 := own_mono (own_stay hown5 hS5 (by decide) (fun _ h => h)) hw0.size
       have n7 := alloc_cell (.cells #[] 3) (bx1.cell 7 (by omega))
       have hl1 := liesR_next hl hw1 hw1.size
       have hm1 := own_made0 (y5.setCell ⟨w.heap.size, 5, none⟩ (.slice o5 r.log.length c5)) 3 1
       rw [hz1] at hm1
       have tok1 : True := trivial
       clear bb5 hS5 hown5 bx0 by0 hw0 hl0)
    | (at_builtin; have tk := tok1; refine wpList_app_g Tryz.underlying23 Tryz.infoInt (by decide) _ rfl _ _ rfl (y5.heap.size) (.slice (some ⟨y5.heap.size, 0, none⟩) 0 0) 0 [] rfl hm1 s.ao r.acked.length s.ac (inCells r.acked) rfl (src_next (liesN_src hl1.ack) ((Below.refl _ (y5.setCell ⟨w.heap.size, 5, none⟩ (.slice o5 r.log.length c5))).alloc (Nat.le_refl _) _)) (by have := hsm.ack; omega) (by simp [World.setCell]) ?_; intro v7 y7 hown7 hgr7 _; clear tok1 tk
       rw [List.nil_append] at hown7
       simp only [Nat.zero_add] at hown7
       rw [← hz1] at hown7 hgr7
       obtain ⟨o7, c7, rfl⟩ := own_form hown7
       have hb7 := below_made hgr7
       clear hm1 hgr7
       have bb7 := bx1.below hb7
       have q7 := bb7.cell 7 (by omega)
       have z7 := bb7.unfrozen 7
       have bx2 : BoxF (y7.setCell ⟨w.heap.size, 7, none⟩ (.slice o7 r.acked.length c7)) w.heap.size 25 13 (repF r (.slice o5 r.log.length c5) (.slice o7 r.acked.length c7) (.slice s.vo r.votes.length s.vc) (.slice s.wo r.voters.length s.wc) (.slice s.bo r.best.length s.bc) undef) := (sets_box [(7, .slice o7 r.acked.length c7)] bb7).1.ext14 (by omega) ⟨rfl, rfl, rfl, rfl, rfl, rfl, rfl, rfl, rfl, rfl, rfl, rfl, rfl, rfl⟩
       have hS7 : Stay (fun _ => False) 25 y7 (y7.setCell ⟨w.heap.size, 7, none⟩ (.slice o7 r.acked.length c7)) := (sets_box [(7, .slice o7 r.acked.length c7)] bb7).2
       have by2 : BoxF (y7.setCell ⟨w.heap.size, 7, none⟩ (.slice o7 r.acked.length c7)) (w.heap.size + 1) 25 13 (repF rep0 (.slice none 0 0) (.slice none 0 0) (.slice none 0 0) (.slice none 0 0) (.slice none 0 0) undef) := (by1.below hb7).kept (Below.heap_setCell _ _ _ _ (by simp))
       have hw2 : Below w.heap.size w (y7.setCell ⟨w.heap.size, 7, none⟩ (.slice o7 r.acked.length c7)) := (below_next hw1 (Nat.le_refl _) hb7).trans (sets_below (Nat.le_refl _) [(7, .slice o7 r.acked.length c7)] y7)
       have hz2 : (y7.setCell ⟨w.heap.size, 7, none⟩ (.slice o7 r.acked.length c7)).heap.size = y7.heap.size := by simp [World.setCell]
       have w5_1 := own_stay (own_below w5_0 hb7) hS7 (by decide) (fun _ h => h)
       have w7_1 := own_mono (own_stay hown7 hS7 (by decide) (fun _ h => h)) hw1.size
       have n8 := alloc_cell (.cells #[] 3) (bx2.cell 8 (by omega))
       have hl2 := liesR_next hl hw2 hw2.size
       have hm2 := own_made0 (y7.setCell ⟨w.heap.size, 7, none⟩ (.slice o7 r.acked.length c7)) 3 1
       rw [hz2] at hm2
       have tok2 : True := trivial
       clear bb7 hS7 hown7 bx1 by1 hw1 hl1 w5_0)
    | (at_builtin; have tk := tok2; refine wpList_app_g Tryz.underlying23 Tryz.infoInt (by decide) _ rfl _ _ rfl (y7.heap.size) (.slice (some ⟨y7.heap.size, 0, none⟩) 0 0) 0 [] rfl hm2 s.vo r.votes.length s.vc (inCells r.votes) rfl (src_next (liesN_src hl2.votes) ((Below.refl _ (y7.setCell ⟨w.heap.size, 7, none⟩ (.slice o7 r.acked.length c7))).alloc (Nat.le_refl _) _)) (by have := hsm.votes; omega) (by simp [World.setCell]) ?_; intro v8 y8 hown8 hgr8 _; clear tok2 tk
       rw [List.nil_append] at hown8
       simp only [Nat.zero_add] at hown8
       rw [← hz2] at hown8 hgr8
       obtain ⟨o8, c8, rfl⟩ := own_form hown8
       have hb8 := below_made hgr8
       clear hm2 hgr8
       have bb8 := bx2.below hb8
       have q8 := bb8.cell 8 (by omega)
       have z8 := bb8.unfrozen 8
       have bx3 : BoxF (y8.setCell ⟨w.heap.size, 8, none⟩ (.slice o8 r.votes.length c8)) w.heap.size 25 13 (repF r (.slice o5 r.log.length c5) (.slice o7 r.acked.length c7) (.slice o8 r.votes.length c8) (.slice s.wo r.voters.length s.wc) (.slice s.bo r.best.length s.bc) undef) := (sets_box [(8, .slice o8 r.votes.length c8)] bb8).1.ext14 (by omega) ⟨rfl, rfl, rfl, rfl, rfl, rfl, rfl, rfl, rfl, rfl, rfl, rfl, rfl, rfl⟩
       have hS8 : Stay (fun _ => False) 25 y8 (y8.setCell ⟨w.heap.size, 8, none⟩ (.slice o8 r.votes.length c8)) := (sets_box [(8, .slice o8 r.votes.length c8)] bb8).2
       have by3 : BoxF (y8.setCell ⟨w.heap.size, 8, none⟩ (.slice o8 r.votes.length c8)) (w.heap.size + 1) 25 13 (repF rep0 (.slice none 0 0) (.slice none 0 0) (.slice none 0 0) (.slice none 0 0) (.slice none 0 0) undef) := (by2.below hb8).kept (Below.heap_setCell _ _ _ _ (by simp))
       have hw3 : Below w.heap.size w (y8.setCell ⟨w.heap.size, 8, none⟩ (.slice o8 r.votes.length c8)) := (below_next hw2 (Nat.le_refl _) hb8).trans (sets_below (Nat.le_refl _) [(8, .slice o8 r.votes.length c8)] y8)
       have hz3 : (y8.setCell ⟨w.heap.size, 8, none⟩ (.slice o8 r.votes.length c8)).heap.size = y8.heap.size := by simp [World.setCell]
       have w5_2 := own_stay (own_below w5_1 hb8) hS8 (by decide) (fun _ h => h)
       have w7_2 := own_stay (own_below w7_1 hb8) hS8 (by decide) (fun _ h => h)
       have p7_8 := apart_new w7_1 hown8
       have w8_2 := own_mono (own_stay hown8 hS8 (by decide) (fun _ h => h)) hw2.size
       have n9 := alloc_cell (.cells #[] 3) (bx3.cell 9 (by omega))
       have hl3 := liesR_next hl hw3 hw3.size
       have hm3 := own_made0 (y8.setCell ⟨w.heap.size, 8, none⟩ (.slice o8 r.votes.length c8)) 3 1
       rw [hz3] at hm3
       have tok3 : True := trivial
       clear bb8 hS8 hown8 bx2 by2 hw2 hl2 w5_1 w7_1)
    | (at_builtin; have tk := tok3; refine wpList_app_g Tryz.underlying23 Tryz.infoInt (by decide) _ rfl _ _ rfl (y8.heap.size) (.slice (some ⟨y8.heap.size, 0, none⟩) 0 0) 0 [] rfl hm3 s.wo r.voters.length s.wc (inCells r.voters) rfl (src_next (liesN_src hl3.voters) ((Below.refl _ (y8.setCell ⟨w.heap.size, 8, none⟩ (.slice o8 r.votes.length c8))).alloc (Nat.le_refl _) _)) (by have := hsm.voters; omega) (by simp [World.setCell]) ?_; intro v9 y9 hown9 hgr9 _; clear tok3 tk
       rw [List.nil_append] at hown9
       simp only [Nat.zero_add] at hown9
       rw [← hz3] at hown9 hgr9
       obtain ⟨o9, c9, rfl⟩ := own_form hown9
       have hb9 := below_made hgr9
       clear hm3 hgr9
       have bb9 := bx3.below hb9
       have q9 := bb9.cell 9 (by omega)
       have z9 := bb9.unfrozen 9
       have bx4 : BoxF (y9.setCell ⟨w.heap.size, 9, none⟩ (.slice o9 r.voters.length c9)) w.heap.size 25 13 (repF r (.slice o5 r.log.length c5) (.slice o7 r.acked.length c7) (.slice o8 r.votes.length c8) (.slice o9 r.voters.length c9) (.slice s.bo r.best.length s.bc) undef) := (sets_box [(9, .slice o9 r.voters.length c9)] bb9).1.ext14 (by omega) ⟨rfl, rfl, rfl, rfl, rfl, rfl, rfl, rfl, rfl, rfl, rfl, rfl, rfl, rfl⟩
       have hS9 : Stay (fun _ => False) 25 y9 (y9.setCell ⟨w.heap.size, 9, none⟩ (.slice o9 r.voters.length c9)) := (sets_box [(9, .slice o9 r.voters.length c9)] bb9).2
       have by4 : BoxF (y9.setCell ⟨w.heap.size, 9, none⟩ (.slice o9 r.voters.length c9)) (w.heap.size + 1) 25 13 (repF rep0 (.slice none 0 0) (.slice none 0 0) (.slice none 0 0) (.slice none 0 0) (.slice none 0 0) undef) := (by3.below hb9).kept (Below.heap_setCell _ _ _ _ (by simp))
       have hw4 : Below w.heap.size w (y9.setCell ⟨w.heap.size, 9, none⟩ (.slice o9 r.voters.length c9)) := (below_next hw3 (Nat.le_refl _) hb9).trans (sets_below (Nat.le_refl _) [(9, .slice o9 r.voters.length c9)] y9)
       have hz4 : (y9.setCell ⟨w.heap.size, 9, none⟩ (.slice o9 r.voters.length c9)).heap.size = y9.heap.size := by simp [World.setCell]
       have w5_3 := own_stay (own_below w5_2 hb9) hS9 (by decide) (fun _ h => h)
       have w7_3 := own_stay (own_below w7_2 hb9) hS9 (by decide) (fun _ h => h)
       have p7_9 := apart_new w7_2 hown9
       have w8_3 := own_stay (own_below w8_2 hb9) hS9 (by decide) (fun _ h => h)
       have p8_9 := apart_new w8_2 hown9
       have w9_3 := own_mono (own_stay hown9 hS9 (by decide) (fun _ h => h)) hw3.size
       have n10 := alloc_cell (.cells #[] 46) (bx4.cell 10 (by omega))
       have hl4 := liesR_next hl hw4 hw4.size
       have hm4 := own_made0 (y9.setCell ⟨w.heap.size, 9, none⟩ (.slice o9 r.voters.length c9)) 46 2
       rw [hz4] at hm4
       have tok4 : True := trivial
       clear bb9 hS9 hown9 bx3 by3 hw3 hl3 w5_2 w7_2 w8_2)
    | (at_builtin; have tk := tok4; refine wpList_app_g Tryz.underlying22 Tryz.infoEn (by decide) _ rfl _ _ rfl (y9.heap.size) (.slice (some ⟨y9.heap.size, 0, none⟩) 0 0) 0 [] rfl hm4 s.bo r.best.length s.bc (enCells r.best) rfl (src_next (liesE_src hl4.best) ((Below.refl _ (y9.setCell ⟨w.heap.size, 9, none⟩ (.slice o9 r.voters.length c9))).alloc (Nat.le_refl _) _)) (by have := hsm.best; omega) (by simp [World.setCell]) ?_; intro v10 y10 hown10 hgr10 _; clear tok4 tk
       rw [List.nil_append] at hown10
       simp only [Nat.zero_add] at hown10
       rw [← hz4] at hown10 hgr10
       obtain ⟨o10, c10, rfl⟩ := own_form hown10
       have hb10 := below_made hgr10
       clear hm4 hgr10
       have bb10 := bx4.below hb10
       have q10 := bb10.cell 10 (by omega)
       have z10 := bb10.unfrozen 10
       have bx5 : BoxF (y10.setCell ⟨w.heap.size, 10, none⟩ (.slice o10 r.best.length c10)) w.heap.size 25 13 (repF r (.slice o5 r.log.length c5) (.slice o7 r.acked.length c7) (.slice o8 r.votes.length c8) (.slice o9 r.voters.length c9) (.slice o10 r.best.length c10) undef) := (sets_box [(10, .slice o10 r.best.length c10)] bb10).1.ext14 (by omega) ⟨rfl, rfl, rfl, rfl, rfl, rfl, rfl, rfl, rfl, rfl, rfl, rfl, rfl, rfl⟩
       have hS10 : Stay (fun _ => False) 25 y10 (y10.setCell ⟨w.heap.size, 10, none⟩ (.slice o10 r.best.length c10)) := (sets_box [(10, .slice o10 r.best.length c10)] bb10).2
       have by5 : BoxF (y10.setCell ⟨w.heap.size, 10, none⟩ (.slice o10 r.best.length c10)) (w.heap.size + 1) 25 13 (repF rep0 (.slice none 0 0) (.slice none 0 0) (.slice none 0 0) (.slice none 0 0) (.slice none 0 0) undef) := (by4.below hb10).kept (Below.heap_setCell _ _ _ _ (by simp))
       have hw5 : Below w.heap.size w (y10.setCell ⟨w.heap.size, 10, none⟩ (.slice o10 r.best.length c10)) := (below_next hw4 (Nat.le_refl _) hb10).trans (sets_below (Nat.le_refl _) [(10, .slice o10 r.best.length c10)] y10)
       have hz5 : (y10.setCell ⟨w.heap.size, 10, none⟩ (.slice o10 r.best.length c10)).heap.size = y10.heap.size := by simp [World.setCell]
       have w5_4 := own_stay (own_below w5_3 hb10) hS10 (by decide) (fun _ h => h)
       have p5_10 := apart_new w5_3 hown10
       have w7_4 := own_stay (own_below w7_3 hb10) hS10 (by decide) (fun _ h => h)
       have w8_4 := own_stay (own_below w8_3 hb10) hS10 (by decide) (fun _ h => h)
       have w9_4 := own_stay (own_below w9_3 hb10) hS10 (by decide) (fun _ h => h)
       have w10_4 := own_mono (own_stay hown10 hS10 (by decide) (fun _ h => h)) hw4.size
       obtain ⟨a0, a1, a2, a3, a4, a5, a6, a7, a8, a9, a10, a11, a12⟩ := bx5.rep (by omega)
       obtain ⟨d0, d1, d2, d3, d4, d5, d6, d7, d8, d9, d10, d11, d12⟩ := by5.rep (by omega)
       have dz := by5.unfrozen
       have hR : RowsS w.heap.size (y10.setCell ⟨w.heap.size, 10, none⟩ (.slice o10 r.best.length c10)) r ⟨o5, c5, o7, c7, o8, c8, o9, c9, o10, c10⟩ := ⟨w5_4, w10_4, w7_4, w8_4, w9_4, p5_10, p7_8, p7_9, p8_9⟩
       obtain ⟨bG, hS, hwG⟩ := res_box (show w.heap.size ≤ w.heap.size + 1 by omega) by5 hw5 r ⟨o5, c5, o7, c7, o8, c8, o9, c9, o10, c10⟩
       have hRG := hR.stay hS (by decide) (by decide)
       obtain ⟨g0, g1, g2, g3, g4, g5, g6, g7, g8, g9, g10, g11, g12⟩ := bG.rep (by omega)
       simp only [sets] at hRG hwG g0 g1 g2 g3 g4 g5 g6 g7 g8 g9 g10 g11 g12
       clear bb10 hS10 hown10 bx4 by4 hw4 hl4 w5_3 w7_3 w8_3 w9_3 hR hS bG by5 bx5 hw5 w5_4 w10_4 w7_4 w8_4 w9_4))
  refine bodyPost_ret (v := repV r ⟨o5, c5, o7, c7, o8, c8, o9, c9, o10, c10⟩) (by simp [results, Tryz.results11, go_sem, g0, g1, g2, g3, g4, g5, g6, g7, g8, g9, g10, g11, g12]) rfl ⟨_, rfl, hRG, hwG⟩
/-- The copy in its box. -/
theorem turnR_new {w1 w2 : World} {r : Rep} {s2 : Sl} {B : Nat} (hmay : May r) (h1 : B ≤ w1.heap.size) (hb : Below w1.heap.size w1 w2) (hr : RowsS w1.heap.size w2 r s2) :
    TurnR B (w2.alloc (repO r (.slice s2.lo r.log.length s2.lc) (.slice s2.ao r.acked.length s2.ac) (.slice s2.vo r.votes.length s2.vc) (.slice s2.wo r.voters.length s2.wc) (.slice s2.bo r.best.length s2.bc) 25)) w2.heap.size r := by
  have hsz := hb.size
  have hbel := (Below.refl _ w2).alloc (Nat.le_refl _) (repO r (.slice s2.lo r.log.length s2.lc) (.slice s2.ao r.acked.length s2.ac) (.slice s2.vo r.votes.length s2.vc) (.slice s2.wo r.voters.length s2.wc) (.slice s2.bo r.best.length s2.bc) 25)
  have hr' := hr.below hbel
  exact ⟨⟨_, _, _, _, _, ⟨box_rep w2 r (.slice s2.lo r.log.length s2.lc) (.slice s2.ao r.acked.length s2.ac) (.slice s2.vo r.votes.length s2.vc) (.slice s2.wo r.voters.length s2.wc) (.slice s2.bo r.best.length s2.bc) undef 25 w2.heap.size rfl, by omega, ⟨own_mono hr'.log h1, own_mono hr'.best h1, own_mono hr'.ack h1, own_mono hr'.vot h1, own_mono hr'.vor h1, hr'.a1, hr'.a2, hr'.a3, hr'.a4⟩⟩⟩, Nat.le_trans (Nat.le_trans h1 hsz) hbel.size, hmay.one, hmay.log.1, hmay.best.1.1, hmay.ack.1⟩
theorem liesM_nil (w : World) (B : Nat) (ao : Option Addr) : LiesM w B ao [] := fun i x hx => by simp at hx
theorem ownE_liesX {w : World} {B : Nat} {ao : Option Addr} {n c : Nat} {l : List Ent} (h : w.ownsRow B 46 2 (.slice ao n c) l.length (enCells l)) : LiesE w w.heap.size ao l := by
  obtain ⟨bo, bc, e, hl⟩ := ownE_lies h
  cases e
  exact hl
theorem Num.LiesR.drewR {w : World} {s : Sl} {r : Rep} (h : LiesR w w.heap.size s r) : LiesR w.drew w.drew.heap.size s r := liesR_next h (Below.refl _ _).drew (Nat.le_refl _)
theorem liesM_drew {w : World} {ao : Option Addr} {l : Msgs} (h : LiesM w w.heap.size ao l) : LiesM w.drew w.drew.heap.size ao l := liesM_next h (Below.refl _ _).drew (Nat.le_refl _)
set_option maxHeartbeats 1000000 in
theorem rprimary_any (g : Nat) (r : Rep) (w : World) {vl va vv vw vb : Value} (h : BoxF w g 25 13 (repF r vl va vv vw vb undef)) (h1 : OneOf r.id r.n) (hv : 0 ≤ r.view ∧ r.view < 1099511627776) :
    Calls Tryz.prog 51 #[.pointer (some ⟨g, 0, none⟩)] w fun e w' => e = .returned (.bool (decide (r.view % r.n = r.id))) ∧ Below w.heap.size w w' := by
  have hn := one_bounds h1
  obtain ⟨k0, k1, k2, _⟩ := h.rep (by omega)
  have hne : ¬ r.n = 0 := by omega
  have he : Int.tmod r.view r.n = r.view % r.n := Int.tmod_eq_emod_of_nonneg hv.1
  clear h
  go_enter Tryz.func51, Tryz.ntmps51
  go_wp2
  go_region
  go_wp2
  go_ret
  exact ⟨rfl, (Below.refl _ _).drew⟩
theorem en_held (w : World) (e : Ent) (n : Nat) (hn : w.heap.size = n) : Held (w.alloc (.cells #[.int .i64 e.time, .string e.data] 46)) (some ⟨n, 0, none⟩) [e].length 2 (enCells [e]) := by
  subst hn
  exact ⟨rfl, enCells_one _, fun h => (by cases h), fun a h j u hj => by cases h; exact new_cells w 46 [.int .i64 e.time, .string e.data] _ rfl j u hj⟩
/-- The copy in its box, its rows where they lie. -/
theorem holdR_new {w1 w2 : World} {r : Rep} {s2 : Sl} {B : Nat} (h1 : B ≤ w1.heap.size) (hb : Below w1.heap.size w1 w2) (hr : RowsS w1.heap.size w2 r s2) :
    Hold 25 13 undef B (w2.alloc (repO r (.slice s2.lo r.log.length s2.lc) (.slice s2.ao r.acked.length s2.ac) (.slice s2.vo r.votes.length s2.vc) (.slice s2.wo r.voters.length s2.wc) (.slice s2.bo r.best.length s2.bc) 25)) w2.heap.size r (.slice s2.lo r.log.length s2.lc) (.slice s2.ao r.acked.length s2.ac) (.slice s2.vo r.votes.length s2.vc) (.slice s2.wo r.voters.length s2.wc) (.slice s2.bo r.best.length s2.bc) := by
  have hsz := hb.size
  have hbel := (Below.refl _ w2).alloc (Nat.le_refl _) (repO r (.slice s2.lo r.log.length s2.lc) (.slice s2.ao r.acked.length s2.ac) (.slice s2.vo r.votes.length s2.vc) (.slice s2.wo r.voters.length s2.wc) (.slice s2.bo r.best.length s2.bc) 25)
  have hr' := hr.below hbel
  exact ⟨box_rep w2 r (.slice s2.lo r.log.length s2.lc) (.slice s2.ao r.acked.length s2.ac) (.slice s2.vo r.votes.length s2.vc) (.slice s2.wo r.voters.length s2.wc) (.slice s2.bo r.best.length s2.bc) undef 25 w2.heap.size rfl, by omega, ⟨own_mono hr'.log h1, own_mono hr'.best h1, own_mono hr'.ack h1, own_mono hr'.vot h1, own_mono hr'.vor h1, hr'.a1, hr'.a2, hr'.a3, hr'.a4⟩⟩
end Go.Proofs.YtgdehjdajjhjpaaGreat
