/-
  Contract: keep: what a replica has become is held, and what it sends goes under way.
-/
import Derived.Test.YthnbaijkhhbelaaGreatGpB
namespace Go.Proofs.YthnbaijkhhbelaaGreat
open Go.RowKit Num
open scoped Classical
set_option linter.unusedVariables false
set_option maxRecDepth 100000

theorem keep_no (gv mv : Option Addr) (r : Rep) (s : Sl) (xo : Option Addr) (xn xc : Nat) (E : Int) (hE : ¬ E = 0) (w : World) :
    Calls Tryz.prog 48 #[.pointer gv, .pointer mv, repV r s, .slice xo xn xc, .int .i64 E] w fun e w' => e = .returned (.int .i64 E) ∧ Below w.heap.size w w' := by
  go_enter Tryz.func48, Tryz.ntmps48
  go_wp2
  go_ret
  exact ⟨rfl, (Below.refl _ _).alloc (Nat.le_refl _) _⟩
set_option maxRecDepth 100000 in
set_option maxHeartbeats 1000000 in
theorem keep_yes {B : Nat} {w : World} {g b cap : Nat} {no : Option Addr} {nc : Nat} {ms : List Mbr} {net : Msgs} (h : GrpAt B w g b cap no nc ms net) {i : Nat} {m : Mbr} (hm : ms[i]? = some m) (r : Rep) (s : Sl) (hr : RowsS B w r s) (out : Msgs) (xo : Option Addr) (xc : Nat) (ho : OwnO B w (.slice xo out.length xc) out) (hn : net.length ≤ 1000) (hol : out.length ≤ 1000) (hlog : ∀ x ∈ net ++ out, x.log.length ≤ 3000) :
    Calls Tryz.prog 48 #[.pointer (some ⟨g, 0, none⟩), .pointer (some ⟨b, i * 14, none⟩), repV r s, .slice xo out.length xc, .int .i64 0] w fun e w' => e = .returned (.int .i64 0) ∧ (∃ no' nc', GrpAt B w' g b cap no' nc' (ms.set i ⟨r, s, m.up⟩) (addM net out)) ∧ Save g b w w' := by
  have hb1 : Below w.heap.size w (w.alloc (.cells #[.int .i64 r.id, .int .i64 r.n, .int .i64 r.view, .int .i64 r.normal, .int .i64 r.how, .slice s.lo r.log.length s.lc, .int .i64 r.commit, .slice s.ao r.acked.length s.ac, .slice s.vo r.votes.length s.vc, .slice s.wo r.voters.length s.wc, .slice s.bo r.best.length s.bc, .int .i64 r.bestView, .int .i64 r.bestDone] 46)) := (Below.refl _ _).alloc (Nat.le_refl _) _
  have h1 := h.below hb1
  have ho1 := ownO_below ho hb1
  obtain ⟨h2, hs2⟩ := grp_member h1 hm r s (hr.below hb1)
  obtain ⟨c0, c1, fg⟩ := h1.cells
  have fm := (h1.at hm).2
  have cm := (h1.at hm).1
  obtain ⟨u, hu⟩ : ∃ u : Nat → Value, u = fun k => ((mbCells m)[k]?).getD undef := ⟨_, rfl⟩
  have d0 : (w.alloc (.cells #[.int .i64 r.id, .int .i64 r.n, .int .i64 r.view, .int .i64 r.normal, .int .i64 r.how, .slice s.lo r.log.length s.lc, .int .i64 r.commit, .slice s.ao r.acked.length s.ac, .slice s.vo r.votes.length s.vc, .slice s.wo r.voters.length s.wc, .slice s.bo r.best.length s.bc, .int .i64 r.bestView, .int .i64 r.bestDone] 46)).cell? ⟨b, i * 14, none⟩ = some (u 0) := cm 0 _ (by omega) (by rw [hu]; rfl)
  have d1 : (w.alloc (.cells #[.int .i64 r.id, .int .i64 r.n, .int .i64 r.view, .int .i64 r.normal, .int .i64 r.how, .slice s.lo r.log.length s.lc, .int .i64 r.commit, .slice s.ao r.acked.length s.ac, .slice s.vo r.votes.length s.vc, .slice s.wo r.voters.length s.wc, .slice s.bo r.best.length s.bc, .int .i64 r.bestView, .int .i64 r.bestDone] 46)).cell? ⟨b, i * 14 + 1, none⟩ = some (u 1) := cm 1 _ (by omega) (by rw [hu]; rfl)
  have d2 : (w.alloc (.cells #[.int .i64 r.id, .int .i64 r.n, .int .i64 r.view, .int .i64 r.normal, .int .i64 r.how, .slice s.lo r.log.length s.lc, .int .i64 r.commit, .slice s.ao r.acked.length s.ac, .slice s.vo r.votes.length s.vc, .slice s.wo r.voters.length s.wc, .slice s.bo r.best.length s.bc, .int .i64 r.bestView, .int .i64 r.bestDone] 46)).cell? ⟨b, i * 14 + 2, none⟩ = some (u 2) := cm 2 _ (by omega) (by rw [hu]; rfl)
  have d3 : (w.alloc (.cells #[.int .i64 r.id, .int .i64 r.n, .int .i64 r.view, .int .i64 r.normal, .int .i64 r.how, .slice s.lo r.log.length s.lc, .int .i64 r.commit, .slice s.ao r.acked.length s.ac, .slice s.vo r.votes.length s.vc, .slice s.wo r.voters.length s.wc, .slice s.bo r.best.length s.bc, .int .i64 r.bestView, .int .i64 r.bestDone] 46)).cell? ⟨b, i * 14 + 3, none⟩ = some (u 3) := cm 3 _ (by omega) (by rw [hu]; rfl)
  have d4 : (w.alloc (.cells #[.int .i64 r.id, .int .i64 r.n, .int .i64 r.view, .int .i64 r.normal, .int .i64 r.how, .slice s.lo r.log.length s.lc, .int .i64 r.commit, .slice s.ao r.acked.length s.ac, .slice s.vo r.votes.length s.vc, .slice s.wo r.voters.length s.wc, .slice s.bo r.best.length s.bc, .int .i64 r.bestView, .int .i64 r.bestDone] 46)).cell? ⟨b, i * 14 + 4, none⟩ = some (u 4) := cm 4 _ (by omega) (by rw [hu]; rfl)
  have d5 : (w.alloc (.cells #[.int .i64 r.id, .int .i64 r.n, .int .i64 r.view, .int .i64 r.normal, .int .i64 r.how, .slice s.lo r.log.length s.lc, .int .i64 r.commit, .slice s.ao r.acked.length s.ac, .slice s.vo r.votes.length s.vc, .slice s.wo r.voters.length s.wc, .slice s.bo r.best.length s.bc, .int .i64 r.bestView, .int .i64 r.bestDone] 46)).cell? ⟨b, i * 14 + 5, none⟩ = some (u 5) := cm 5 _ (by omega) (by rw [hu]; rfl)
  have d6 : (w.alloc (.cells #[.int .i64 r.id, .int .i64 r.n, .int .i64 r.view, .int .i64 r.normal, .int .i64 r.how, .slice s.lo r.log.length s.lc, .int .i64 r.commit, .slice s.ao r.acked.length s.ac, .slice s.vo r.votes.length s.vc, .slice s.wo r.voters.length s.wc, .slice s.bo r.best.length s.bc, .int .i64 r.bestView, .int .i64 r.bestDone] 46)).cell? ⟨b, i * 14 + 6, none⟩ = some (u 6) := cm 6 _ (by omega) (by rw [hu]; rfl)
  have d7 : (w.alloc (.cells #[.int .i64 r.id, .int .i64 r.n, .int .i64 r.view, .int .i64 r.normal, .int .i64 r.how, .slice s.lo r.log.length s.lc, .int .i64 r.commit, .slice s.ao r.acked.length s.ac, .slice s.vo r.votes.length s.vc, .slice s.wo r.voters.length s.wc, .slice s.bo r.best.length s.bc, .int .i64 r.bestView, .int .i64 r.bestDone] 46)).cell? ⟨b, i * 14 + 7, none⟩ = some (u 7) := cm 7 _ (by omega) (by rw [hu]; rfl)
  have d8 : (w.alloc (.cells #[.int .i64 r.id, .int .i64 r.n, .int .i64 r.view, .int .i64 r.normal, .int .i64 r.how, .slice s.lo r.log.length s.lc, .int .i64 r.commit, .slice s.ao r.acked.length s.ac, .slice s.vo r.votes.length s.vc, .slice s.wo r.voters.length s.wc, .slice s.bo r.best.length s.bc, .int .i64 r.bestView, .int .i64 r.bestDone] 46)).cell? ⟨b, i * 14 + 8, none⟩ = some (u 8) := cm 8 _ (by omega) (by rw [hu]; rfl)
  have d9 : (w.alloc (.cells #[.int .i64 r.id, .int .i64 r.n, .int .i64 r.view, .int .i64 r.normal, .int .i64 r.how, .slice s.lo r.log.length s.lc, .int .i64 r.commit, .slice s.ao r.acked.length s.ac, .slice s.vo r.votes.length s.vc, .slice s.wo r.voters.length s.wc, .slice s.bo r.best.length s.bc, .int .i64 r.bestView, .int .i64 r.bestDone] 46)).cell? ⟨b, i * 14 + 9, none⟩ = some (u 9) := cm 9 _ (by omega) (by rw [hu]; rfl)
  have d10 : (w.alloc (.cells #[.int .i64 r.id, .int .i64 r.n, .int .i64 r.view, .int .i64 r.normal, .int .i64 r.how, .slice s.lo r.log.length s.lc, .int .i64 r.commit, .slice s.ao r.acked.length s.ac, .slice s.vo r.votes.length s.vc, .slice s.wo r.voters.length s.wc, .slice s.bo r.best.length s.bc, .int .i64 r.bestView, .int .i64 r.bestDone] 46)).cell? ⟨b, i * 14 + 10, none⟩ = some (u 10) := cm 10 _ (by omega) (by rw [hu]; rfl)
  have d11 : (w.alloc (.cells #[.int .i64 r.id, .int .i64 r.n, .int .i64 r.view, .int .i64 r.normal, .int .i64 r.how, .slice s.lo r.log.length s.lc, .int .i64 r.commit, .slice s.ao r.acked.length s.ac, .slice s.vo r.votes.length s.vc, .slice s.wo r.voters.length s.wc, .slice s.bo r.best.length s.bc, .int .i64 r.bestView, .int .i64 r.bestDone] 46)).cell? ⟨b, i * 14 + 11, none⟩ = some (u 11) := cm 11 _ (by omega) (by rw [hu]; rfl)
  have d12 : (w.alloc (.cells #[.int .i64 r.id, .int .i64 r.n, .int .i64 r.view, .int .i64 r.normal, .int .i64 r.how, .slice s.lo r.log.length s.lc, .int .i64 r.commit, .slice s.ao r.acked.length s.ac, .slice s.vo r.votes.length s.vc, .slice s.wo r.voters.length s.wc, .slice s.bo r.best.length s.bc, .int .i64 r.bestView, .int .i64 r.bestDone] 46)).cell? ⟨b, i * 14 + 12, none⟩ = some (u 12) := cm 12 _ (by omega) (by rw [hu]; rfl)
  clear cm hu
  have hbw := h1.bound
  have hne : b ≠ g := hbw.2.2.2
  have hne2 : g ≠ b := fun e => hne e.symm
  have hne3 : w.heap.size ≠ b := fun e => by have := h.bound.2.1; omega
  have hne4 : w.heap.size ≠ g := fun e => by have := h.bound.2.2.1; omega
  have hO2 := (grp_save h1 hs2).1 ho1
  obtain ⟨W1, hW1⟩ : ∃ W1, sets (w.alloc (.cells #[.int .i64 r.id, .int .i64 r.n, .int .i64 r.view, .int .i64 r.normal, .int .i64 r.how, .slice s.lo r.log.length s.lc, .int .i64 r.commit, .slice s.ao r.acked.length s.ac, .slice s.vo r.votes.length s.vc, .slice s.wo r.voters.length s.wc, .slice s.bo r.best.length s.bc, .int .i64 r.bestView, .int .i64 r.bestDone] 46)) b (repS (i * 14) r s) = W1 := ⟨_, rfl⟩
  rw [hW1] at h2 hs2 hO2
  have HW : Hid (sets (w.alloc (.cells #[.int .i64 r.id, .int .i64 r.n, .int .i64 r.view, .int .i64 r.normal, .int .i64 r.how, .slice s.lo r.log.length s.lc, .int .i64 r.commit, .slice s.ao r.acked.length s.ac, .slice s.vo r.votes.length s.vc, .slice s.wo r.voters.length s.wc, .slice s.bo r.best.length s.bc, .int .i64 r.bestView, .int .i64 r.bestDone] 46)) b (repS (i * 14) r s) = W1) := hW1
  have hadd := add_any net out no xo nc xc hn hol hlog W1 (ownO_liesM h2.net) (ownO_liesM hO2)
  have hs1 := (Save.of_below hb1 g b).trans hs2
  clear hW1 h1 ho1 hs2 hO2 hbw hb1 hm hr ho h
  go_enter Tryz.func48, Tryz.ntmps48
  go_wp2_with (first
    | (go_at_call 44; have hW1 := HW.out; simp only [sets] at hW1; rw [hW1]; refine hadd.mono ?_; rintro e w2 ⟨v, rfl, hO, hb2⟩; obtain ⟨no', nc', hv, _⟩ := ownO_lies hO; subst hv; have h3 := h2.below hb2; have fg2 := h3.cells.2.2 1; have cg2 := h3.cells.2.1; clear hW1))
  go_ret
  have hO2 := ownO_deep hO h2.heap
  obtain ⟨q1, q2⟩ := grp_net h3 no' nc' _ hO2
  exact ⟨rfl, ⟨no', nc', q1⟩, (hs1.trans (Save.of_below hb2 g b)).trans q2⟩
end Go.Proofs.YthnbaijkhhbelaaGreat
