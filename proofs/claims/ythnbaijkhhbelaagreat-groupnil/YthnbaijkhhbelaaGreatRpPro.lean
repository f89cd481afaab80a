/-
  Contracts: the program's Propose, where it goes through.
-/
import Derived.Test.YthnbaijkhhbelaaGreatRpFcP
namespace Go.Proofs.YthnbaijkhhbelaaGreat
open Go.RowKit Num
open scoped Classical
set_option linter.unusedVariables false
set_option maxRecDepth 100000

theorem own_off {w : World} {B e sz n : Nat} {v : Value} {xs : List Value} (h : w.ownsRow B e sz v n xs) {k : Nat} (hk : k < B) (i : Nat) (u : Value) : (w.setCell ⟨k, i, none⟩ u).ownsRow B e sz v n xs := h.kept (grown_set w k i u) (by
  cases hv : v.ownBlock with
  | none => exact .inl rfl
  | some j => exact .inr (fun e => by cases e; have := (h.lt _ hv).1; omega))
/-- What is written below its base does not turn it. -/
theorem turn_low {B : Nat} {w : World} {g : Nat} {r : Rep} {o : Msgs} (h : Turn B w g r o) {k : Nat} (hk : k < B) (i : Nat) (u : Value) : Turn B (w.setCell ⟨k, i, none⟩ u) g r o := by
  obtain ⟨⟨vl, va, vv, vw, vb, x, h, ho⟩, hB, h1, hl, hl2, ha⟩ := h
  have hg : g ≠ k := by have := h.base; omega
  obtain ⟨css, a, b, c, d⟩ := ho
  exact ⟨⟨vl, va, vv, vw, vb, x, ⟨boxF_far h.box hg u, h.base, ⟨own_off h.rows.log hk i u, own_off h.rows.best hk i u, own_off h.rows.ack hk i u, own_off h.rows.vot hk i u, own_off h.rows.vor hk i u, h.rows.a1, h.rows.a2, h.rows.a3, h.rows.a4⟩⟩, ⟨css, a, b, own_off c hk i u, fun j cs y hj hy => by
    obtain ⟨c, e1, h4⟩ := d j cs y hj hy
    exact ⟨c, e1, own_off h4 hk i u⟩⟩⟩, by simpa [World.setCell] using hB, h1, hl, hl2, ha⟩
set_option maxRecDepth 100000 in
set_option maxHeartbeats 2000000 in
theorem propose_ok (r : Rep) (s : Sl) (time : Int) (d : ByteArray) (hsm : SmallR r) (hyes : May r) (r' : Rep) (o' : Msgs) (K : Int)
    (hdo : ∀ (B g : Nat) (W : World), Turn B W g r [] → Calls Tryz.prog 76 #[.pointer (some ⟨g, 0, none⟩), .int .i64 time, .string d] W fun e W' => e = .returned (.int .i64 K) ∧ Turn B W' g r' o' ∧ Below B W W')
    (w : World) (hl : LiesR w w.heap.size s r) :
    Calls Tryz.prog 47 #[repV r s, .int .i64 time, .string d] w fun x w' => ∃ s' xo xc, x = .returned (.tuple #[repV r' s', .slice xo o'.length xc, .int .i64 K, .int .i64 0]) ∧ RowsS w.heap.size w' r' s' ∧ OwnO w.heap.size w' (.slice xo o'.length xc) o' ∧ Below w.heap.size w w' := by
  have hmf : ∀ (fn : Fn) (first cap : Array Value) (w : World), (Instr.makeFunc fn first cap).run Tryz.prog w = .ok (.func fn first cap) w := fun _ _ _ _ => rfl
  have hB : Below w.heap.size w (((((w.alloc (repO r (.slice s.lo r.log.length s.lc) (.slice s.ao r.acked.length s.ac) (.slice s.vo r.votes.length s.vc) (.slice s.wo r.voters.length s.wc) (.slice s.bo r.best.length s.bc) 46)).alloc (.cells #[.int .i64 time] 3)).alloc (.cells #[.string d] 9)).alloc (repO0 46)).alloc (.cells #[.int .i64 0] 3)) := (((((Below.refl _ w).alloc (Nat.le_refl _) _).alloc (by simp) _).alloc (by simp; omega) _).alloc (by simp; omega) _).alloc (by simp; omega) _
  have hsz : (((((w.alloc (repO r (.slice s.lo r.log.length s.lc) (.slice s.ao r.acked.length s.ac) (.slice s.vo r.votes.length s.vc) (.slice s.wo r.voters.length s.wc) (.slice s.bo r.best.length s.bc) 46)).alloc (.cells #[.int .i64 time] 3)).alloc (.cells #[.string d] 9)).alloc (repO0 46)).alloc (.cells #[.int .i64 0] 3)).heap.size = w.heap.size + 5 := by simp
  have e1 : Box1 (((((w.alloc (repO r (.slice s.lo r.log.length s.lc) (.slice s.ao r.acked.length s.ac) (.slice s.vo r.votes.length s.vc) (.slice s.wo r.voters.length s.wc) (.slice s.bo r.best.length s.bc) 46)).alloc (.cells #[.int .i64 time] 3)).alloc (.cells #[.string d] 9)).alloc (repO0 46)).alloc (.cells #[.int .i64 0] 3)) (w.heap.size + 1) 3 (.int .i64 time) := alloc_box _ (alloc_box _ (alloc_box _ (heap_newB _ _ _ (by simp))))
  have e2 : Box1 (((((w.alloc (repO r (.slice s.lo r.log.length s.lc) (.slice s.ao r.acked.length s.ac) (.slice s.vo r.votes.length s.vc) (.slice s.wo r.voters.length s.wc) (.slice s.bo r.best.length s.bc) 46)).alloc (.cells #[.int .i64 time] 3)).alloc (.cells #[.string d] 9)).alloc (repO0 46)).alloc (.cells #[.int .i64 0] 3)) (w.heap.size + 1 + 1) 9 (.string d) := alloc_box _ (alloc_box _ (heap_newB _ _ _ (by simp)))
  have e3 : BoxF (((((w.alloc (repO r (.slice s.lo r.log.length s.lc) (.slice s.ao r.acked.length s.ac) (.slice s.vo r.votes.length s.vc) (.slice s.wo r.voters.length s.wc) (.slice s.bo r.best.length s.bc) 46)).alloc (.cells #[.int .i64 time] 3)).alloc (.cells #[.string d] 9)).alloc (repO0 46)).alloc (.cells #[.int .i64 0] 3)) (w.heap.size + 1 + 1 + 1) 46 13 (repF rep0 (.slice none 0 0) (.slice none 0 0) (.slice none 0 0) (.slice none 0 0) (.slice none 0 0) undef) := (box_rep0 _ undef 46 (w.heap.size + 1 + 1 + 1) (by simp)).alloc _
  have e4 : Box1 (((((w.alloc (repO r (.slice s.lo r.log.length s.lc) (.slice s.ao r.acked.length s.ac) (.slice s.vo r.votes.length s.vc) (.slice s.wo r.voters.length s.wc) (.slice s.bo r.best.length s.bc) 46)).alloc (.cells #[.int .i64 time] 3)).alloc (.cells #[.string d] 9)).alloc (repO0 46)).alloc (.cells #[.int .i64 0] 3)) (w.heap.size + 1 + 1 + 1 + 1) 3 (.int .i64 0) := heap_newB _ _ _ (by simp)
  have hface := face_yes_propose r s hsm hyes (.pointer (some ⟨w.heap.size + 1, 0, none⟩)) (.pointer (some ⟨w.heap.size + 1 + 1, 0, none⟩)) (.pointer (some ⟨w.heap.size + 1 + 1 + 1 + 1, 0, none⟩)) r' o' (some (w.heap.size + 1 + 1 + 1 + 1)) (fun o => o = some (.cells #[.int .i64 K] 3 (0, 0))) (((((w.alloc (repO r (.slice s.lo r.log.length s.lc) (.slice s.ao r.acked.length s.ac) (.slice s.vo r.votes.length s.vc) (.slice s.wo r.voters.length s.wc) (.slice s.bo r.best.length s.bc) 46)).alloc (.cells #[.int .i64 time] 3)).alloc (.cells #[.string d] 9)).alloc (repO0 46)).alloc (.cells #[.int .i64 0] 3)) (fun k hk => by cases hk; rw [hsz]; omega) (liesR_next hl hB hB.size) (fun W g hW hT => by
    have k1 := below_box hW e1
    have k2 := below_box hW e2
    have k4 := below_box hW e4
    have c1 := box_cell k1 0 _ rfl
    have c2 := box_cell k2 0 _ rfl
    have hd := hdo _ g W hT
    have hp4 : w.heap.size + 1 + 1 + 1 + 1 < (((((w.alloc (repO r (.slice s.lo r.log.length s.lc) (.slice s.ao r.acked.length s.ac) (.slice s.vo r.votes.length s.vc) (.slice s.wo r.voters.length s.wc) (.slice s.bo r.best.length s.bc) 46)).alloc (.cells #[.int .i64 time] 3)).alloc (.cells #[.string d] 9)).alloc (repO0 46)).alloc (.cells #[.int .i64 0] 3)).heap.size := by rw [hsz]; omega
    clear hdo hl hB e1 e2 e3 e4 k1 k2 hsm hyes
    generalize (((((w.alloc (repO r (.slice s.lo r.log.length s.lc) (.slice s.ao r.acked.length s.ac) (.slice s.vo r.votes.length s.vc) (.slice s.wo r.voters.length s.wc) (.slice s.bo r.best.length s.bc) 46)).alloc (.cells #[.int .i64 time] 3)).alloc (.cells #[.string d] 9)).alloc (repO0 46)).alloc (.cells #[.int .i64 0] 3)).heap.size = N at *
    have HK : Hid (∀ W1, Below (N + 4) W W1 → Box1 W1 (w.heap.size + 1 + 1 + 1 + 1) 3 (.int .i64 0)) := fun W1 h1 => (h1.block _ (by omega)).trans k4
    clear k4 hsz
    go_enter Tryz.func75, Tryz.ntmps75
    go_wp2_with (first
      | (go_at_call 76; refine hd.mono ?_; rintro e W1 ⟨rfl, hT1, hb1⟩; have q4 := HK.out _ hb1; have c4 := box_cell q4 0 _ rfl; have z4 := box_open q4 0))
    go_end0
    exact ⟨rfl, turn_low hT1 (by omega) _ _, ⟨hb1.os, hb1.tape, hb1.output, by simpa [World.setCell] using hb1.size, fun k hk hn => (Below.heap_setCell _ _ _ _ (fun e => hn (congrArg some e.symm))).trans (hb1.block k hk)⟩, fun k hk => by cases hk; exact box1_set q4 _⟩)
  have hlt : ∀ w1, LowB (((((w.alloc (repO r (.slice s.lo r.log.length s.lc) (.slice s.ao r.acked.length s.ac) (.slice s.vo r.votes.length s.vc) (.slice s.wo r.voters.length s.wc) (.slice s.bo r.best.length s.bc) 46)).alloc (.cells #[.int .i64 time] 3)).alloc (.cells #[.string d] 9)).alloc (repO0 46)).alloc (.cells #[.int .i64 0] 3)).heap.size (some (w.heap.size + 1 + 1 + 1 + 1)) (((((w.alloc (repO r (.slice s.lo r.log.length s.lc) (.slice s.ao r.acked.length s.ac) (.slice s.vo r.votes.length s.vc) (.slice s.wo r.voters.length s.wc) (.slice s.bo r.best.length s.bc) 46)).alloc (.cells #[.int .i64 time] 3)).alloc (.cells #[.string d] 9)).alloc (repO0 46)).alloc (.cells #[.int .i64 0] 3)) w1 → BoxF w1 (w.heap.size + 1 + 1 + 1) 46 13 (repF rep0 (.slice none 0 0) (.slice none 0 0) (.slice none 0 0) (.slice none 0 0) (.slice none 0 0) undef) := fun w1 h1 => e3.kept (h1.block _ (by rw [hsz]; omega) (by simp))
  have HF : Hid (∀ w1, LowB (((((w.alloc (repO r (.slice s.lo r.log.length s.lc) (.slice s.ao r.acked.length s.ac) (.slice s.vo r.votes.length s.vc) (.slice s.wo r.voters.length s.wc) (.slice s.bo r.best.length s.bc) 46)).alloc (.cells #[.int .i64 time] 3)).alloc (.cells #[.string d] 9)).alloc (repO0 46)).alloc (.cells #[.int .i64 0] 3)).heap.size (some (w.heap.size + 1 + 1 + 1 + 1)) (((((w.alloc (repO r (.slice s.lo r.log.length s.lc) (.slice s.ao r.acked.length s.ac) (.slice s.vo r.votes.length s.vc) (.slice s.wo r.voters.length s.wc) (.slice s.bo r.best.length s.bc) 46)).alloc (.cells #[.int .i64 time] 3)).alloc (.cells #[.string d] 9)).alloc (repO0 46)).alloc (.cells #[.int .i64 0] 3)) w1 → Below w.heap.size w w1) := fun w1 h1 => hB.trans ⟨h1.os, h1.tape, h1.output, h1.size, fun k hk => h1.block k (by rw [hsz]; omega) (by simp; omega)⟩
  clear e1 e2 e4 hdo
  go_enter Tryz.func47, Tryz.ntmps47
  go_wp2_with (first
    | (go_at_call 74; refine hface.mono ?_; rintro e w1 ⟨s', xo, xc, rfl, hR1, hO1, hL1, hX1⟩))
  have bz := hlt _ hL1
  have hw1 := HF.out _ hL1
  have bp : Box1 w1 (w.heap.size + 1 + 1 + 1 + 1) 3 (.int .i64 K) := hX1 _ rfl
  have hN : w.heap.size ≤ (((((w.alloc (repO r (.slice s.lo r.log.length s.lc) (.slice s.ao r.acked.length s.ac) (.slice s.vo r.votes.length s.vc) (.slice s.wo r.voters.length s.wc) (.slice s.bo r.best.length s.bc) 46)).alloc (.cells #[.int .i64 time] 3)).alloc (.cells #[.string d] 9)).alloc (repO0 46)).alloc (.cells #[.int .i64 0] 3)).heap.size := by rw [hsz]; omega
  clear hface hlt HF hL1 hX1 e3 hB
  have hR1' : RowsS w.heap.size w1 r' s' := ⟨own_mono hR1.log hN, own_mono hR1.best hN, own_mono hR1.ack hN, own_mono hR1.vot hN, own_mono hR1.vor hN, hR1.a1, hR1.a2, hR1.a3, hR1.a4⟩
  have hO1' : OwnO w.heap.size w1 (.slice xo o'.length xc) o' := hO1.mono hN (fun cs x h => by obtain ⟨c, e, h⟩ := h; exact ⟨c, e, own_mono h hN⟩)
  have hbA : Below w1.heap.size w1 (w1.alloc (repO r' (.slice s'.lo r'.log.length s'.lc) (.slice s'.ao r'.acked.length s'.ac) (.slice s'.vo r'.votes.length s'.vc) (.slice s'.wo r'.voters.length s'.wc) (.slice s'.bo r'.best.length s'.bc) 46)) := (Below.refl _ w1).alloc (Nat.le_refl _) _
  have bN := box_rep w1 r' (.slice s'.lo r'.log.length s'.lc) (.slice s'.ao r'.acked.length s'.ac) (.slice s'.vo r'.votes.length s'.vc) (.slice s'.wo r'.voters.length s'.wc) (.slice s'.bo r'.best.length s'.bc) undef 46 w1.heap.size rfl
  have bz2 := bz.below hbA
  have bp2 := below_box hbA bp
  have hR2 := hR1'.below hbA
  have hO2 := ownO_below hO1' hbA
  have hw2 := below_next hw1 (Nat.le_refl _) hbA
  clear hR1 hO1 hR1' hO1' bz bp hw1 hbA hsz hN
  generalize w1.alloc (repO r' (.slice s'.lo r'.log.length s'.lc) (.slice s'.ao r'.acked.length s'.ac) (.slice s'.vo r'.votes.length s'.vc) (.slice s'.wo r'.voters.length s'.wc) (.slice s'.bo r'.best.length s'.bc) 46) = V at *
  obtain ⟨c0, c1, c2, c3, c4, c5, c6, c7, c8, c9, c10, c11, c12⟩ := bN.rep (by omega)
  obtain ⟨d0, d1, d2, d3, d4, d5, d6, d7, d8, d9, d10, d11, d12⟩ := bz2.rep (by omega)
  have dz := bz2.unfrozen
  have cp := box_cell bp2 0 _ rfl
  have bG := box_whole bz2 (by omega) r' (.slice s'.lo r'.log.length s'.lc) (.slice s'.ao r'.acked.length s'.ac) (.slice s'.vo r'.votes.length s'.vc) (.slice s'.wo r'.voters.length s'.wc) (.slice s'.bo r'.best.length s'.bc)
  have hRG := hR2.stay (sets_box [(0, .int .i64 r'.id), (1, .int .i64 r'.n), (2, .int .i64 r'.view), (3, .int .i64 r'.normal), (4, .int .i64 r'.how), (5, .slice s'.lo r'.log.length s'.lc), (6, .int .i64 r'.commit), (7, .slice s'.ao r'.acked.length s'.ac), (8, .slice s'.vo r'.votes.length s'.vc), (9, .slice s'.wo r'.voters.length s'.wc), (10, .slice s'.bo r'.best.length s'.bc), (11, .int .i64 r'.bestView), (12, .int .i64 r'.bestDone)] bz2).2 (by decide) (by decide)
  have hOG := ownO_stay hO2 (sets_box [(0, .int .i64 r'.id), (1, .int .i64 r'.n), (2, .int .i64 r'.view), (3, .int .i64 r'.normal), (4, .int .i64 r'.how), (5, .slice s'.lo r'.log.length s'.lc), (6, .int .i64 r'.commit), (7, .slice s'.ao r'.acked.length s'.ac), (8, .slice s'.vo r'.votes.length s'.vc), (9, .slice s'.wo r'.voters.length s'.wc), (10, .slice s'.bo r'.best.length s'.bc), (11, .int .i64 r'.bestView), (12, .int .i64 r'.bestDone)] bz2).2 (by decide) (by decide)
  have hwG := hw2.trans (sets_below (show w.heap.size ≤ w.heap.size + 1 + 1 + 1 by omega) [(0, .int .i64 r'.id), (1, .int .i64 r'.n), (2, .int .i64 r'.view), (3, .int .i64 r'.normal), (4, .int .i64 r'.how), (5, .slice s'.lo r'.log.length s'.lc), (6, .int .i64 r'.commit), (7, .slice s'.ao r'.acked.length s'.ac), (8, .slice s'.vo r'.votes.length s'.vc), (9, .slice s'.wo r'.voters.length s'.wc), (10, .slice s'.bo r'.best.length s'.bc), (11, .int .i64 r'.bestView), (12, .int .i64 r'.bestDone)] V)
  simp only [sets] at bG hRG hOG hwG
  obtain ⟨g0, g1, g2, g3, g4, g5, g6, g7, g8, g9, g10, g11, g12⟩ := bG.rep (by omega)
  clear bN bz2 bp2 hR2 hO2 hw2 bG
  go_region
  all_goals
    go_wp2
    refine bodyPost_ret (v := .tuple #[repV r' s', .slice xo o'.length xc, .int .i64 K, .int .i64 0]) (by simp [results, Tryz.results47, go_sem, g0, g1, g2, g3, g4, g5, g6, g7, g8, g9, g10, g11, g12]) rfl ⟨s', xo, xc, rfl, hRG.below (Below.refl _ _).drew, ownO_below hOG (Below.refl _ _).drew, hwG.drew⟩
end Go.Proofs.YthnbaijkhhbelaaGreat
