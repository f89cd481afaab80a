/-
  Contracts: the program's Propose.
-/
import Derived.Test.YtgdehjdajjhjpaaRpPrS
import Derived.Test.YtgdehjdajjhjpaaRpPro
import Derived.Test.YtgdehjdajjhjpaaRpTfa
import Derived.Test.YtgdehjdajjhjpaaRpTfb
import Derived.Test.YtgdehjdajjhjpaaRpTfc
import Derived.Test.YtgdehjdajjhjpaaRpTfd
namespace Go.Proofs.Ytgdehjdajjhjpaa
open Go.RowKit Num
open scoped Classical
set_option linter.unusedVariables false

set_option maxRecDepth 100000 in
set_option maxHeartbeats 1000000 in
theorem propose_of (r : Rep) (s : Sl) (time : Int) (d : ByteArray) (r' : Rep) (o' : Msgs) (K E : Int) (w : World) (hl : LiesR w w.heap.size s r)
    (hface : Calls Try.prog 37 #[repV r s, .func (.func 38) #[] #[.pointer (some ⟨w.heap.size + 1, 0, none⟩), .pointer (some ⟨w.heap.size + 1 + 1, 0, none⟩), .pointer (some ⟨w.heap.size + 1 + 1 + 1 + 1, 0, none⟩)]] (((((w.alloc (repO r (.slice s.lo r.log.length s.lc) (.slice s.ao r.acked.length s.ac) (.slice s.vo r.votes.length s.vc) (.slice s.wo r.voters.length s.wc) (.slice s.bo r.best.length s.bc) 25)).alloc (.cells #[.int .i64 time] 3)).alloc (.cells #[.string d] 9)).alloc (repO0 25)).alloc (.cells #[.int .i64 0] 3)) fun x w1 => ∃ s' xo xc, x = .returned (.tuple #[repV r' s', .slice xo o'.length xc, .int .i64 E]) ∧ RowsS (((((w.alloc (repO r (.slice s.lo r.log.length s.lc) (.slice s.ao r.acked.length s.ac) (.slice s.vo r.votes.length s.vc) (.slice s.wo r.voters.length s.wc) (.slice s.bo r.best.length s.bc) 25)).alloc (.cells #[.int .i64 time] 3)).alloc (.cells #[.string d] 9)).alloc (repO0 25)).alloc (.cells #[.int .i64 0] 3)).heap.size w1 r' s' ∧ OwnO (((((w.alloc (repO r (.slice s.lo r.log.length s.lc) (.slice s.ao r.acked.length s.ac) (.slice s.vo r.votes.length s.vc) (.slice s.wo r.voters.length s.wc) (.slice s.bo r.best.length s.bc) 25)).alloc (.cells #[.int .i64 time] 3)).alloc (.cells #[.string d] 9)).alloc (repO0 25)).alloc (.cells #[.int .i64 0] 3)).heap.size w1 (.slice xo o'.length xc) o' ∧ LowB (((((w.alloc (repO r (.slice s.lo r.log.length s.lc) (.slice s.ao r.acked.length s.ac) (.slice s.vo r.votes.length s.vc) (.slice s.wo r.voters.length s.wc) (.slice s.bo r.best.length s.bc) 25)).alloc (.cells #[.int .i64 time] 3)).alloc (.cells #[.string d] 9)).alloc (repO0 25)).alloc (.cells #[.int .i64 0] 3)).heap.size (some (w.heap.size + 1 + 1 + 1 + 1)) (((((w.alloc (repO r (.slice s.lo r.log.length s.lc) (.slice s.ao r.acked.length s.ac) (.slice s.vo r.votes.length s.vc) (.slice s.wo r.voters.length s.wc) (.slice s.bo r.best.length s.bc) 25)).alloc (.cells #[.int .i64 time] 3)).alloc (.cells #[.string d] 9)).alloc (repO0 25)).alloc (.cells #[.int .i64 0] 3)) w1 ∧ (∀ k, some (w.heap.size + 1 + 1 + 1 + 1) = some k → w1.heap[k]? = some (.cells #[.int .i64 K] 3 (0, 0)))) :
    Calls Try.prog 16 #[repV r s, .int .i64 time, .string d] w fun x w' => ∃ s' xo xc, x = .returned (.tuple #[repV r' s', .slice xo o'.length xc, .int .i64 K, .int .i64 E]) ∧ RowsS w.heap.size w' r' s' ∧ OwnO w.heap.size w' (.slice xo o'.length xc) o' ∧ Below w.heap.size w w' := by
  have hmf : ∀ (fn : Fn) (first cap : Array Value) (w : World), (Instr.makeFunc fn first cap).run Try.prog w = .ok (.func fn first cap) w := fun _ _ _ _ => rfl
  have hB : Below w.heap.size w (((((w.alloc (repO r (.slice s.lo r.log.length s.lc) (.slice s.ao r.acked.length s.ac) (.slice s.vo r.votes.length s.vc) (.slice s.wo r.voters.length s.wc) (.slice s.bo r.best.length s.bc) 25)).alloc (.cells #[.int .i64 time] 3)).alloc (.cells #[.string d] 9)).alloc (repO0 25)).alloc (.cells #[.int .i64 0] 3)) := (((((Below.refl _ w).alloc (Nat.le_refl _) _).alloc (by simp) _).alloc (by simp; omega) _).alloc (by simp; omega) _).alloc (by simp; omega) _
  have hsz : (((((w.alloc (repO r (.slice s.lo r.log.length s.lc) (.slice s.ao r.acked.length s.ac) (.slice s.vo r.votes.length s.vc) (.slice s.wo r.voters.length s.wc) (.slice s.bo r.best.length s.bc) 25)).alloc (.cells #[.int .i64 time] 3)).alloc (.cells #[.string d] 9)).alloc (repO0 25)).alloc (.cells #[.int .i64 0] 3)).heap.size = w.heap.size + 5 := by simp
  have e1 : Box1 (((((w.alloc (repO r (.slice s.lo r.log.length s.lc) (.slice s.ao r.acked.length s.ac) (.slice s.vo r.votes.length s.vc) (.slice s.wo r.voters.length s.wc) (.slice s.bo r.best.length s.bc) 25)).alloc (.cells #[.int .i64 time] 3)).alloc (.cells #[.string d] 9)).alloc (repO0 25)).alloc (.cells #[.int .i64 0] 3)) (w.heap.size + 1) 3 (.int .i64 time) := alloc_box _ (alloc_box _ (alloc_box _ (heap_newB _ _ _ (by simp))))
  have e2 : Box1 (((((w.alloc (repO r (.slice s.lo r.log.length s.lc) (.slice s.ao r.acked.length s.ac) (.slice s.vo r.votes.length s.vc) (.slice s.wo r.voters.length s.wc) (.slice s.bo r.best.length s.bc) 25)).alloc (.cells #[.int .i64 time] 3)).alloc (.cells #[.string d] 9)).alloc (repO0 25)).alloc (.cells #[.int .i64 0] 3)) (w.heap.size + 1 + 1) 9 (.string d) := alloc_box _ (alloc_box _ (heap_newB _ _ _ (by simp)))
  have e3 : BoxF (((((w.alloc (repO r (.slice s.lo r.log.length s.lc) (.slice s.ao r.acked.length s.ac) (.slice s.vo r.votes.length s.vc) (.slice s.wo r.voters.length s.wc) (.slice s.bo r.best.length s.bc) 25)).alloc (.cells #[.int .i64 time] 3)).alloc (.cells #[.string d] 9)).alloc (repO0 25)).alloc (.cells #[.int .i64 0] 3)) (w.heap.size + 1 + 1 + 1) 25 13 (repF rep0 (.slice none 0 0) (.slice none 0 0) (.slice none 0 0) (.slice none 0 0) (.slice none 0 0) undef) := (box_rep0 _ undef 25 (w.heap.size + 1 + 1 + 1) (by simp)).alloc _
  have e4 : Box1 (((((w.alloc (repO r (.slice s.lo r.log.length s.lc) (.slice s.ao r.acked.length s.ac) (.slice s.vo r.votes.length s.vc) (.slice s.wo r.voters.length s.wc) (.slice s.bo r.best.length s.bc) 25)).alloc (.cells #[.int .i64 time] 3)).alloc (.cells #[.string d] 9)).alloc (repO0 25)).alloc (.cells #[.int .i64 0] 3)) (w.heap.size + 1 + 1 + 1 + 1) 3 (.int .i64 0) := heap_newB _ _ _ (by simp)
  have hlt : ∀ w1, LowB (((((w.alloc (repO r (.slice s.lo r.log.length s.lc) (.slice s.ao r.acked.length s.ac) (.slice s.vo r.votes.length s.vc) (.slice s.wo r.voters.length s.wc) (.slice s.bo r.best.length s.bc) 25)).alloc (.cells #[.int .i64 time] 3)).alloc (.cells #[.string d] 9)).alloc (repO0 25)).alloc (.cells #[.int .i64 0] 3)).heap.size (some (w.heap.size + 1 + 1 + 1 + 1)) (((((w.alloc (repO r (.slice s.lo r.log.length s.lc) (.slice s.ao r.acked.length s.ac) (.slice s.vo r.votes.length s.vc) (.slice s.wo r.voters.length s.wc) (.slice s.bo r.best.length s.bc) 25)).alloc (.cells #[.int .i64 time] 3)).alloc (.cells #[.string d] 9)).alloc (repO0 25)).alloc (.cells #[.int .i64 0] 3)) w1 → BoxF w1 (w.heap.size + 1 + 1 + 1) 25 13 (repF rep0 (.slice none 0 0) (.slice none 0 0) (.slice none 0 0) (.slice none 0 0) (.slice none 0 0) undef) := fun w1 h1 => e3.kept (h1.block _ (by rw [hsz]; omega) (by simp))
  have HF : Hid (∀ w1, LowB (((((w.alloc (repO r (.slice s.lo r.log.length s.lc) (.slice s.ao r.acked.length s.ac) (.slice s.vo r.votes.length s.vc) (.slice s.wo r.voters.length s.wc) (.slice s.bo r.best.length s.bc) 25)).alloc (.cells #[.int .i64 time] 3)).alloc (.cells #[.string d] 9)).alloc (repO0 25)).alloc (.cells #[.int .i64 0] 3)).heap.size (some (w.heap.size + 1 + 1 + 1 + 1)) (((((w.alloc (repO r (.slice s.lo r.log.length s.lc) (.slice s.ao r.acked.length s.ac) (.slice s.vo r.votes.length s.vc) (.slice s.wo r.voters.length s.wc) (.slice s.bo r.best.length s.bc) 25)).alloc (.cells #[.int .i64 time] 3)).alloc (.cells #[.string d] 9)).alloc (repO0 25)).alloc (.cells #[.int .i64 0] 3)) w1 → Below w.heap.size w w1) := fun w1 h1 => hB.trans ⟨h1.os, h1.tape, h1.output, h1.size, fun k hk => h1.block k (by rw [hsz]; omega) (by simp; omega)⟩
  clear e1 e2 e4
  go_enter Try.func16, Try.ntmps16
  go_wp2_with (first
    | (go_at_call 37; refine hface.mono ?_; rintro e w1 ⟨s', xo, xc, rfl, hR1, hO1, hL1, hX1⟩))
  have bz := hlt _ hL1
  have hw1 := HF.out _ hL1
  have bp : Box1 w1 (w.heap.size + 1 + 1 + 1 + 1) 3 (.int .i64 K) := hX1 _ rfl
  have hN : w.heap.size ≤ (((((w.alloc (repO r (.slice s.lo r.log.length s.lc) (.slice s.ao r.acked.length s.ac) (.slice s.vo r.votes.length s.vc) (.slice s.wo r.voters.length s.wc) (.slice s.bo r.best.length s.bc) 25)).alloc (.cells #[.int .i64 time] 3)).alloc (.cells #[.string d] 9)).alloc (repO0 25)).alloc (.cells #[.int .i64 0] 3)).heap.size := by rw [hsz]; omega
  clear hface hlt HF hL1 hX1 e3 hB
  have hR1' : RowsS w.heap.size w1 r' s' := ⟨own_mono hR1.log hN, own_mono hR1.best hN, own_mono hR1.ack hN, own_mono hR1.vot hN, own_mono hR1.vor hN, hR1.a1, hR1.a2, hR1.a3, hR1.a4⟩
  have hO1' : OwnO w.heap.size w1 (.slice xo o'.length xc) o' := hO1.mono hN (fun cs x h => by obtain ⟨c, e, h⟩ := h; exact ⟨c, e, own_mono h hN⟩)
  have hbA : Below w1.heap.size w1 (w1.alloc (repO r' (.slice s'.lo r'.log.length s'.lc) (.slice s'.ao r'.acked.length s'.ac) (.slice s'.vo r'.votes.length s'.vc) (.slice s'.wo r'.voters.length s'.wc) (.slice s'.bo r'.best.length s'.bc) 25)) := (Below.refl _ w1).alloc (Nat.le_refl _) _
  have bN := box_rep w1 r' (.slice s'.lo r'.log.length s'.lc) (.slice s'.ao r'.acked.length s'.ac) (.slice s'.vo r'.votes.length s'.vc) (.slice s'.wo r'.voters.length s'.wc) (.slice s'.bo r'.best.length s'.bc) undef 25 w1.heap.size rfl
  have bz2 := bz.below hbA
  have bp2 := below_box hbA bp
  have hR2 := hR1'.below hbA
  have hO2 := ownO_below hO1' hbA
  have hw2 := below_next hw1 (Nat.le_refl _) hbA
  clear hR1 hO1 hR1' hO1' bz bp hw1 hbA hsz hN
  generalize w1.alloc (repO r' (.slice s'.lo r'.log.length s'.lc) (.slice s'.ao r'.acked.length s'.ac) (.slice s'.vo r'.votes.length s'.vc) (.slice s'.wo r'.voters.length s'.wc) (.slice s'.bo r'.best.length s'.bc) 25) = V at *
  obtain ⟨c0, c1, c2, c3, c4, c5, c6, c7, c8, c9, c10, c11, c12⟩ := bN.rep (by omega)
  obtain ⟨d0, d1, d2, d3, d4, d5, d6, d7, d8, d9, d10, d11, d12⟩ := bz2.rep (by omega)
  have dz := bz2.unfrozen
  have cp := box_cell bp2 0 _ rfl
  have bG := box_whole bz2 (by omega) r' (.slice s'.lo r'.log.length s'.lc) (.slice s'.ao r'.acked.length s'.ac) (.slice s'.vo r'.votes.length s'.vc) (.slice s'.wo r'.voters.length s'.wc) (.slice s'.bo r'.best.length s'.bc)
  have hRG := hR2.stay (sets_box [(0, .int .i64 r'.id), (1, .int .i64 r'.n), (2, .int .i64 r'.view), (3, .int .i64 r'.normal), (4, .int .i64 r'.how), (5, .slice s'.lo r'.log.length s'.lc), (6, .int .i64 r'.commit), (7, .slice s'.ao r'.acked.length s'.ac), (8, .slice s'.vo r'.votes.length s'.vc), (9, .slice s'.wo r'.voters.length s'.wc), (10, .slice s'.bo r'.best.length s'.bc), (11, .int .i64 r'.bestView), (12, .int .i64 r'.bestDone)] bz2).2 (by decide) (by decide)
  have hOG := ownO_stay hO2 (sets_box [(0, .int .i64 r'.id), (1, .int .i64 r'.n), (2, .int .i64 r'.view), (3, .int .i64 r'.normal), (4, .int .i64 r'.how), (5, .slice s'.lo r'.log.length s'.lc), (6, .int .i64 r'.commit), (7, .slice s'.ao r'.acked.length s'.ac), (8, .slice s'.vo r'.votes.length s'.vc), (9, .slice s'.wo r'.voters.length s'.wc), (10, .slice s'.bo r'.best.length s'.bc), (11, .int .i64 r'.bestView), (12, .int .i64 r'.bestDone)] bz2).2 (by decide) (by decide)
  have hwG := hw2.trans (sets_below (show w.heap.size ≤ w.heap.size + 1 + 1 + 1 by omega) [(0, .int .i64 r'.id), (1, .int .i64 r'.n), (2, .int .i64 r'.view), (3, .int .i64 r'.normal), (4, .int .i64 r'.how), (5, .slice s'.lo r'.log.length s'.lc), (6, .int .i64 r'.commit), (7, .slice s'.ao r'.acked.length s'.ac), (8, .slice s'.vo r'.votes.length s'.vc), (9, .slice s'.wo r'.voters.length s'.wc), (10, .slice s'.bo r'.best.length s'.bc), (11, .int .i64 r'.bestView), (12, .int .i64 r'.bestDone)] V)
  simp only [sets] at bG hRG hOG hwG
  obtain ⟨g0, g1, g2, g3, g4, g5, g6, g7, g8, g9, g10, g11, g12⟩ := bG.rep (by omega)
  clear bN bz2 bp2 hR2 hO2 hw2 bG
  go_region
  all_goals
    go_wp2
    refine bodyPost_ret (v := .tuple #[repV r' s', .slice xo o'.length xc, .int .i64 K, .int .i64 E]) (by simp [results, Try.results16, go_sem, g0, g1, g2, g3, g4, g5, g6, g7, g8, g9, g10, g11, g12]) rfl ⟨s', xo, xc, rfl, hRG.below (Below.refl _ _).drew, ownO_below hOG (Below.refl _ _).drew, hwG.drew⟩
set_option maxRecDepth 100000 in
set_option maxHeartbeats 1000000 in
/-- Beside an error no place is told. -/
theorem propose_no (r : Rep) (s : Sl) (time : Int) (d : ByteArray) (E : Int) (w : World) (hl : LiesR w w.heap.size s r)
    (hface : Calls Try.prog 37 #[repV r s, .func (.func 38) #[] #[.pointer (some ⟨w.heap.size + 1, 0, none⟩), .pointer (some ⟨w.heap.size + 1 + 1, 0, none⟩), .pointer (some ⟨w.heap.size + 1 + 1 + 1 + 1, 0, none⟩)]] (((((w.alloc (repO r (.slice s.lo r.log.length s.lc) (.slice s.ao r.acked.length s.ac) (.slice s.vo r.votes.length s.vc) (.slice s.wo r.voters.length s.wc) (.slice s.bo r.best.length s.bc) 25)).alloc (.cells #[.int .i64 time] 3)).alloc (.cells #[.string d] 9)).alloc (repO0 25)).alloc (.cells #[.int .i64 0] 3)) fun x w1 => Refused (((((w.alloc (repO r (.slice s.lo r.log.length s.lc) (.slice s.ao r.acked.length s.ac) (.slice s.vo r.votes.length s.vc) (.slice s.wo r.voters.length s.wc) (.slice s.bo r.best.length s.bc) 25)).alloc (.cells #[.int .i64 time] 3)).alloc (.cells #[.string d] 9)).alloc (repO0 25)).alloc (.cells #[.int .i64 0] 3)) r E none x w1) :
    Calls Try.prog 16 #[repV r s, .int .i64 time, .string d] w fun x w' => ∃ s' xo xc, x = .returned (.tuple #[repV r s', .slice xo ([] : Msgs).length xc, .int .i64 0, .int .i64 E]) ∧ RowsS w.heap.size w' r s' ∧ OwnO w.heap.size w' (.slice xo ([] : Msgs).length xc) [] ∧ Below w.heap.size w w' := by
  refine propose_of r s time d r [] 0 E w hl (hface.mono ?_)
  intro x w1 h
  obtain ⟨s', rfl, hr, hlow⟩ := h
  have e4 : Box1 (((((w.alloc (repO r (.slice s.lo r.log.length s.lc) (.slice s.ao r.acked.length s.ac) (.slice s.vo r.votes.length s.vc) (.slice s.wo r.voters.length s.wc) (.slice s.bo r.best.length s.bc) 25)).alloc (.cells #[.int .i64 time] 3)).alloc (.cells #[.string d] 9)).alloc (repO0 25)).alloc (.cells #[.int .i64 0] 3)) (w.heap.size + 1 + 1 + 1 + 1) 3 (.int .i64 0) := heap_newB _ _ _ (by simp)
  exact ⟨s', none, 0, rfl, hr, OwnS.nil _ _ _ _ _, ⟨hlow.os, hlow.tape, hlow.output, hlow.size, fun k hk _ => hlow.block k hk (by simp)⟩, fun k hk => by cases hk; exact (hlow.block _ (by simp) (by simp)).trans e4⟩
set_option maxRecDepth 100000 in
set_option maxHeartbeats 1000000 in
/-- The turn panics. -/
theorem propose_boom (r : Rep) (s : Sl) (time : Int) (d : ByteArray) (hsm : SmallR r) (hyes : May r) (E : Int)
    (hdo : ∀ (B g : Nat) (W : World), Turn B W g r [] → Calls Try.prog 39 #[.pointer (some ⟨g, 0, none⟩), .int .i64 time, .string d] W fun e W' => e = .panicked (boom E) ∧ Below W.heap.size W W')
    (w : World) (hl : LiesR w w.heap.size s r) :
    Calls Try.prog 16 #[repV r s, .int .i64 time, .string d] w fun x w' => ∃ s' xo xc, x = .returned (.tuple #[repV r s', .slice xo ([] : Msgs).length xc, .int .i64 0, .int .i64 E]) ∧ RowsS w.heap.size w' r s' ∧ OwnO w.heap.size w' (.slice xo ([] : Msgs).length xc) [] ∧ Below w.heap.size w w' := by
  have hmf : ∀ (fn : Fn) (first cap : Array Value) (w : World), (Instr.makeFunc fn first cap).run Try.prog w = .ok (.func fn first cap) w := fun _ _ _ _ => rfl
  have hB : Below w.heap.size w (((((w.alloc (repO r (.slice s.lo r.log.length s.lc) (.slice s.ao r.acked.length s.ac) (.slice s.vo r.votes.length s.vc) (.slice s.wo r.voters.length s.wc) (.slice s.bo r.best.length s.bc) 25)).alloc (.cells #[.int .i64 time] 3)).alloc (.cells #[.string d] 9)).alloc (repO0 25)).alloc (.cells #[.int .i64 0] 3)) := (((((Below.refl _ w).alloc (Nat.le_refl _) _).alloc (by simp) _).alloc (by simp; omega) _).alloc (by simp; omega) _).alloc (by simp; omega) _
  have hsz : (((((w.alloc (repO r (.slice s.lo r.log.length s.lc) (.slice s.ao r.acked.length s.ac) (.slice s.vo r.votes.length s.vc) (.slice s.wo r.voters.length s.wc) (.slice s.bo r.best.length s.bc) 25)).alloc (.cells #[.int .i64 time] 3)).alloc (.cells #[.string d] 9)).alloc (repO0 25)).alloc (.cells #[.int .i64 0] 3)).heap.size = w.heap.size + 5 := by simp
  have e1 : Box1 (((((w.alloc (repO r (.slice s.lo r.log.length s.lc) (.slice s.ao r.acked.length s.ac) (.slice s.vo r.votes.length s.vc) (.slice s.wo r.voters.length s.wc) (.slice s.bo r.best.length s.bc) 25)).alloc (.cells #[.int .i64 time] 3)).alloc (.cells #[.string d] 9)).alloc (repO0 25)).alloc (.cells #[.int .i64 0] 3)) (w.heap.size + 1) 3 (.int .i64 time) := alloc_box _ (alloc_box _ (alloc_box _ (heap_newB _ _ _ (by simp))))
  have e2 : Box1 (((((w.alloc (repO r (.slice s.lo r.log.length s.lc) (.slice s.ao r.acked.length s.ac) (.slice s.vo r.votes.length s.vc) (.slice s.wo r.voters.length s.wc) (.slice s.bo r.best.length s.bc) 25)).alloc (.cells #[.int .i64 time] 3)).alloc (.cells #[.string d] 9)).alloc (repO0 25)).alloc (.cells #[.int .i64 0] 3)) (w.heap.size + 1 + 1) 9 (.string d) := alloc_box _ (alloc_box _ (heap_newB _ _ _ (by simp)))
  have e3 : BoxF (((((w.alloc (repO r (.slice s.lo r.log.length s.lc) (.slice s.ao r.acked.length s.ac) (.slice s.vo r.votes.length s.vc) (.slice s.wo r.voters.length s.wc) (.slice s.bo r.best.length s.bc) 25)).alloc (.cells #[.int .i64 time] 3)).alloc (.cells #[.string d] 9)).alloc (repO0 25)).alloc (.cells #[.int .i64 0] 3)) (w.heap.size + 1 + 1 + 1) 25 13 (repF rep0 (.slice none 0 0) (.slice none 0 0) (.slice none 0 0) (.slice none 0 0) (.slice none 0 0) undef) := (box_rep0 _ undef 25 (w.heap.size + 1 + 1 + 1) (by simp)).alloc _
  have e4 : Box1 (((((w.alloc (repO r (.slice s.lo r.log.length s.lc) (.slice s.ao r.acked.length s.ac) (.slice s.vo r.votes.length s.vc) (.slice s.wo r.voters.length s.wc) (.slice s.bo r.best.length s.bc) 25)).alloc (.cells #[.int .i64 time] 3)).alloc (.cells #[.string d] 9)).alloc (repO0 25)).alloc (.cells #[.int .i64 0] 3)) (w.heap.size + 1 + 1 + 1 + 1) 3 (.int .i64 0) := heap_newB _ _ _ (by simp)
  refine propose_no r s time d E w hl ?_
  refine face_no_propose r s hsm hyes _ _ _ E none _ (by simp) (liesR_next hl hB hB.size) fun W g hW hT => ?_
  have k1 := below_box hW e1
  have k2 := below_box hW e2
  have c1 := box_cell k1 0 _ rfl
  have c2 := box_cell k2 0 _ rfl
  have hd := hdo _ g W hT
  have hs := hT.base
  clear hdo hl hB e1 e2 e3 e4 k1 k2 hsm hyes
  generalize (((((w.alloc (repO r (.slice s.lo r.log.length s.lc) (.slice s.ao r.acked.length s.ac) (.slice s.vo r.votes.length s.vc) (.slice s.wo r.voters.length s.wc) (.slice s.bo r.best.length s.bc) 25)).alloc (.cells #[.int .i64 time] 3)).alloc (.cells #[.string d] 9)).alloc (repO0 25)).alloc (.cells #[.int .i64 0] 3)).heap.size = N at *
  clear hsz
  go_enter Try.func38, Try.ntmps38
  go_wp2_with (first
    | (go_at_call 39; refine hd.mono ?_; rintro e W1 ⟨rfl, hb1⟩))
  exact ⟨rfl, rfl, LowB.of_below (hb1.mono hs) none, by simp⟩
/-- What is made of something new. -/
def Num.proR (r : Rep) (time : Int) (d : ByteArray) [∀ q, Decidable (May q)] : Rep × Msgs × Int × Int :=
  if May r ∧ (0 ≤ time ∧ time ≤ 1099511627775) ∧ d.size ≤ 20000 then
    if r.how = 0 ∧ r.view % r.n = r.id then
      if r.log.length < 1000 ∧ propT r time < 1099511627776 then (propR r ⟨propT r time, d⟩, propM r ⟨propT r time, d⟩, ((r.log.length + 1 : Nat) : Int), 0)
      else (r, [], 0, 4)
    else (r, [], 0, 17)
  else (r, [], 0, 1)
theorem propose_anyS (r : Rep) (s : Sl) (hsm : SmallR r) (time : Int) (d : ByteArray) (w : World) (hl : LiesR w w.heap.size s r) :
    Calls Try.prog 16 #[repV r s, .int .i64 time, .string d] w fun x w' => ∃ s' xo xc, x = .returned (.tuple #[repV (proR r time d).1 s', .slice xo (proR r time d).2.1.length xc, .int .i64 (proR r time d).2.2.1, .int .i64 (proR r time d).2.2.2]) ∧ RowsS w.heap.size w' (proR r time d).1 s' ∧ OwnO w.heap.size w' (.slice xo (proR r time d).2.1.length xc) (proR r time d).2.1 ∧ Below w.heap.size w w' := by
  unfold proR
  by_cases h0 : May r
  · have hv := h0.views.1
    have hL := prevT_in h0.log.2 r.log.length
    by_cases h1 : (0 ≤ time ∧ time ≤ 1099511627775) ∧ d.size ≤ 20000
    · rw [if_pos ⟨h0, h1⟩]
      by_cases h2 : r.how = 0 ∧ r.view % r.n = r.id
      · rw [if_pos h2]
        have hT : ∀ t, propT r time = t → (r.log.length < 1000 ∧ t < 1099511627776 → ∀ (B g : Nat) (W : World), Turn B W g r [] → Calls Try.prog 39 #[.pointer (some ⟨g, 0, none⟩), .int .i64 time, .string d] W fun e W' => e = .returned (.int .i64 ((r.log.length + 1 : Nat) : Int)) ∧ Turn B W' g (propR r ⟨t, d⟩) (propM r ⟨t, d⟩) ∧ Below B W W') ∧ (¬ (r.log.length < 1000 ∧ t < 1099511627776) → ∀ (B g : Nat) (W : World), Turn B W g r [] → Calls Try.prog 39 #[.pointer (some ⟨g, 0, none⟩), .int .i64 time, .string d] W fun e W' => e = .panicked (boom 4) ∧ Below W.heap.size W W') := by
          intro t ht
          have ht' : t = max (max time 1) (lastT r.log + 1) := ht.symm
          by_cases n1 : time < 1
          · by_cases n2 : 1 < lastT r.log + 1
            · have e : t = lastT r.log + 1 := by omega
              subst e
              exact ⟨fun h B g W hh => prop_yesd B g r time (lastT r.log) d W hh hv rfl hL h1 h2 n1 n2 (by omega) h.2, fun h B g W hh => if q : (r.log.length : Int) < 1000 then prop_full1d B g r time (lastT r.log) d W hh hv rfl hL h1 h2 n1 n2 q (fun q2 => h ⟨by omega, q2⟩) else prop_full2d B g r time (lastT r.log) d W hh hv rfl hL h1 h2 n1 n2 q⟩
            · have e : t = 1 := by omega
              subst e
              exact ⟨fun h B g W hh => prop_yesb B g r time (lastT r.log) d W hh hv rfl hL h1 h2 n1 n2 (by omega) (by omega), fun h B g W hh => if q : (r.log.length : Int) < 1000 then absurd (show r.log.length < 1000 ∧ (1 : Int) < 1099511627776 by omega) h else prop_full2b B g r time (lastT r.log) d W hh hv rfl hL h1 h2 n1 n2 q⟩
          · by_cases n2 : time < lastT r.log + 1
            · have e : t = lastT r.log + 1 := by omega
              subst e
              exact ⟨fun h B g W hh => prop_yesc B g r time (lastT r.log) d W hh hv rfl hL h1 h2 n1 n2 (by omega) h.2, fun h B g W hh => if q : (r.log.length : Int) < 1000 then prop_full1c B g r time (lastT r.log) d W hh hv rfl hL h1 h2 n1 n2 q (fun q2 => h ⟨by omega, q2⟩) else prop_full2c B g r time (lastT r.log) d W hh hv rfl hL h1 h2 n1 n2 q⟩
            · have e : t = time := by omega
              subst e
              exact ⟨fun h B g W hh => prop_yesa B g r _ (lastT r.log) d W hh hv rfl hL h1 h2 n1 n2 (by omega) h.2, fun h B g W hh => if q : (r.log.length : Int) < 1000 then prop_full1a B g r _ (lastT r.log) d W hh hv rfl hL h1 h2 n1 n2 q (fun q2 => h ⟨by omega, q2⟩) else prop_full2a B g r _ (lastT r.log) d W hh hv rfl hL h1 h2 n1 n2 q⟩
        by_cases h3 : r.log.length < 1000 ∧ propT r time < 1099511627776
        · rw [if_pos h3]
          exact propose_ok r s time d hsm h0 _ _ _ ((hT _ rfl).1 h3) w hl
        · rw [if_neg h3]
          exact propose_boom r s time d hsm h0 4 ((hT _ rfl).2 h3) w hl
      · rw [if_neg h2]
        exact propose_boom r s time d hsm h0 17 (fun B g W hh => prop_prim B g r [] time d W hh hv h1 h2) w hl
    · rw [if_neg (fun h => h1 h.2)]
      exact propose_boom r s time d hsm h0 1 (fun B g W hh => (prop_arg B g r [] time d W hh h1).mono fun e W' h => ⟨h.1, by rw [h.2]; exact Below.refl _ _⟩) w hl
  · rw [if_neg (fun h => h0 h.1)]
    have hmf : ∀ (fn : Fn) (first cap : Array Value) (w : World), (Instr.makeFunc fn first cap).run Try.prog w = .ok (.func fn first cap) w := fun _ _ _ _ => rfl
    have hB : Below w.heap.size w (((((w.alloc (repO r (.slice s.lo r.log.length s.lc) (.slice s.ao r.acked.length s.ac) (.slice s.vo r.votes.length s.vc) (.slice s.wo r.voters.length s.wc) (.slice s.bo r.best.length s.bc) 25)).alloc (.cells #[.int .i64 time] 3)).alloc (.cells #[.string d] 9)).alloc (repO0 25)).alloc (.cells #[.int .i64 0] 3)) := (((((Below.refl _ w).alloc (Nat.le_refl _) _).alloc (by simp) _).alloc (by simp; omega) _).alloc (by simp; omega) _).alloc (by simp; omega) _
    have hsz : (((((w.alloc (repO r (.slice s.lo r.log.length s.lc) (.slice s.ao r.acked.length s.ac) (.slice s.vo r.votes.length s.vc) (.slice s.wo r.voters.length s.wc) (.slice s.bo r.best.length s.bc) 25)).alloc (.cells #[.int .i64 time] 3)).alloc (.cells #[.string d] 9)).alloc (repO0 25)).alloc (.cells #[.int .i64 0] 3)).heap.size = w.heap.size + 5 := by simp
    have e1 : Box1 (((((w.alloc (repO r (.slice s.lo r.log.length s.lc) (.slice s.ao r.acked.length s.ac) (.slice s.vo r.votes.length s.vc) (.slice s.wo r.voters.length s.wc) (.slice s.bo r.best.length s.bc) 25)).alloc (.cells #[.int .i64 time] 3)).alloc (.cells #[.string d] 9)).alloc (repO0 25)).alloc (.cells #[.int .i64 0] 3)) (w.heap.size + 1) 3 (.int .i64 time) := alloc_box _ (alloc_box _ (alloc_box _ (heap_newB _ _ _ (by simp))))
    have e2 : Box1 (((((w.alloc (repO r (.slice s.lo r.log.length s.lc) (.slice s.ao r.acked.length s.ac) (.slice s.vo r.votes.length s.vc) (.slice s.wo r.voters.length s.wc) (.slice s.bo r.best.length s.bc) 25)).alloc (.cells #[.int .i64 time] 3)).alloc (.cells #[.string d] 9)).alloc (repO0 25)).alloc (.cells #[.int .i64 0] 3)) (w.heap.size + 1 + 1) 9 (.string d) := alloc_box _ (alloc_box _ (heap_newB _ _ _ (by simp)))
    have e3 : BoxF (((((w.alloc (repO r (.slice s.lo r.log.length s.lc) (.slice s.ao r.acked.length s.ac) (.slice s.vo r.votes.length s.vc) (.slice s.wo r.voters.length s.wc) (.slice s.bo r.best.length s.bc) 25)).alloc (.cells #[.int .i64 time] 3)).alloc (.cells #[.string d] 9)).alloc (repO0 25)).alloc (.cells #[.int .i64 0] 3)) (w.heap.size + 1 + 1 + 1) 25 13 (repF rep0 (.slice none 0 0) (.slice none 0 0) (.slice none 0 0) (.slice none 0 0) (.slice none 0 0) undef) := (box_rep0 _ undef 25 (w.heap.size + 1 + 1 + 1) (by simp)).alloc _
    have e4 : Box1 (((((w.alloc (repO r (.slice s.lo r.log.length s.lc) (.slice s.ao r.acked.length s.ac) (.slice s.vo r.votes.length s.vc) (.slice s.wo r.voters.length s.wc) (.slice s.bo r.best.length s.bc) 25)).alloc (.cells #[.int .i64 time] 3)).alloc (.cells #[.string d] 9)).alloc (repO0 25)).alloc (.cells #[.int .i64 0] 3)) (w.heap.size + 1 + 1 + 1 + 1) 3 (.int .i64 0) := heap_newB _ _ _ (by simp)
    refine propose_no r s time d 1 w hl ?_
    exact face_arg r s hsm h0 _ none _ (liesR_next hl hB hB.size)
theorem propose_any (r : Rep) (s : Sl) (hsm : SmallR r) (time : Int) (d : ByteArray) (w : World) (hl : LiesR w w.heap.size s r) :
    Calls Try.prog 16 #[repV r s, .int .i64 time, .string d] w fun x w' => ∃ s' xo xc, x = .returned (.tuple #[repV (proR r time d).1 s', .slice xo (proR r time d).2.1.length xc, .int .i64 (proR r time d).2.2.1, .int .i64 (proR r time d).2.2.2]) ∧ LiesR w' w'.heap.size s' (proR r time d).1 ∧ LiesM w' w'.heap.size xo (proR r time d).2.1 ∧ Below w.heap.size w w' :=
  (propose_anyS r s hsm time d w hl).mono fun x w' ⟨s', xo, xc, e, hR, hO, hb⟩ => ⟨s', xo, xc, e, rowsS_lies hR, ownO_liesM hO, hb⟩
end Go.Proofs.Ytgdehjdajjhjpaa
