/-
  What the face tells; the result's box.
-/
import Derived.Test.YtgdehjdajjhjpaaRpFac2
namespace Go.Proofs.Ytgdehjdajjhjpaa
open Go.RowKit Num
open scoped Classical
set_option linter.unusedVariables false

theorem rowsS_lies {B : Nat} {w : World} {r : Rep} {s : Sl} (h : RowsS B w r s) : LiesR w w.heap.size s r := by
  obtain ⟨lo, lc, e1, l1⟩ := ownE_lies h.log
  obtain ⟨bo, bc, e2, l2⟩ := ownE_lies h.best
  obtain ⟨ao, ac, e3, l3⟩ := ownN_lies h.ack
  obtain ⟨vo, vc, e4, l4⟩ := ownN_lies h.vot
  obtain ⟨wo, wc, e5, l5⟩ := ownN_lies h.vor
  simp only [Value.slice.injEq, true_and] at e1 e2 e3 e4 e5
  obtain ⟨e1, _⟩ := e1
  obtain ⟨e2, _⟩ := e2
  obtain ⟨e3, _⟩ := e3
  obtain ⟨e4, _⟩ := e4
  obtain ⟨e5, _⟩ := e5
  subst e1 e2 e3 e4 e5
  exact ⟨l1, l3, l4, l5, l2⟩
theorem ownO_liesM {B : Nat} {w : World} {ao : Option Addr} {n c : Nat} {l : Msgs} (h : OwnO B w (.slice ao n c) l) : LiesM w w.heap.size ao l := by
  obtain ⟨bo, bc, e, hl⟩ := ownO_lies h
  cases e
  exact hl
theorem ownO_deep {B B' : Nat} {w : World} {v : Value} {l : Msgs} (h : OwnO B' w v l) (hB : B ≤ B') : OwnO B w v l := h.mono hB (fun cs x h => by obtain ⟨c, e, h⟩ := h; exact ⟨c, e, own_mono h hB⟩)
theorem rowsS_deep {B B' : Nat} {w : World} {r : Rep} {s : Sl} (h : RowsS B' w r s) (hB : B ≤ B') : RowsS B w r s := ⟨own_mono h.log hB, own_mono h.best hB, own_mono h.ack hB, own_mono h.vot hB, own_mono h.vor hB, h.a1, h.a2, h.a3, h.a4⟩
/-- What the face tells. -/
def Num.FaceSays (w : World) (r : Rep) (o : Msgs) (E : Int) (x : Ending) (w' : World) : Prop := ∃ s' xo xc, x = .returned (.tuple #[repV r s', .slice xo o.length xc, .int .i64 E]) ∧ RowsS w.heap.size w' r s' ∧ OwnO w.heap.size w' (.slice xo o.length xc) o ∧ Below w.heap.size w w'
theorem says_refused {w w' : World} {r : Rep} {e : Int} {x : Ending} (h : Refused w r e none x w') : FaceSays w r [] e x w' := by
  obtain ⟨s', rfl, hr, hl⟩ := h
  exact ⟨s', none, 0, rfl, hr, OwnS.nil _ _ _ _ _, hl.below⟩
/-- The result's box is written whole. -/
theorem res_box {w V : World} {g : Nat} (hg : w.heap.size ≤ g) {q : Rep} {vl va vv vw vb : Value} (bz : BoxF V g 25 13 (repF q vl va vv vw vb undef)) (hV : Below w.heap.size w V) (r : Rep) (s : Sl) :
    BoxF (sets V g [(0, .int .i64 r.id), (1, .int .i64 r.n), (2, .int .i64 r.view), (3, .int .i64 r.normal), (4, .int .i64 r.how), (5, .slice s.lo r.log.length s.lc), (6, .int .i64 r.commit), (7, .slice s.ao r.acked.length s.ac), (8, .slice s.vo r.votes.length s.vc), (9, .slice s.wo r.voters.length s.wc), (10, .slice s.bo r.best.length s.bc), (11, .int .i64 r.bestView), (12, .int .i64 r.bestDone)]) g 25 13 (repF r (.slice s.lo r.log.length s.lc) (.slice s.ao r.acked.length s.ac) (.slice s.vo r.votes.length s.vc) (.slice s.wo r.voters.length s.wc) (.slice s.bo r.best.length s.bc) undef) ∧ Stay (fun _ => False) 25 V (sets V g [(0, .int .i64 r.id), (1, .int .i64 r.n), (2, .int .i64 r.view), (3, .int .i64 r.normal), (4, .int .i64 r.how), (5, .slice s.lo r.log.length s.lc), (6, .int .i64 r.commit), (7, .slice s.ao r.acked.length s.ac), (8, .slice s.vo r.votes.length s.vc), (9, .slice s.wo r.voters.length s.wc), (10, .slice s.bo r.best.length s.bc), (11, .int .i64 r.bestView), (12, .int .i64 r.bestDone)]) ∧ Below w.heap.size w (sets V g [(0, .int .i64 r.id), (1, .int .i64 r.n), (2, .int .i64 r.view), (3, .int .i64 r.normal), (4, .int .i64 r.how), (5, .slice s.lo r.log.length s.lc), (6, .int .i64 r.commit), (7, .slice s.ao r.acked.length s.ac), (8, .slice s.vo r.votes.length s.vc), (9, .slice s.wo r.voters.length s.wc), (10, .slice s.bo r.best.length s.bc), (11, .int .i64 r.bestView), (12, .int .i64 r.bestDone)]) :=
  ⟨box_whole bz (by omega) r (.slice s.lo r.log.length s.lc) (.slice s.ao r.acked.length s.ac) (.slice s.vo r.votes.length s.vc) (.slice s.wo r.voters.length s.wc) (.slice s.bo r.best.length s.bc), (sets_box _ bz).2, hV.trans (sets_below hg _ V)⟩
end Go.Proofs.Ytgdehjdajjhjpaa
