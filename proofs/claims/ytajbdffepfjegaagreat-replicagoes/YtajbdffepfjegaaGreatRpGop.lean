/-
  For ReplicaGoes: a box of another block leaves a replica's lists alone.
-/
import Derived.Test.YtajbdffepfjegaaGreatRpMz
import Derived.Test.YtajbdffepfjegaaGreatRpG8
import Derived.Test.YtajbdffepfjegaaGreatRpRMc
namespace Go.Proofs.YtajbdffepfjegaaGreat
open Go.RowKit Num
set_option linter.unusedVariables false
set_option maxRecDepth 100000

theorem grown_setG (w : World) (p i : Nat) (u : Value) : w.grownBy (w.setCell ⟨p, i, none⟩ u) (some p) :=
  ⟨rfl, rfl, rfl, by show w.heap.size ≤ (w.heap.modify _ _).size; simp, fun k _ hn => Below.heap_setCell _ _ _ _ (fun e => hn (by rw [e]))⟩
theorem sets_grownG (d : Nat) : ∀ (l : List (Nat × Value)) (w : World), w.grownBy (sets w d l) (some d)
  | [], w => World.grownBy.refl w _
  | (i, v) :: l, w => (grown_setG w d i v).trans (sets_grownG d l _)
theorem rows_farG {B : Nat} {w w' : World} {r : Rep} {s : Sl} {d : Nat} (h : RowsS B w r s) (hg : w.grownBy w' (some d)) (hd : d < B) : RowsS B w' r s := by
  have far : ∀ {e sz n : Nat} {u : Value} {xs : List Value}, w.ownsRow B e sz u n xs → w'.ownsRow B e sz u n xs := fun hr => hr.kept hg (by
    rename_i u _
    cases hu : u.ownBlock with
    | none => exact .inl rfl
    | some k =>
      refine .inr fun e => ?_
      have := (hr.lt k hu).1
      cases e
      omega)
  exact ⟨far h.log, far h.best, far h.ack, far h.vot, far h.vor, h.a1, h.a2, h.a3, h.a4⟩
theorem wide_may {r : Rep} (h : May r) : WideM0 r ∧ r.log.length ≤ 1000000 ∧ r.best.length ≤ 1000000 ∧ r.acked.length ≤ 1000000 ∧ r.votes.length ≤ 1000000 ∧ r.voters.length ≤ 1000000 := by
  have hn := h.one.1
  have h1 := ids_len h.votes (by omega)
  have h2 := ids_len h.voters (by omega)
  have h3 := h.ack.1
  have h4 := h.log.1
  have h5 := h.best.1.1
  exact ⟨⟨by omega, by omega, by omega, by omega⟩, by omega, by omega, by omega, by omega, by omega⟩
/-- Behind the storing of a replica that Take told into the box of the law's own. -/
theorem goes_end {w w3 w5 : World} {B : Nat} {q q2 : Rep} {s s3 : Sl} (hR : RowsS B w3 q2 s3) (hb : Below w3.heap.size w3 w5) (hB : w.heap.size < B) (hbx : BoxS w5 w.heap.size q s) (hw5 : Below w.heap.size w w5) :
    BoxS (sets w5 w.heap.size [(0, .int .i64 q2.id), (1, .int .i64 q2.n), (2, .int .i64 q2.view), (3, .int .i64 q2.normal), (4, .int .i64 q2.how), (5, .slice s3.lo q2.log.length s3.lc), (6, .int .i64 q2.commit), (7, .slice s3.ao q2.acked.length s3.ac), (8, .slice s3.vo q2.votes.length s3.vc), (9, .slice s3.wo q2.voters.length s3.wc), (10, .slice s3.bo q2.best.length s3.bc), (11, .int .i64 q2.bestView), (12, .int .i64 q2.bestDone)]) w.heap.size q2 s3 ∧ LiesR (sets w5 w.heap.size [(0, .int .i64 q2.id), (1, .int .i64 q2.n), (2, .int .i64 q2.view), (3, .int .i64 q2.normal), (4, .int .i64 q2.how), (5, .slice s3.lo q2.log.length s3.lc), (6, .int .i64 q2.commit), (7, .slice s3.ao q2.acked.length s3.ac), (8, .slice s3.vo q2.votes.length s3.vc), (9, .slice s3.wo q2.voters.length s3.wc), (10, .slice s3.bo q2.best.length s3.bc), (11, .int .i64 q2.bestView), (12, .int .i64 q2.bestDone)]) (sets w5 w.heap.size [(0, .int .i64 q2.id), (1, .int .i64 q2.n), (2, .int .i64 q2.view), (3, .int .i64 q2.normal), (4, .int .i64 q2.how), (5, .slice s3.lo q2.log.length s3.lc), (6, .int .i64 q2.commit), (7, .slice s3.ao q2.acked.length s3.ac), (8, .slice s3.vo q2.votes.length s3.vc), (9, .slice s3.wo q2.voters.length s3.wc), (10, .slice s3.bo q2.best.length s3.bc), (11, .int .i64 q2.bestView), (12, .int .i64 q2.bestDone)]).heap.size s3 q2 ∧ Below w.heap.size w (sets w5 w.heap.size [(0, .int .i64 q2.id), (1, .int .i64 q2.n), (2, .int .i64 q2.view), (3, .int .i64 q2.normal), (4, .int .i64 q2.how), (5, .slice s3.lo q2.log.length s3.lc), (6, .int .i64 q2.commit), (7, .slice s3.ao q2.acked.length s3.ac), (8, .slice s3.vo q2.votes.length s3.vc), (9, .slice s3.wo q2.voters.length s3.wc), (10, .slice s3.bo q2.best.length s3.bc), (11, .int .i64 q2.bestView), (12, .int .i64 q2.bestDone)]) :=
  ⟨box_whole hbx (by omega) q2 (.slice s3.lo q2.log.length s3.lc) (.slice s3.ao q2.acked.length s3.ac) (.slice s3.vo q2.votes.length s3.vc) (.slice s3.wo q2.voters.length s3.wc) (.slice s3.bo q2.best.length s3.bc), rowsS_lies (rows_farG (RowsR.below hR hb) (sets_grownG w.heap.size [(0, .int .i64 q2.id), (1, .int .i64 q2.n), (2, .int .i64 q2.view), (3, .int .i64 q2.normal), (4, .int .i64 q2.how), (5, .slice s3.lo q2.log.length s3.lc), (6, .int .i64 q2.commit), (7, .slice s3.ao q2.acked.length s3.ac), (8, .slice s3.vo q2.votes.length s3.vc), (9, .slice s3.wo q2.voters.length s3.wc), (10, .slice s3.bo q2.best.length s3.bc), (11, .int .i64 q2.bestView), (12, .int .i64 q2.bestDone)] w5) hB), hw5.trans (sets_below (Nat.le_refl _) [(0, .int .i64 q2.id), (1, .int .i64 q2.n), (2, .int .i64 q2.view), (3, .int .i64 q2.normal), (4, .int .i64 q2.how), (5, .slice s3.lo q2.log.length s3.lc), (6, .int .i64 q2.commit), (7, .slice s3.ao q2.acked.length s3.ac), (8, .slice s3.vo q2.votes.length s3.vc), (9, .slice s3.wo q2.voters.length s3.wc), (10, .slice s3.bo q2.best.length s3.bc), (11, .int .i64 q2.bestView), (12, .int .i64 q2.bestDone)] w5)⟩
end Go.Proofs.YtajbdffepfjegaaGreat
