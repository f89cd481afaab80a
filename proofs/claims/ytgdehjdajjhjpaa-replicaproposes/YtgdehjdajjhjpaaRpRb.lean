/-
  The document's own replica: what is in its box; what stays while a message goes round.
-/
import Derived.Test.YtgdehjdajjhjpaaRpRa
namespace Go.Proofs.Ytgdehjdajjhjpaa
open Go.RowKit Num
set_option linter.unusedVariables false

theorem Num.TurnR.cells {B : Nat} {w : World} {g : Nat} {r : Rep} (h : TurnR B w g r) : ∃ (s : Sl), (w.cell? ⟨g, 0, none⟩ = some (.int .i64 r.id) ∧ w.cell? ⟨g, 1, none⟩ = some (.int .i64 r.n) ∧ w.cell? ⟨g, 2, none⟩ = some (.int .i64 r.view) ∧ w.cell? ⟨g, 3, none⟩ = some (.int .i64 r.normal) ∧ w.cell? ⟨g, 4, none⟩ = some (.int .i64 r.how) ∧ w.cell? ⟨g, 5, none⟩ = some (.slice s.lo r.log.length s.lc) ∧ w.cell? ⟨g, 6, none⟩ = some (.int .i64 r.commit) ∧ w.cell? ⟨g, 7, none⟩ = some (.slice s.ao r.acked.length s.ac) ∧ w.cell? ⟨g, 8, none⟩ = some (.slice s.vo r.votes.length s.vc) ∧ w.cell? ⟨g, 9, none⟩ = some (.slice s.wo r.voters.length s.wc) ∧ w.cell? ⟨g, 10, none⟩ = some (.slice s.bo r.best.length s.bc) ∧ w.cell? ⟨g, 11, none⟩ = some (.int .i64 r.bestView) ∧ w.cell? ⟨g, 12, none⟩ = some (.int .i64 r.bestDone)) ∧ (∀ k, w.frozen? ⟨g, k, none⟩ = false) ∧ LiesR w w.heap.size s r ∧ Hold 25 13 undef B w g r (.slice s.lo r.log.length s.lc) (.slice s.ao r.acked.length s.ac) (.slice s.vo r.votes.length s.vc) (.slice s.wo r.voters.length s.wc) (.slice s.bo r.best.length s.bc) := by
  obtain ⟨⟨vl, va, vv, vw, vb, h⟩, hB, h1, hl, hb, ha⟩ := h
  obtain ⟨k0, k1, k2, k3, k4, k5, k6, k7, k8, k9, k10, k11, k12⟩ := h.cells (by omega)
  obtain ⟨lo, lc, rfl, l1⟩ := ownE_lies h.rows.log
  obtain ⟨bo, bc, rfl, l2⟩ := ownE_lies h.rows.best
  obtain ⟨ao, ac, rfl, l3⟩ := ownN_lies h.rows.ack
  obtain ⟨vo, vc, rfl, l4⟩ := ownN_lies h.rows.vot
  obtain ⟨wo, wc, rfl, l5⟩ := ownN_lies h.rows.vor
  exact ⟨⟨lo, lc, ao, ac, vo, vc, wo, wc, bo, bc⟩, ⟨k0, k1, k2, k3, k4, k5, k6, k7, k8, k9, k10, k11, k12⟩, h.box.unfrozen, ⟨l1, l3, l4, l5, l2⟩, h⟩
theorem Num.TurnR.stay {B : Nat} {w w' : World} {g : Nat} {r : Rep} (h : TurnR B w g r) {e : TypeId} (hs : Stay (fun _ => False) e w w') (h1 : 25 ≠ e) (h2 : e ≠ 63) (h3 : e ≠ 3) : TurnR B w' g r := by
  obtain ⟨⟨vl, va, vv, vw, vb, h⟩, hB, h1', hl, hl2, ha⟩ := h
  exact ⟨⟨vl, va, vv, vw, vb, h.stay hs h1 h2 h3⟩, Nat.le_trans hB hs.size, h1', hl, hl2, ha⟩
theorem ms_stay {w : World} {mb i : Nat} {cs : Array Value} {fr : Nat × Nat} (hb : w.heap[mb]? = some (.cells cs 66 fr)) (u : Value) : Stay (fun _ => False) 66 w (w.setCell ⟨mb, i, none⟩ u) :=
  ⟨by simp [World.setCell], fun k hk _ hn => Below.heap_setCell _ _ _ _ (fun e => by subst e; exact hn _ _ hb)⟩
theorem ownO_off {B : Nat} {w : World} {v : Value} {q : Msgs} (h : OwnO B w v q) {mb i : Nat} {cs : Array Value} {fr : Nat × Nat} (hb : w.heap[mb]? = some (.cells cs 66 fr)) (hv : v.ownBlock ≠ some mb) (u : Value) : OwnO B (w.setCell ⟨mb, i, none⟩ u) v q := by
  obtain ⟨css, a, b, c, d⟩ := h
  exact ⟨css, a, b, c.kept (grown_set w mb i u) (.inr hv), fun i cs x hi hx => msO_stay (ms_stay hb u) (d i cs x hi hx)⟩
theorem Num.SrcE.stayM {B : Nat} {w w' : World} {bo : Option Addr} {c : Nat} {l : List Ent} (h : SrcE B w bo c l) (hb : Below B w w') (hs : Stay (fun _ => False) 66 w w') : SrcE B w' bo c l := h.keep (Keep.of_stay hb hs (by decide))
/-- The box of the message that goes round, and its log. -/
structure Num.AllAt (B : Nat) (w : World) (mb : Nat) (m : Msg) (x1 x2 x3 : Int) (bo : Option Addr) (c : Nat) : Prop where
  box : w.heap[mb]? = some (.cells #[.int .i64 m.a0, .int .i64 x1, .int .i64 x2, .int .i64 x3, .int .i64 m.a4, .int .i64 m.a5, .int .i64 m.a6, .slice bo m.log.length c] 66 (0, 0))
  src : SrcE B w bo c m.log
end Go.Proofs.Ytgdehjdajjhjpaa
