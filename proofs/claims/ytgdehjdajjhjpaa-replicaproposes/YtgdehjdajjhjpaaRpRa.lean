/-
  Contracts of the document's own replica: a copy; it is clear; its own log alone.
-/
import Derived.Test.YtgdehjdajjhjpaaRpCop
namespace Go.Proofs.Ytgdehjdajjhjpaa
open Go.RowKit Num
set_option linter.unusedVariables false

/-- The document's own replica, in a box of its own. -/
structure Num.TurnR (B : Nat) (w : World) (g : Nat) (r : Rep) : Prop where
  ex : ∃ vl va vv vw vb, Hold 25 13 undef B w g r vl va vv vw vb
  base : B ≤ w.heap.size
  one : OneOf r.id r.n
  ll : r.log.length ≤ 1000
  bl : r.best.length ≤ 1000
  al : (r.acked.length : Int) = r.n
theorem Num.TurnR.below {B : Nat} {w w' : World} {g : Nat} {r : Rep} (h : TurnR B w g r) (hb : Below w.heap.size w w') : TurnR B w' g r := by
  obtain ⟨⟨vl, va, vv, vw, vb, h⟩, hB, h1, hl, hl2, ha⟩ := h
  exact ⟨⟨vl, va, vv, vw, vb, h.below hb⟩, Nat.le_trans hB hb.size, h1, hl, hl2, ha⟩
theorem Num.TurnR.drew {B : Nat} {w : World} {g : Nat} {r : Rep} (h : TurnR B w g r) : TurnR B w.drew g r := h.below (Below.refl _ _).drew
set_option maxHeartbeats 1000000 in
theorem rclear_any (B g : Nat) (r : Rep) (w : World) (h : TurnR B w g r) :
    Calls Try.prog 46 #[.pointer (some ⟨g, 0, none⟩)] w fun e w' => e = .returned (.tuple #[]) ∧ TurnR B w' g (clearR r) ∧ Keep B w w' := by
  obtain ⟨⟨vl, va, vv, vw, vb, h⟩, hB, h1, hl, hb, ha⟩ := h
  obtain ⟨k0, k1, k2, k3, k4, k5, k6, k7, k8, k9, k10, k11, k12⟩ := h.cells (by omega)
  have z := h.box.unfrozen
  have hh := hold_sets h (by omega) (by decide) (by decide) [(8, .slice none 0 0), (9, .slice none 0 0), (10, .slice none 0 0), (11, .int .i64 (-1)), (12, .int .i64 0)] (r' := clearR r) (vl' := vl) (va' := va) (vv' := .slice none 0 0) (vw' := .slice none 0 0) (vb' := .slice none 0 0) (x' := undef)
    ⟨h.rows.log, World.ownsRow_nil _ _ _ _, h.rows.ack, World.ownsRow_nil _ _ _ _, World.ownsRow_nil _ _ _ _, apart_nil _, apart_nil _, apart_nil _, apart_nil _⟩ (fun f f' e e' => by subst e e'; exact ⟨rfl, rfl, rfl, rfl, rfl, rfl, rfl, rfl, rfl, rfl, rfl, rfl, rfl, rfl⟩)
  have hk := sets_keep h.base h.box (by decide) [(8, .slice none 0 0), (9, .slice none 0 0), (10, .slice none 0 0), (11, .int .i64 (-1)), (12, .int .i64 0)]
  have hT : TurnR B _ g (clearR r) := ⟨⟨_, _, _, _, _, hh⟩, Nat.le_trans hB hk.low.size, h1, hl, Nat.zero_le _, ha⟩
  clear hh h
  go_enter Try.func46, Try.ntmps46
  go_wp2
  go_end0
  exact ⟨rfl, hT, hk⟩
set_option maxHeartbeats 1000000 in
theorem rfresh_any (B g : Nat) (r : Rep) (w : World) (h : TurnR B w g r) :
    Calls Try.prog 47 #[.pointer (some ⟨g, 0, none⟩)] w fun e w' => e = .returned (.tuple #[]) ∧ TurnR B w' g (freshR r) ∧ Keep B w w' := by
  have hn := one_bounds h.one
  obtain ⟨⟨vl, va, vv, vw, vb, h⟩, hB, h1, hl, hb, ha⟩ := h
  obtain ⟨cs, hc1, hc2, hmk⟩ := made_ints r.n ⟨by omega, by omega⟩
  have hbel := (Below.refl _ w).alloc (Nat.le_refl _) (.cells cs 3)
  have hz := own_zeros w r.n.toNat (by omega) cs hc1 hc2
  have hA := h.below hbel
  have hrw : RowsR B (w.alloc (.cells cs 3)) r.log r.best (List.replicate r.n.toNat 0) r.votes r.voters vl (.slice (some ⟨w.heap.size, 0, none⟩) r.n.toNat r.n.toNat) vv vw vb :=
    ⟨hA.rows.log, hA.rows.best, by rw [inCells_rep, List.length_replicate]; exact own_mono hz hB, hA.rows.vot, hA.rows.vor, hA.rows.a1, (apart_new h.rows.vot hz).symm, (apart_new h.rows.vor hz).symm, hA.rows.a4⟩
  have hS := hold_sets hA (by omega) (by decide) (by decide) [(7, .slice (some ⟨w.heap.size, 0, none⟩) r.n.toNat r.n.toNat)] (r' := { r with acked := List.replicate r.n.toNat 0 }) (x' := undef) hrw (fun f f' e e' => by subst e e'; exact ⟨rfl, rfl, rfl, rfl, rfl, rfl, rfl, rfl, rfl, rfl, rfl, rfl, rfl, rfl⟩)
  have hkS := (Keep.of_below hbel hB).trans (sets_keep hA.base hA.box (by decide) [(7, .slice (some ⟨w.heap.size, 0, none⟩) r.n.toNat r.n.toNat)])
  obtain ⟨hF, hsF, hkF⟩ := hold_ack hS (by simp) (by decide) (Nat.le_trans hB hkS.low.size) r.id.toNat (r.log.length : Int)
  have hT : TurnR B _ g (freshR r) := ⟨⟨_, _, _, _, _, hF⟩, Nat.le_trans hB (hkS.trans hkF).low.size, h1, hl, hb, by show (((List.replicate r.n.toNat 0).set r.id.toNat (r.log.length : Int)).length : Int) = r.n; rw [List.length_set, List.length_replicate]; omega⟩
  have hK := hkS.trans hkF
  obtain ⟨k0, k1, k2, k3, k4, k5, k6, k7, k8, k9, k10, k11, k12⟩ := h.cells (by omega)
  obtain ⟨s0, s1, s2, s3, s4, s5, s6, s7, s8, s9, s10, s11, s12⟩ := hS.cells (by omega)
  have z7 := hA.box.unfrozen 7
  have a7 := hA.box.cell 7 (by omega)
  have ca := hS.rows.ack.cells (g := w.heap.size) rfl r.id.toNat (.int .i64 0) (by rw [inCells_rep, List.getElem?_replicate, if_pos (by omega)])
  have za := hS.rows.ack
  rw [List.length_replicate] at za
  have za := za.frozenAt r.id.toNat
  rw [Addr.add_lit, Nat.zero_add] at ca
  obtain ⟨lo, lc, rfl, _⟩ := ownE_lies h.rows.log
  have n1 : r.id < ((r.n.toNat : Nat) : Int) := by omega
  have n2 : ¬ r.id < 0 := by omega
  simp only [sets] at s0 s5 s7 ca za hT hK
  clear hF hS hA hrw hz hkS hkF hsF h
  go_enter Try.func47, Try.ntmps47
  go_wp2
  go_region
  go_end0
  exact ⟨rfl, hT.drew, hK.drew⟩
end Go.Proofs.Ytgdehjdajjhjpaa
