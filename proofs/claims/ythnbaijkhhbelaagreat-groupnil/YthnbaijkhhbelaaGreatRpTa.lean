/-
  Contracts of a replica at work: it is clear; its own log alone; what it is; a message is sent, to one and to all.
-/
import Derived.Test.YthnbaijkhhbelaaGreatRpMem
import Derived.BigRegion
import Derived.Deep.RegionLaw
namespace Go.Proofs.YthnbaijkhhbelaaGreat
open Go.RowKit Num
set_option linter.unusedVariables false
set_option maxRecDepth 100000

/-- A replica at work in block g, and what it has sent. -/
structure Num.Turn (B : Nat) (w : World) (g : Nat) (r : Rep) (o : Msgs) : Prop where
  ex : ∃ vl va vv vw vb x, Hold 143 14 x B w g r vl va vv vw vb ∧ OwnO B w x o
  base : B ≤ w.heap.size
  one : OneOf r.id r.n
  ll : r.log.length ≤ 1000
  bl : r.best.length ≤ 1000
  al : (r.acked.length : Int) = r.n
theorem Num.Turn.below {B : Nat} {w w' : World} {g : Nat} {r : Rep} {o : Msgs} (h : Turn B w g r o) (hb : Below w.heap.size w w') : Turn B w' g r o := by
  obtain ⟨⟨vl, va, vv, vw, vb, x, h, ho⟩, hB, h1, hl, hl2, ha⟩ := h
  exact ⟨⟨vl, va, vv, vw, vb, x, h.below hb, ownO_below ho hb⟩, Nat.le_trans hB hb.size, h1, hl, hl2, ha⟩
theorem Num.Turn.drew {B : Nat} {w : World} {g : Nat} {r : Rep} {o : Msgs} (h : Turn B w g r o) : Turn B w.drew g r o := h.below (Below.refl _ _).drew
theorem one_bounds {id n : Int} (h : OneOf id n) : 0 ≤ id ∧ id < n ∧ 1 ≤ n ∧ n ≤ 5 := by
  unfold OneOf at h
  omega
theorem clearT_any (B g : Nat) (r : Rep) (o : Msgs) (w : World) (h : Turn B w g r o) :
    Calls Tryz.prog 114 #[.pointer (some ⟨g, 0, none⟩)] w fun e w' => e = .returned (.tuple #[]) ∧ Turn B w' g (clearR r) o ∧ Keep B w w' := by
  obtain ⟨⟨vl, va, vv, vw, vb, x, h, ho⟩, hB, h1, hl, hb, ha⟩ := h
  obtain ⟨k0, k1, k2, k3, k4, k5, k6, k7, k8, k9, k10, k11, k12⟩ := h.cells (by omega)
  have z := h.box.unfrozen
  have hh := hold_sets h (by omega) (by decide) (by decide) [(8, .slice none 0 0), (9, .slice none 0 0), (10, .slice none 0 0), (11, .int .i64 (-1)), (12, .int .i64 0)] (r' := clearR r) (vl' := vl) (va' := va) (vv' := .slice none 0 0) (vw' := .slice none 0 0) (vb' := .slice none 0 0) (x' := x)
    ⟨h.rows.log, World.ownsRow_nil _ _ _ _, h.rows.ack, World.ownsRow_nil _ _ _ _, World.ownsRow_nil _ _ _ _, apart_nil _, apart_nil _, apart_nil _, apart_nil _⟩ (fun f f' e e' => by subst e e'; exact ⟨rfl, rfl, rfl, rfl, rfl, rfl, rfl, rfl, rfl, rfl, rfl, rfl, rfl, rfl⟩)
  have hk := sets_keep h.base h.box (by decide) [(8, .slice none 0 0), (9, .slice none 0 0), (10, .slice none 0 0), (11, .int .i64 (-1)), (12, .int .i64 0)]
  have hoo := ownO_stay ho (sets_box [(8, .slice none 0 0), (9, .slice none 0 0), (10, .slice none 0 0), (11, .int .i64 (-1)), (12, .int .i64 0)] h.box).2 (by decide) (by decide)
  have hT : Turn B _ g (clearR r) o := ⟨⟨_, _, _, _, _, _, hh, hoo⟩, Nat.le_trans hB hk.low.size, h1, hl, Nat.zero_le _, ha⟩
  clear hh hoo h ho
  go_enter Tryz.func114, Tryz.ntmps114
  go_wp2
  go_end0
  exact ⟨rfl, hT, hk⟩
theorem primaryT_any (B g : Nat) (r : Rep) (o : Msgs) (v : Int) (w : World) (h : Turn B w g r o) (hv : 0 ≤ v ∧ v < 1099511627776) :
    Calls Tryz.prog 124 #[.pointer (some ⟨g, 0, none⟩), .int .i64 v] w fun e w' => e = .returned (.int .i64 (v % r.n)) ∧ w' = w := by
  have hn := one_bounds h.one
  obtain ⟨⟨vl, va, vv, vw, vb, x, h, ho⟩, hB, h1, hl, hb, ha⟩ := h
  obtain ⟨k0, k1, k2, k3, k4, k5, k6, k7, k8, k9, k10, k11, k12⟩ := h.cells (by omega)
  have hne : ¬ r.n = 0 := by omega
  have he : Int.tmod v r.n = v % r.n := Int.tmod_eq_emod_of_nonneg hv.1
  clear h ho
  go_enter Tryz.func124, Tryz.ntmps124
  go_wp2
  go_ret
  exact ⟨rfl, rfl⟩
theorem leadsT_any (B g : Nat) (r : Rep) (o : Msgs) (w : World) (h : Turn B w g r o) (hv : 0 ≤ r.view ∧ r.view < 1099511627776) :
    Calls Tryz.prog 107 #[.pointer (some ⟨g, 0, none⟩)] w fun e w' => e = .returned (.bool (decide (r.how = 0) && decide (r.view % r.n = r.id))) ∧ Below w.heap.size w w' := by
  have hp := fun z : Low w => primaryT_any B g r o r.view z.wd (h.below z.low) hv
  obtain ⟨⟨vl, va, vv, vw, vb, x, h, ho⟩, hB, h1, hl, hb, ha⟩ := h
  obtain ⟨k0, k1, k2, k3, k4, k5, k6, k7, k8, k9, k10, k11, k12⟩ := h.cells (by omega)
  have d0 := fun z : Low w => (z.cell (cell_lt k0)).trans k0
  have d2 := fun z : Low w => (z.cell (cell_lt k2)).trans k2
  have d4 := fun z : Low w => (z.cell (cell_lt k4)).trans k4
  clear h ho
  by_cases q : r.how = 0
  · rw [decide_eq_true q, Bool.true_and]
    have q2 : (r.how == 0) = true := by simp [q]
    clear q
    go_enter Tryz.func107, Tryz.ntmps107
    go_wp2_with fail
    refine wp_region_low (by kernel_rfl) (by kernel_rfl) fun hsome => ?_
    repeat (go_big_quiet_step (first
      | (go_at_call 124; refine Calls.low_of_same (hp _))))
    refine wpQuiet_nil ?_
    rintro _ ⟨z, rfl⟩
    have hz := z.low
    go_wp2
    go_ret
    exact ⟨rfl, hz⟩
  · rw [decide_eq_false q, Bool.false_and]
    have q2 : (r.how == 0) = false := by simp [q]
    clear q
    go_enter Tryz.func107, Tryz.ntmps107
    go_wp2_with fail
    refine wp_region_low (by kernel_rfl) (by kernel_rfl) fun hsome => ?_
    repeat (go_big_quiet_step (fail))
    refine wpQuiet_nil ?_
    rintro _ ⟨z, rfl⟩
    have hz := z.low
    go_wp2
    go_ret
    exact ⟨rfl, hz⟩
theorem lastT_some {l : List Ent} (h : l ≠ []) : ∃ y, l[l.length - 1]? = some y ∧ lastT l = y.time := by
  have hl : l.length - 1 < l.length := by cases l with
    | nil => exact absurd rfl h
    | cons a l => simp
  refine ⟨_, List.getElem?_eq_getElem hl, ?_⟩
  have hh := prevT_at (List.getElem?_eq_getElem hl)
  rw [show l.length - 1 + 1 = l.length by omega] at hh
  exact hh
theorem lastTimeT_any (B g : Nat) (r : Rep) (o : Msgs) (w : World) (h : Turn B w g r o) :
    Calls Tryz.prog 108 #[.pointer (some ⟨g, 0, none⟩)] w fun e w' => e = .returned (.int .i64 (lastT r.log)) ∧ Below w.heap.size w w' := by
  obtain ⟨⟨vl, va, vv, vw, vb, x, h, ho⟩, hB, h1, hl, hb, ha⟩ := h
  obtain ⟨k0, k1, k2, k3, k4, k5, k6, k7, k8, k9, k10, k11, k12⟩ := h.cells (by omega)
  obtain ⟨lo, lc, rfl, hle⟩ := ownE_lies h.rows.log
  clear h ho
  by_cases q : r.log = []
  · rw [show lastT r.log = 0 by rw [q]; rfl]
    have hq : r.log.length = 0 := by rw [q]; rfl
    rw [hq] at k5
    clear q hle
    go_enter Tryz.func108, Tryz.ntmps108
    go_wp2
    go_ret
    exact ⟨rfl, Below.refl _ _⟩
  · obtain ⟨y, hy, e⟩ := lastT_some q
    rw [e]
    obtain ⟨a, rfl, _, c0, _⟩ := hle _ y hy
    have hpos : r.log.length ≠ 0 := by intro e; exact q (List.eq_nil_of_length_eq_zero e)
    obtain ⟨L, hL⟩ : ∃ L, r.log.length = L + 1 := ⟨r.log.length - 1, by omega⟩
    rw [hL] at k5 hl
    rw [hL, Nat.add_sub_cancel] at c0
    clear q e hy hL hpos
    have i1 : IntKind.i64.wrap (((L + 1 : Nat) : Int) - 1) = (L : Int) := by rw [IntKind.wrap_i64]; omega
    have i2 : ((L + 1 : Nat) : Int) - 1 = (L : Int) := by omega
    have i3 : ¬ ((L + 1 : Nat) : Int) = 0 := by omega
    go_enter Tryz.func108, Tryz.ntmps108
    go_wp2
    go_region
    go_wp2
    go_ret
    exact ⟨rfl, (Below.refl _ _).drew⟩
/-- A number of Acked is turned. -/
theorem hold_ack {t : TypeId} {N : Nat} {x : Value} {B : Nat} {w : World} {g : Nat} {r : Rep} {vl vv vw vb : Value} {ga n cap : Nat} (h : Hold t N x B w g r vl (.slice (some ⟨ga, 0, none⟩) n cap) vv vw vb) (hn : n = r.acked.length) (ht : t ≠ 3) (hB : B ≤ w.heap.size) (i : Nat) (k : Int) :
    Hold t N x B (w.setCell ⟨ga, i, none⟩ (.int .i64 k)) g { r with acked := r.acked.set i k } vl (.slice (some ⟨ga, 0, none⟩) n cap) vv vw vb ∧ Stay (fun _ => False) 3 w (w.setCell ⟨ga, i, none⟩ (.int .i64 k)) ∧ Keep B w (w.setCell ⟨ga, i, none⟩ (.int .i64 k)) := by
  subst hn
  obtain ⟨hst, hgr⟩ := h.rows.ack.stored i (.int .i64 k)
  have hs : Stay (fun _ => False) 3 w (w.setCell ⟨ga, i, none⟩ (.int .i64 k)) := Stay.grown h.rows.ack hgr
  have hgB := (h.rows.ack.lt ga rfl).1
  rw [inCells_set] at hst
  refine ⟨⟨h.box.stay hs ht, h.base, ⟨own_stay h.rows.log hs (by decide) (fun _ h => h), own_stay h.rows.best hs (by decide) (fun _ h => h), ?_, h.rows.vot.kept hgr (.inr fun e => h.rows.a2 ga rfl e), h.rows.vor.kept hgr (.inr fun e => h.rows.a3 ga rfl e), h.rows.a1, h.rows.a2, h.rows.a3, h.rows.a4⟩⟩, hs, .of_stay ((Below.refl B w).setCell (p := ⟨ga, i, none⟩) hgB _) hs (by decide)⟩
  show World.ownsRow _ _ _ _ _ (r.acked.set i k).length _
  rw [List.length_set]
  exact hst
set_option maxHeartbeats 1000000 in
theorem ackT_any (B g : Nat) (r : Rep) (o : Msgs) (w : World) (h : Turn B w g r o) :
    Calls Tryz.prog 115 #[.pointer (some ⟨g, 0, none⟩)] w fun e w' => e = .returned (.tuple #[]) ∧ Turn B w' g (freshR r) o ∧ Keep B w w' := by
  have hn := one_bounds h.one
  obtain ⟨⟨vl, va, vv, vw, vb, x, h, ho⟩, hB, h1, hl, hb, ha⟩ := h
  obtain ⟨cs, hc1, hc2, hmk⟩ := made_ints r.n ⟨by omega, by omega⟩
  have hbel := (Below.refl _ w).alloc (Nat.le_refl _) (.cells cs 3)
  have hz := own_zeros w r.n.toNat (by omega) cs hc1 hc2
  have hA := h.below hbel
  have hoA := ownO_below ho hbel
  have hrw : RowsR B (w.alloc (.cells cs 3)) r.log r.best (List.replicate r.n.toNat 0) r.votes r.voters vl (.slice (some ⟨w.heap.size, 0, none⟩) r.n.toNat r.n.toNat) vv vw vb :=
    ⟨hA.rows.log, hA.rows.best, by rw [inCells_rep, List.length_replicate]; exact own_mono hz hB, hA.rows.vot, hA.rows.vor, hA.rows.a1, (apart_new h.rows.vot hz).symm, (apart_new h.rows.vor hz).symm, hA.rows.a4⟩
  have hS := hold_sets hA (by omega) (by decide) (by decide) [(7, .slice (some ⟨w.heap.size, 0, none⟩) r.n.toNat r.n.toNat)] (r' := { r with acked := List.replicate r.n.toNat 0 }) (x' := x) hrw (fun f f' e e' => by subst e e'; exact ⟨rfl, rfl, rfl, rfl, rfl, rfl, rfl, rfl, rfl, rfl, rfl, rfl, rfl, rfl⟩)
  have hoS := ownO_stay hoA (sets_box [(7, .slice (some ⟨w.heap.size, 0, none⟩) r.n.toNat r.n.toNat)] hA.box).2 (by decide) (by decide)
  have hkS := (Keep.of_below hbel hB).trans (sets_keep hA.base hA.box (by decide) [(7, .slice (some ⟨w.heap.size, 0, none⟩) r.n.toNat r.n.toNat)])
  obtain ⟨hF, hsF, hkF⟩ := hold_ack hS (by simp) (by decide) (Nat.le_trans hB hkS.low.size) r.id.toNat (r.log.length : Int)
  have hoF := ownO_stay hoS hsF (by decide) (by decide)
  have hT : Turn B _ g (freshR r) o := ⟨⟨_, _, _, _, _, _, hF, hoF⟩, Nat.le_trans hB (hkS.trans hkF).low.size, h1, hl, hb, by show (((List.replicate r.n.toNat 0).set r.id.toNat (r.log.length : Int)).length : Int) = r.n; rw [List.length_set, List.length_replicate]; omega⟩
  have hK := hkS.trans hkF
  obtain ⟨k0, k1, k2, k3, k4, k5, k6, k7, k8, k9, k10, k11, k12⟩ := h.cells (by omega)
  obtain ⟨s0, s1, s2, s3, s4, s5, s6, s7, s8, s9, s10, s11, s12⟩ := hS.cells (by omega)
  have z7 := hA.box.unfrozen 7
  have a7 := hA.box.cell 7 (by omega)
  have ca := hS.rows.ack.cells (g := w.heap.size) rfl r.id.toNat (.int .i64 0) (by rw [inCells_rep, List.getElem?_replicate, if_pos (by omega)])
  have za := hS.rows.ack
  rw [List.length_replicate] at za
  have za := za.frozenAt r.id.toNat
  rw [Addr.add_lit, Nat.zero_add] at ca
  obtain ⟨lo, lc, rfl, _⟩ := ownE_lies h.rows.log
  have n1 : r.id < ((r.n.toNat : Nat) : Int) := by omega
  have n2 : ¬ r.id < 0 := by omega
  simp only [sets] at s0 s5 s7 ca za hT hK
  clear hF hoF hS hoS hA hoA hrw hz hkS hkF hsF h ho
  go_enter Tryz.func115, Tryz.ntmps115
  go_wp2
  go_region
  go_end0
  exact ⟨rfl, hT.drew, hK.drew⟩
end Go.Proofs.YthnbaijkhhbelaaGreat
