/-
  Joined:
  Contracts of a replica at work: it is clear; its own log alone; what it is; a message is sent, to one and to all.
  Contracts of a replica at work: a message is sent to one, and to all others.
  Contracts of a replica at work: it is normal; it changes; it suspects; it starts again.
-/
import Derived.Test.YtajbdffepfjegaaGreatRpG3
import Derived.BigRegion
import Derived.Deep.RegionLaw
namespace Go.Proofs.YtajbdffepfjegaaGreat
open Go.RowKit Num
set_option linter.unusedVariables false
set_option maxRecDepth 100000

/-- A replica at work in block g, and what it has sent. -/
structure Num.Turn (B : Nat) (w : World) (g : Nat) (r : Rep) (o : Msgs) : Prop where
  ex : ∃ vl va vv vw vb x, Hold 65 14 x B w g r vl va vv vw vb ∧ OwnO B w x o
  base : B ≤ w.heap.size
  one : OneOf r.id r.n
  ll : r.log.length ≤ 1000
  bl : r.best.length ≤ 1000
  al : (r.acked.length : Int) = r.n
theorem Num.Turn.below {B : Nat} {w w' : World} {g : Nat} {r : Rep} {o : Msgs} (h : Turn B w g r o) (hb : Below w.heap.size w w') : Turn B w' g r o := by
  obtain ⟨⟨vl, va, vv, vw, vb, x, h, ho⟩, hB, h1, hl, hl2, ha⟩ := h
  exact ⟨⟨vl, va, vv, vw, vb, x, h.below hb, ownO_below ho hb⟩, Nat.le_trans hB hb.size, h1, hl, hl2, ha⟩
theorem Num.Turn.drew {B : Nat} {w : World} {g : Nat} {r : Rep} {o : Msgs} (h : Turn B w g r o) : Turn B w.drew g r o := h.below (Below.refl _ _).drew
theorem one_bounds {id n : Int} (h : OneOf id n) : 0 ≤ id ∧ id < n ∧ 1 ≤ n ∧ n ≤ 5 := by
  unfold OneOf at h
  omega
theorem clearT_any (B g : Nat) (r : Rep) (o : Msgs) (w : World) (h : Turn B w g r o) :
    Calls Tryz.prog 93 #[.pointer (some ⟨g, 0, none⟩)] w fun e w' => e = .returned (.tuple #[]) ∧ Turn B w' g (clearR r) o ∧ Keep B w w' := by
  obtain ⟨⟨vl, va, vv, vw, vb, x, h, ho⟩, hB, h1, hl, hb, ha⟩ := h
  obtain ⟨k0, k1, k2, k3, k4, k5, k6, k7, k8, k9, k10, k11, k12⟩ := h.cells (by omega)
  have z := h.box.unfrozen
  have hh := hold_sets h (by omega) (by decide) (by decide) [(8, .slice none 0 0), (9, .slice none 0 0), (10, .slice none 0 0), (11, .int .i64 (-1)), (12, .int .i64 0)] (r' := clearR r) (vl' := vl) (va' := va) (vv' := .slice none 0 0) (vw' := .slice none 0 0) (vb' := .slice none 0 0) (x' := x)
    ⟨h.rows.log, World.ownsRow_nil _ _ _ _, h.rows.ack, World.ownsRow_nil _ _ _ _, World.ownsRow_nil _ _ _ _, apart_nil _, apart_nil _, apart_nil _, apart_nil _⟩ (fun f f' e e' => by subst e e'; exact ⟨rfl, rfl, rfl, rfl, rfl, rfl, rfl, rfl, rfl, rfl, rfl, rfl, rfl, rfl⟩)
  have hk := sets_keep h.base h.box (by decide) [(8, .slice none 0 0), (9, .slice none 0 0), (10, .slice none 0 0), (11, .int .i64 (-1)), (12, .int .i64 0)]
  have hoo := ownO_stay ho (sets_box [(8, .slice none 0 0), (9, .slice none 0 0), (10, .slice none 0 0), (11, .int .i64 (-1)), (12, .int .i64 0)] h.box).2 (by decide) (by decide)
  have hT : Turn B _ g (clearR r) o := ⟨⟨_, _, _, _, _, _, hh, hoo⟩, Nat.le_trans hB hk.low.size, h1, hl, Nat.zero_le _, ha⟩
  clear hh hoo h ho
  go_enter Tryz.func93, Tryz.ntmps93
  go_wp2
  go_end0
  exact ⟨rfl, hT, hk⟩
theorem primaryT_any (B g : Nat) (r : Rep) (o : Msgs) (v : Int) (w : World) (h : Turn B w g r o) (hv : 0 ≤ v ∧ v < 1099511627776) :
    Calls Tryz.prog 75 #[.pointer (some ⟨g, 0, none⟩), .int .i64 v] w fun e w' => e = .returned (.int .i64 (v % r.n)) ∧ w' = w := by
  have hn := one_bounds h.one
  obtain ⟨⟨vl, va, vv, vw, vb, x, h, ho⟩, hB, h1, hl, hb, ha⟩ := h
  obtain ⟨k0, k1, k2, k3, k4, k5, k6, k7, k8, k9, k10, k11, k12⟩ := h.cells (by omega)
  have hne : ¬ r.n = 0 := by omega
  have he : Int.tmod v r.n = v % r.n := Int.tmod_eq_emod_of_nonneg hv.1
  clear h ho
  go_enter Tryz.func75, Tryz.ntmps75
  go_wp2
  go_ret
  exact ⟨rfl, rfl⟩
theorem leadsT_any (B g : Nat) (r : Rep) (o : Msgs) (w : World) (h : Turn B w g r o) (hv : 0 ≤ r.view ∧ r.view < 1099511627776) :
    Calls Tryz.prog 49 #[.pointer (some ⟨g, 0, none⟩)] w fun e w' => e = .returned (.bool (decide (r.how = 0) && decide (r.view % r.n = r.id))) ∧ Below w.heap.size w w' := by
  have hp := fun z : Low w => primaryT_any B g r o r.view z.wd (h.below z.low) hv
  obtain ⟨⟨vl, va, vv, vw, vb, x, h, ho⟩, hB, h1, hl, hb, ha⟩ := h
  obtain ⟨k0, k1, k2, k3, k4, k5, k6, k7, k8, k9, k10, k11, k12⟩ := h.cells (by omega)
  have d0 := fun z : Low w => (z.cell (cell_lt k0)).trans k0
  have d2 := fun z : Low w => (z.cell (cell_lt k2)).trans k2
  have d4 := fun z : Low w => (z.cell (cell_lt k4)).trans k4
  clear h ho
  by_cases q : r.how = 0
  · rw [decide_eq_true q, Bool.true_and]
    have q2 : (r.how == 0) = true := by simp [q]
    clear q
    go_enter Tryz.func49, Tryz.ntmps49
    go_wp2_with fail
    refine wp_region_low (by kernel_rfl) (by kernel_rfl) fun hsome => ?_
    repeat (go_big_quiet_step (first
      | (go_at_call 75; refine Calls.low_of_same (hp _))))
    refine wpQuiet_nil ?_
    rintro _ ⟨z, rfl⟩
    have hz := z.low
    go_wp2
    go_ret
    exact ⟨rfl, hz⟩
  · rw [decide_eq_false q, Bool.false_and]
    have q2 : (r.how == 0) = false := by simp [q]
    clear q
    go_enter Tryz.func49, Tryz.ntmps49
    go_wp2_with fail
    refine wp_region_low (by kernel_rfl) (by kernel_rfl) fun hsome => ?_
    repeat (go_big_quiet_step (fail))
    refine wpQuiet_nil ?_
    rintro _ ⟨z, rfl⟩
    have hz := z.low
    go_wp2
    go_ret
    exact ⟨rfl, hz⟩
theorem lastT_some {l : List Ent} (h : l ≠ []) : ∃ y, l[l.length - 1]? = some y ∧ lastT l = y.time := by
  have hl : l.length - 1 < l.length := by cases l with
    | nil => exact absurd rfl h
    | cons a l => simp
  refine ⟨_, List.getElem?_eq_getElem hl, ?_⟩
  have hh := prevT_at (List.getElem?_eq_getElem hl)
  rw [show l.length - 1 + 1 = l.length by omega] at hh
  exact hh
theorem lastTimeT_any (B g : Nat) (r : Rep) (o : Msgs) (w : World) (h : Turn B w g r o) :
    Calls Tryz.prog 50 #[.pointer (some ⟨g, 0, none⟩)] w fun e w' => e = .returned (.int .i64 (lastT r.log)) ∧ Below w.heap.size w w' := by
  obtain ⟨⟨vl, va, vv, vw, vb, x, h, ho⟩, hB, h1, hl, hb, ha⟩ := h
  obtain ⟨k0, k1, k2, k3, k4, k5, k6, k7, k8, k9, k10, k11, k12⟩ := h.cells (by omega)
  obtain ⟨lo, lc, rfl, hle⟩ := ownE_lies h.rows.log
  clear h ho
  by_cases q : r.log = []
  · rw [show lastT r.log = 0 by rw [q]; rfl]
    have hq : r.log.length = 0 := by rw [q]; rfl
    rw [hq] at k5
    clear q hle
    go_enter Tryz.func50, Tryz.ntmps50
    go_wp2
    go_ret
    exact ⟨rfl, Below.refl _ _⟩
  · obtain ⟨y, hy, e⟩ := lastT_some q
    rw [e]
    obtain ⟨a, rfl, _, c0, _⟩ := hle _ y hy
    have hpos : r.log.length ≠ 0 := by intro e; exact q (List.eq_nil_of_length_eq_zero e)
    obtain ⟨L, hL⟩ : ∃ L, r.log.length = L + 1 := ⟨r.log.length - 1, by omega⟩
    rw [hL] at k5 hl
    rw [hL, Nat.add_sub_cancel] at c0
    clear q e hy hL hpos
    have i1 : IntKind.i64.wrap (((L + 1 : Nat) : Int) - 1) = (L : Int) := by rw [IntKind.wrap_i64]; omega
    have i2 : ((L + 1 : Nat) : Int) - 1 = (L : Int) := by omega
    have i3 : ¬ ((L + 1 : Nat) : Int) = 0 := by omega
    go_enter Tryz.func50, Tryz.ntmps50
    go_wp2
    go_region
    go_wp2
    go_ret
    exact ⟨rfl, (Below.refl _ _).drew⟩
/-- A number of Acked is turned. -/
theorem hold_ack {t : TypeId} {N : Nat} {x : Value} {B : Nat} {w : World} {g : Nat} {r : Rep} {vl vv vw vb : Value} {ga n cap : Nat} (h : Hold t N x B w g r vl (.slice (some ⟨ga, 0, none⟩) n cap) vv vw vb) (hn : n = r.acked.length) (ht : t ≠ 3) (hB : B ≤ w.heap.size) (i : Nat) (k : Int) :
    Hold t N x B (w.setCell ⟨ga, i, none⟩ (.int .i64 k)) g { r with acked := r.acked.set i k } vl (.slice (some ⟨ga, 0, none⟩) n cap) vv vw vb ∧ Stay (fun _ => False) 3 w (w.setCell ⟨ga, i, none⟩ (.int .i64 k)) ∧ Keep B w (w.setCell ⟨ga, i, none⟩ (.int .i64 k)) := by
  subst hn
  obtain ⟨hst, hgr⟩ := h.rows.ack.stored i (.int .i64 k)
  have hs : Stay (fun _ => False) 3 w (w.setCell ⟨ga, i, none⟩ (.int .i64 k)) := Stay.grown h.rows.ack hgr
  have hgB := (h.rows.ack.lt ga rfl).1
  rw [inCells_set] at hst
  refine ⟨⟨h.box.stay hs ht, h.base, ⟨own_stay h.rows.log hs (by decide) (fun _ h => h), own_stay h.rows.best hs (by decide) (fun _ h => h), ?_, h.rows.vot.kept hgr (.inr fun e => h.rows.a2 ga rfl e), h.rows.vor.kept hgr (.inr fun e => h.rows.a3 ga rfl e), h.rows.a1, h.rows.a2, h.rows.a3, h.rows.a4⟩⟩, hs, .of_stay ((Below.refl B w).setCell (p := ⟨ga, i, none⟩) hgB _) hs (by decide)⟩
  show World.ownsRow _ _ _ _ _ (r.acked.set i k).length _
  rw [List.length_set]
  exact hst
set_option maxHeartbeats 1000000 in
theorem ackT_any (B g : Nat) (r : Rep) (o : Msgs) (w : World) (h : Turn B w g r o) :
    Calls Tryz.prog 99 #[.pointer (some ⟨g, 0, none⟩)] w fun e w' => e = .returned (.tuple #[]) ∧ Turn B w' g (freshR r) o ∧ Keep B w w' := by
  have hn := one_bounds h.one
  obtain ⟨⟨vl, va, vv, vw, vb, x, h, ho⟩, hB, h1, hl, hb, ha⟩ := h
  obtain ⟨cs, hc1, hc2, hmk⟩ := made_ints r.n ⟨by omega, by omega⟩
  have hbel := (Below.refl _ w).alloc (Nat.le_refl _) (.cells cs 3)
  have hz := own_zeros w r.n.toNat (by omega) cs hc1 hc2
  have hA := h.below hbel
  have hoA := ownO_below ho hbel
  have hrw : RowsR B (w.alloc (.cells cs 3)) r.log r.best (List.replicate r.n.toNat 0) r.votes r.voters vl (.slice (some ⟨w.heap.size, 0, none⟩) r.n.toNat r.n.toNat) vv vw vb :=
    ⟨hA.rows.log, hA.rows.best, by rw [inCells_rep, List.length_replicate]; exact own_mono hz hB, hA.rows.vot, hA.rows.vor, hA.rows.a1, (apart_new h.rows.vot hz).symm, (apart_new h.rows.vor hz).symm, hA.rows.a4⟩
  have hS := hold_sets hA (by omega) (by decide) (by decide) [(7, .slice (some ⟨w.heap.size, 0, none⟩) r.n.toNat r.n.toNat)] (r' := { r with acked := List.replicate r.n.toNat 0 }) (x' := x) hrw (fun f f' e e' => by subst e e'; exact ⟨rfl, rfl, rfl, rfl, rfl, rfl, rfl, rfl, rfl, rfl, rfl, rfl, rfl, rfl⟩)
  have hoS := ownO_stay hoA (sets_box [(7, .slice (some ⟨w.heap.size, 0, none⟩) r.n.toNat r.n.toNat)] hA.box).2 (by decide) (by decide)
  have hkS := (Keep.of_below hbel hB).trans (sets_keep hA.base hA.box (by decide) [(7, .slice (some ⟨w.heap.size, 0, none⟩) r.n.toNat r.n.toNat)])
  obtain ⟨hF, hsF, hkF⟩ := hold_ack hS (by simp) (by decide) (Nat.le_trans hB hkS.low.size) r.id.toNat (r.log.length : Int)
  have hoF := ownO_stay hoS hsF (by decide) (by decide)
  have hT : Turn B _ g (freshR r) o := ⟨⟨_, _, _, _, _, _, hF, hoF⟩, Nat.le_trans hB (hkS.trans hkF).low.size, h1, hl, hb, by show (((List.replicate r.n.toNat 0).set r.id.toNat (r.log.length : Int)).length : Int) = r.n; rw [List.length_set, List.length_replicate]; omega⟩
  have hK := hkS.trans hkF
  obtain ⟨k0, k1, k2, k3, k4, k5, k6, k7, k8, k9, k10, k11, k12⟩ := h.cells (by omega)
  obtain ⟨s0, s1, s2, s3, s4, s5, s6, s7, s8, s9, s10, s11, s12⟩ := hS.cells (by omega)
  have z7 := hA.box.unfrozen 7
  have a7 := hA.box.cell 7 (by omega)
  have ca := hS.rows.ack.cells (g := w.heap.size) rfl r.id.toNat (.int .i64 0) (by rw [inCells_rep, List.getElem?_replicate, if_pos (by omega)])
  have za := hS.rows.ack
  rw [List.length_replicate] at za
  have za := za.frozenAt r.id.toNat
  rw [Addr.add_lit, Nat.zero_add] at ca
  obtain ⟨lo, lc, rfl, _⟩ := ownE_lies h.rows.log
  have n1 : r.id < ((r.n.toNat : Nat) : Int) := by omega
  have n2 : ¬ r.id < 0 := by omega
  simp only [sets] at s0 s5 s7 ca za hT hK
  clear hF hoF hS hoS hA hoA hrw hz hkS hkF hsF h ho
  go_enter Tryz.func99, Tryz.ntmps99
  go_wp2
  go_region
  go_end0
  exact ⟨rfl, hT.drew, hK.drew⟩
end Go.Proofs.YtajbdffepfjegaaGreat
namespace Go.Proofs.YtajbdffepfjegaaGreat
open Go.RowKit Num
set_option linter.unusedVariables false
set_option maxRecDepth 100000

abbrev Num.msV (m : Msg) (bo : Option Addr) (c : Nat) : Value := .agg #[.int .i64 m.a0, .int .i64 m.a1, .int .i64 m.a2, .int .i64 m.a3, .int .i64 m.a4, .int .i64 m.a5, .int .i64 m.a6, .slice bo m.log.length c]
/-- 'append' of one message, its log a row of the call's own. -/
theorem app_ms {B : Nat} {W : World} {x : Value} {o : Msgs} (ho : OwnO B W x o) (hB : B ≤ W.heap.size) (hlen : o.length ≤ 1000) (m : Msg) (ao : Option Addr) (cap : Nat) (hlog : W.ownsRow B 48 2 (.slice ao m.log.length cap) m.log.length (enCells m.log)) (ty : TypeId) :
    ∃ v' w', (Builtin.append_ #[30, 30] ty #[x, .slice (some ⟨W.heap.size, 0, none⟩) 1 1]).run Tryz.prog (W.alloc (.cells #[.int .i64 m.a0, .int .i64 m.a1, .int .i64 m.a2, .int .i64 m.a3, .int .i64 m.a4, .int .i64 m.a5, .int .i64 m.a6, .slice ao m.log.length cap] 27)).drew = .ok v' w' ∧
      OwnO B w' v' (o ++ [m]) ∧ Stay (fun _ => False) 27 W w' ∧ Below B W w' ∧ Near W x v' ∧ ∀ k, k < W.heap.size → x.ownBlock ≠ some k → w'.heap[k]? = W.heap[k]? := by
  obtain ⟨css, a1, a2, a3, a4⟩ := ho
  have hb : Below W.heap.size W (W.alloc (.cells #[.int .i64 m.a0, .int .i64 m.a1, .int .i64 m.a2, .int .i64 m.a3, .int .i64 m.a4, .int .i64 m.a5, .int .i64 m.a6, .slice ao m.log.length cap] 27)).drew := ((Below.refl _ W).alloc (Nat.le_refl _) _).drew
  have hheld : Held (W.alloc (.cells #[.int .i64 m.a0, .int .i64 m.a1, .int .i64 m.a2, .int .i64 m.a3, .int .i64 m.a4, .int .i64 m.a5, .int .i64 m.a6, .slice ao m.log.length cap] 27)).drew (some ⟨W.heap.size, 0, none⟩) 1 8 (mc m (.slice ao m.log.length cap)) :=
    ⟨rfl, mc_one _ _ _ _, fun e => (by cases e), fun a e j u hj => by cases e; exact new_cells W 27 (mc m (.slice ao m.log.length cap)) _ rfl j u hj⟩
  have hrow := own_below a3 hb
  obtain ⟨v', w', hr, h2, h3, h4⟩ := run_app_g Tryz.underlying30 Tryz.infoMs (by decide) _ ty B x _ _ hrow _ 1 1 _ hheld (by omega) (Nat.le_trans hB hb.size)
  have hst : Stay (fun _ => False) 27 W w' := (Stay.below hb).trans (Stay.grown hrow h3)
  refine ⟨v', w', hr, own_snoc a1 a2 rfl (mc_one _ _ _ _) h2 (fun i cs y hi hy => msO_stay hst (a4 i cs y hi hy)) ⟨_, rfl, own_stay hlog hst (by decide) (fun _ h => h)⟩, hst, ?_, ?_, fun k hk hn => (h3.block k (Nat.lt_of_lt_of_le hk hb.size) (fun e => hn e.symm)).trans (hb.block k hk)⟩
  · exact (hb.mono hB).trans ((Below.refl B _).grown h3 (Nat.le_trans hB hb.size) (fun j hj => (hrow.lt j hj).1))
  · rcases h4 with h4 | ⟨q, h4, h5⟩
    · exact .inl h4
    · exact .inr ⟨q, h4, Nat.le_trans hb.size h5⟩
/-- A message is sent: where the list of messages lies behind it, and what stays. -/
structure Num.Sent (B : Nat) (w w' : World) (g : Nat) (r : Rep) (o : Msgs) (x x' : Value) : Prop where
  ex : ∃ vl va vv vw vb, Hold 65 14 x' B w' g r vl va vv vw vb
  out : OwnO B w' x' o
  keep : Keep B w w'
  near : Near w x x'
  off : ∀ k, k < w.heap.size → k ≠ g → x.ownBlock ≠ some k → w'.heap[k]? = w.heap[k]?
set_option maxRecDepth 100000 in
set_option maxHeartbeats 2000000 in
theorem sendX_any (B g : Nat) (r : Rep) (o : Msgs) (m : Msg) (bo : Option Addr) (c : Nat) (to : Int) (w : World) (x : Value) (h : ∃ vl va vv vw vb, Hold 65 14 x B w g r vl va vv vw vb) (ho : OwnO B w x o) (hB : B ≤ w.heap.size) (hm : SrcE B w bo c m.log) (hml : m.log.length ≤ 1000) (hol : o.length ≤ 100) :
    Calls Tryz.prog 76 #[.pointer (some ⟨g, 0, none⟩), .int .i64 to, msV m bo c] w fun e w' => e = .returned (.tuple #[]) ∧ ∃ x', Sent B w w' g r (o ++ [toM r m to]) x x' := by
  obtain ⟨vl, va, vv, vw, vb, h⟩ := h
  obtain ⟨k0, k1, k2, k3, k4, k5, k6, k7, k8, k9, k10, k11, k12⟩ := h.cells (by omega)
  have e0 := fun ob : Obj => alloc_cell ob k0
  have e2 := fun ob : Obj => alloc_cell ob k2
  have hcl := fun (W : World) (hb : Below w.heap.size w W) => cloneE_any bo m.log.length c (enCells m.log) (by omega) W (src_next (liesE_src (hm.lies hB)) hb)
  have hw1 := fun ob : Obj => ((Below.refl _ w).alloc (Nat.le_refl _) ob).drew
  have HX : Hid (∀ W, Below w.heap.size w W → Hold 65 14 x B W g r vl va vv vw vb ∧ OwnO B W x o) := fun W hb => ⟨h.below hb, ownO_below ho hb⟩
  clear h ho hm k1 k3 k4 k5 k6 k7 k8 k9 k10 k11 k12
  go_enter Tryz.func76, Tryz.ntmps76
  go_wp2
  go_region
  go_wp2_with (first
    | (go_at_call 52; refine (hcl _ (hw1 _)).mono ?_; rintro e w1 ⟨ao1, cap1, rfl, hown1, hb1⟩
       have bx := below_box hb1 (heap_drew (heap_new w (.cells #[.int .i64 m.a0, .int .i64 r.id, .int .i64 to, .int .i64 r.view, .int .i64 m.a4, .int .i64 m.a5, .int .i64 m.a6, .slice bo m.log.length c] 27)))
       have c7 := box_cell bx 7 _ rfl
       have z7 := box_open bx 7))
  have hw2 : Below w.heap.size w (w1.setCell ⟨w.heap.size, 7, none⟩ (.slice ao1 m.log.length cap1)) := ((hw1 _).trans (hb1.mono (by simp))).setCell (p := ⟨w.heap.size, 7, none⟩) (Nat.le_refl _) _
  have bx2 : (w1.setCell ⟨w.heap.size, 7, none⟩ (.slice ao1 m.log.length cap1)).heap[w.heap.size]? = some (.cells #[.int .i64 m.a0, .int .i64 r.id, .int .i64 to, .int .i64 r.view, .int .i64 m.a4, .int .i64 m.a5, .int .i64 m.a6, .slice ao1 m.log.length cap1] 27 (0, 0)) := (heap_setCell_same w1 w.heap.size 7 _ _ (.slice ao1 m.log.length cap1) bx).trans (by simp)
  have hst7 : Stay (fun _ => False) 27 w1 (w1.setCell ⟨w.heap.size, 7, none⟩ (.slice ao1 m.log.length cap1)) := ⟨by simp [World.setCell], fun k hk _ hn => Below.heap_setCell _ _ _ _ (fun e => by subst e; exact hn _ _ bx)⟩
  have hlog := own_stay hown1 hst7 (by decide) (fun _ h => h)
  have hlog2 := own_mono hlog (show B ≤ _ from Nat.le_trans hB (by simp))
  obtain ⟨h2, ho2⟩ := HX.out _ hw2
  have hsame := hw2.block
  have hszX := hw2.size
  have hK2 := Keep.of_below hw2 hB
  have hB2 := Nat.le_trans hB hw2.size
  clear hlog hown1 hst7 bx c7 z7 hb1 hcl hw1 hw2 HX e0 e2 k0 k2
  generalize w1.setCell ⟨w.heap.size, 7, none⟩ (.slice ao1 m.log.length cap1) = X at *
  have c0 := box_cell bx2 0 _ rfl
  have c1 := box_cell bx2 1 _ rfl
  have c2 := box_cell bx2 2 _ rfl
  have c3 := box_cell bx2 3 _ rfl
  have c4 := box_cell bx2 4 _ rfl
  have c5 := box_cell bx2 5 _ rfl
  have c6 := box_cell bx2 6 _ rfl
  have c7 := box_cell bx2 7 _ rfl
  have c13 : X.cell? ⟨g, 13, none⟩ = some x := h2.box.cell 13 (by omega)
  obtain ⟨v', w4, hr, ho4, hs4, hb4, hn4, hf4⟩ := app_ms ho2 hB2 (by omega) (toM r m to) ao1 cap1 hlog2 30
  obtain ⟨ao4, cap4, rfl⟩ := ho4.shape
  generalize hL : List.length (o ++ [toM r m to]) = L at *
  have h4 := h2.stay hs4 (by decide) (by decide) (by decide)
  have d13 : w4.cell? ⟨g, 13, none⟩ = some x := h4.box.cell 13 (by omega)
  have z13 := h4.box.unfrozen 13
  have h5 := hold_sets h4 (by omega) (by decide) (by decide) [(13, .slice ao4 L cap4)] (r' := r) (x' := .slice ao4 L cap4) h4.rows (fun f f' e e' => by subst e e'; exact ⟨rfl, rfl, rfl, rfl, rfl, rfl, rfl, rfl, rfl, rfl, rfl, rfl, rfl, rfl⟩)
  have ho5 := ownO_stay ho4 (sets_box [(13, .slice ao4 L cap4)] h4.box).2 (by decide) (by decide)
  have hk5 := (hK2.trans (Keep.of_stay hb4 hs4 (by decide))).trans (sets_keep h4.base h4.box (by decide) [(13, .slice ao4 L cap4)])
  have hnear : Near w x (.slice ao4 L cap4) := by
    rcases hn4 with e | ⟨q, e, hq⟩
    · exact .inl e
    · exact .inr ⟨q, e, Nat.le_trans hszX hq⟩
  have hoff : ∀ k, k < w.heap.size → k ≠ g → x.ownBlock ≠ some k → (w4.setCell ⟨g, 13, none⟩ (.slice ao4 L cap4)).heap[k]? = w.heap[k]? := fun k hk hg hn => (Below.heap_setCell _ _ _ _ hg).trans ((hf4 k (Nat.lt_of_lt_of_le hk hszX) hn).trans (hsame k hk))
  have hT : Sent B w (w4.setCell ⟨g, 13, none⟩ (.slice ao4 L cap4)) g r (o ++ [toM r m to]) x (.slice ao4 L cap4) := ⟨⟨_, _, _, _, _, h5⟩, ho5, hk5, hnear, hoff⟩
  clear h5 ho5 h4 ho4 h2 ho2 hs4 hb4 hlog2 bx2 hK2 hk5 hnear hoff hn4 hf4 hsame hszX
  have c13z := fun ob : Obj => alloc_cell ob c13
  go_region_law (refine step_app_run rfl (.tmp 28) (.tmp 30) 30 rfl x (.slice (some ⟨X.heap.size, 0, none⟩) 1 1) (by simp [Act.eval]) (by simp [Act.eval]) hr ?_)
  all_goals
    go_end0
    exact ⟨rfl, _, hT⟩
theorem sendT_any (B g : Nat) (r : Rep) (o : Msgs) (m : Msg) (bo : Option Addr) (c : Nat) (to : Int) (w : World) (h : Turn B w g r o) (hm : SrcE B w bo c m.log) (hml : m.log.length ≤ 1000) (hol : o.length ≤ 100) :
    Calls Tryz.prog 76 #[.pointer (some ⟨g, 0, none⟩), .int .i64 to, msV m bo c] w fun e w' => e = .returned (.tuple #[]) ∧ Turn B w' g r (o ++ [toM r m to]) ∧ Keep B w w' := by
  obtain ⟨⟨vl, va, vv, vw, vb, x, h, ho⟩, hB, h1, hl, hb, ha⟩ := h
  refine (sendX_any B g r o m bo c to w x ⟨vl, va, vv, vw, vb, h⟩ ho hB hm hml hol).mono ?_
  rintro e w' ⟨rfl, x', ⟨vl', va', vv', vw', vb', h'⟩, ho', hk, _, _⟩
  exact ⟨rfl, ⟨⟨vl', va', vv', vw', vb', x', h', ho'⟩, Nat.le_trans hB hk.low.size, h1, hl, hb, ha⟩, hk⟩
set_option maxHeartbeats 1000000 in
theorem sendAllT_any (B g : Nat) (r : Rep) (o : Msgs) (m : Msg) (bo : Option Addr) (c : Nat) (w : World) (h : Turn B w g r o) (hm : SrcE B w bo c m.log) (hml : m.log.length ≤ 1000) (hol : o.length ≤ 50) :
    Calls Tryz.prog 51 #[.pointer (some ⟨g, 0, none⟩), msV m bo c] w fun e w' => e = .returned (.tuple #[]) ∧ Turn B w' g r (o ++ allM r m) ∧ Keep B w w' := by
  have hn := one_bounds h.one
  have hbox : Below w.heap.size w (w.alloc (.cells #[.int .i64 m.a0, .int .i64 m.a1, .int .i64 m.a2, .int .i64 m.a3, .int .i64 m.a4, .int .i64 m.a5, .int .i64 m.a6, .slice bo m.log.length c] 27)) := (Below.refl _ w).alloc (Nat.le_refl _) _
  have h0 := h.below hbox
  have hB := h.base
  have bx := heap_new w (.cells #[.int .i64 m.a0, .int .i64 m.a1, .int .i64 m.a2, .int .i64 m.a3, .int .i64 m.a4, .int .i64 m.a5, .int .i64 m.a6, .slice bo m.log.length c] 27)
  have k1 : (w.alloc (.cells #[.int .i64 m.a0, .int .i64 m.a1, .int .i64 m.a2, .int .i64 m.a3, .int .i64 m.a4, .int .i64 m.a5, .int .i64 m.a6, .slice bo m.log.length c] 27)).cell? ⟨g, 1, none⟩ = some (.int .i64 r.n) := by
    obtain ⟨⟨vl, va, vv, vw, vb, x, h, ho⟩, _⟩ := h0
    exact h.box.cell 1 (by omega)
  have hk0 := Keep.of_below hbox hB
  have hm0 := hm.keep hk0
  have hgw : g ≠ w.heap.size := by
    obtain ⟨⟨vl, va, vv, vw, vb, x, h, ho⟩, _⟩ := h
    exact Nat.ne_of_lt h.box.lt
  have h1 := h.one
  have hl := h.ll
  have hb := h.bl
  have ha := h.al
  have hstart : Hid (∃ x, ((∃ vl va vv vw vb, Hold 65 14 x B (w.alloc (.cells #[.int .i64 m.a0, .int .i64 m.a1, .int .i64 m.a2, .int .i64 m.a3, .int .i64 m.a4, .int .i64 m.a5, .int .i64 m.a6, .slice bo m.log.length c] 27)) g r vl va vv vw vb) ∧ OwnO B (w.alloc (.cells #[.int .i64 m.a0, .int .i64 m.a1, .int .i64 m.a2, .int .i64 m.a3, .int .i64 m.a4, .int .i64 m.a5, .int .i64 m.a6, .slice bo m.log.length c] 27)) x o ∧ x.ownBlock ≠ some w.heap.size) ∧ SrcE B (w.alloc (.cells #[.int .i64 m.a0, .int .i64 m.a1, .int .i64 m.a2, .int .i64 m.a3, .int .i64 m.a4, .int .i64 m.a5, .int .i64 m.a6, .slice bo m.log.length c] 27)) bo c m.log ∧ Keep B w (w.alloc (.cells #[.int .i64 m.a0, .int .i64 m.a1, .int .i64 m.a2, .int .i64 m.a3, .int .i64 m.a4, .int .i64 m.a5, .int .i64 m.a6, .slice bo m.log.length c] 27))) := by
    obtain ⟨⟨vl, va, vv, vw, vb, x, h, ho⟩, _⟩ := h
    refine ⟨x, ⟨⟨vl, va, vv, vw, vb, h.below hbox⟩, ownO_below ho hbox, fun e => ?_⟩, hm0, hk0⟩
    obtain ⟨css, _, _, hrow, _⟩ := ho
    exact Nat.lt_irrefl _ (hrow.lt _ e).2
  clear h hm h0 hm0 hk0
  obtain ⟨N, hN⟩ := Int.eq_ofNat_of_zero_le (show 0 ≤ r.n by omega)
  rw [hN] at k1
  go_enter Tryz.func51, Tryz.ntmps51
  go_wp2
  go_loopw [10, 4] (fun i _ wr => ∃ (k : Nat) (q : Msgs), k ≤ N ∧ i = .int .i64 (k : Int) ∧ Hid (q ++ restM r m k = o ++ allM r m ∧ q.length ≤ 50 + k) ∧ Hid (∃ x, ((∃ vl va vv vw vb, Hold 65 14 x B wr g r vl va vv vw vb) ∧ OwnO B wr x q ∧ x.ownBlock ≠ some w.heap.size) ∧ SrcE B wr bo c m.log ∧ Keep B w wr) ∧ Hid (wr.heap[w.heap.size]? = some (.cells #[.int .i64 m.a0, .int .i64 m.a1, .int .i64 m.a2, .int .i64 m.a3, .int .i64 m.a4, .int .i64 m.a5, .int .i64 m.a6, .slice bo m.log.length c] 27 (0, 0)))) (fun i _ _ => N - (intOf i).toNat)
  case atStart => exact ⟨0, o, by omega, rfl, ⟨rfl, hol⟩, hstart, bx⟩
  case round =>
    obtain ⟨k, q, hk, rfl, HQ, HT, HB⟩ := hrel
    have hwb : w.heap.size < wr.heap.size := (Array.getElem?_eq_some_iff.1 HB.out).1
    obtain ⟨x, ⟨hh, hoo, hx⟩, hsrc, hkk⟩ := HT.out
    have e0 : wr.cell? ⟨g, 0, none⟩ = some (.int .i64 r.id) := by
      obtain ⟨vl, va, vv, vw, vb, h⟩ := hh
      exact h.box.cell 0 (by omega)
    have c0 := box_cell HB.out 0 _ rfl
    have c1 := box_cell HB.out 1 _ rfl
    have c2 := box_cell HB.out 2 _ rfl
    have c3 := box_cell HB.out 3 _ rfl
    have c4 := box_cell HB.out 4 _ rfl
    have c5 := box_cell HB.out 5 _ rfl
    have c6 := box_cell HB.out 6 _ rfl
    have c7 := box_cell HB.out 7 _ rfl
    by_cases hkN : k < N
    · have i1 : (k : Int) < (N : Int) := by omega
      by_cases hki : (k : Int) = r.id
      · have HQ2 : Hid (q ++ restM r m (k + 1) = o ++ allM r m ∧ q.length ≤ 50 + (k + 1)) := ⟨by rw [← restM_self r m k (by omega) hki]; exact HQ.out.1, by have := HQ.out.2; omega⟩
        rw [← hki] at e0
        clear hki
        go_wp2
        go_roundw
        case rel => exact ⟨k + 1, q, by omega, by go_num, HQ2, HT, HB⟩
        case measure => simp [intOf]; omega
      · have HQ2 : Hid ((q ++ [toM r m (k : Int)]) ++ restM r m (k + 1) = o ++ allM r m ∧ (q ++ [toM r m (k : Int)]).length ≤ 50 + (k + 1)) := ⟨by rw [List.append_assoc, List.singleton_append, ← restM_next r m k (by omega) hki]; exact HQ.out.1, by have := HQ.out.2; rw [List.length_append]; simp; omega⟩
        have hs := sendX_any B g r q m bo c (k : Int) wr x hh hoo (Nat.le_trans hB hkk.low.size) hsrc hml (by have := HQ.out.2; omega)
        have hki2 : ((k : Int) != r.id) = true := by simp [hki]
        have hki3 : decide ((k : Int) = r.id) = false := decide_eq_false hki
        clear hh hoo
        go_wp2_with (first
          | (go_at_call 76; refine hs.mono ?_; rintro e w2 ⟨rfl, x2, hS2⟩))
        go_roundw
        case rel =>
          refine ⟨k + 1, q ++ [toM r m (k : Int)], by omega, by go_num, HQ2, ⟨x2, ⟨hS2.ex, hS2.out, fun e => ?_⟩, hsrc.keep hS2.keep, hkk.trans hS2.keep⟩, (hS2.off _ hwb hgw.symm hx).trans HB.out⟩
          rcases hS2.near with e2 | ⟨q2, e2, hq2⟩
          · exact hx (e2.symm.trans e)
          · rw [e2] at e
            cases e
            omega
        case measure => simp [intOf]; omega
    · obtain rfl : k = N := by omega
      have hq : q = o ++ allM r m := by
        have := HQ.out.1
        rw [restM_done r m k (by omega), List.append_nil] at this
        exact this
      have i1 : ¬ (k : Int) < (k : Int) := by omega
      go_wp2
      go_end0
      refine ⟨rfl, ?_, hkk⟩
      rw [← hq]
      obtain ⟨vl, va, vv, vw, vb, h⟩ := hh
      exact ⟨⟨_, _, _, _, _, _, h, hoo⟩, Nat.le_trans hB hkk.low.size, h1, hl, hb, ha⟩
end Go.Proofs.YtajbdffepfjegaaGreat
namespace Go.Proofs.YtajbdffepfjegaaGreat
open Go.RowKit Num
set_option linter.unusedVariables false
set_option maxRecDepth 100000

theorem turn_sets {B : Nat} {w : World} {g : Nat} {r : Rep} {o : Msgs} (h : Turn B w g r o) (l : List (Nat × Value)) (r' : Rep)
    (e : ∀ (vl va vv vw vb x : Value) (f f' : Nat → Value), f = upds (repF r vl va vv vw vb x) l → f' = repF r' vl va vv vw vb x → f 0 = f' 0 ∧ f 1 = f' 1 ∧ f 2 = f' 2 ∧ f 3 = f' 3 ∧ f 4 = f' 4 ∧ f 5 = f' 5 ∧ f 6 = f' 6 ∧ f 7 = f' 7 ∧ f 8 = f' 8 ∧ f 9 = f' 9 ∧ f 10 = f' 10 ∧ f 11 = f' 11 ∧ f 12 = f' 12 ∧ f 13 = f' 13)
    (e1 : r'.log = r.log) (e2 : r'.best = r.best) (e3 : r'.acked = r.acked) (e4 : r'.votes = r.votes) (e5 : r'.voters = r.voters) (e6 : r'.id = r.id) (e7 : r'.n = r.n) : Turn B (sets w g l) g r' o ∧ Keep B w (sets w g l) := by
  obtain ⟨⟨vl, va, vv, vw, vb, x, h, ho⟩, hB, h1, hl, hb, ha⟩ := h
  have hk := sets_keep h.base h.box (by decide) l
  exact ⟨⟨⟨vl, va, vv, vw, vb, x, hold_sets h (by omega) (by decide) (by decide) l (by rw [e1, e2, e3, e4, e5]; exact h.rows) (e vl va vv vw vb x), ownO_stay ho (sets_box l h.box).2 (by decide) (by decide)⟩, Nat.le_trans hB hk.low.size, by rw [e6, e7]; exact h1, by rw [e1]; exact hl, by rw [e2]; exact hb, by rw [e3, e7]; exact ha⟩, hk⟩
theorem Num.Turn.cells {B : Nat} {w : World} {g : Nat} {r : Rep} {o : Msgs} (h : Turn B w g r o) : ∃ (s : Sl) (xo : Option Addr) (xc : Nat), (w.cell? ⟨g, 0, none⟩ = some (.int .i64 r.id) ∧ w.cell? ⟨g, 1, none⟩ = some (.int .i64 r.n) ∧ w.cell? ⟨g, 2, none⟩ = some (.int .i64 r.view) ∧ w.cell? ⟨g, 3, none⟩ = some (.int .i64 r.normal) ∧ w.cell? ⟨g, 4, none⟩ = some (.int .i64 r.how) ∧ w.cell? ⟨g, 5, none⟩ = some (.slice s.lo r.log.length s.lc) ∧ w.cell? ⟨g, 6, none⟩ = some (.int .i64 r.commit) ∧ w.cell? ⟨g, 7, none⟩ = some (.slice s.ao r.acked.length s.ac) ∧ w.cell? ⟨g, 8, none⟩ = some (.slice s.vo r.votes.length s.vc) ∧ w.cell? ⟨g, 9, none⟩ = some (.slice s.wo r.voters.length s.wc) ∧ w.cell? ⟨g, 10, none⟩ = some (.slice s.bo r.best.length s.bc) ∧ w.cell? ⟨g, 11, none⟩ = some (.int .i64 r.bestView) ∧ w.cell? ⟨g, 12, none⟩ = some (.int .i64 r.bestDone) ∧ w.cell? ⟨g, 13, none⟩ = some (.slice xo o.length xc)) ∧ (∀ k, w.frozen? ⟨g, k, none⟩ = false) ∧ LiesR w w.heap.size s r ∧ (Hold 65 14 (.slice xo o.length xc) B w g r (.slice s.lo r.log.length s.lc) (.slice s.ao r.acked.length s.ac) (.slice s.vo r.votes.length s.vc) (.slice s.wo r.voters.length s.wc) (.slice s.bo r.best.length s.bc) ∧ OwnO B w (.slice xo o.length xc) o) := by
  obtain ⟨⟨vl, va, vv, vw, vb, x, h, ho⟩, hB, h1, hl, hb, ha⟩ := h
  obtain ⟨k0, k1, k2, k3, k4, k5, k6, k7, k8, k9, k10, k11, k12⟩ := h.cells (by omega)
  obtain ⟨lo, lc, rfl, l1⟩ := ownE_lies h.rows.log
  obtain ⟨bo, bc, rfl, l2⟩ := ownE_lies h.rows.best
  obtain ⟨ao, ac, rfl, l3⟩ := ownN_lies h.rows.ack
  obtain ⟨vo, vc, rfl, l4⟩ := ownN_lies h.rows.vot
  obtain ⟨wo, wc, rfl, l5⟩ := ownN_lies h.rows.vor
  obtain ⟨xo, xc, rfl⟩ := ho.shape
  exact ⟨⟨lo, lc, ao, ac, vo, vc, wo, wc, bo, bc⟩, xo, xc, ⟨k0, k1, k2, k3, k4, k5, k6, k7, k8, k9, k10, k11, k12, h.box.cell 13 (by omega)⟩, h.box.unfrozen, ⟨l1, l3, l4, l5, l2⟩, h, ho⟩
theorem Num.Hold.src {t : TypeId} {N : Nat} {x : Value} {B : Nat} {w : World} {g : Nat} {r : Rep} {lo : Option Addr} {lc : Nat} {va vv vw vb : Value} (h : Hold t N x B w g r (.slice lo r.log.length lc) va vv vw vb) : SrcE B w lo lc r.log := .inr h.rows.log
/-- Another log, the call's own, is put in. -/
theorem turn_log {B : Nat} {w : World} {g : Nat} {r : Rep} {o : Msgs} (h : Turn B w g r o) {w1 : World} (hb1 : Below w.heap.size w w1) (log : List Ent) (hl : log.length ≤ 1000) {ao : Option Addr} {cap : Nat} (hown : w1.ownsRow w.heap.size 48 2 (.slice ao log.length cap) log.length (enCells log)) :
    Turn B (w1.setCell ⟨g, 5, none⟩ (.slice ao log.length cap)) g { r with log := log } o ∧ Keep B w (w1.setCell ⟨g, 5, none⟩ (.slice ao log.length cap)) := by
  obtain ⟨⟨vl, va, vv, vw, vb, x, h, ho⟩, hB, h1, hl0, hb, ha⟩ := h
  have h' := h.below hb1
  have ho' := ownO_below ho hb1
  have hk := (Keep.of_below hb1 hB).trans (sets_keep h'.base h'.box (by decide) [(5, .slice ao log.length cap)])
  exact ⟨⟨⟨_, _, _, _, _, _, hold_sets h' (by omega) (by decide) (by decide) [(5, .slice ao log.length cap)] (r' := { r with log := log }) (x' := x) ⟨own_mono hown hB, h'.rows.best, h'.rows.ack, h'.rows.vot, h'.rows.vor, (apart_new h.rows.best hown).symm, h'.rows.a2, h'.rows.a3, h'.rows.a4⟩ (fun f f' e e' => by subst e e'; exact ⟨rfl, rfl, rfl, rfl, rfl, rfl, rfl, rfl, rfl, rfl, rfl, rfl, rfl, rfl⟩), ownO_stay ho' (sets_box [(5, .slice ao log.length cap)] h'.box).2 (by decide) (by decide)⟩, Nat.le_trans hB hk.low.size, h1, hl, hb, ha⟩, hk⟩
set_option maxHeartbeats 1000000 in
theorem normalT_any (B g : Nat) (r : Rep) (o : Msgs) (log : List Ent) (bo : Option Addr) (c : Nat) (view com : Int) (w : World) (h : Turn B w g r o) (hs : SrcE B w bo c log) (hlog : log.length ≤ 1000) :
    Calls Tryz.prog 89 #[.pointer (some ⟨g, 0, none⟩), .int .i64 view, .slice bo log.length c, .int .i64 com] w fun e w' => e = .returned (.tuple #[]) ∧ Turn B w' g (normalR r log view com) o ∧ Keep B w w' := by
  have hB := h.base
  obtain ⟨s, xo, xc, ⟨k0, k1, k2, k3, k4, k5, k6, k7, k8, k9, k10, k11, k12, k13⟩, z, _⟩ := h.cells
  obtain ⟨hT0, hK0⟩ := turn_sets h [(2, .int .i64 view), (3, .int .i64 view), (4, .int .i64 0)] { r with view := view, normal := view, how := 0 } (fun _ _ _ _ _ _ f f' e e' => by subst e e'; exact ⟨rfl, rfl, rfl, rfl, rfl, rfl, rfl, rfl, rfl, rfl, rfl, rfl, rfl, rfl⟩) rfl rfl rfl rfl rfl rfl rfl
  have hcl := cloneE_any bo log.length c (enCells log) (by omega) _ (liesE_src ((hs.keep hK0).lies hT0.base))
  simp only [sets] at hT0 hK0 hcl
  clear h k0 k1 k5 k6 k7 k8 k9 k10 k11 k12 k13
  have key : ∀ w4, Turn B w4 g (freshR (clearR { r with view := view, normal := view, how := 0, log := log })) o → ∃ xo4 xc4, w4.cell? ⟨g, 6, none⟩ = some (.int .i64 r.commit) ∧ w4.cell? ⟨g, 1, none⟩ = some (.int .i64 r.n) ∧ w4.cell? ⟨g, 13, none⟩ = some (.slice xo4 o.length xc4) ∧ (∀ k, w4.frozen? ⟨g, k, none⟩ = false) := fun w4 h4 => by
    obtain ⟨s, xo, xc, ⟨k0, k1, k2, k3, k4, k5, k6, k7, k8, k9, k10, k11, k12, k13⟩, z, _⟩ := h4.cells
    exact ⟨xo, xc, k6, k1, k13, z⟩
  by_cases hn : r.n = 1
  · have hn2 : (r.n == 1) = true := by simp [hn]
    have fin : ∀ w4, Turn B w4 g (freshR (clearR { r with view := view, normal := view, how := 0, log := log })) o → Turn B ((w4.setCell ⟨g, 6, none⟩ (.int .i64 (min (max r.commit com) (log.length : Int)))).setCell ⟨g, 6, none⟩ (.int .i64 (log.length : Int))) g (normalR r log view com) o ∧ Keep B w4 ((w4.setCell ⟨g, 6, none⟩ (.int .i64 (min (max r.commit com) (log.length : Int)))).setCell ⟨g, 6, none⟩ (.int .i64 (log.length : Int))) := fun w4 h4 =>
      turn_sets h4 [(6, .int .i64 (min (max r.commit com) (log.length : Int))), (6, .int .i64 (log.length : Int))] (normalR r log view com) (fun _ _ _ _ _ _ f f' e e' => by subst e e'; exact ⟨rfl, rfl, rfl, rfl, rfl, rfl, by show Value.int .i64 _ = .int .i64 (comR r log com); unfold comR; rw [if_pos hn], rfl, rfl, rfl, rfl, rfl, rfl, rfl⟩) rfl rfl rfl rfl rfl rfl rfl
    go_enter Tryz.func89, Tryz.ntmps89
    go_wp2_with (first
      | (go_at_call 52; refine hcl.mono ?_; rintro e w1 ⟨ao1, cap1, rfl, hown1, hb1⟩
         obtain ⟨hT1, hK1⟩ := turn_log hT0 hb1 log hlog hown1
         obtain ⟨s1, xo1, xc1, ⟨_, _, _, _, _, a5, _⟩, az, _⟩ := (hT0.below hb1).cells
         have hcT := clearT_any B g _ o _ hT1
         clear hcl)
      | (go_at_call 93; refine hcT.mono ?_; rintro e w2 ⟨rfl, hT2, hK2⟩; have haT := ackT_any B g _ o _ hT2; clear hcT)
      | (go_at_call 99; refine haT.mono ?_; rintro e w3 ⟨rfl, hT3, hK3⟩
         obtain ⟨xo3, xc3, b6, b1, _, bz⟩ := key _ hT3
         obtain ⟨hT4, hK4⟩ := fin _ hT3
         clear haT))
    go_end0
    exact ⟨rfl, hT4, (((hK0.trans hK1).trans hK2).trans hK3).trans hK4⟩
  · have hn2 : (r.n == 1) = false := by simp [hn]
    have hn3 : decide (r.n = 1) = false := decide_eq_false hn
    have fin : ∀ w4, Turn B w4 g (freshR (clearR { r with view := view, normal := view, how := 0, log := log })) o → Turn B (w4.setCell ⟨g, 6, none⟩ (.int .i64 (min (max r.commit com) (log.length : Int)))) g (normalR r log view com) o ∧ Keep B w4 (w4.setCell ⟨g, 6, none⟩ (.int .i64 (min (max r.commit com) (log.length : Int)))) := fun w4 h4 =>
      turn_sets h4 [(6, .int .i64 (min (max r.commit com) (log.length : Int)))] (normalR r log view com) (fun _ _ _ _ _ _ f f' e e' => by subst e e'; exact ⟨rfl, rfl, rfl, rfl, rfl, rfl, by show Value.int .i64 _ = .int .i64 (comR r log com); unfold comR; rw [if_neg hn], rfl, rfl, rfl, rfl, rfl, rfl, rfl⟩) rfl rfl rfl rfl rfl rfl rfl
    go_enter Tryz.func89, Tryz.ntmps89
    go_wp2_with (first
      | (go_at_call 52; refine hcl.mono ?_; rintro e w1 ⟨ao1, cap1, rfl, hown1, hb1⟩
         obtain ⟨hT1, hK1⟩ := turn_log hT0 hb1 log hlog hown1
         obtain ⟨s1, xo1, xc1, ⟨_, _, _, _, _, a5, _⟩, az, _⟩ := (hT0.below hb1).cells
         have hcT := clearT_any B g _ o _ hT1
         clear hcl)
      | (go_at_call 93; refine hcT.mono ?_; rintro e w2 ⟨rfl, hT2, hK2⟩; have haT := ackT_any B g _ o _ hT2; clear hcT)
      | (go_at_call 99; refine haT.mono ?_; rintro e w3 ⟨rfl, hT3, hK3⟩
         obtain ⟨xo3, xc3, b6, b1, _, bz⟩ := key _ hT3
         obtain ⟨hT4, hK4⟩ := fin _ hT3
         clear haT))
    go_end0
    exact ⟨rfl, hT4, (((hK0.trans hK1).trans hK2).trans hK3).trans hK4⟩
/-- Votes is the replica's own ID alone, a row that was just laid. -/
theorem turn_votes1 {B : Nat} {w : World} {g : Nat} {r : Rep} {o : Msgs} (h : Turn B w g r o) :
    Turn B ((w.alloc (.cells #[.int .i64 r.id] 3)).setCell ⟨g, 8, none⟩ (.slice (some ⟨w.heap.size, 0, none⟩) 1 1)) g { r with votes := [r.id] } o ∧ Keep B w ((w.alloc (.cells #[.int .i64 r.id] 3)).setCell ⟨g, 8, none⟩ (.slice (some ⟨w.heap.size, 0, none⟩) 1 1)) := by
  obtain ⟨⟨vl, va, vv, vw, vb, x, h, ho⟩, hB, h1, hl0, hb, ha⟩ := h
  have hb1 : Below w.heap.size w (w.alloc (.cells #[.int .i64 r.id] 3)) := (Below.refl _ w).alloc (Nat.le_refl _) _
  have hown : (w.alloc (.cells #[.int .i64 r.id] 3)).ownsRow w.heap.size 3 1 (.slice (some ⟨w.heap.size, 0, none⟩) 1 1) 1 (inCells [r.id]) := ⟨rfl, .inr ⟨w.heap.size, 1, _, rfl, Nat.le_refl _, heap_new w _, Nat.le_refl _, by unfold maxLen; omega, rfl, rfl⟩⟩
  have h' := h.below hb1
  have ho' := ownO_below ho hb1
  have hk := (Keep.of_below hb1 hB).trans (sets_keep h'.base h'.box (by decide) [(8, .slice (some ⟨w.heap.size, 0, none⟩) 1 1)])
  exact ⟨⟨⟨_, _, _, _, _, _, hold_sets h' (by omega) (by decide) (by decide) [(8, .slice (some ⟨w.heap.size, 0, none⟩) 1 1)] (r' := { r with votes := [r.id] }) (x' := x) ⟨h'.rows.log, h'.rows.best, h'.rows.ack, own_mono hown hB, h'.rows.vor, h'.rows.a1, apart_new h.rows.ack hown, h'.rows.a3, (apart_new h.rows.vor hown).symm⟩ (fun f f' e e' => by subst e e'; exact ⟨rfl, rfl, rfl, rfl, rfl, rfl, rfl, rfl, rfl, rfl, rfl, rfl, rfl, rfl⟩), ownO_stay ho' (sets_box [(8, .slice (some ⟨w.heap.size, 0, none⟩) 1 1)] h'.box).2 (by decide) (by decide)⟩, Nat.le_trans hB hk.low.size, h1, hl0, hb, ha⟩, hk⟩
theorem srcE_nil (B : Nat) (w : World) : SrcE B w none 0 [] := .inl fun i x hx => by simp at hx
set_option maxHeartbeats 1000000 in
theorem changeT_any (B g : Nat) (r : Rep) (o : Msgs) (view : Int) (w : World) (h : Turn B w g r o) (hol : o.length ≤ 50) :
    Calls Tryz.prog 83 #[.pointer (some ⟨g, 0, none⟩), .int .i64 view] w fun e w' => e = .returned (.tuple #[]) ∧ Turn B w' g (changeR r view) (o ++ allM (changeR r view) (msg 4 0 0 0 [])) ∧ Keep B w w' := by
  have hB := h.base
  obtain ⟨s, xo, xc, ⟨k0, k1, k2, k3, k4, k5, k6, k7, k8, k9, k10, k11, k12, k13⟩, z, _⟩ := h.cells
  obtain ⟨hT0, hK0⟩ := turn_sets h [(2, .int .i64 view), (4, .int .i64 1)] { r with view := view, how := 1 } (fun _ _ _ _ _ _ f f' e e' => by subst e e'; exact ⟨rfl, rfl, rfl, rfl, rfl, rfl, rfl, rfl, rfl, rfl, rfl, rfl, rfl, rfl⟩) rfl rfl rfl rfl rfl rfl rfl
  have hcT := clearT_any B g _ o _ hT0
  simp only [sets] at hcT hK0
  clear h hT0 k0 k1 k3 k5 k6 k7 k8 k9 k10 k11 k12 k13
  go_enter Tryz.func83, Tryz.ntmps83
  go_wp2_with (first
    | (go_at_call 93; refine hcT.mono ?_; rintro e w2 ⟨rfl, hT2, hK2⟩
       obtain ⟨s2, xo2, xc2, ⟨b0, _, _, _, _, _, _, _, b8, _⟩, bz, _, _⟩ := hT2.cells
       have b0' : w2.cell? ⟨g, 0, none⟩ = some (.int .i64 r.id) := b0
       clear b0
       obtain ⟨hT3, hK3⟩ := turn_votes1 hT2
       have e8 := alloc_cell (.cells #[.int .i64 r.id] 3) b8
       have ez := ((hT2.below ((Below.refl _ _).alloc (Nat.le_refl _) (.cells #[.int .i64 r.id] 3))).cells).choose_spec.choose_spec.choose_spec.2.1 8
       have hT3' : Turn B ((w2.alloc (.cells #[.int .i64 r.id] 3)).setCell ⟨g, 8, none⟩ (.slice (some ⟨w2.heap.size, 0, none⟩) 1 1)) g (changeR r view) o := hT3
       have hall := sendAllT_any B g (changeR r view) o (msg 4 0 0 0 []) none 0 _ hT3' (srcE_nil _ _) (by simp) hol
       clear hcT hT2 b8)
    | (go_at_call 51; refine hall.mono ?_; rintro e w4 ⟨rfl, hT4, hK4⟩))
  go_end0
  exact ⟨rfl, hT4, ((hK0.trans hK2).trans hK3).trans hK4⟩
/-- What must panics with. -/
def Num.boom (e : Int) : List PanicEntry := [{ v := .iface 35 (.int .i64 e), recovered := false }]
theorem must_yes (e : Int) (w : World) : Calls Tryz.prog 36 #[.bool true, .int .i64 e] w fun r w' => r = .returned (.tuple #[]) ∧ w' = w := by
  go_enter Tryz.func36, Tryz.ntmps36
  go_wp2
  go_end0
  exact ⟨rfl, rfl⟩
theorem must_no (e : Int) (w : World) : Calls Tryz.prog 36 #[.bool false, .int .i64 e] w fun r w' => r = .panicked (boom e) ∧ w' = w := by
  go_enter Tryz.func36, Tryz.ntmps36
  go_wp2
  refine ⟨rfl, ?_⟩
  exact ⟨rfl, rfl⟩
end Go.Proofs.YtajbdffepfjegaaGreat
