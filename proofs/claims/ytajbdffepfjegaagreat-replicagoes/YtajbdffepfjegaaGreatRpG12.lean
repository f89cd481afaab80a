/-
  Joined:
  A replica at work beside the box of a message that it takes: the box stays.
  Contracts: slices.Insert of one element, at numbers: in a row of the call's own.
-/
import Derived.Test.YtajbdffepfjegaaGreatRpG9
import Derived.Test.YtajbdffepfjegaaGreatRpG3
namespace Go.Proofs.YtajbdffepfjegaaGreat
open Go.RowKit Num
set_option linter.unusedVariables false
set_option maxRecDepth 100000

/-- A replica at work in block g, what it has sent, and the box M of a message, which is none of its rows. -/
structure Num.TM (M : Nat × Obj) (B : Nat) (w : World) (g : Nat) (r : Rep) (o : Msgs) : Prop where
  ex : ∃ vl va vv vw vb x, Hold 65 14 x B w g r vl va vv vw vb ∧ OwnO B w x o ∧ x.ownBlock ≠ some M.1
  box : w.heap[M.1]? = some M.2
  ne : M.1 ≠ g
  ty : ∃ cs fr, M.2 = .cells cs 27 fr
  base : B ≤ w.heap.size
  one : OneOf r.id r.n
  ll : r.log.length ≤ 1000
  bl : r.best.length ≤ 1000
  al : (r.acked.length : Int) = r.n
theorem Num.TM.turn {M : Nat × Obj} {B : Nat} {w : World} {g : Nat} {r : Rep} {o : Msgs} (h : TM M B w g r o) : Turn B w g r o := by
  obtain ⟨⟨vl, va, vv, vw, vb, x, h, ho, hx⟩, hM, hne, hty, hB, h1, hl, hb, ha⟩ := h
  exact ⟨⟨vl, va, vv, vw, vb, x, h, ho⟩, hB, h1, hl, hb, ha⟩
theorem msg_stay {k : Nat} {ob : Obj} {w w' : World} (hty : ∃ cs fr, ob = .cells cs 27 fr) (h : w.heap[k]? = some ob) {e : TypeId} (hs : Stay (fun _ => False) e w w') (he : e ≠ 27) : w'.heap[k]? = some ob := by
  obtain ⟨cs, fr, rfl⟩ := hty
  exact (hs.keep k (Array.getElem?_eq_some_iff.1 h).1 id (fun cs' fr' h' => by rw [h] at h'; cases h'; exact he rfl)).trans h
theorem Num.TM.below {M : Nat × Obj} {B : Nat} {w w' : World} {g : Nat} {r : Rep} {o : Msgs} (h : TM M B w g r o) (hb : Below w.heap.size w w') : TM M B w' g r o := by
  obtain ⟨⟨vl, va, vv, vw, vb, x, h, ho, hx⟩, hM, hne, hty, hB, h1, hl, hl2, ha⟩ := h
  exact ⟨⟨vl, va, vv, vw, vb, x, h.below hb, ownO_below ho hb, hx⟩, (hb.block _ (Array.getElem?_eq_some_iff.1 hM).1).trans hM, hne, hty, Nat.le_trans hB hb.size, h1, hl, hl2, ha⟩
theorem Num.TM.drew {M : Nat × Obj} {B : Nat} {w : World} {g : Nat} {r : Rep} {o : Msgs} (h : TM M B w g r o) : TM M B w.drew g r o := h.below (Below.refl _ _).drew
/-- A message is put into a box of its own. -/
theorem tm_new {B : Nat} {w : World} {g : Nat} {r : Rep} {o : Msgs} (h : Turn B w g r o) (cs : Array Value) : TM (w.heap.size, .cells cs 27 (0, 0)) B (w.alloc (.cells cs 27)) g r o := by
  obtain ⟨⟨vl, va, vv, vw, vb, x, h, ho⟩, hB, h1, hl, hl2, ha⟩ := h
  have hb := (Below.refl _ w).alloc (Nat.le_refl _) (.cells cs 27)
  refine ⟨⟨vl, va, vv, vw, vb, x, h.below hb, ownO_below ho hb, fun e => ?_⟩, heap_new w _, Nat.ne_of_gt h.box.lt, ⟨_, _, rfl⟩, Nat.le_trans hB hb.size, h1, hl, hl2, ha⟩
  obtain ⟨css, _, _, hrow, _⟩ := ho
  exact Nat.lt_irrefl _ (hrow.lt _ e).2
theorem clearM_any (M : Nat × Obj) (B g : Nat) (r : Rep) (o : Msgs) (w : World) (h : TM M B w g r o) :
    Calls Tryz.prog 93 #[.pointer (some ⟨g, 0, none⟩)] w fun e w' => e = .returned (.tuple #[]) ∧ TM M B w' g (clearR r) o ∧ Keep B w w' := by
  obtain ⟨⟨vl, va, vv, vw, vb, x, h, ho, hx⟩, hM, hne, hty, hB, h1, hl, hb, ha⟩ := h
  obtain ⟨k0, k1, k2, k3, k4, k5, k6, k7, k8, k9, k10, k11, k12⟩ := h.cells (by omega)
  have z := h.box.unfrozen
  have hh := hold_sets h (by omega) (by decide) (by decide) [(8, .slice none 0 0), (9, .slice none 0 0), (10, .slice none 0 0), (11, .int .i64 (-1)), (12, .int .i64 0)] (r' := clearR r) (vl' := vl) (va' := va) (vv' := .slice none 0 0) (vw' := .slice none 0 0) (vb' := .slice none 0 0) (x' := x)
    ⟨h.rows.log, World.ownsRow_nil _ _ _ _, h.rows.ack, World.ownsRow_nil _ _ _ _, World.ownsRow_nil _ _ _ _, apart_nil _, apart_nil _, apart_nil _, apart_nil _⟩ (fun f f' e e' => by subst e e'; exact ⟨rfl, rfl, rfl, rfl, rfl, rfl, rfl, rfl, rfl, rfl, rfl, rfl, rfl, rfl⟩)
  have hk := sets_keep h.base h.box (by decide) [(8, .slice none 0 0), (9, .slice none 0 0), (10, .slice none 0 0), (11, .int .i64 (-1)), (12, .int .i64 0)]
  have hoo := ownO_stay ho (sets_box [(8, .slice none 0 0), (9, .slice none 0 0), (10, .slice none 0 0), (11, .int .i64 (-1)), (12, .int .i64 0)] h.box).2 (by decide) (by decide)
  have hT : TM M B _ g (clearR r) o := ⟨⟨_, _, _, _, _, _, hh, hoo, hx⟩, msg_stay hty hM (sets_box [(8, .slice none 0 0), (9, .slice none 0 0), (10, .slice none 0 0), (11, .int .i64 (-1)), (12, .int .i64 0)] h.box).2 (by decide), hne, hty, Nat.le_trans hB hk.low.size, h1, hl, Nat.zero_le _, ha⟩
  clear hh hoo h ho
  go_enter Tryz.func93, Tryz.ntmps93
  go_wp2
  go_end0
  exact ⟨rfl, hT, hk⟩
set_option maxHeartbeats 1000000 in
theorem ackM_any (M : Nat × Obj) (B g : Nat) (r : Rep) (o : Msgs) (w : World) (h : TM M B w g r o) :
    Calls Tryz.prog 99 #[.pointer (some ⟨g, 0, none⟩)] w fun e w' => e = .returned (.tuple #[]) ∧ TM M B w' g (freshR r) o ∧ Keep B w w' := by
  have hn := one_bounds h.one
  obtain ⟨⟨vl, va, vv, vw, vb, x, h, ho, hx⟩, hM, hne, hty, hB, h1, hl, hb, ha⟩ := h
  obtain ⟨cs, hc1, hc2, hmk⟩ := made_ints r.n ⟨by omega, by omega⟩
  have hbel := (Below.refl _ w).alloc (Nat.le_refl _) (.cells cs 3)
  have hz := own_zeros w r.n.toNat (by omega) cs hc1 hc2
  have hA := h.below hbel
  have hoA := ownO_below ho hbel
  have hrw : RowsR B (w.alloc (.cells cs 3)) r.log r.best (List.replicate r.n.toNat 0) r.votes r.voters vl (.slice (some ⟨w.heap.size, 0, none⟩) r.n.toNat r.n.toNat) vv vw vb :=
    ⟨hA.rows.log, hA.rows.best, by rw [inCells_rep, List.length_replicate]; exact own_mono hz hB, hA.rows.vot, hA.rows.vor, hA.rows.a1, (apart_new h.rows.vot hz).symm, (apart_new h.rows.vor hz).symm, hA.rows.a4⟩
  have hS := hold_sets hA (by omega) (by decide) (by decide) [(7, .slice (some ⟨w.heap.size, 0, none⟩) r.n.toNat r.n.toNat)] (r' := { r with acked := List.replicate r.n.toNat 0 }) (x' := x) hrw (fun f f' e e' => by subst e e'; exact ⟨rfl, rfl, rfl, rfl, rfl, rfl, rfl, rfl, rfl, rfl, rfl, rfl, rfl, rfl⟩)
  have hoS := ownO_stay hoA (sets_box [(7, .slice (some ⟨w.heap.size, 0, none⟩) r.n.toNat r.n.toNat)] hA.box).2 (by decide) (by decide)
  have hkS := (Keep.of_below hbel hB).trans (sets_keep hA.base hA.box (by decide) [(7, .slice (some ⟨w.heap.size, 0, none⟩) r.n.toNat r.n.toNat)])
  obtain ⟨hF, hsF, hkF⟩ := hold_ack hS (by simp) (by decide) (Nat.le_trans hB hkS.low.size) r.id.toNat (r.log.length : Int)
  have hoF := ownO_stay hoS hsF (by decide) (by decide)
  have hT : TM M B _ g (freshR r) o := ⟨⟨_, _, _, _, _, _, hF, hoF, hx⟩, msg_stay hty (msg_stay hty ((hbel.block _ (Array.getElem?_eq_some_iff.1 hM).1).trans hM) (sets_box [(7, .slice (some ⟨w.heap.size, 0, none⟩) r.n.toNat r.n.toNat)] hA.box).2 (by decide)) hsF (by decide), hne, hty, Nat.le_trans hB (hkS.trans hkF).low.size, h1, hl, hb, by show (((List.replicate r.n.toNat 0).set r.id.toNat (r.log.length : Int)).length : Int) = r.n; rw [List.length_set, List.length_replicate]; omega⟩
  have hK := hkS.trans hkF
  obtain ⟨k0, k1, k2, k3, k4, k5, k6, k7, k8, k9, k10, k11, k12⟩ := h.cells (by omega)
  obtain ⟨s0, s1, s2, s3, s4, s5, s6, s7, s8, s9, s10, s11, s12⟩ := hS.cells (by omega)
  have z7 := hA.box.unfrozen 7
  have a7 := hA.box.cell 7 (by omega)
  have ca := hS.rows.ack.cells (g := w.heap.size) rfl r.id.toNat (.int .i64 0) (by rw [inCells_rep, List.getElem?_replicate, if_pos (by omega)])
  have za := hS.rows.ack
  rw [List.length_replicate] at za
  have za := za.frozenAt r.id.toNat
  rw [Addr.add_lit, Nat.zero_add] at ca
  obtain ⟨lo, lc, rfl, _⟩ := ownE_lies h.rows.log
  have n1 : r.id < ((r.n.toNat : Nat) : Int) := by omega
  have n2 : ¬ r.id < 0 := by omega
  simp only [sets] at s0 s5 s7 ca za hT hK
  clear hF hoF hS hoS hA hoA hrw hz hkS hkF hsF h ho
  go_enter Tryz.func99, Tryz.ntmps99
  go_wp2
  go_region
  go_end0
  exact ⟨rfl, hT.drew, hK.drew⟩
theorem tm_sets {M : Nat × Obj} {B : Nat} {w : World} {g : Nat} {r : Rep} {o : Msgs} (h : TM M B w g r o) (l : List (Nat × Value)) (r' : Rep)
    (e : ∀ (vl va vv vw vb x : Value) (f f' : Nat → Value), f = upds (repF r vl va vv vw vb x) l → f' = repF r' vl va vv vw vb x → f 0 = f' 0 ∧ f 1 = f' 1 ∧ f 2 = f' 2 ∧ f 3 = f' 3 ∧ f 4 = f' 4 ∧ f 5 = f' 5 ∧ f 6 = f' 6 ∧ f 7 = f' 7 ∧ f 8 = f' 8 ∧ f 9 = f' 9 ∧ f 10 = f' 10 ∧ f 11 = f' 11 ∧ f 12 = f' 12 ∧ f 13 = f' 13)
    (e1 : r'.log = r.log) (e2 : r'.best = r.best) (e3 : r'.acked = r.acked) (e4 : r'.votes = r.votes) (e5 : r'.voters = r.voters) (e6 : r'.id = r.id) (e7 : r'.n = r.n) : TM M B (sets w g l) g r' o ∧ Keep B w (sets w g l) := by
  obtain ⟨⟨vl, va, vv, vw, vb, x, h, ho, hx⟩, hM, hne, hty, hB, h1, hl, hb, ha⟩ := h
  have hk := sets_keep h.base h.box (by decide) l
  exact ⟨⟨⟨vl, va, vv, vw, vb, x, hold_sets h (by omega) (by decide) (by decide) l (by rw [e1, e2, e3, e4, e5]; exact h.rows) (e vl va vv vw vb x), ownO_stay ho (sets_box l h.box).2 (by decide) (by decide), hx⟩, msg_stay hty hM (sets_box l h.box).2 (by decide), hne, hty, Nat.le_trans hB hk.low.size, by rw [e6, e7]; exact h1, by rw [e1]; exact hl, by rw [e2]; exact hb, by rw [e3, e7]; exact ha⟩, hk⟩
/-- Another log, the call's own, is put in. -/
theorem tm_log {M : Nat × Obj} {B : Nat} {w : World} {g : Nat} {r : Rep} {o : Msgs} (h : TM M B w g r o) {w1 : World} (hb1 : Below w.heap.size w w1) (log : List Ent) (hl : log.length ≤ 1000) {ao : Option Addr} {cap : Nat} (hown : w1.ownsRow w.heap.size 48 2 (.slice ao log.length cap) log.length (enCells log)) :
    TM M B (w1.setCell ⟨g, 5, none⟩ (.slice ao log.length cap)) g { r with log := log } o ∧ Keep B w (w1.setCell ⟨g, 5, none⟩ (.slice ao log.length cap)) := by
  obtain ⟨⟨vl, va, vv, vw, vb, x, h, ho, hx⟩, hM, hne, hty, hB, h1, hl0, hb, ha⟩ := h
  have h' := h.below hb1
  have ho' := ownO_below ho hb1
  have hk := (Keep.of_below hb1 hB).trans (sets_keep h'.base h'.box (by decide) [(5, .slice ao log.length cap)])
  exact ⟨⟨⟨_, _, _, _, _, _, hold_sets h' (by omega) (by decide) (by decide) [(5, .slice ao log.length cap)] (r' := { r with log := log }) (x' := x) ⟨own_mono hown hB, h'.rows.best, h'.rows.ack, h'.rows.vot, h'.rows.vor, (apart_new h.rows.best hown).symm, h'.rows.a2, h'.rows.a3, h'.rows.a4⟩ (fun f f' e e' => by subst e e'; exact ⟨rfl, rfl, rfl, rfl, rfl, rfl, rfl, rfl, rfl, rfl, rfl, rfl, rfl, rfl⟩), ownO_stay ho' (sets_box [(5, .slice ao log.length cap)] h'.box).2 (by decide) (by decide), hx⟩, msg_stay hty ((hb1.block _ (Array.getElem?_eq_some_iff.1 hM).1).trans hM) (sets_box [(5, .slice ao log.length cap)] h'.box).2 (by decide), hne, hty, Nat.le_trans hB hk.low.size, h1, hl, hb, ha⟩, hk⟩
set_option maxHeartbeats 1000000 in
theorem normalM_any (M : Nat × Obj) (B g : Nat) (r : Rep) (o : Msgs) (log : List Ent) (bo : Option Addr) (c : Nat) (view com : Int) (w : World) (h : TM M B w g r o) (hs : SrcE B w bo c log) (hlog : log.length ≤ 1000) :
    Calls Tryz.prog 89 #[.pointer (some ⟨g, 0, none⟩), .int .i64 view, .slice bo log.length c, .int .i64 com] w fun e w' => e = .returned (.tuple #[]) ∧ TM M B w' g (normalR r log view com) o ∧ Keep B w w' := by
  have hB := h.base
  obtain ⟨s, xo, xc, ⟨k0, k1, k2, k3, k4, k5, k6, k7, k8, k9, k10, k11, k12, k13⟩, z, _⟩ := h.turn.cells
  obtain ⟨hT0, hK0⟩ := tm_sets h [(2, .int .i64 view), (3, .int .i64 view), (4, .int .i64 0)] { r with view := view, normal := view, how := 0 } (fun _ _ _ _ _ _ f f' e e' => by subst e e'; exact ⟨rfl, rfl, rfl, rfl, rfl, rfl, rfl, rfl, rfl, rfl, rfl, rfl, rfl, rfl⟩) rfl rfl rfl rfl rfl rfl rfl
  have hcl := cloneE_any bo log.length c (enCells log) (by omega) _ (liesE_src ((hs.keep hK0).lies hT0.base))
  simp only [sets] at hT0 hK0 hcl
  clear h k0 k1 k5 k6 k7 k8 k9 k10 k11 k12 k13
  have key : ∀ w4, TM M B w4 g (freshR (clearR { r with view := view, normal := view, how := 0, log := log })) o → ∃ xo4 xc4, w4.cell? ⟨g, 6, none⟩ = some (.int .i64 r.commit) ∧ w4.cell? ⟨g, 1, none⟩ = some (.int .i64 r.n) ∧ w4.cell? ⟨g, 13, none⟩ = some (.slice xo4 o.length xc4) ∧ (∀ k, w4.frozen? ⟨g, k, none⟩ = false) := fun w4 h4 => by
    obtain ⟨s, xo, xc, ⟨k0, k1, k2, k3, k4, k5, k6, k7, k8, k9, k10, k11, k12, k13⟩, z, _⟩ := h4.turn.cells
    exact ⟨xo, xc, k6, k1, k13, z⟩
  by_cases hn : r.n = 1
  · have hn2 : (r.n == 1) = true := by simp [hn]
    have fin : ∀ w4, TM M B w4 g (freshR (clearR { r with view := view, normal := view, how := 0, log := log })) o → TM M B ((w4.setCell ⟨g, 6, none⟩ (.int .i64 (min (max r.commit com) (log.length : Int)))).setCell ⟨g, 6, none⟩ (.int .i64 (log.length : Int))) g (normalR r log view com) o ∧ Keep B w4 ((w4.setCell ⟨g, 6, none⟩ (.int .i64 (min (max r.commit com) (log.length : Int)))).setCell ⟨g, 6, none⟩ (.int .i64 (log.length : Int))) := fun w4 h4 =>
      tm_sets h4 [(6, .int .i64 (min (max r.commit com) (log.length : Int))), (6, .int .i64 (log.length : Int))] (normalR r log view com) (fun _ _ _ _ _ _ f f' e e' => by subst e e'; exact ⟨rfl, rfl, rfl, rfl, rfl, rfl, by show Value.int .i64 _ = .int .i64 (comR r log com); unfold comR; rw [if_pos hn], rfl, rfl, rfl, rfl, rfl, rfl, rfl⟩) rfl rfl rfl rfl rfl rfl rfl
    go_enter Tryz.func89, Tryz.ntmps89
    go_wp2_with (first
      | (go_at_call 52; refine hcl.mono ?_; rintro e w1 ⟨ao1, cap1, rfl, hown1, hb1⟩
         obtain ⟨hT1, hK1⟩ := tm_log hT0 hb1 log hlog hown1
         obtain ⟨s1, xo1, xc1, ⟨_, _, _, _, _, a5, _⟩, az, _⟩ := (hT0.below hb1).turn.cells
         have hcT := clearM_any M B g _ o _ hT1
         clear hcl)
      | (go_at_call 93; refine hcT.mono ?_; rintro e w2 ⟨rfl, hT2, hK2⟩; have haT := ackM_any M B g _ o _ hT2; clear hcT)
      | (go_at_call 99; refine haT.mono ?_; rintro e w3 ⟨rfl, hT3, hK3⟩
         obtain ⟨xo3, xc3, b6, b1, _, bz⟩ := key _ hT3
         obtain ⟨hT4, hK4⟩ := fin _ hT3
         clear haT))
    go_end0
    exact ⟨rfl, hT4, (((hK0.trans hK1).trans hK2).trans hK3).trans hK4⟩
  · have hn2 : (r.n == 1) = false := by simp [hn]
    have hn3 : decide (r.n = 1) = false := decide_eq_false hn
    have fin : ∀ w4, TM M B w4 g (freshR (clearR { r with view := view, normal := view, how := 0, log := log })) o → TM M B (w4.setCell ⟨g, 6, none⟩ (.int .i64 (min (max r.commit com) (log.length : Int)))) g (normalR r log view com) o ∧ Keep B w4 (w4.setCell ⟨g, 6, none⟩ (.int .i64 (min (max r.commit com) (log.length : Int)))) := fun w4 h4 =>
      tm_sets h4 [(6, .int .i64 (min (max r.commit com) (log.length : Int)))] (normalR r log view com) (fun _ _ _ _ _ _ f f' e e' => by subst e e'; exact ⟨rfl, rfl, rfl, rfl, rfl, rfl, by show Value.int .i64 _ = .int .i64 (comR r log com); unfold comR; rw [if_neg hn], rfl, rfl, rfl, rfl, rfl, rfl, rfl⟩) rfl rfl rfl rfl rfl rfl rfl
    go_enter Tryz.func89, Tryz.ntmps89
    go_wp2_with (first
      | (go_at_call 52; refine hcl.mono ?_; rintro e w1 ⟨ao1, cap1, rfl, hown1, hb1⟩
         obtain ⟨hT1, hK1⟩ := tm_log hT0 hb1 log hlog hown1
         obtain ⟨s1, xo1, xc1, ⟨_, _, _, _, _, a5, _⟩, az, _⟩ := (hT0.below hb1).turn.cells
         have hcT := clearM_any M B g _ o _ hT1
         clear hcl)
      | (go_at_call 93; refine hcT.mono ?_; rintro e w2 ⟨rfl, hT2, hK2⟩; have haT := ackM_any M B g _ o _ hT2; clear hcT)
      | (go_at_call 99; refine haT.mono ?_; rintro e w3 ⟨rfl, hT3, hK3⟩
         obtain ⟨xo3, xc3, b6, b1, _, bz⟩ := key _ hT3
         obtain ⟨hT4, hK4⟩ := fin _ hT3
         clear haT))
    go_end0
    exact ⟨rfl, hT4, (((hK0.trans hK1).trans hK2).trans hK3).trans hK4⟩
/-- Votes is the replica's own ID alone, a row that was just laid. -/
theorem tm_votes1 {M : Nat × Obj} {B : Nat} {w : World} {g : Nat} {r : Rep} {o : Msgs} (h : TM M B w g r o) :
    TM M B ((w.alloc (.cells #[.int .i64 r.id] 3)).setCell ⟨g, 8, none⟩ (.slice (some ⟨w.heap.size, 0, none⟩) 1 1)) g { r with votes := [r.id] } o ∧ Keep B w ((w.alloc (.cells #[.int .i64 r.id] 3)).setCell ⟨g, 8, none⟩ (.slice (some ⟨w.heap.size, 0, none⟩) 1 1)) := by
  obtain ⟨⟨vl, va, vv, vw, vb, x, h, ho, hx⟩, hM, hne, hty, hB, h1, hl0, hb, ha⟩ := h
  have hb1 : Below w.heap.size w (w.alloc (.cells #[.int .i64 r.id] 3)) := (Below.refl _ w).alloc (Nat.le_refl _) _
  have hown : (w.alloc (.cells #[.int .i64 r.id] 3)).ownsRow w.heap.size 3 1 (.slice (some ⟨w.heap.size, 0, none⟩) 1 1) 1 (inCells [r.id]) := ⟨rfl, .inr ⟨w.heap.size, 1, _, rfl, Nat.le_refl _, heap_new w _, Nat.le_refl _, by unfold maxLen; omega, rfl, rfl⟩⟩
  have h' := h.below hb1
  have ho' := ownO_below ho hb1
  have hk := (Keep.of_below hb1 hB).trans (sets_keep h'.base h'.box (by decide) [(8, .slice (some ⟨w.heap.size, 0, none⟩) 1 1)])
  exact ⟨⟨⟨_, _, _, _, _, _, hold_sets h' (by omega) (by decide) (by decide) [(8, .slice (some ⟨w.heap.size, 0, none⟩) 1 1)] (r' := { r with votes := [r.id] }) (x' := x) ⟨h'.rows.log, h'.rows.best, h'.rows.ack, own_mono hown hB, h'.rows.vor, h'.rows.a1, apart_new h.rows.ack hown, h'.rows.a3, (apart_new h.rows.vor hown).symm⟩ (fun f f' e e' => by subst e e'; exact ⟨rfl, rfl, rfl, rfl, rfl, rfl, rfl, rfl, rfl, rfl, rfl, rfl, rfl, rfl⟩), ownO_stay ho' (sets_box [(8, .slice (some ⟨w.heap.size, 0, none⟩) 1 1)] h'.box).2 (by decide) (by decide), hx⟩, msg_stay hty ((hb1.block _ (Array.getElem?_eq_some_iff.1 hM).1).trans hM) (sets_box [(8, .slice (some ⟨w.heap.size, 0, none⟩) 1 1)] h'.box).2 (by decide), hne, hty, Nat.le_trans hB hk.low.size, h1, hl0, hb, ha⟩, hk⟩
set_option maxHeartbeats 1000000 in
theorem sendAllM_any (M : Nat × Obj) (B g : Nat) (r : Rep) (o : Msgs) (m : Msg) (bo : Option Addr) (c : Nat) (w : World) (h : TM M B w g r o) (hm : SrcE B w bo c m.log) (hml : m.log.length ≤ 1000) (hol : o.length ≤ 50) :
    Calls Tryz.prog 51 #[.pointer (some ⟨g, 0, none⟩), msV m bo c] w fun e w' => e = .returned (.tuple #[]) ∧ TM M B w' g r (o ++ allM r m) ∧ Keep B w w' := by
  have hn := one_bounds h.one
  have hbox : Below w.heap.size w (w.alloc (.cells #[.int .i64 m.a0, .int .i64 m.a1, .int .i64 m.a2, .int .i64 m.a3, .int .i64 m.a4, .int .i64 m.a5, .int .i64 m.a6, .slice bo m.log.length c] 27)) := (Below.refl _ w).alloc (Nat.le_refl _) _
  have h0 := h.below hbox
  have hB := h.base
  have bx := heap_new w (.cells #[.int .i64 m.a0, .int .i64 m.a1, .int .i64 m.a2, .int .i64 m.a3, .int .i64 m.a4, .int .i64 m.a5, .int .i64 m.a6, .slice bo m.log.length c] 27)
  have k1 : (w.alloc (.cells #[.int .i64 m.a0, .int .i64 m.a1, .int .i64 m.a2, .int .i64 m.a3, .int .i64 m.a4, .int .i64 m.a5, .int .i64 m.a6, .slice bo m.log.length c] 27)).cell? ⟨g, 1, none⟩ = some (.int .i64 r.n) := by
    obtain ⟨⟨vl, va, vv, vw, vb, x, h, ho, _⟩, _⟩ := h0
    exact h.box.cell 1 (by omega)
  have hk0 := Keep.of_below hbox hB
  have hm0 := hm.keep hk0
  have hgw : g ≠ w.heap.size := by
    obtain ⟨⟨vl, va, vv, vw, vb, x, h, ho, _⟩, _⟩ := h
    exact Nat.ne_of_lt h.box.lt
  have h1 := h.one
  have hl := h.ll
  have hb := h.bl
  have ha := h.al
  have hne := h.ne
  have hty := h.ty
  have hMb := h.box
  have hMlt := (Array.getElem?_eq_some_iff.1 hMb).1
  have hstart : Hid (∃ x, ((∃ vl va vv vw vb, Hold 65 14 x B (w.alloc (.cells #[.int .i64 m.a0, .int .i64 m.a1, .int .i64 m.a2, .int .i64 m.a3, .int .i64 m.a4, .int .i64 m.a5, .int .i64 m.a6, .slice bo m.log.length c] 27)) g r vl va vv vw vb) ∧ OwnO B (w.alloc (.cells #[.int .i64 m.a0, .int .i64 m.a1, .int .i64 m.a2, .int .i64 m.a3, .int .i64 m.a4, .int .i64 m.a5, .int .i64 m.a6, .slice bo m.log.length c] 27)) x o ∧ x.ownBlock ≠ some w.heap.size ∧ x.ownBlock ≠ some M.1) ∧ SrcE B (w.alloc (.cells #[.int .i64 m.a0, .int .i64 m.a1, .int .i64 m.a2, .int .i64 m.a3, .int .i64 m.a4, .int .i64 m.a5, .int .i64 m.a6, .slice bo m.log.length c] 27)) bo c m.log ∧ Keep B w (w.alloc (.cells #[.int .i64 m.a0, .int .i64 m.a1, .int .i64 m.a2, .int .i64 m.a3, .int .i64 m.a4, .int .i64 m.a5, .int .i64 m.a6, .slice bo m.log.length c] 27))) := by
    obtain ⟨⟨vl, va, vv, vw, vb, x, h, ho, hx⟩, _⟩ := h
    refine ⟨x, ⟨⟨vl, va, vv, vw, vb, h.below hbox⟩, ownO_below ho hbox, fun e => ?_, hx⟩, hm0, hk0⟩
    obtain ⟨css, _, _, hrow, _⟩ := ho
    exact Nat.lt_irrefl _ (hrow.lt _ e).2
  clear h hm h0 hm0 hk0
  obtain ⟨N, hN⟩ := Int.eq_ofNat_of_zero_le (show 0 ≤ r.n by omega)
  rw [hN] at k1
  go_enter Tryz.func51, Tryz.ntmps51
  go_wp2
  go_loopw [10, 4] (fun i _ wr => ∃ (k : Nat) (q : Msgs), k ≤ N ∧ i = .int .i64 (k : Int) ∧ Hid (q ++ restM r m k = o ++ allM r m ∧ q.length ≤ 50 + k) ∧ Hid (∃ x, ((∃ vl va vv vw vb, Hold 65 14 x B wr g r vl va vv vw vb) ∧ OwnO B wr x q ∧ x.ownBlock ≠ some w.heap.size ∧ x.ownBlock ≠ some M.1) ∧ SrcE B wr bo c m.log ∧ Keep B w wr) ∧ Hid (wr.heap[w.heap.size]? = some (.cells #[.int .i64 m.a0, .int .i64 m.a1, .int .i64 m.a2, .int .i64 m.a3, .int .i64 m.a4, .int .i64 m.a5, .int .i64 m.a6, .slice bo m.log.length c] 27 (0, 0)) ∧ wr.heap[M.1]? = some M.2)) (fun i _ _ => N - (intOf i).toNat)
  case atStart => exact ⟨0, o, by omega, rfl, ⟨rfl, hol⟩, hstart, ⟨bx, (hbox.block _ hMlt).trans hMb⟩⟩
  case round =>
    obtain ⟨k, q, hk, rfl, HQ, HT, HB⟩ := hrel
    have hwb : w.heap.size < wr.heap.size := (Array.getElem?_eq_some_iff.1 HB.out.1).1
    obtain ⟨x, ⟨hh, hoo, hx, hxM⟩, hsrc, hkk⟩ := HT.out
    have e0 : wr.cell? ⟨g, 0, none⟩ = some (.int .i64 r.id) := by
      obtain ⟨vl, va, vv, vw, vb, h⟩ := hh
      exact h.box.cell 0 (by omega)
    have c0 := box_cell HB.out.1 0 _ rfl
    have c1 := box_cell HB.out.1 1 _ rfl
    have c2 := box_cell HB.out.1 2 _ rfl
    have c3 := box_cell HB.out.1 3 _ rfl
    have c4 := box_cell HB.out.1 4 _ rfl
    have c5 := box_cell HB.out.1 5 _ rfl
    have c6 := box_cell HB.out.1 6 _ rfl
    have c7 := box_cell HB.out.1 7 _ rfl
    by_cases hkN : k < N
    · have i1 : (k : Int) < (N : Int) := by omega
      by_cases hki : (k : Int) = r.id
      · have HQ2 : Hid (q ++ restM r m (k + 1) = o ++ allM r m ∧ q.length ≤ 50 + (k + 1)) := ⟨by rw [← restM_self r m k (by omega) hki]; exact HQ.out.1, by have := HQ.out.2; omega⟩
        rw [← hki] at e0
        clear hki
        go_wp2
        go_roundw
        case rel => exact ⟨k + 1, q, by omega, by go_num, HQ2, HT, HB⟩
        case measure => simp [intOf]; omega
      · have HQ2 : Hid ((q ++ [toM r m (k : Int)]) ++ restM r m (k + 1) = o ++ allM r m ∧ (q ++ [toM r m (k : Int)]).length ≤ 50 + (k + 1)) := ⟨by rw [List.append_assoc, List.singleton_append, ← restM_next r m k (by omega) hki]; exact HQ.out.1, by have := HQ.out.2; rw [List.length_append]; simp; omega⟩
        have hs := sendX_any B g r q m bo c (k : Int) wr x hh hoo (Nat.le_trans hB hkk.low.size) hsrc hml (by have := HQ.out.2; omega)
        have hki2 : ((k : Int) != r.id) = true := by simp [hki]
        have hki3 : decide ((k : Int) = r.id) = false := decide_eq_false hki
        clear hh hoo
        go_wp2_with (first
          | (go_at_call 76; refine hs.mono ?_; rintro e w2 ⟨rfl, x2, hS2⟩))
        go_roundw
        case rel =>
          refine ⟨k + 1, q ++ [toM r m (k : Int)], by omega, by go_num, HQ2, ⟨x2, ⟨hS2.ex, hS2.out, fun e => ?_, fun e => ?_⟩, hsrc.keep hS2.keep, hkk.trans hS2.keep⟩, ⟨(hS2.off _ hwb hgw.symm hx).trans HB.out.1, (hS2.off _ (Array.getElem?_eq_some_iff.1 HB.out.2).1 hne hxM).trans HB.out.2⟩⟩
          · rcases hS2.near with e2 | ⟨q2, e2, hq2⟩
            · exact hx (e2.symm.trans e)
            · rw [e2] at e
              cases e
              omega
          · rcases hS2.near with e2 | ⟨q2, e2, hq2⟩
            · exact hxM (e2.symm.trans e)
            · rw [e2] at e
              cases e
              have := (Array.getElem?_eq_some_iff.1 HB.out.2).1
              omega
        case measure => simp [intOf]; omega
    · obtain rfl : k = N := by omega
      have hq : q = o ++ allM r m := by
        have := HQ.out.1
        rw [restM_done r m k (by omega), List.append_nil] at this
        exact this
      have i1 : ¬ (k : Int) < (k : Int) := by omega
      go_wp2
      go_end0
      refine ⟨rfl, ?_, hkk⟩
      rw [← hq]
      obtain ⟨vl, va, vv, vw, vb, h⟩ := hh
      exact ⟨⟨_, _, _, _, _, _, h, hoo, hxM⟩, HB.out.2, hne, hty, Nat.le_trans hB hkk.low.size, h1, hl, hb, ha⟩
set_option maxHeartbeats 1000000 in
theorem changeM_any (M : Nat × Obj) (B g : Nat) (r : Rep) (o : Msgs) (view : Int) (w : World) (h : TM M B w g r o) (hol : o.length ≤ 50) :
    Calls Tryz.prog 83 #[.pointer (some ⟨g, 0, none⟩), .int .i64 view] w fun e w' => e = .returned (.tuple #[]) ∧ TM M B w' g (changeR r view) (o ++ allM (changeR r view) (msg 4 0 0 0 [])) ∧ Keep B w w' := by
  have hB := h.base
  obtain ⟨s, xo, xc, ⟨k0, k1, k2, k3, k4, k5, k6, k7, k8, k9, k10, k11, k12, k13⟩, z, _⟩ := h.turn.cells
  obtain ⟨hT0, hK0⟩ := tm_sets h [(2, .int .i64 view), (4, .int .i64 1)] { r with view := view, how := 1 } (fun _ _ _ _ _ _ f f' e e' => by subst e e'; exact ⟨rfl, rfl, rfl, rfl, rfl, rfl, rfl, rfl, rfl, rfl, rfl, rfl, rfl, rfl⟩) rfl rfl rfl rfl rfl rfl rfl
  have hcT := clearM_any M B g _ o _ hT0
  simp only [sets] at hcT hK0
  clear h hT0 k0 k1 k3 k5 k6 k7 k8 k9 k10 k11 k12 k13
  go_enter Tryz.func83, Tryz.ntmps83
  go_wp2_with (first
    | (go_at_call 93; refine hcT.mono ?_; rintro e w2 ⟨rfl, hT2, hK2⟩
       obtain ⟨s2, xo2, xc2, ⟨b0, _, _, _, _, _, _, _, b8, _⟩, bz, _, _⟩ := hT2.turn.cells
       have b0' : w2.cell? ⟨g, 0, none⟩ = some (.int .i64 r.id) := b0
       clear b0
       obtain ⟨hT3, hK3⟩ := tm_votes1 hT2
       have e8 := alloc_cell (.cells #[.int .i64 r.id] 3) b8
       have ez := ((hT2.below ((Below.refl _ _).alloc (Nat.le_refl _) (.cells #[.int .i64 r.id] 3))).turn.cells).choose_spec.choose_spec.choose_spec.2.1 8
       have hT3' : TM M B ((w2.alloc (.cells #[.int .i64 r.id] 3)).setCell ⟨g, 8, none⟩ (.slice (some ⟨w2.heap.size, 0, none⟩) 1 1)) g (changeR r view) o := hT3
       have hall := sendAllM_any M B g (changeR r view) o (msg 4 0 0 0 []) none 0 _ hT3' (srcE_nil _ _) (by simp) hol
       clear hcT hT2 b8)
    | (go_at_call 51; refine hall.mono ?_; rintro e w4 ⟨rfl, hT4, hK4⟩))
  go_end0
  exact ⟨rfl, hT4, ((hK0.trans hK2).trans hK3).trans hK4⟩
theorem sendM_any (M : Nat × Obj) (B g : Nat) (r : Rep) (o : Msgs) (m : Msg) (bo : Option Addr) (c : Nat) (to : Int) (w : World) (h : TM M B w g r o) (hm : SrcE B w bo c m.log) (hml : m.log.length ≤ 1000) (hol : o.length ≤ 100) :
    Calls Tryz.prog 76 #[.pointer (some ⟨g, 0, none⟩), .int .i64 to, msV m bo c] w fun e w' => e = .returned (.tuple #[]) ∧ TM M B w' g r (o ++ [toM r m to]) ∧ Keep B w w' := by
  obtain ⟨⟨vl, va, vv, vw, vb, x, h, ho, hx⟩, hM, hne, hty, hB, h1, hl, hb, ha⟩ := h
  refine (sendX_any B g r o m bo c to w x ⟨vl, va, vv, vw, vb, h⟩ ho hB hm hml hol).mono ?_
  rintro e w' ⟨rfl, x', ⟨vl', va', vv', vw', vb', h'⟩, ho', hk, hnr, hoff⟩
  have hMlt := (Array.getElem?_eq_some_iff.1 hM).1
  refine ⟨rfl, ⟨⟨vl', va', vv', vw', vb', x', h', ho', fun e => ?_⟩, (hoff _ hMlt hne hx).trans hM, hne, hty, Nat.le_trans hB hk.low.size, h1, hl, hb, ha⟩, hk⟩
  rcases hnr with e2 | ⟨q2, e2, hq2⟩
  · exact hx (e2.symm.trans e)
  · rw [e2] at e
    cases e
    omega
end Go.Proofs.YtajbdffepfjegaaGreat
namespace Go.Proofs.YtajbdffepfjegaaGreat
open Go.RowKit Num
set_option linter.unusedVariables false
set_option maxRecDepth 100000

theorem Tryz.size_in : (Tryz.prog.info? 3).map (·.size) = some 1 := by kernel_rfl
/-- What an insertion leaves. -/
abbrev Num.InsSays_in (B g n C : Nat) (w : World) (q : List Value) (e : Ending) (w' : World) : Prop := ∃ ao cap, e = .returned (.slice ao (n + 1) cap) ∧ w'.ownsRow B 3 1 (.slice ao (n + 1) cap) (n + 1) q ∧ w.grownBy w' (some g) ∧ Near w (.slice (some ⟨g, 0, none⟩) n C) (.slice ao (n + 1) cap)
theorem copies_in {base g C n i vb : Nat} {A B Y : List Value} (hAl : A.length = i * 1) (hBl : B.length = (n - i) * 1) (hYl : Y.length = 1) (hB1 : ∀ v ∈ B, v.oneCell' = true) (hY1 : ∀ v ∈ Y, v.oneCell' = true) (hi : i < n) (hC : n + 1 ≤ C) {w : World} (hne : vb ≠ g)
    (hown : w.ownsRow base 3 1 (.slice (some ⟨g, 0, none⟩) n C) n (A ++ B)) (hv : w.heap[vb]? = some (.cells Y.toArray 3 (0, 0))) :
    ∃ cur1 cur2 : Array Value, (∀ W : World, W.heap = w.heap → ∀ ty dc sc, (Builtin.copy_ #[23, 23] ty #[.slice (some ⟨g, (i + 1), none⟩) (n - i) dc, .slice (some ⟨g, i, none⟩) (n + 1 - i) sc]).run Tryz.prog W = .ok (goInt (Nat.min (n + 1 - i) (n - i))) (W.setRow g cur1)) ∧
      (∀ W : World, W.heap = (w.setRow g cur1).heap → ∀ ty dc, (Builtin.copy_ #[23, 23] ty #[.slice (some ⟨g, i, none⟩) (n + 1 - i) dc, .slice (some ⟨vb, 0, none⟩) 1 1]).run Tryz.prog W = .ok (goInt (Nat.min 1 (n + 1 - i))) (W.setRow g cur2)) ∧
      (∀ W : World, W.heap = (w.setRow g cur1).heap → (W.setRow g cur2).ownsRow base 3 1 (.slice (some ⟨g, 0, none⟩) (n + 1) C) (n + 1) (A ++ Y ++ B)) := by
  obtain ⟨cur, Z, hg, hb, hnc, hCm, hs, e⟩ := row_open hown
  have hcl : cur.toList.length = C * 1 := by rw [Array.length_toList, hs]
  have hZ : Z.length = (C - n) * 1 := by
    have := hcl
    rw [e, List.length_append, List.length_append, hAl, hBl] at this
    omega
  obtain ⟨cur1, hc1⟩ : ∃ cur1 : Array Value, (cur.toList.take ((i + 1) * 1) ++ B ++ cur.toList.drop ((i + 1) * 1 + B.length)).toArray = cur1 := ⟨_, rfl⟩
  have hc1l : cur1.toList = cur.toList.take ((i + 1) * 1) ++ B ++ cur.toList.drop ((i + 1) * 1 + B.length) := by rw [← hc1]
  have hc1s : cur1.size = C * 1 := by
    rw [← Array.length_toList, hc1l, List.length_append, List.length_append, List.length_take, List.length_drop, hcl]
    omega
  obtain ⟨cur2, hc2⟩ : ∃ cur2 : Array Value, (cur1.toList.take (i * 1) ++ Y ++ cur1.toList.drop (i * 1 + Y.length)).toArray = cur2 := ⟨_, rfl⟩
  have hc2l : cur2.toList = A ++ Y ++ B ++ Z.drop Y.length := by
    rw [← hc2, List.toList_toArray, hc1l, e]
    have h := shift_row A B Y Z (by omega)
    simp only [hAl, hYl] at h
    rw [hYl, show (i + 1) * 1 = i * 1 + 1 by omega]
    exact h
  have hc2s : cur2.size = C * 1 := by
    rw [← Array.length_toList, hc2l]
    simp only [List.length_append, List.length_drop]
    omega
  refine ⟨cur1, cur2, fun W hW ty dc sc => ?_, fun W hW ty dc => ?_, fun W hW => ?_⟩
  · have hgW : W.heap[g]? = some (.cells cur 3 (0, 0)) := by rw [hW]; exact hg
    have h := run_copy_sized W 23 23 ty 3 1 g ((i + 1)) (n - i) dc ⟨g, i, none⟩ (n + 1 - i) sc cur 3 B Tryz.underlying23 Tryz.size_in hgW
      (by rw [hBl]; show _ = min (n + 1 - i) (n - i) * 1; rw [Nat.min_eq_right (by omega)]) (fun j v hj => by
        rw [Addr.add_lit, cell_of_heap hgW, e, List.append_assoc, List.getElem?_append_right (by omega), show i + j - A.length = j by omega, List.getElem?_append_left (List.getElem?_eq_some_iff.1 hj).1]
        exact hj) (by rw [hBl, hs]; omega) hB1
    rw [Nat.mul_one] at hc1; rw [hc1] at h
    exact h
  · have hg1 : W.heap[g]? = some (.cells cur1 3 (0, 0)) := by rw [hW]; exact setRow_heap w g cur cur1 _ _ hg
    have hv1 : W.heap[vb]? = w.heap[vb]? := by rw [hW]; exact setRow_other w g vb cur1 hne
    have h := run_copy_sized W 23 23 ty 3 1 g (i) (n + 1 - i) dc ⟨vb, 0, none⟩ 1 1 cur1 3 Y Tryz.underlying23 Tryz.size_in hg1
      (by rw [hYl]; show _ = min 1 (n + 1 - i) * 1; rw [Nat.min_eq_left (by omega)]) (fun j v hj => by
        rw [Addr.add_lit, cell_of_heap (hv1.trans hv), Nat.zero_add]
        exact hj) (by rw [hYl, hc1s]; omega) hY1
    rw [Nat.mul_one] at hc2; rw [hc2] at h
    exact h
  · have hg1 : W.heap[g]? = some (.cells cur1 3 (0, 0)) := by rw [hW]; exact setRow_heap w g cur cur1 _ _ hg
    exact row_shut (Z := Z.drop Y.length) (by simp only [List.length_append]; omega) (setRow_heap W g cur1 cur2 _ _ hg1) hb hCm hC hc2s hc2l
theorem apart_in {w : World} {g vb o lb cb : Nat} {cur Y : Array Value} (hne : vb ≠ g) (hg : w.heap[g]? = some (.cells cur 3 (0, 0))) (hs : cur.size ≠ 0) (hv : w.heap[vb]? = some (.cells Y 3 (0, 0))) :
    (callFunc 106 #[.slice (some ⟨vb, 0, none⟩) 1 1, .slice (some ⟨g, o, none⟩) lb cb]).run Tryz.prog w = .ok (.value (.bool false)) w := by
  rw [run_callFunc_extern Tryz.func106 (by kernel_rfl) (by kernel_rfl) (by kernel_rfl) (e := Extern.SlicesOverlaps.overlaps #[23, 23] #[4]) (by kernel_rfl),
    Lib.run_overlaps_apart w 23 4 3 Tryz.underlying23 1 (fun w => by kernel_rfl) ⟨vb, 0, none⟩ ⟨g, o, none⟩ 1 1 lb cb hne 3 3 Y.size cur.size
      (by simp [World.shape?, hv]) (by simp [World.shape?, hg]) hs (by simp [World.frozen?, hv]) (by simp [World.frozen?, hv])]
  rfl
set_option maxRecDepth 100000 in
set_option maxHeartbeats 2000000 in
theorem insShift_in (base g C n i vb : Nat) (A B Y : List Value) (hAl : A.length = i * 1) (hBl : B.length = (n - i) * 1) (hYl : Y.length = 1) (hB1 : ∀ v ∈ B, v.oneCell' = true) (hY1 : ∀ v ∈ Y, v.oneCell' = true) (hi : i < n) (hC : n + 1 ≤ C) (hn : n ≤ 10000) (w : World) (hne : vb ≠ g)
    (hown : w.ownsRow base 3 1 (.slice (some ⟨g, 0, none⟩) n C) n (A ++ B)) (hv : w.heap[vb]? = some (.cells Y.toArray 3 (0, 0))) :
    Calls Tryz.prog 98 #[.slice (some ⟨g, 0, none⟩) n C, .int .i64 (i : Int), .slice (some ⟨vb, 0, none⟩) 1 1] w (InsSays_in base g n C w (A ++ Y ++ B)) := by
  obtain ⟨cur1, cur2, hcp1, hcp2, hfin⟩ := copies_in hAl hBl hYl hB1 hY1 hi hC hne hown hv
  have hov : ∀ lb cb, (callFunc 106 #[.slice (some ⟨vb, 0, none⟩) 1 1, .slice (some ⟨g, (i + 1), none⟩) lb cb]).run Tryz.prog w = .ok (.value (.bool false)) w := fun lb cb => by
    obtain ⟨cur, Z, hg, _, _, _, hs, _⟩ := row_open hown
    exact apart_in hne hg (by omega) hv
  have hCm : C ≤ maxLen := by
    obtain ⟨cur, Z, _, _, _, h, _⟩ := row_open hown
    exact h
  unfold maxLen at hCm
  have hz2 : ¬ ((i : Int) = (n : Int)) := by omega
  have hb4 : ¬ (C = i) := by omega
  have hb5 : ¬ (C = i + 1) := by omega
  have hin : i ≤ n := by omega
  have hini : (i : Int) ≤ (n : Int) := by omega
  have hN : ¬ (C : Int) < (n : Int) + 1 := by omega
  have hN2 : (n : Int) + 1 ≤ (C : Int) := by omega
  have hi1 : (i : Int) + 1 ≤ (n : Int) + 1 := by omega
  have hp0 : (0 : Int) ≤ (i : Int) + 1 := by omega
  have hin1 : (i : Int) ≤ (n : Int) + 1 := by omega
  have htn : ((i : Int) + 1).toNat = i + 1 := by omega
  have hw1 : IntKind.i64.wrap ((i : Int) + 1) = (i : Int) + 1 := by rw [IntKind.wrap_i64]; omega
  have hcp1' := hcp1 w.drew rfl
  clear hown hv
  go_enter Tryz.func98, Tryz.ntmps98
  go_wp2_with (simp only [hov])
  go_region_law (refine step_copy_runI rfl _ _ 23 23 rfl _ _ (by simp [Act.eval, Act.put]) (by simp [Act.eval, Act.put]) (hcp1' _ _ _) ?_)
  have hcp3 := hcp2 (w.drew.setRow g cur1) rfl
  go_wp2
  go_ret
  exact ⟨_, _, rfl, hfin _ rfl, (grown_drew (grown_setRow (w := w.drew) cur1)).trans (grown_setRow cur2), .inl rfl⟩
set_option maxRecDepth 100000 in
set_option maxHeartbeats 2000000 in
theorem insEnd_in (base g C n vb : Nat) (A Y : List Value) (hYl : Y.length = 1) (hY1 : ∀ v ∈ Y, v.oneCell' = true) (hn : n ≤ 10000) (w : World)
    (hown : w.ownsRow base 3 1 (.slice (some ⟨g, 0, none⟩) n C) n A) (hv : w.heap[vb]? = some (.cells Y.toArray 3 (0, 0))) :
    Calls Tryz.prog 98 #[.slice (some ⟨g, 0, none⟩) n C, .int .i64 (n : Int), .slice (some ⟨vb, 0, none⟩) 1 1] w (InsSays_in base g n C w (A ++ Y)) := by
  obtain ⟨i0, hi, hz0, hz1, hz2⟩ := info_parts Tryz.infoInt
  have hnc : n ≤ C := by
    obtain ⟨cur, Z, _, _, h, _⟩ := row_open hown
    exact h
  have hsrc : ∀ j u, Y[j]? = some u → w.cell? ((⟨vb, 0, none⟩ : Addr).add j) = some u := by
    intro j u hj
    rw [Addr.add_lit, cell_of_heap hv, Nat.zero_add]
    exact hj
  have hbase : base ≤ w.heap.size := by
    obtain ⟨cur, Z, hg, hb, _⟩ := row_open hown
    exact Nat.le_of_lt (Nat.lt_of_le_of_lt hb (Array.getElem?_eq_some_iff.1 hg).1)
  by_cases hcn : C = n
  all_goals
    go_enter Tryz.func98, Tryz.ntmps98
    go_wp2_with (first
      | (at_builtin; refine wpList_append_own_at _ rfl _ _ 23 rfl base 3 i0 _ 1 8 Tryz.underlying23 hi hz0 hz1 hz2 rfl (by decide) (.slice (some ⟨g, 0, none⟩) n C) n _ rfl hown ⟨vb, 0, none⟩ 1 1 Y rfl (by rw [hYl]) hsrc hY1 (by unfold maxLen; omega) (by omega) hbase ?_; intro v3 w3 hown3 hgrow3 _ hat3
         obtain ⟨ao3, m3, cap3, rfl⟩ := own_shape hown3
         obtain rfl : m3 = n + 1 := by
           rcases hown3.2 with ⟨hv3, h0⟩ | ⟨g3, c3, cur3, hv3, _⟩
           · cases hv3; omega
           · cases hv3; rfl))
    go_ret
    refine ⟨_, _, rfl, hown3, hgrow3, ?_⟩
    rcases hat3 with h | h
    · exact .inl h
    · exact .inr ⟨_, h, Nat.le_refl _⟩
set_option maxRecDepth 100000 in
set_option maxHeartbeats 2000000 in
theorem insGrow_in (base g n i vb : Nat) (A B Y : List Value) (hAl : A.length = i * 1) (hBl : B.length = (n - i) * 1) (hYl : Y.length = 1) (hA1 : ∀ v ∈ A, v.oneCell' = true) (hB1 : ∀ v ∈ B, v.oneCell' = true) (hY1 : ∀ v ∈ Y, v.oneCell' = true) (hi : i < n) (hn : n ≤ 10000) (w : World)
    (hown : w.ownsRow base 3 1 (.slice (some ⟨g, 0, none⟩) n n) n (A ++ B)) (hv : w.heap[vb]? = some (.cells Y.toArray 3 (0, 0))) :
    Calls Tryz.prog 98 #[.slice (some ⟨g, 0, none⟩) n n, .int .i64 (i : Int), .slice (some ⟨vb, 0, none⟩) 1 1] w (InsSays_in base g n n w (A ++ Y ++ B)) := by
  obtain ⟨j0, hi0, hz0, hz1, hz2⟩ := info_parts Tryz.infoInt
  obtain ⟨cur, Z, hg, hb, hnc, hCm, hs, e⟩ := row_open hown
  have hZ0 : Z = [] := by
    have h1 : cur.toList.length = n * 1 := by rw [Array.length_toList, hs]
    rw [e, List.length_append, List.length_append, hAl, hBl] at h1
    exact List.eq_nil_of_length_eq_zero (by omega)
  subst hZ0
  rw [List.append_nil] at e
  have hgl : g < w.heap.size := (Array.getElem?_eq_some_iff.1 hg).1
  have hvl : vb < w.heap.size := (Array.getElem?_eq_some_iff.1 hv).1
  have hkk : (n : Int) + 1 - (i : Int) = ((n + 1 - i : Nat) : Int) := by omega
  have hik : i + (n + 1 - i) = n + 1 := by omega
  have hold : (Builtin.firstCells j0.size i (.slice (some ⟨g, 0, none⟩) i n)).run Tryz.prog w.drew = .ok A.toArray w.drew := by
    rw [hz1]
    exact run_firstCells_some w.drew 1 i ⟨g, 0, none⟩ i n A hAl (fun j v hj => by
      rw [Addr.add_lit, Nat.zero_add, cell_of_heap (w := w.drew) hg, e, List.getElem?_append_left (List.getElem?_eq_some_iff.1 hj).1]
      exact hj)
  have hrz : ∀ ty, (Builtin.append_ #[23, 3] ty #[.slice (some ⟨g, 0, none⟩) i n, .int .i64 ((n : Int) + 1 - (i : Int))]).run Tryz.prog w =
      .ok (.slice (some ⟨w.heap.size, 0, none⟩) (n + 1) (grownCap w (n + 1) n 3)) (w.drew.alloc (.cells (A.toArray ++ Builtin.zeroCells (Value.int .i64 0).cells (n + 1 - i) ++ Builtin.zeroCells (Value.int .i64 0).cells (grownCap w (n + 1) n 3 - (n + 1))) 3)) := fun ty => by
    have h := Lib.run_append_grow_zeros w 23 3 ty 3 j0 _ .i64 .i64 Tryz.underlying23 Tryz.underlying3 hi0 hz0 (some ⟨g, 0, none⟩) i n A hold (n + 1 - i) (by omega) (by omega) (by omega) (by omega) (by rw [hz2]; omega) (by rw [hz2, hik]; exact growslice_fits (by omega) (by omega))
    rw [hik] at h
    rw [hkk]
    exact h
  obtain ⟨G, hG⟩ : ∃ G, G = grownCap w (n + 1) n 3 := ⟨_, rfl⟩
  have hGn : n + 1 ≤ G := by rw [hG]; exact grownCap_ge w _ _ _
  have hGm : G ≤ maxLen := by rw [hG]; exact grownCap_le_maxLen w (n + 1) n 3 (by unfold maxLen; omega)
  obtain ⟨ZZ, hZZ⟩ : ∃ ZZ : List Value, ZZ = (Builtin.zeroCells (Value.int .i64 0).cells (n + 1 - i)).toList ++ (Builtin.zeroCells (Value.int .i64 0).cells (G - (n + 1))).toList := ⟨_, rfl⟩
  have hZl : ZZ.length = (G - i) * 1 := by
    rw [hZZ, List.length_append, Array.length_toList, Array.length_toList, size_zeroCells, size_zeroCells, show (Value.int .i64 0).cells.size = 1 from rfl]
    omega
  obtain ⟨ROW, hROW⟩ : ∃ ROW : Array Value, ROW = (A ++ ZZ).toArray := ⟨_, rfl⟩
  have hRl : ROW.toList = A ++ ZZ := by rw [hROW]
  have hRs : ROW.size = G * 1 := by
    rw [← Array.length_toList, hRl, List.length_append, hAl, hZl]
    omega
  have hrz2 : ∀ ty, (Builtin.append_ #[23, 3] ty #[.slice (some ⟨g, 0, none⟩) i n, .int .i64 ((n : Int) + 1 - (i : Int))]).run Tryz.prog w = .ok (.slice (some ⟨w.heap.size, 0, none⟩) (n + 1) G) (w.drew.alloc (.cells ROW 3)) := fun ty => by
    rw [hrz ty, ← hG, hROW, hZZ]
    congr 4
    apply Array.ext'
    simp
  clear hrz hROW hZZ hold
  have hfr := fresh_row A B Y ZZ (by omega)
  obtain ⟨R1, hR1⟩ : ∃ R1 : Array Value, R1 = (ROW.toList.take (i * 1) ++ Y ++ ROW.toList.drop (i * 1 + Y.length)).toArray := ⟨_, rfl⟩
  have hR1l : R1.toList = A ++ Y ++ ZZ.drop Y.length := by
    rw [hR1, List.toList_toArray, hRl, ← hAl]
    exact hfr.1
  have hR1s : R1.size = G * 1 := by
    rw [← Array.length_toList, hR1l]
    simp only [List.length_append, List.length_drop]
    omega
  obtain ⟨R2, hR2⟩ : ∃ R2 : Array Value, R2 = (R1.toList.take ((i + 1) * 1) ++ B ++ R1.toList.drop ((i + 1) * 1 + B.length)).toArray := ⟨_, rfl⟩
  have hR2l : R2.toList = A ++ Y ++ B ++ ZZ.drop (Y.length + B.length) := by
    rw [hR2, List.toList_toArray, hR1l, show (i + 1) * 1 = A.length + Y.length by omega, ← hfr.1]
    exact hfr.2
  have hR2s : R2.size = G * 1 := by
    rw [← Array.length_toList, hR2l]
    simp only [List.length_append, List.length_drop]
    omega
  have hcpA : ∀ W : World, W.heap = (w.alloc (.cells ROW 3)).heap → ∀ ty dc, (Builtin.copy_ #[23, 23] ty #[.slice (some ⟨w.heap.size, i, none⟩) (n + 1 - i) dc, .slice (some ⟨vb, 0, none⟩) 1 1]).run Tryz.prog W = .ok (goInt (Nat.min 1 (n + 1 - i))) (W.setRow w.heap.size R1) := fun W hW ty dc => by
    have hgW : W.heap[w.heap.size]? = some (.cells ROW 3 (0, 0)) := by rw [hW]; exact heap_new w _
    have hvW : W.heap[vb]? = some (.cells Y.toArray 3 (0, 0)) := by rw [hW]; exact alloc_box _ hv
    have h := run_copy_sized W 23 23 ty 3 1 w.heap.size (i) (n + 1 - i) dc ⟨vb, 0, none⟩ 1 1 ROW 3 Y Tryz.underlying23 Tryz.size_in hgW
      (by rw [hYl]; show _ = min 1 (n + 1 - i) * 1; rw [Nat.min_eq_left (by omega)]) (fun j v hj => by
        rw [Addr.add_lit, cell_of_heap hvW, Nat.zero_add]
        exact hj) (by rw [hYl, hRs]; omega) hY1
    rw [Nat.mul_one] at hR1; rw [← hR1] at h
    exact h
  have hcpB : ∀ W : World, W.heap = ((w.alloc (.cells ROW 3)).setRow w.heap.size R1).heap → ∀ ty dc sc, (Builtin.copy_ #[23, 23] ty #[.slice (some ⟨w.heap.size, (i + 1), none⟩) (n - i) dc, .slice (some ⟨g, i, none⟩) (n - i) sc]).run Tryz.prog W = .ok (goInt (Nat.min (n - i) (n - i))) (W.setRow w.heap.size R2) := fun W hW ty dc sc => by
    have hgW : W.heap[w.heap.size]? = some (.cells R1 3 (0, 0)) := by rw [hW]; exact setRow_heap _ _ ROW R1 _ _ (heap_new w _)
    have hvW : W.heap[g]? = some (.cells cur 3 (0, 0)) := by rw [hW, setRow_other _ _ _ _ (by omega)]; exact alloc_box _ hg
    have h := run_copy_sized W 23 23 ty 3 1 w.heap.size ((i + 1)) (n - i) dc ⟨g, i, none⟩ (n - i) sc R1 3 B Tryz.underlying23 Tryz.size_in hgW
      (by rw [hBl]; show _ = min (n - i) (n - i) * 1; rw [Nat.min_self]) (fun j v hj => by
        rw [Addr.add_lit, cell_of_heap hvW, e, List.getElem?_append_right (by omega), show i + j - A.length = j by omega]
        exact hj) (by rw [hBl, hR1s]; omega) hB1
    rw [Nat.mul_one] at hR2; rw [← hR2] at h
    exact h
  have hfin : ∀ W : World, W.heap = ((w.alloc (.cells ROW 3)).setRow w.heap.size R1).heap → W.os = w.os → W.tape = w.tape → W.output = w.output → (W.setRow w.heap.size R2).ownsRow base 3 1 (.slice (some ⟨w.heap.size, 0, none⟩) (n + 1) G) (n + 1) (A ++ Y ++ B) ∧ w.grownBy (W.setRow w.heap.size R2) (some g) := fun W hW h1 h2 h3 => by
    have hgW : W.heap[w.heap.size]? = some (.cells R1 3 (0, 0)) := by rw [hW]; exact setRow_heap _ _ ROW R1 _ _ (heap_new w _)
    refine ⟨row_shut (Z := ZZ.drop (Y.length + B.length)) (by simp only [List.length_append]; omega) (setRow_heap W _ R1 R2 _ _ hgW) (by omega) hGm hGn hR2s hR2l, h1, h2, h3, ?_, ?_⟩
    · show w.heap.size ≤ (W.heap.modify _ _).size
      rw [Array.size_modify, hW]
      show w.heap.size ≤ ((w.alloc (.cells ROW 3)).heap.modify _ _).size
      simp
    · intro k hk _
      rw [setRow_other _ _ _ _ (by omega), hW, setRow_other _ _ _ _ (by omega)]
      exact Below.heap_alloc w _ k hk
  unfold maxLen at hGm
  have hz2' : ¬ ((i : Int) = (n : Int)) := by omega
  have hb4 : ¬ (G = i) := by omega
  have hb5 : ¬ (G = i + 1) := by omega
  have hb6 : ¬ (n = i) := by omega
  have hin : i ≤ n := by omega
  have hini : (i : Int) ≤ (n : Int) := by omega
  have hi1 : (i : Int) + 1 ≤ (n : Int) + 1 := by omega
  have hp0 : (0 : Int) ≤ (i : Int) + 1 := by omega
  have hin1 : (i : Int) ≤ (n : Int) + 1 := by omega
  have htn : ((i : Int) + 1).toNat = i + 1 := by omega
  have hw1 : IntKind.i64.wrap ((i : Int) + 1) = (i : Int) + 1 := by rw [IntKind.wrap_i64]; omega
  have hNN : (n : Int) < (n : Int) + 1 := by omega
  have hbN : w.heap.size ≥ base := by omega
  clear hown hv hg e hR1 hR2 hR1l hR2l hRl hfr hG hkk hik
  have hcpA' := hcpA ((w.alloc (.cells ROW 3)).drew) rfl
  have hcpB' := hcpB ((((w.alloc (.cells ROW 3)).drew).setRow w.heap.size R1).drew) rfl
  clear hcpA hcpB
  go_enter Tryz.func98, Tryz.ntmps98
  go_wp2_with (first
    | (at_builtin; refine Lib.wpList_append_run _ rfl _ _ _ _ rfl _ _ rfl rfl _ _ (hrz2 _) ?_))
  go_region_law (refine step_copy_runI rfl _ _ 23 23 rfl _ _ (by simp [Act.eval, Act.put]) (by simp [Act.eval, Act.put]) (hcpB' _ _ _) ?_)
  go_wp2
  go_ret
  obtain ⟨f1, f2⟩ := hfin ((((w.alloc (.cells ROW 3)).drew).setRow w.heap.size R1).drew) rfl rfl rfl rfl
  exact ⟨_, _, rfl, f1, f2, .inr ⟨_, rfl, Nat.le_refl _⟩⟩
theorem ins_in (base g C n i vb : Nat) (A B Y : List Value) (hAl : A.length = i * 1) (hBl : B.length = (n - i) * 1) (hYl : Y.length = 1) (hA1 : ∀ v ∈ A, v.oneCell' = true) (hB1 : ∀ v ∈ B, v.oneCell' = true) (hY1 : ∀ v ∈ Y, v.oneCell' = true) (hi : i ≤ n) (hn : n ≤ 10000) (w : World) (hne : vb ≠ g)
    (hown : w.ownsRow base 3 1 (.slice (some ⟨g, 0, none⟩) n C) n (A ++ B)) (hv : w.heap[vb]? = some (.cells Y.toArray 3 (0, 0))) :
    Calls Tryz.prog 98 #[.slice (some ⟨g, 0, none⟩) n C, .int .i64 (i : Int), .slice (some ⟨vb, 0, none⟩) 1 1] w (InsSays_in base g n C w (A ++ Y ++ B)) := by
  by_cases h : i = n
  · subst h
    have hB0 : B = [] := List.eq_nil_of_length_eq_zero (by omega)
    subst hB0
    rw [List.append_nil] at hown ⊢
    exact insEnd_in base g C i vb A Y hYl hY1 hn w hown hv
  · by_cases hC : n + 1 ≤ C
    · exact insShift_in base g C n i vb A B Y hAl hBl hYl hB1 hY1 (by omega) hC hn w hne hown hv
    · obtain rfl : C = n := by
        obtain ⟨cur, Z, _, _, h, _⟩ := row_open hown
        omega
      exact insGrow_in base g C i vb A B Y hAl hBl hYl hA1 hB1 hY1 (by omega) hn w hown hv
end Go.Proofs.YtajbdffepfjegaaGreat
