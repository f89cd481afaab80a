/-
  Joined:
  The document's own replica beside the box of a message: what it does leaves the box as it is.
  Contracts of the document's own replica: a message to one; lists of messages behind one another.
  Contracts of the document's own replica: a number more among those that rise, once.
-/
import Derived.Test.YtgdehjdajjhjpaaGreatRpG10
import Derived.Test.YtgdehjdajjhjpaaGreatRpG3
import Derived.Test.YtgdehjdajjhjpaaGreatRpRCp
namespace Go.Proofs.YtgdehjdajjhjpaaGreat
open Go.RowKit Num
set_option linter.unusedVariables false
set_option maxRecDepth 100000

/-- What lies below B, rows of entries, and boxes and rows of messages, stay. -/
structure Num.KeepM (B : Nat) (w w' : World) : Prop extends Keep B w w' where
  ms : ∀ (k : Nat) (cs : Array Value) (fr : Nat × Nat), w.heap[k]? = some (.cells cs 27 fr) → w'.heap[k]? = w.heap[k]?
theorem Num.KeepM.refl (B : Nat) (w : World) : KeepM B w w := ⟨Keep.refl _ _, fun _ _ _ _ => rfl⟩
theorem Num.KeepM.trans {B : Nat} {a b c : World} (h : KeepM B a b) (k : KeepM B b c) : KeepM B a c :=
  ⟨h.toKeep.trans k.toKeep, fun i cs fr hi => (k.ms i cs fr ((h.ms i cs fr hi).trans hi)).trans (h.ms i cs fr hi)⟩
theorem Num.KeepM.of_below {B : Nat} {w w' : World} (h : Below w.heap.size w w') (hB : B ≤ w.heap.size) : KeepM B w w' := ⟨Keep.of_below h hB, fun k cs fr hk => h.block k (Array.getElem?_eq_some_iff.1 hk).1⟩
theorem Num.KeepM.of_stay {B : Nat} {w w' : World} {e : TypeId} (h : Below B w w') (hs : Stay (fun _ => False) e w w') (he : e ≠ 46) (hm : e ≠ 27) : KeepM B w w' :=
  ⟨Keep.of_stay h hs he, fun k cs fr hk => hs.keep k (Array.getElem?_eq_some_iff.1 hk).1 id (fun cs' fr' h' => by rw [hk] at h'; cases h'; exact hm rfl)⟩
theorem Num.KeepM.drew {B : Nat} {a w : World} (h : KeepM B a w) : KeepM B a w.drew := ⟨h.toKeep.drew, h.ms⟩
theorem sets_keepM {g : Nat} {t : TypeId} {N : Nat} {w : World} {f : Nat → Value} {B : Nat} (hB : B ≤ g) (h : BoxF w g t N f) (ht : t ≠ 46) (hm : t ≠ 27) (l : List (Nat × Value)) : KeepM B w (sets w g l) := .of_stay (sets_below hB l w) (sets_box l h).2 ht hm
set_option maxHeartbeats 1000000 in
theorem rclearS_any (B g : Nat) (r : Rep) (w : World) (h : TurnR B w g r) :
    Calls Tryz.prog 54 #[.pointer (some ⟨g, 0, none⟩)] w fun e w' => e = .returned (.tuple #[]) ∧ TurnR B w' g (clearR r) ∧ KeepM B w w' := by
  obtain ⟨⟨vl, va, vv, vw, vb, h⟩, hB, h1, hl, hb, ha⟩ := h
  obtain ⟨k0, k1, k2, k3, k4, k5, k6, k7, k8, k9, k10, k11, k12⟩ := h.cells (by omega)
  have z := h.box.unfrozen
  have hh := hold_sets h (by omega) (by decide) (by decide) [(8, .slice none 0 0), (9, .slice none 0 0), (10, .slice none 0 0), (11, .int .i64 (-1)), (12, .int .i64 0)] (r' := clearR r) (vl' := vl) (va' := va) (vv' := .slice none 0 0) (vw' := .slice none 0 0) (vb' := .slice none 0 0) (x' := undef)
    ⟨h.rows.log, World.ownsRow_nil _ _ _ _, h.rows.ack, World.ownsRow_nil _ _ _ _, World.ownsRow_nil _ _ _ _, apart_nil _, apart_nil _, apart_nil _, apart_nil _⟩ (fun f f' e e' => by subst e e'; exact ⟨rfl, rfl, rfl, rfl, rfl, rfl, rfl, rfl, rfl, rfl, rfl, rfl, rfl, rfl⟩)
  have hk := sets_keepM h.base h.box (by decide) (by decide) [(8, .slice none 0 0), (9, .slice none 0 0), (10, .slice none 0 0), (11, .int .i64 (-1)), (12, .int .i64 0)]
  have hT : TurnR B _ g (clearR r) := ⟨⟨_, _, _, _, _, hh⟩, Nat.le_trans hB hk.low.size, h1, hl, Nat.zero_le _, ha⟩
  clear hh h
  go_enter Tryz.func54, Tryz.ntmps54
  go_wp2
  go_end0
  exact ⟨rfl, hT, hk⟩
set_option maxHeartbeats 1000000 in
theorem rfreshS_any (B g : Nat) (r : Rep) (w : World) (h : TurnR B w g r) :
    Calls Tryz.prog 74 #[.pointer (some ⟨g, 0, none⟩)] w fun e w' => e = .returned (.tuple #[]) ∧ TurnR B w' g (freshR r) ∧ KeepM B w w' := by
  have hn := one_bounds h.one
  obtain ⟨⟨vl, va, vv, vw, vb, h⟩, hB, h1, hl, hb, ha⟩ := h
  obtain ⟨cs, hc1, hc2, hmk⟩ := made_ints r.n ⟨by omega, by omega⟩
  have hbel := (Below.refl _ w).alloc (Nat.le_refl _) (.cells cs 3)
  have hz := own_zeros w r.n.toNat (by omega) cs hc1 hc2
  have hA := h.below hbel
  have hrw : RowsR B (w.alloc (.cells cs 3)) r.log r.best (List.replicate r.n.toNat 0) r.votes r.voters vl (.slice (some ⟨w.heap.size, 0, none⟩) r.n.toNat r.n.toNat) vv vw vb :=
    ⟨hA.rows.log, hA.rows.best, by rw [inCells_rep, List.length_replicate]; exact own_mono hz hB, hA.rows.vot, hA.rows.vor, hA.rows.a1, (apart_new h.rows.vot hz).symm, (apart_new h.rows.vor hz).symm, hA.rows.a4⟩
  have hS := hold_sets hA (by omega) (by decide) (by decide) [(7, .slice (some ⟨w.heap.size, 0, none⟩) r.n.toNat r.n.toNat)] (r' := { r with acked := List.replicate r.n.toNat 0 }) (x' := undef) hrw (fun f f' e e' => by subst e e'; exact ⟨rfl, rfl, rfl, rfl, rfl, rfl, rfl, rfl, rfl, rfl, rfl, rfl, rfl, rfl⟩)
  have hkS := (KeepM.of_below hbel hB).trans (sets_keepM hA.base hA.box (by decide) (by decide) [(7, .slice (some ⟨w.heap.size, 0, none⟩) r.n.toNat r.n.toNat)])
  obtain ⟨hF, hsF, hkF0⟩ := hold_ack hS (by simp) (by decide) (Nat.le_trans hB hkS.low.size) r.id.toNat (r.log.length : Int)
  have hkF := KeepM.of_stay hkF0.low hsF (by decide) (by decide)
  have hT : TurnR B _ g (freshR r) := ⟨⟨_, _, _, _, _, hF⟩, Nat.le_trans hB (hkS.trans hkF).low.size, h1, hl, hb, by show (((List.replicate r.n.toNat 0).set r.id.toNat (r.log.length : Int)).length : Int) = r.n; rw [List.length_set, List.length_replicate]; omega⟩
  have hK := hkS.trans hkF
  obtain ⟨k0, k1, k2, k3, k4, k5, k6, k7, k8, k9, k10, k11, k12⟩ := h.cells (by omega)
  obtain ⟨s0, s1, s2, s3, s4, s5, s6, s7, s8, s9, s10, s11, s12⟩ := hS.cells (by omega)
  have z7 := hA.box.unfrozen 7
  have a7 := hA.box.cell 7 (by omega)
  have ca := hS.rows.ack.cells (g := w.heap.size) rfl r.id.toNat (.int .i64 0) (by rw [inCells_rep, List.getElem?_replicate, if_pos (by omega)])
  have za := hS.rows.ack
  rw [List.length_replicate] at za
  have za := za.frozenAt r.id.toNat
  rw [Addr.add_lit, Nat.zero_add] at ca
  obtain ⟨lo, lc, rfl, _⟩ := ownE_lies h.rows.log
  have n1 : r.id < ((r.n.toNat : Nat) : Int) := by omega
  have n2 : ¬ r.id < 0 := by omega
  simp only [sets] at s0 s5 s7 ca za hT hK
  clear hF hS hA hrw hz hkS hkF hsF h
  go_enter Tryz.func74, Tryz.ntmps74
  go_wp2
  go_region
  go_end0
  exact ⟨rfl, hT.drew, hK.drew⟩
theorem rallS_any (B g : Nat) (r : Rep) (m : Msg) (bo : Option Addr) (c : Nat) (w : World) (h : TurnR B w g r) (hm : SrcE B w bo c m.log) (hml : m.log.length ≤ 1000) :
    Calls Tryz.prog 55 #[.pointer (some ⟨g, 0, none⟩), msV m bo c] w fun e w' => ∃ v, e = .returned v ∧ OwnO B w' v (allM r m) ∧ TurnR B w' g r ∧ KeepM B w w' := by
  obtain ⟨s, _, _, _, hH⟩ := h.cells
  refine (rall_low g r m bo c w hH.box h.one (hm.lies h.base) hml).mono ?_
  rintro e w' ⟨v, rfl, ho, hb⟩
  exact ⟨v, rfl, ownO_mono ho h.base, h.below hb, KeepM.of_below hb h.base⟩
theorem turnS_sets {B : Nat} {w : World} {g : Nat} {r : Rep} (h : TurnR B w g r) (l : List (Nat × Value)) (r' : Rep)
    (e : ∀ (vl va vv vw vb : Value) (f f' : Nat → Value), f = upds (repF r vl va vv vw vb undef) l → f' = repF r' vl va vv vw vb undef → f 0 = f' 0 ∧ f 1 = f' 1 ∧ f 2 = f' 2 ∧ f 3 = f' 3 ∧ f 4 = f' 4 ∧ f 5 = f' 5 ∧ f 6 = f' 6 ∧ f 7 = f' 7 ∧ f 8 = f' 8 ∧ f 9 = f' 9 ∧ f 10 = f' 10 ∧ f 11 = f' 11 ∧ f 12 = f' 12 ∧ f 13 = f' 13)
    (e1 : r'.log = r.log) (e2 : r'.best = r.best) (e3 : r'.acked = r.acked) (e4 : r'.votes = r.votes) (e5 : r'.voters = r.voters) (e6 : r'.id = r.id) (e7 : r'.n = r.n) : TurnR B (sets w g l) g r' ∧ KeepM B w (sets w g l) := by
  obtain ⟨⟨vl, va, vv, vw, vb, h⟩, hB, h1, hl, hb, ha⟩ := h
  have hk := sets_keepM h.base h.box (by decide) (by decide) l
  exact ⟨⟨⟨vl, va, vv, vw, vb, hold_sets h (by omega) (by decide) (by decide) l (by rw [e1, e2, e3, e4, e5]; exact h.rows) (e vl va vv vw vb)⟩, Nat.le_trans hB hk.low.size, by rw [e6, e7]; exact h1, by rw [e1]; exact hl, by rw [e2]; exact hb, by rw [e3, e7]; exact ha⟩, hk⟩
theorem turnS_votes1 {B : Nat} {w : World} {g : Nat} {r : Rep} (h : TurnR B w g r) :
    TurnR B ((w.alloc (.cells #[.int .i64 r.id] 3)).setCell ⟨g, 8, none⟩ (.slice (some ⟨w.heap.size, 0, none⟩) 1 1)) g { r with votes := [r.id] } ∧ KeepM B w ((w.alloc (.cells #[.int .i64 r.id] 3)).setCell ⟨g, 8, none⟩ (.slice (some ⟨w.heap.size, 0, none⟩) 1 1)) := by
  obtain ⟨⟨vl, va, vv, vw, vb, h⟩, hB, h1, hl0, hb, ha⟩ := h
  have hb1 : Below w.heap.size w (w.alloc (.cells #[.int .i64 r.id] 3)) := (Below.refl _ w).alloc (Nat.le_refl _) _
  have hown : (w.alloc (.cells #[.int .i64 r.id] 3)).ownsRow w.heap.size 3 1 (.slice (some ⟨w.heap.size, 0, none⟩) 1 1) 1 (inCells [r.id]) := ⟨rfl, .inr ⟨w.heap.size, 1, _, rfl, Nat.le_refl _, heap_new w _, Nat.le_refl _, by unfold maxLen; omega, rfl, rfl⟩⟩
  have h' := h.below hb1
  have hk := (KeepM.of_below hb1 hB).trans (sets_keepM h'.base h'.box (by decide) (by decide) [(8, .slice (some ⟨w.heap.size, 0, none⟩) 1 1)])
  exact ⟨⟨⟨_, _, _, _, _, hold_sets h' (by omega) (by decide) (by decide) [(8, .slice (some ⟨w.heap.size, 0, none⟩) 1 1)] (r' := { r with votes := [r.id] }) (x' := undef) ⟨h'.rows.log, h'.rows.best, h'.rows.ack, own_mono hown hB, h'.rows.vor, h'.rows.a1, apart_new h.rows.ack hown, h'.rows.a3, (apart_new h.rows.vor hown).symm⟩ (fun f f' e e' => by subst e e'; exact ⟨rfl, rfl, rfl, rfl, rfl, rfl, rfl, rfl, rfl, rfl, rfl, rfl, rfl, rfl⟩)⟩, Nat.le_trans hB hk.low.size, h1, hl0, hb, ha⟩, hk⟩
set_option maxHeartbeats 1000000 in
theorem rchangesS_any (B g : Nat) (r : Rep) (view : Int) (w : World) (h : TurnR B w g r) :
    Calls Tryz.prog 48 #[.pointer (some ⟨g, 0, none⟩), .int .i64 view] w fun e w' => ∃ v, e = .returned v ∧ OwnO B w' v (allM (changeR r view) (msg 4 0 0 0 [])) ∧ TurnR B w' g (changeR r view) ∧ KeepM B w w' := by
  have hC := rclearS_any B g r w h
  clear h
  go_enter Tryz.func48, Tryz.ntmps48
  go_wp2_with (first
    | (go_at_call 54; refine hC.mono ?_; rintro e w1 ⟨rfl, hT1, hK1⟩
       obtain ⟨hT2, hK2⟩ := turnS_sets hT1 [(2, .int .i64 view), (4, .int .i64 1)] { clearR r with view := view, how := 1 } (fun _ _ _ _ _ f f' e e' => by subst e e'; exact ⟨rfl, rfl, rfl, rfl, rfl, rfl, rfl, rfl, rfl, rfl, rfl, rfl, rfl, rfl⟩) rfl rfl rfl rfl rfl rfl rfl
       simp only [sets] at hT2 hK2
       obtain ⟨s1, ⟨_, _, a2, _, a4, _⟩, az, _⟩ := hT1.cells
       obtain ⟨s2, ⟨b0, _, _, _, _, _, _, _, b8, _⟩, bz, _⟩ := hT2.cells
       have b0' : ((w1.setCell ⟨g, 2, none⟩ (.int .i64 view)).setCell ⟨g, 4, none⟩ (.int .i64 1)).cell? ⟨g, 0, none⟩ = some (.int .i64 r.id) := b0
       have hsz : ((w1.setCell ⟨g, 2, none⟩ (.int .i64 view)).setCell ⟨g, 4, none⟩ (.int .i64 1)).heap.size = w1.heap.size := by simp [World.setCell]
       obtain ⟨hT3, hK3⟩ := turnS_votes1 hT2
       rw [hsz] at hT3 hK3
       have hT3' : TurnR B ((((w1.setCell ⟨g, 2, none⟩ (.int .i64 view)).setCell ⟨g, 4, none⟩ (.int .i64 1)).alloc (.cells #[.int .i64 r.id] 3)).setCell ⟨g, 8, none⟩ (.slice (some ⟨w1.heap.size, 0, none⟩) 1 1)) g (changeR r view) := hT3
       have e8 := alloc_cell (.cells #[.int .i64 r.id] 3) b8
       have ez := ((hT2.below ((Below.refl _ _).alloc (Nat.le_refl _) (.cells #[.int .i64 r.id] 3))).cells).choose_spec.2.1 8
       have hall := rallS_any B g (changeR r view) (msg 4 0 0 0 []) none 0 _ hT3' (srcE_nil _ _) (by simp)
       clear hC b0 b8)
    | (go_at_call 55; refine hall.mono ?_; rintro e w4 ⟨v4, rfl, hO4, hT4, hK4⟩))
  go_ret
  exact ⟨_, rfl, hO4, hT4, ((hK1.trans hK2).trans hK3).trans hK4⟩
theorem turnS_log {B : Nat} {w : World} {g : Nat} {r : Rep} (h : TurnR B w g r) {w1 : World} (hb1 : Below w.heap.size w w1) (log : List Ent) (hl : log.length ≤ 1000) {ao : Option Addr} {cap : Nat} {b : Nat} (hb : w.heap.size = b) (hown : w1.ownsRow b 46 2 (.slice ao log.length cap) log.length (enCells log)) :
    TurnR B (w1.setCell ⟨g, 5, none⟩ (.slice ao log.length cap)) g { r with log := log } ∧ KeepM B w (w1.setCell ⟨g, 5, none⟩ (.slice ao log.length cap)) := by
  subst hb
  obtain ⟨⟨vl, va, vv, vw, vb, h⟩, hB, h1, hl0, hb, ha⟩ := h
  have h' := h.below hb1
  have hk := (KeepM.of_below hb1 hB).trans (sets_keepM h'.base h'.box (by decide) (by decide) [(5, .slice ao log.length cap)])
  exact ⟨⟨⟨_, _, _, _, _, hold_sets h' (by omega) (by decide) (by decide) [(5, .slice ao log.length cap)] (r' := { r with log := log }) (x' := undef) ⟨own_mono hown hB, h'.rows.best, h'.rows.ack, h'.rows.vot, h'.rows.vor, (apart_new h.rows.best hown).symm, h'.rows.a2, h'.rows.a3, h'.rows.a4⟩ (fun f f' e e' => by subst e e'; exact ⟨rfl, rfl, rfl, rfl, rfl, rfl, rfl, rfl, rfl, rfl, rfl, rfl, rfl, rfl⟩)⟩, Nat.le_trans hB hk.low.size, h1, hl, hb, ha⟩, hk⟩
set_option maxRecDepth 100000 in
set_option maxHeartbeats 1000000 in
theorem rnormalS_many (B g : Nat) (r : Rep) (log : List Ent) (bo : Option Addr) (c : Nat) (view com : Int) (w : World) (h : TurnR B w g r) (hs : SrcE B w bo c log) (hlog : log.length ≤ 1000) (hn : ¬ r.n = 1) :
    Calls Tryz.prog 53 #[.pointer (some ⟨g, 0, none⟩), .slice bo log.length c, .int .i64 view, .int .i64 com] w fun e w' => e = .returned (.tuple #[]) ∧ TurnR B w' g (normalR r log view com) ∧ KeepM B w w' := by
  have hB := h.base
  obtain ⟨s, ⟨k0, k1, k2, k3, k4, k5, k6, _⟩, z, _⟩ := h.cells
  obtain ⟨hT0, hK0⟩ := turnS_sets h [(2, .int .i64 view), (3, .int .i64 view), (4, .int .i64 0)] { r with view := view, normal := view, how := 0 } (fun _ _ _ _ _ f f' e e' => by subst e e'; exact ⟨rfl, rfl, rfl, rfl, rfl, rfl, rfl, rfl, rfl, rfl, rfl, rfl, rfl, rfl⟩) rfl rfl rfl rfl rfl rfl rfl
  simp only [sets] at hT0 hK0
  have hsz : (((w.setCell ⟨g, 2, none⟩ (.int .i64 view)).setCell ⟨g, 3, none⟩ (.int .i64 view)).setCell ⟨g, 4, none⟩ (.int .i64 0)).heap.size = w.heap.size := by simp [World.setCell]
  have hheld := fun ob : Obj => src_next (liesE_src ((hs.keep hK0.toKeep).lies hT0.base)) ((Below.refl _ (((w.setCell ⟨g, 2, none⟩ (.int .i64 view)).setCell ⟨g, 3, none⟩ (.int .i64 view)).setCell ⟨g, 4, none⟩ (.int .i64 0))).alloc (Nat.le_refl _) ob)
  have hmade := own_made0 (((w.setCell ⟨g, 2, none⟩ (.int .i64 view)).setCell ⟨g, 3, none⟩ (.int .i64 view)).setCell ⟨g, 4, none⟩ (.int .i64 0)) 46 2
  rw [hsz] at hmade
  have HW : Hid (∀ (w2 : World) (ao1 : Option Addr) (cap1 : Nat), ((((w.setCell ⟨g, 2, none⟩ (.int .i64 view)).setCell ⟨g, 3, none⟩ (.int .i64 view)).setCell ⟨g, 4, none⟩ (.int .i64 0)).alloc (.cells #[] 46)).grownBy w2 (some w.heap.size) → w2.ownsRow w.heap.size 46 2 (.slice ao1 log.length cap1) log.length (enCells log) →
      TurnR B (w2.setCell ⟨g, 5, none⟩ (.slice ao1 log.length cap1)) g { r with view := view, normal := view, how := 0, log := log } ∧ KeepM B (((w.setCell ⟨g, 2, none⟩ (.int .i64 view)).setCell ⟨g, 3, none⟩ (.int .i64 view)).setCell ⟨g, 4, none⟩ (.int .i64 0)) (w2.setCell ⟨g, 5, none⟩ (.slice ao1 log.length cap1)) ∧ (w2.setCell ⟨g, 5, none⟩ (.slice ao1 log.length cap1)).cell? ⟨g, 5, none⟩ = some (.slice ao1 log.length cap1) ∧ ∃ v5, w2.cell? ⟨g, 5, none⟩ = some v5 ∧ w2.frozen? ⟨g, 5, none⟩ = false) := by
    intro w2 ao1 cap1 hgr hown
    have hW12 : Below w.heap.size (((w.setCell ⟨g, 2, none⟩ (.int .i64 view)).setCell ⟨g, 3, none⟩ (.int .i64 view)).setCell ⟨g, 4, none⟩ (.int .i64 0)) w2 := ((Below.refl _ (((w.setCell ⟨g, 2, none⟩ (.int .i64 view)).setCell ⟨g, 3, none⟩ (.int .i64 view)).setCell ⟨g, 4, none⟩ (.int .i64 0))).alloc (Nat.le_of_eq hsz.symm) _).grown hgr (by simp [World.setCell]) (fun j hj => by cases hj; exact Nat.le_refl _)
    have hW12' : Below (((w.setCell ⟨g, 2, none⟩ (.int .i64 view)).setCell ⟨g, 3, none⟩ (.int .i64 view)).setCell ⟨g, 4, none⟩ (.int .i64 0)).heap.size (((w.setCell ⟨g, 2, none⟩ (.int .i64 view)).setCell ⟨g, 3, none⟩ (.int .i64 view)).setCell ⟨g, 4, none⟩ (.int .i64 0)) w2 := by rw [hsz]; exact hW12
    obtain ⟨hT2, hK2⟩ := turnS_log hT0 hW12' log hlog hsz hown
    obtain ⟨s2, ⟨_, _, _, _, _, q5, _⟩, qz, _⟩ := (hT0.below hW12').cells
    refine ⟨hT2, hK2, ?_, _, q5, qz 5⟩
    obtain ⟨⟨vl, va, vv, vw, vb, hh⟩, _⟩ := hT0.below hW12'
    have := (hh.box.set 5 (.slice ao1 log.length cap1)).cell 5 (by omega)
    simpa using this
  clear h k0 k1 k5 k6
  have hn2 : (r.n == 1) = false := by simp [hn]
  have hn3 : decide (r.n = 1) = false := decide_eq_false hn
  have fin : ∀ w4, TurnR B w4 g { r with view := view, normal := view, how := 0, log := log } → TurnR B (sets w4 g [(6, .int .i64 (min (max r.commit com) (log.length : Int)))]).drew g { r with view := view, normal := view, how := 0, log := log, commit := comR r log com } ∧ KeepM B w4 (sets w4 g [(6, .int .i64 (min (max r.commit com) (log.length : Int)))]).drew := fun w4 h4 => by
    obtain ⟨a, b⟩ := turnS_sets h4 [(6, .int .i64 (min (max r.commit com) (log.length : Int)))] { r with view := view, normal := view, how := 0, log := log, commit := comR r log com } (fun _ _ _ _ _ f f' e e' => by subst e e'; exact ⟨rfl, rfl, rfl, rfl, rfl, rfl, by show Value.int .i64 _ = .int .i64 (comR r log com); unfold comR; rw [if_neg hn], rfl, rfl, rfl, rfl, rfl, rfl, rfl⟩) rfl rfl rfl rfl rfl rfl rfl
    exact ⟨a.drew, b.drew⟩
  go_enter Tryz.func53, Tryz.ntmps53
  go_wp2_with (first
    | (at_builtin; refine wpList_app_g Tryz.underlying22 Tryz.infoEn (by decide) _ rfl _ _ rfl w.heap.size (.slice (some ⟨w.heap.size, 0, none⟩) 0 0) 0 [] rfl hmade bo log.length c (enCells log) rfl (hheld _) (by omega) (by simp [World.setCell]) ?_; intro v1 w2 hown1 hgrow1 hnear1; obtain ⟨ao1, cap1, rfl⟩ := own_form hown1
       rw [List.nil_append] at hown1
       simp only [Nat.zero_add] at hown1
       obtain ⟨hT2, hK2, c5, v5, q5, y5⟩ := HW.out w2 ao1 cap1 hgrow1 hown1))
  obtain ⟨s2, ⟨_, d1, _, _, _, _, d6, _⟩, dz, _⟩ := hT2.cells
  have d1' : (w2.setCell ⟨g, 5, none⟩ (.slice ao1 log.length cap1)).cell? ⟨g, 1, none⟩ = some (.int .i64 r.n) := d1
  have d6' : (w2.setCell ⟨g, 5, none⟩ (.slice ao1 log.length cap1)).cell? ⟨g, 6, none⟩ = some (.int .i64 r.commit) := d6
  clear d1 d6
  have d5 : (w2.setCell ⟨g, 5, none⟩ (.slice ao1 log.length cap1)).cell? ⟨g, 5, none⟩ = some (.slice ao1 log.length cap1) := c5
  have hf := fin _ hT2
  simp only [sets] at hf
  generalize w2.setCell ⟨g, 5, none⟩ (.slice ao1 log.length cap1) = V at *
  go_region
  obtain ⟨hT4, hK4⟩ := hf
  have hcl := rclearS_any B g _ _ hT4
  obtain ⟨s4, ⟨_, f1, _⟩, fz, _⟩ := hT4.cells
  have f1' : (V.setCell ⟨g, 6, none⟩ (.int .i64 (min (max r.commit com) (log.length : Int)))).drew.cell? ⟨g, 1, none⟩ = some (.int .i64 r.n) := f1
  clear f1
  generalize (V.setCell ⟨g, 6, none⟩ (.int .i64 (min (max r.commit com) (log.length : Int)))).drew = V4 at *
  go_wp2_with (first
    | (go_at_call 54; refine hcl.mono ?_; rintro e w5 ⟨rfl, hT5, hK5⟩
       have hfr := rfreshS_any B g _ _ hT5)
    | (go_at_call 74; refine hfr.mono ?_; rintro e w6 ⟨rfl, hT6, hK6⟩))
  go_end0
  exact ⟨rfl, hT6, (((hK0.trans hK2).trans hK4).trans hK5).trans hK6⟩
set_option maxRecDepth 100000 in
set_option maxHeartbeats 1000000 in
theorem rnormalS_one (B g : Nat) (r : Rep) (log : List Ent) (bo : Option Addr) (c : Nat) (view com : Int) (w : World) (h : TurnR B w g r) (hs : SrcE B w bo c log) (hlog : log.length ≤ 1000) (hn : r.n = 1) :
    Calls Tryz.prog 53 #[.pointer (some ⟨g, 0, none⟩), .slice bo log.length c, .int .i64 view, .int .i64 com] w fun e w' => e = .returned (.tuple #[]) ∧ TurnR B w' g (normalR r log view com) ∧ KeepM B w w' := by
  have hB := h.base
  obtain ⟨s, ⟨k0, k1, k2, k3, k4, k5, k6, _⟩, z, _⟩ := h.cells
  obtain ⟨hT0, hK0⟩ := turnS_sets h [(2, .int .i64 view), (3, .int .i64 view), (4, .int .i64 0)] { r with view := view, normal := view, how := 0 } (fun _ _ _ _ _ f f' e e' => by subst e e'; exact ⟨rfl, rfl, rfl, rfl, rfl, rfl, rfl, rfl, rfl, rfl, rfl, rfl, rfl, rfl⟩) rfl rfl rfl rfl rfl rfl rfl
  simp only [sets] at hT0 hK0
  have hsz : (((w.setCell ⟨g, 2, none⟩ (.int .i64 view)).setCell ⟨g, 3, none⟩ (.int .i64 view)).setCell ⟨g, 4, none⟩ (.int .i64 0)).heap.size = w.heap.size := by simp [World.setCell]
  have hheld := fun ob : Obj => src_next (liesE_src ((hs.keep hK0.toKeep).lies hT0.base)) ((Below.refl _ (((w.setCell ⟨g, 2, none⟩ (.int .i64 view)).setCell ⟨g, 3, none⟩ (.int .i64 view)).setCell ⟨g, 4, none⟩ (.int .i64 0))).alloc (Nat.le_refl _) ob)
  have hmade := own_made0 (((w.setCell ⟨g, 2, none⟩ (.int .i64 view)).setCell ⟨g, 3, none⟩ (.int .i64 view)).setCell ⟨g, 4, none⟩ (.int .i64 0)) 46 2
  rw [hsz] at hmade
  have HW : Hid (∀ (w2 : World) (ao1 : Option Addr) (cap1 : Nat), ((((w.setCell ⟨g, 2, none⟩ (.int .i64 view)).setCell ⟨g, 3, none⟩ (.int .i64 view)).setCell ⟨g, 4, none⟩ (.int .i64 0)).alloc (.cells #[] 46)).grownBy w2 (some w.heap.size) → w2.ownsRow w.heap.size 46 2 (.slice ao1 log.length cap1) log.length (enCells log) →
      TurnR B (w2.setCell ⟨g, 5, none⟩ (.slice ao1 log.length cap1)) g { r with view := view, normal := view, how := 0, log := log } ∧ KeepM B (((w.setCell ⟨g, 2, none⟩ (.int .i64 view)).setCell ⟨g, 3, none⟩ (.int .i64 view)).setCell ⟨g, 4, none⟩ (.int .i64 0)) (w2.setCell ⟨g, 5, none⟩ (.slice ao1 log.length cap1)) ∧ (w2.setCell ⟨g, 5, none⟩ (.slice ao1 log.length cap1)).cell? ⟨g, 5, none⟩ = some (.slice ao1 log.length cap1) ∧ ∃ v5, w2.cell? ⟨g, 5, none⟩ = some v5 ∧ w2.frozen? ⟨g, 5, none⟩ = false) := by
    intro w2 ao1 cap1 hgr hown
    have hW12 : Below w.heap.size (((w.setCell ⟨g, 2, none⟩ (.int .i64 view)).setCell ⟨g, 3, none⟩ (.int .i64 view)).setCell ⟨g, 4, none⟩ (.int .i64 0)) w2 := ((Below.refl _ (((w.setCell ⟨g, 2, none⟩ (.int .i64 view)).setCell ⟨g, 3, none⟩ (.int .i64 view)).setCell ⟨g, 4, none⟩ (.int .i64 0))).alloc (Nat.le_of_eq hsz.symm) _).grown hgr (by simp [World.setCell]) (fun j hj => by cases hj; exact Nat.le_refl _)
    have hW12' : Below (((w.setCell ⟨g, 2, none⟩ (.int .i64 view)).setCell ⟨g, 3, none⟩ (.int .i64 view)).setCell ⟨g, 4, none⟩ (.int .i64 0)).heap.size (((w.setCell ⟨g, 2, none⟩ (.int .i64 view)).setCell ⟨g, 3, none⟩ (.int .i64 view)).setCell ⟨g, 4, none⟩ (.int .i64 0)) w2 := by rw [hsz]; exact hW12
    obtain ⟨hT2, hK2⟩ := turnS_log hT0 hW12' log hlog hsz hown
    obtain ⟨s2, ⟨_, _, _, _, _, q5, _⟩, qz, _⟩ := (hT0.below hW12').cells
    refine ⟨hT2, hK2, ?_, _, q5, qz 5⟩
    obtain ⟨⟨vl, va, vv, vw, vb, hh⟩, _⟩ := hT0.below hW12'
    have := (hh.box.set 5 (.slice ao1 log.length cap1)).cell 5 (by omega)
    simpa using this
  clear h k0 k1 k5 k6
  have hn2 : (r.n == 1) = true := by simp [hn]
  have hn3 : decide (r.n = 1) = true := decide_eq_true hn
  have fin : ∀ w4, TurnR B w4 g { r with view := view, normal := view, how := 0, log := log } → TurnR B (sets w4 g [(6, .int .i64 (min (max r.commit com) (log.length : Int)))]).drew g { r with view := view, normal := view, how := 0, log := log, commit := min (max r.commit com) (log.length : Int) } ∧ KeepM B w4 (sets w4 g [(6, .int .i64 (min (max r.commit com) (log.length : Int)))]).drew := fun w4 h4 => by
    obtain ⟨a, b⟩ := turnS_sets h4 [(6, .int .i64 (min (max r.commit com) (log.length : Int)))] { r with view := view, normal := view, how := 0, log := log, commit := min (max r.commit com) (log.length : Int) } (fun _ _ _ _ _ f f' e e' => by subst e e'; exact ⟨rfl, rfl, rfl, rfl, rfl, rfl, rfl, rfl, rfl, rfl, rfl, rfl, rfl, rfl⟩) rfl rfl rfl rfl rfl rfl rfl
    exact ⟨a.drew, b.drew⟩
  go_enter Tryz.func53, Tryz.ntmps53
  go_wp2_with (first
    | (at_builtin; refine wpList_app_g Tryz.underlying22 Tryz.infoEn (by decide) _ rfl _ _ rfl w.heap.size (.slice (some ⟨w.heap.size, 0, none⟩) 0 0) 0 [] rfl hmade bo log.length c (enCells log) rfl (hheld _) (by omega) (by simp [World.setCell]) ?_; intro v1 w2 hown1 hgrow1 hnear1; obtain ⟨ao1, cap1, rfl⟩ := own_form hown1
       rw [List.nil_append] at hown1
       simp only [Nat.zero_add] at hown1
       obtain ⟨hT2, hK2, c5, v5, q5, y5⟩ := HW.out w2 ao1 cap1 hgrow1 hown1))
  obtain ⟨s2, ⟨_, d1, _, _, _, _, d6, _⟩, dz, _⟩ := hT2.cells
  have d1' : (w2.setCell ⟨g, 5, none⟩ (.slice ao1 log.length cap1)).cell? ⟨g, 1, none⟩ = some (.int .i64 r.n) := d1
  have d6' : (w2.setCell ⟨g, 5, none⟩ (.slice ao1 log.length cap1)).cell? ⟨g, 6, none⟩ = some (.int .i64 r.commit) := d6
  clear d1 d6
  have d5 : (w2.setCell ⟨g, 5, none⟩ (.slice ao1 log.length cap1)).cell? ⟨g, 5, none⟩ = some (.slice ao1 log.length cap1) := c5
  have hf := fin _ hT2
  simp only [sets] at hf
  generalize w2.setCell ⟨g, 5, none⟩ (.slice ao1 log.length cap1) = V at *
  go_region
  obtain ⟨hT4, hK4⟩ := hf
  obtain ⟨s4, ⟨_, f1, _, _, _, _, f6, _⟩, fz, _⟩ := hT4.cells
  have f1' : (V.setCell ⟨g, 6, none⟩ (.int .i64 (min (max r.commit com) (log.length : Int)))).drew.cell? ⟨g, 1, none⟩ = some (.int .i64 r.n) := f1
  have f5 : (V.setCell ⟨g, 6, none⟩ (.int .i64 (min (max r.commit com) (log.length : Int)))).drew.cell? ⟨g, 5, none⟩ = some (.slice ao1 log.length cap1) := by
    show (V.setCell ⟨g, 6, none⟩ (.int .i64 (min (max r.commit com) (log.length : Int)))).cell? ⟨g, 5, none⟩ = _
    rw [World.cell?_setCell_other V _ _ _ (show (⟨g, 6, none⟩ : Addr) ≠ ⟨g, 5, none⟩ by intro e; cases e)]
    exact d5
  clear f1
  obtain ⟨hT4b, hK4b⟩ := turnS_sets hT4 [(6, .int .i64 (log.length : Int))] { r with view := view, normal := view, how := 0, log := log, commit := comR r log com } (fun _ _ _ _ _ f f' e e' => by subst e e'; exact ⟨rfl, rfl, rfl, rfl, rfl, rfl, by show Value.int .i64 _ = .int .i64 (comR r log com); unfold comR; rw [if_pos hn], rfl, rfl, rfl, rfl, rfl, rfl, rfl⟩) rfl rfl rfl rfl rfl rfl rfl
  simp only [sets] at hT4b hK4b
  have hcl := rclearS_any B g _ _ hT4b
  generalize (V.setCell ⟨g, 6, none⟩ (.int .i64 (min (max r.commit com) (log.length : Int)))).drew = V4 at *
  go_wp2_with (first
    | (go_at_call 54; refine hcl.mono ?_; rintro e w5 ⟨rfl, hT5, hK5⟩
       have hfr := rfreshS_any B g _ _ hT5)
    | (go_at_call 74; refine hfr.mono ?_; rintro e w6 ⟨rfl, hT6, hK6⟩))
  go_end0
  exact ⟨rfl, hT6, ((((hK0.trans hK2).trans hK4).trans hK4b).trans hK5).trans hK6⟩
theorem rnormalS_any (B g : Nat) (r : Rep) (log : List Ent) (bo : Option Addr) (c : Nat) (view com : Int) (w : World) (h : TurnR B w g r) (hs : SrcE B w bo c log) (hlog : log.length ≤ 1000) :
    Calls Tryz.prog 53 #[.pointer (some ⟨g, 0, none⟩), .slice bo log.length c, .int .i64 view, .int .i64 com] w fun e w' => e = .returned (.tuple #[]) ∧ TurnR B w' g (normalR r log view com) ∧ KeepM B w w' := by
  by_cases hn : r.n = 1
  · exact rnormalS_one B g r log bo c view com w h hs hlog hn
  · exact rnormalS_many B g r log bo c view com w h hs hlog hn
end Go.Proofs.YtgdehjdajjhjpaaGreat
namespace Go.Proofs.YtgdehjdajjhjpaaGreat
open Go.RowKit Num
open scoped Classical
set_option linter.unusedVariables false
set_option maxRecDepth 100000
set_option maxRecDepth 100000 in
set_option maxHeartbeats 1000000 in
theorem rone_low (g : Nat) (r : Rep) (m : Msg) (bo : Option Addr) (c : Nat) (to : Int) (w : World) {vl va vv vw vb : Value} (h : BoxF w g 25 13 (repF r vl va vv vw vb undef)) (hm : LiesE w w.heap.size bo m.log) (hml : m.log.length ≤ 1000) :
    Calls Tryz.prog 29 #[.pointer (some ⟨g, 0, none⟩), .int .i64 to, msV m bo c] w fun e w' => ∃ v, e = .returned v ∧ OwnO w.heap.size w' v (oneM r m to) ∧ Below w.heap.size w w' := by
  have hgw : g ≠ w.heap.size := Nat.ne_of_lt h.lt
  obtain ⟨k0, k1, k2, _⟩ := h.rep (by omega)
  have kk0 := fun ob : Obj => alloc_cell ob k0
  have kk2 := fun ob : Obj => alloc_cell ob k2
  have hbox : Below w.heap.size w (w.alloc (.cells #[.int .i64 m.a0, .int .i64 r.id, .int .i64 to, .int .i64 r.view, .int .i64 m.a4, .int .i64 m.a5, .int .i64 m.a6, .slice bo m.log.length c] 27)) := (Below.refl _ w).alloc (Nat.le_refl _) _
  have b3 : (w.alloc (.cells #[.int .i64 m.a0, .int .i64 r.id, .int .i64 to, .int .i64 r.view, .int .i64 m.a4, .int .i64 m.a5, .int .i64 m.a6, .slice bo m.log.length c] 27)).heap[w.heap.size]? = some (.cells #[.int .i64 m.a0, .int .i64 r.id, .int .i64 to, .int .i64 r.view, .int .i64 m.a4, .int .i64 m.a5, .int .i64 m.a6, .slice bo m.log.length c] 27 (0, 0)) := heap_new w _
  have hsz : (w.alloc (.cells #[.int .i64 m.a0, .int .i64 r.id, .int .i64 to, .int .i64 r.view, .int .i64 m.a4, .int .i64 m.a5, .int .i64 m.a6, .slice bo m.log.length c] 27)).heap.size = w.heap.size + 1 := by simp
  have hl3 : LiesE (w.alloc (.cells #[.int .i64 m.a0, .int .i64 r.id, .int .i64 to, .int .i64 r.view, .int .i64 m.a4, .int .i64 m.a5, .int .i64 m.a6, .slice bo m.log.length c] 27)) (w.alloc (.cells #[.int .i64 m.a0, .int .i64 r.id, .int .i64 to, .int .i64 r.view, .int .i64 m.a4, .int .i64 m.a5, .int .i64 m.a6, .slice bo m.log.length c] 27)).heap.size bo m.log := liesE_next hm hbox hbox.size
  have hlw : w.heap.size ≤ w.heap.size := Nat.le_refl _
  have m7 := fun ob : Obj => alloc_cell ob (box_cell b3 7 _ rfl)
  have hheld := fun ob : Obj => src_next (liesE_src hl3) ((Below.refl _ _).alloc (Nat.le_refl _) ob)
  have hmade := own_made0 (w.alloc (.cells #[.int .i64 m.a0, .int .i64 r.id, .int .i64 to, .int .i64 r.view, .int .i64 m.a4, .int .i64 m.a5, .int .i64 m.a6, .slice bo m.log.length c] 27)) 46 2
  rw [hsz] at hmade
  have HW : Hid (∀ (w2 : World) (ao1 : Option Addr) (cap1 : Nat), ((w.alloc (.cells #[.int .i64 m.a0, .int .i64 r.id, .int .i64 to, .int .i64 r.view, .int .i64 m.a4, .int .i64 m.a5, .int .i64 m.a6, .slice bo m.log.length c] 27)).alloc (.cells #[] 46)).grownBy w2 (some (w.heap.size + 1)) → w2.ownsRow (w.heap.size + 1) 46 2 (.slice ao1 m.log.length cap1) m.log.length (enCells m.log) →
      w2.heap[w.heap.size]? = some (.cells #[.int .i64 m.a0, .int .i64 r.id, .int .i64 to, .int .i64 r.view, .int .i64 m.a4, .int .i64 m.a5, .int .i64 m.a6, .slice bo m.log.length c] 27 (0, 0)) ∧ OwnO w.heap.size ((w2.setCell ⟨w.heap.size, 7, none⟩ (.slice ao1 m.log.length cap1)).alloc (.cells #[.int .i64 m.a0, .int .i64 r.id, .int .i64 to, .int .i64 r.view, .int .i64 m.a4, .int .i64 m.a5, .int .i64 m.a6, .slice ao1 m.log.length cap1] 27)) (.slice (some ⟨w2.heap.size, 0, none⟩) 1 1) (oneM r m to) ∧ Below w.heap.size w ((w2.setCell ⟨w.heap.size, 7, none⟩ (.slice ao1 m.log.length cap1)).alloc (.cells #[.int .i64 m.a0, .int .i64 r.id, .int .i64 to, .int .i64 r.view, .int .i64 m.a4, .int .i64 m.a5, .int .i64 m.a6, .slice ao1 m.log.length cap1] 27))) := by
    intro w2 ao1 cap1 hgr hown
    have hW12 : Below (w.heap.size + 1) (w.alloc (.cells #[.int .i64 m.a0, .int .i64 r.id, .int .i64 to, .int .i64 r.view, .int .i64 m.a4, .int .i64 m.a5, .int .i64 m.a6, .slice bo m.log.length c] 27)) w2 := ((Below.refl _ (w.alloc (.cells #[.int .i64 m.a0, .int .i64 r.id, .int .i64 to, .int .i64 r.view, .int .i64 m.a4, .int .i64 m.a5, .int .i64 m.a6, .slice bo m.log.length c] 27))).alloc (Nat.le_of_eq hsz.symm) _).grown hgr (by simp) (fun j hj => by cases hj; exact Nat.le_refl _)
    have bw2 := (hW12.block w.heap.size (by omega)).trans b3
    have hst := ms_stay (i := 7) bw2 (.slice ao1 m.log.length cap1)
    have hsX : (w2.setCell ⟨w.heap.size, 7, none⟩ (.slice ao1 m.log.length cap1)).heap.size = w2.heap.size := by simp [World.setCell]
    have hlow : Below w.heap.size w2 (w2.setCell ⟨w.heap.size, 7, none⟩ (.slice ao1 m.log.length cap1)) := (Below.refl _ w2).setCell (p := ⟨w.heap.size, 7, none⟩) hlw _
    have hbY := (Below.refl _ (w2.setCell ⟨w.heap.size, 7, none⟩ (.slice ao1 m.log.length cap1))).alloc (Nat.le_refl _) (.cells #[.int .i64 m.a0, .int .i64 r.id, .int .i64 to, .int .i64 r.view, .int .i64 m.a4, .int .i64 m.a5, .int .i64 m.a6, .slice ao1 m.log.length cap1] 27)
    have hs12 := hW12.size
    rw [hsz] at hs12
    refine ⟨bw2, ⟨[mc (toM r m to) (.slice ao1 m.log.length cap1)], rfl, fun cs hcs => ?_, ?_, fun i cs x hi hx => ?_⟩, ((hbox.trans (hW12.mono (by omega))).trans hlow).trans (hbY.mono (by rw [hsX]; omega))⟩
    · rw [List.mem_singleton.1 hcs]
      exact ⟨rfl, mc_one _ _ _ _⟩
    · exact ⟨by simp [mc], .inr ⟨w2.heap.size, 1, _, rfl, by omega, heap_newB _ _ _ hsX, Nat.le_refl _, by unfold maxLen; omega, rfl, by simp [mc, toM]⟩⟩
    · match i, hi, hx with
      | 0, hi, hx =>
        cases hi
        cases hx
        exact ⟨_, rfl, own_mono (own_below (own_stay hown hst (by decide) (fun _ h => h)) hbY) (by omega)⟩
      | i + 1, hi, hx => simp at hi
  clear h hl3 hbox hm k0 k1 k2 hsz
  go_enter Tryz.func29, Tryz.ntmps29
  go_wp2_with (first
    | (at_builtin; refine wpList_app_g Tryz.underlying22 Tryz.infoEn (by decide) _ rfl _ _ rfl (w.heap.size + 1) (.slice (some ⟨w.heap.size + 1, 0, none⟩) 0 0) 0 [] rfl hmade bo m.log.length c (enCells m.log) rfl (hheld _) (by omega) (by simp) ?_; intro v1 w2 hown1 hgrow1 hnear1; obtain ⟨ao1, cap1, rfl⟩ := own_form hown1
       rw [List.nil_append] at hown1
       simp only [Nat.zero_add] at hown1
       obtain ⟨bw2, hOX, hbX⟩ := HW.out w2 ao1 cap1 hgrow1 hown1
       have n0 := box_cell bw2 0 _ rfl
       have n1 := box_cell bw2 1 _ rfl
       have n2 := box_cell bw2 2 _ rfl
       have n3 := box_cell bw2 3 _ rfl
       have n4 := box_cell bw2 4 _ rfl
       have n5 := box_cell bw2 5 _ rfl
       have n6 := box_cell bw2 6 _ rfl
       have n7 := box_cell bw2 7 _ rfl
       have nz := box_open bw2))
  go_ret
  exact ⟨_, rfl, hOX, hbX⟩
theorem rone_any (B g : Nat) (r : Rep) (m : Msg) (bo : Option Addr) (c : Nat) (to : Int) (w : World) (h : TurnR B w g r) (hm : SrcE B w bo c m.log) (hml : m.log.length ≤ 1000) :
    Calls Tryz.prog 29 #[.pointer (some ⟨g, 0, none⟩), .int .i64 to, msV m bo c] w fun e w' => ∃ v, e = .returned v ∧ OwnO B w' v (oneM r m to) ∧ TurnR B w' g r ∧ KeepM B w w' := by
  obtain ⟨s, _, _, _, hH⟩ := h.cells
  refine (rone_low g r m bo c to w hH.box (hm.lies h.base) hml).mono ?_
  rintro e w' ⟨v, rfl, ho, hb⟩
  exact ⟨v, rfl, ownO_mono ho h.base, h.below hb, KeepM.of_below hb h.base⟩
theorem ownO_keep {B : Nat} {w w' : World} {v : Value} {l : Msgs} (h : OwnO B w v l) (hk : KeepM B w w') : OwnO B w' v l := by
  obtain ⟨css, a, b, ⟨h1, h2⟩, d⟩ := h
  refine ⟨css, a, b, ⟨h1, ?_⟩, fun i cs x hi hx => ?_⟩
  · rcases h2 with h0 | ⟨g, cap, cur, hv, hb, hg, q⟩
    · exact .inl h0
    · exact .inr ⟨g, cap, cur, hv, hb, (hk.ms g _ _ hg).trans hg, q⟩
  · obtain ⟨c, e, hc1, hc2⟩ := d i cs x hi hx
    refine ⟨c, e, hc1, ?_⟩
    rcases hc2 with h0 | ⟨g, cap, cur, hv, hb, hg, q⟩
    · exact .inl h0
    · exact .inr ⟨g, cap, cur, hv, hb, (hk.ent g _ _ hg).trans hg, q⟩
/-- Of one list behind another one: what is there. -/
theorem ownO_behind {B : Nat} {w w' : World} {v1 v2 v' : Value} {q1 q2 : Msgs} {css1 css2 : List (List Value)} (a1 : css1.length = q1.length) (a2 : ∀ cs ∈ css1, cs.length = 8 ∧ ∀ u ∈ cs, u.oneCell' = true) (a3 : w.ownsRow B 27 8 v1 q1.length css1.flatten) (a4 : ∀ (i : Nat) cs x, css1[i]? = some cs → q1[i]? = some x → MsO B w cs x)
    (b1 : css2.length = q2.length) (b2 : ∀ cs ∈ css2, cs.length = 8 ∧ ∀ u ∈ cs, u.oneCell' = true) (b4 : ∀ (i : Nat) cs x, css2[i]? = some cs → q2[i]? = some x → MsO B w cs x) (hown : w'.ownsRow B 27 8 v' (q1.length + q2.length) (css1.flatten ++ css2.flatten)) (hgrow : w.grownBy w' v1.ownBlock) :
    OwnO B w' v' (q1 ++ q2) ∧ Stay (fun _ => False) 27 w w' := by
  have hst : Stay (fun _ => False) 27 w w' := Stay.grown a3 hgrow
  refine ⟨⟨css1 ++ css2, by simp [a1, b1], fun cs hcs => ?_, by rw [List.flatten_append, List.length_append]; exact hown, fun i cs x hi hx => ?_⟩, hst⟩
  · rcases List.mem_append.1 hcs with h | h
    · exact a2 cs h
    · exact b2 cs h
  · by_cases hl : i < q1.length
    · rw [List.getElem?_append_left (by omega)] at hi
      rw [List.getElem?_append_left hl] at hx
      exact msO_stay hst (a4 i cs x hi hx)
    · rw [List.getElem?_append_right (by omega)] at hi hx
      rw [a1] at hi
      exact msO_stay hst (b4 _ cs x hi hx)
theorem flat_one {css : List (List Value)} (h : ∀ cs ∈ css, cs.length = 8 ∧ ∀ u ∈ cs, u.oneCell' = true) : ∀ u ∈ css.flatten, u.oneCell' = true := by
  intro u hu
  obtain ⟨cs, h1, h2⟩ := List.mem_flatten.1 hu
  exact (h cs h1).2 u h2
theorem rmost_any (n : Int) (hn : 0 ≤ n ∧ n ≤ 1000) (w : World) : Calls Tryz.prog 50 #[.int .i64 n] w fun e w' => e = .returned (.int .i64 (mostN n)) ∧ w' = w := by
  have h1 : Int.tdiv n 2 = n / 2 := Int.tdiv_eq_ediv_of_nonneg hn.1
  have h2 : IntKind.i64.wrap (n / 2) = n / 2 := by rw [IntKind.wrap_i64]; omega
  have h3 : IntKind.i64.wrap (n / 2 + 1) = n / 2 + 1 := by rw [IntKind.wrap_i64]; omega
  go_enter Tryz.func50, Tryz.ntmps50
  go_wp2
  go_ret
  exact ⟨rfl, rfl⟩
end Go.Proofs.YtgdehjdajjhjpaaGreat
namespace Go.Proofs.YtgdehjdajjhjpaaGreat
open Go.RowKit Num
open scoped Classical
set_option linter.unusedVariables false
set_option maxRecDepth 100000
theorem app_int {w0 wr : World} {v : Value} {q : List Int} (hbel : Below w0.heap.size w0 wr) (hrow : wr.ownsRow w0.heap.size 3 1 v q.length (inCells q)) (k : Int) :
    (wr.alloc (.cells #[.int .i64 k] 3)).ownsRow w0.heap.size 3 1 v q.length (inCells q) ∧ Held (wr.alloc (.cells #[.int .i64 k] 3)) (some ⟨wr.heap.size, 0, none⟩) 1 1 (inCells [k]) ∧ w0.heap.size ≤ (wr.alloc (.cells #[.int .i64 k] 3)).heap.size := by
  have hb := (Below.refl _ wr).alloc (Nat.le_refl _) (.cells #[.int .i64 k] 3)
  exact ⟨own_below hrow hb, ⟨rfl, inCells_one _, fun h => (by cases h), fun a h j u hj => by cases h; exact new_cells wr 3 [.int .i64 k] _ rfl j u hj⟩, Nat.le_trans hbel.size hb.size⟩
theorem app_int_out {w0 wr w1 : World} {v v' : Value} {q : List Int} {k : Int} (hbel : Below w0.heap.size w0 wr) (hrow : wr.ownsRow w0.heap.size 3 1 v q.length (inCells q)) (hown : w1.ownsRow w0.heap.size 3 1 v' (q.length + 1) (inCells q ++ inCells [k])) (hgrow : (wr.alloc (.cells #[.int .i64 k] 3)).grownBy w1 v.ownBlock) :
    w1.ownsRow w0.heap.size 3 1 v' (q ++ [k]).length (inCells (q ++ [k])) ∧ Below w0.heap.size w0 w1 := by
  have hb := (Below.refl _ wr).alloc (Nat.le_refl _) (.cells #[.int .i64 k] 3)
  refine ⟨by simpa [inCells] using hown, ((hbel.trans (hb.mono hbel.size))).trans ((Below.refl _ _).grown hgrow (Nat.le_trans hbel.size hb.size) (fun j hj => (hrow.lt j hj).1))⟩
def Num.AddI (l : List Int) (k : Int) (j : Nat) (q : List Int) : Bool → Prop
  | true => addI l k = q ++ l.drop j
  | false => addI l k = q ++ addI (l.drop j) k
theorem addI_cons (a k : Int) (l : List Int) : addI (a :: l) k = if k < a then k :: a :: l else a :: addI l k := rfl
set_option maxRecDepth 100000 in
set_option maxHeartbeats 1000000 in
theorem radd_any (l : List Int) (k : Int) (ao : Option Addr) (cap : Nat) (hlen : l.length ≤ 1000) (w : World) (hl : LiesN w w.heap.size ao l) :
    Calls Tryz.prog 49 #[.slice ao l.length cap, .int .i64 k] w fun e w' => (k ∈ l ∧ e = .returned (.tuple #[.slice ao l.length cap, .bool false]) ∨ k ∉ l ∧ ∃ ao' cap', e = .returned (.tuple #[.slice ao' (addI l k).length cap', .bool true]) ∧ w'.ownsRow w.heap.size 3 1 (.slice ao' (addI l k).length cap') (addI l k).length (inCells (addI l k))) ∧ Below w.heap.size w w' := by
  go_enter Tryz.func49, Tryz.ntmps49
  go_wp2
  go_loopw [6, 7, 8] (fun v p i wr => ∃ (j : Nat) (q : List Int) (pb : Bool), j ≤ l.length ∧ i = .int .i64 (j : Int) ∧ p = .bool pb ∧ Hid (k ∉ l.take j ∧ AddI l k j q pb ∧ q.length ≤ j + pb.toNat) ∧ Hid (wr.ownsRow w.heap.size 3 1 v q.length (inCells q)) ∧ Below w.heap.size w wr) (fun _ _ i _ => l.length - (intOf i).toNat)
  case atStart => exact ⟨0, [], false, by omega, rfl, rfl, ⟨by simp, rfl, by simp⟩, World.ownsRow_nil _ _ _ _, Below.refl _ _⟩
  case round =>
    obtain ⟨j, q, pb, hj, rfl, rfl, HQ, HR, hbel⟩ := hrel
    by_cases hjl : j < l.length
    · have HX : Hid (l[j]? = some l[j]) := List.getElem?_eq_getElem hjl
      have HD : Hid (l.drop j = l[j] :: l.drop (j + 1) ∧ l.take (j + 1) = l.take j ++ [l[j]] ∧ (l[j] = k → k ∈ l)) := ⟨List.drop_eq_getElem_cons hjl, by rw [List.take_add_one, HX.out]; rfl, fun h => by rw [← h]; exact List.getElem_mem hjl⟩
      obtain ⟨a, rfl, _, c0⟩ := liesN_wide hl hbel hbel.size j l[j] HX.out
      have HL : Hid (∀ w1, Below w.heap.size w w1 → w1.cell? (a.add j) = some (.int .i64 l[j])) := fun w1 hb1 => by
        obtain ⟨a', e, _, c1⟩ := liesN_wide hl hb1 hb1.size j l[j] HX.out
        cases e
        unfold NumAt at c1
        rw [Nat.mul_one] at c1
        exact c1
      unfold NumAt at c0
      rw [Nat.mul_one] at c0
      have i1 : (j : Int) < (l.length : Int) := by omega
      clear HX
      generalize l[j] = y at *
      obtain ⟨a1, a2, a3⟩ := app_int hbel HR.out y
      have HQl : q.length ≤ 1001 := by have := HQ.out.2.2; have := Bool.toNat_le pb; omega
      by_cases hyk : y = k
      · have hmem := HD.out.2.2 hyk
        have e1 : decide (y = k) = true := decide_eq_true hyk
        go_wp2
        refine bodyPost_ret (v := .tuple #[.slice (some a) l.length cap, .bool false]) (by simp [results, Tryz.results49, go_sem]) rfl ⟨.inl ⟨hmem, rfl⟩, hbel⟩
      · have HN : Hid (k ∉ l.take (j + 1)) := by
          intro h
          rw [HD.out.2.1] at h
          rcases List.mem_append.1 h with h | h
          · exact HQ.out.1 h
          · exact hyk (List.mem_singleton.1 h).symm
        have e1 : decide (y = k) = false := decide_eq_false hyk
        cases pb with
        | true =>
          have HA : Hid (AddI l k (j + 1) (q ++ [y]) true) := by
            have h1 : addI l k = q ++ l.drop j := HQ.out.2.1
            show addI l k = (q ++ [y]) ++ l.drop (j + 1)
            rw [h1, HD.out.1]
            simp
          clear HD
          go_wp2_with (first
            | (at_builtin; refine wpList_app_g Tryz.underlying23 Tryz.infoInt (by decide) _ rfl _ _ rfl w.heap.size _ _ _ rfl a1 (some ⟨wr.heap.size, 0, none⟩) 1 1 _ rfl a2 (by omega) a3 ?_; intro v1 w1 hown1 hgrow1 _; obtain ⟨hr1, hb1⟩ := app_int_out hbel HR.out hown1 hgrow1))
          go_roundw
          case rel => exact ⟨j + 1, q ++ [y], true, by omega, by go_num, rfl, ⟨HN.out, HA.out, by have := HQ.out.2.2; simp at this ⊢; omega⟩, hr1, hb1⟩
          case measure => simp [intOf]; omega
        | false =>
          by_cases hky : k < y
          · have HA : Hid (AddI l k (j + 1) ((q ++ [k]) ++ [y]) true) := by
              have h1 : addI l k = q ++ addI (l.drop j) k := HQ.out.2.1
              show addI l k = ((q ++ [k]) ++ [y]) ++ l.drop (j + 1)
              rw [h1, HD.out.1, addI_cons, if_pos hky]
              simp
            obtain ⟨d1, d2, d3⟩ := app_int hbel HR.out k
            have g1 : decide (k < y) = true := decide_eq_true hky
            clear HD a1 a2 a3
            go_wp2_with (first
              | (at_builtin; refine wpList_app_g Tryz.underlying23 Tryz.infoInt (by decide) _ rfl _ _ rfl w.heap.size _ _ _ rfl d1 (some ⟨wr.heap.size, 0, none⟩) 1 1 _ rfl d2 (by omega) d3 ?_; intro v1 w1 hown1 hgrow1 _; obtain ⟨hr1, hb1⟩ := app_int_out hbel HR.out hown1 hgrow1
                 obtain ⟨f1, f2, f3⟩ := app_int hb1 hr1 y
                 have c1 := HL.out w1 hb1
                 have hql : (q ++ [k]).length ≤ 1002 := by simp; omega
                 clear d1 d2 d3)
              | (at_builtin; refine wpList_app_g Tryz.underlying23 Tryz.infoInt (by decide) _ rfl _ _ rfl w.heap.size _ _ _ rfl f1 (some ⟨w1.heap.size, 0, none⟩) 1 1 _ rfl f2 (by omega) f3 ?_; intro v2 w2 hown2 hgrow2 _; obtain ⟨hr2, hb2⟩ := app_int_out hb1 hr1 hown2 hgrow2))
            go_roundw
            case rel => exact ⟨j + 1, (q ++ [k]) ++ [y], true, by omega, by go_num, rfl, ⟨HN.out, HA.out, by have := HQ.out.2.2; simp at this ⊢; omega⟩, hr2, hb2⟩
            case measure => simp [intOf]; omega
          · have HA : Hid (AddI l k (j + 1) (q ++ [y]) false) := by
              have h1 : addI l k = q ++ addI (l.drop j) k := HQ.out.2.1
              show addI l k = (q ++ [y]) ++ addI (l.drop (j + 1)) k
              rw [h1, HD.out.1, addI_cons, if_neg hky]
              simp
            have g1 : decide (k < y) = false := decide_eq_false hky
            clear HD
            go_wp2_with (first
              | (at_builtin; refine wpList_app_g Tryz.underlying23 Tryz.infoInt (by decide) _ rfl _ _ rfl w.heap.size _ _ _ rfl a1 (some ⟨wr.heap.size, 0, none⟩) 1 1 _ rfl a2 (by omega) a3 ?_; intro v1 w1 hown1 hgrow1 _; obtain ⟨hr1, hb1⟩ := app_int_out hbel HR.out hown1 hgrow1))
            go_roundw
            case rel => exact ⟨j + 1, q ++ [y], false, by omega, by go_num, rfl, ⟨HN.out, HA.out, by have := HQ.out.2.2; simp at this ⊢; omega⟩, hr1, hb1⟩
            case measure => simp [intOf]; omega
    · obtain rfl : j = l.length := by omega
      have HK : Hid (k ∉ l) := by have := HQ.out.1; rw [List.take_length] at this; exact this
      have i1 : ¬ (l.length : Int) < (l.length : Int) := by omega
      have HQl : q.length ≤ 1001 := by have := HQ.out.2.2; have := Bool.toNat_le pb; omega
      cases pb with
      | true =>
        have HA : Hid (addI l k = q) := by
          have h1 : addI l k = q ++ l.drop l.length := HQ.out.2.1
          show addI l k = q
          rw [h1]
          simp
        obtain ⟨ao2, cap2, rfl⟩ := own_form HR.out
        go_wp2
        refine bodyPost_ret (v := .tuple #[.slice ao2 q.length cap2, .bool true]) (by simp [results, Tryz.results49, go_sem]) rfl ⟨.inr ⟨HK.out, ao2, cap2, by rw [HA.out], by rw [HA.out]; exact HR.out⟩, hbel⟩
      | false =>
        have HA : Hid (addI l k = q ++ [k]) := by
          have h1 : addI l k = q ++ addI (l.drop l.length) k := HQ.out.2.1
          show addI l k = q ++ [k]
          rw [h1]
          simp [addI]
        obtain ⟨d1, d2, d3⟩ := app_int hbel HR.out k
        go_wp2_with (first
          | (at_builtin; refine wpList_app_g Tryz.underlying23 Tryz.infoInt (by decide) _ rfl _ _ rfl w.heap.size _ _ _ rfl d1 (some ⟨wr.heap.size, 0, none⟩) 1 1 _ rfl d2 (by omega) d3 ?_; intro v1 w1 hown1 hgrow1 _; obtain ⟨hr1, hb1⟩ := app_int_out hbel HR.out hown1 hgrow1; obtain ⟨ao2, cap2, rfl⟩ := own_form hr1))
        refine bodyPost_ret (v := .tuple #[.slice ao2 (q ++ [k]).length cap2, .bool true]) (by simp [results, Tryz.results49, go_sem]) rfl ⟨.inr ⟨HK.out, ao2, cap2, by rw [HA.out], by rw [HA.out]; exact hr1⟩, hb1⟩
theorem radd_yes (l : List Int) (k : Int) (hk : k ∈ l) (ao : Option Addr) (cap : Nat) (hlen : l.length ≤ 1000) (w : World) (hl : LiesN w w.heap.size ao l) :
    Calls Tryz.prog 49 #[.slice ao l.length cap, .int .i64 k] w fun e w' => e = .returned (.tuple #[.slice ao l.length cap, .bool false]) ∧ Below w.heap.size w w' :=
  (radd_any l k ao cap hlen w hl).mono fun e w' ⟨h, hb⟩ => ⟨by rcases h with h | h; exact h.2; exact absurd hk h.1, hb⟩
theorem radd_no (l : List Int) (k : Int) (hk : k ∉ l) (ao : Option Addr) (cap : Nat) (hlen : l.length ≤ 1000) (w : World) (hl : LiesN w w.heap.size ao l) :
    Calls Tryz.prog 49 #[.slice ao l.length cap, .int .i64 k] w fun e w' => ∃ ao' cap', e = .returned (.tuple #[.slice ao' (addI l k).length cap', .bool true]) ∧ w'.ownsRow w.heap.size 3 1 (.slice ao' (addI l k).length cap') (addI l k).length (inCells (addI l k)) ∧ Below w.heap.size w w' :=
  (radd_any l k ao cap hlen w hl).mono fun e w' ⟨h, hb⟩ => by
    rcases h with h | h
    · exact absurd h.1 hk
    · obtain ⟨_, ao', cap', e1, h2⟩ := h
      exact ⟨ao', cap', e1, h2, hb⟩
theorem turnS_votes {B : Nat} {w : World} {g : Nat} {r : Rep} (h : TurnR B w g r) {w1 : World} (hb1 : Below w.heap.size w w1) (log : List Int) {ao : Option Addr} {cap : Nat} (hown : w1.ownsRow w.heap.size 3 1 (.slice ao log.length cap) log.length (inCells log)) :
    (TurnR B (w1.setCell ⟨g, 8, none⟩ (.slice ao log.length cap)) g { r with votes := log } ∧ KeepM B w (w1.setCell ⟨g, 8, none⟩ (.slice ao log.length cap))) ∧ (∃ u, w1.cell? ⟨g, 8, none⟩ = some u) ∧ w1.frozen? ⟨g, 8, none⟩ = false := by
  obtain ⟨⟨vl, va, vv, vw, vb, h⟩, hB, h1, hll, hbl, ha⟩ := h
  have h' := h.below hb1
  have hk := (KeepM.of_below hb1 hB).trans (sets_keepM h'.base h'.box (by decide) (by decide) [(8, .slice ao log.length cap)])
  exact ⟨⟨⟨⟨_, _, _, _, _, hold_sets h' (by omega) (by decide) (by decide) [(8, .slice ao log.length cap)] (r' := { r with votes := log }) (x' := undef) ⟨h'.rows.log, h'.rows.best, h'.rows.ack, own_mono hown hB, h'.rows.vor, h'.rows.a1, apart_new h.rows.ack hown, h'.rows.a3, (apart_new h.rows.vor hown).symm⟩ (fun f f' e e' => by subst e e'; exact ⟨rfl, rfl, rfl, rfl, rfl, rfl, rfl, rfl, rfl, rfl, rfl, rfl, rfl, rfl⟩)⟩, Nat.le_trans hB hk.low.size, h1, hll, hbl, ha⟩, hk⟩, ⟨_, h'.box.cell 8 (by omega)⟩, h'.box.unfrozen 8⟩
theorem turnS_voters {B : Nat} {w : World} {g : Nat} {r : Rep} (h : TurnR B w g r) {w1 : World} (hb1 : Below w.heap.size w w1) (log : List Int) {ao : Option Addr} {cap : Nat} (hown : w1.ownsRow w.heap.size 3 1 (.slice ao log.length cap) log.length (inCells log)) :
    (TurnR B (w1.setCell ⟨g, 9, none⟩ (.slice ao log.length cap)) g { r with voters := log } ∧ KeepM B w (w1.setCell ⟨g, 9, none⟩ (.slice ao log.length cap))) ∧ (∃ u, w1.cell? ⟨g, 9, none⟩ = some u) ∧ w1.frozen? ⟨g, 9, none⟩ = false := by
  obtain ⟨⟨vl, va, vv, vw, vb, h⟩, hB, h1, hll, hbl, ha⟩ := h
  have h' := h.below hb1
  have hk := (KeepM.of_below hb1 hB).trans (sets_keepM h'.base h'.box (by decide) (by decide) [(9, .slice ao log.length cap)])
  exact ⟨⟨⟨⟨_, _, _, _, _, hold_sets h' (by omega) (by decide) (by decide) [(9, .slice ao log.length cap)] (r' := { r with voters := log }) (x' := undef) ⟨h'.rows.log, h'.rows.best, h'.rows.ack, h'.rows.vot, own_mono hown hB, h'.rows.a1, h'.rows.a2, apart_new h.rows.ack hown, apart_new h.rows.vot hown⟩ (fun f f' e e' => by subst e e'; exact ⟨rfl, rfl, rfl, rfl, rfl, rfl, rfl, rfl, rfl, rfl, rfl, rfl, rfl, rfl⟩)⟩, Nat.le_trans hB hk.low.size, h1, hll, hbl, ha⟩, hk⟩, ⟨_, h'.box.cell 9 (by omega)⟩, h'.box.unfrozen 9⟩
theorem turnS_best {B : Nat} {w : World} {g : Nat} {r : Rep} (h : TurnR B w g r) {w1 : World} (hb1 : Below w.heap.size w w1) (log : List Ent) (hl : log.length ≤ 1000) {ao : Option Addr} {cap : Nat} (hown : w1.ownsRow w.heap.size 46 2 (.slice ao log.length cap) log.length (enCells log)) :
    (TurnR B (w1.setCell ⟨g, 10, none⟩ (.slice ao log.length cap)) g { r with best := log } ∧ KeepM B w (w1.setCell ⟨g, 10, none⟩ (.slice ao log.length cap))) ∧ (∃ u, w1.cell? ⟨g, 10, none⟩ = some u) ∧ w1.frozen? ⟨g, 10, none⟩ = false := by
  obtain ⟨⟨vl, va, vv, vw, vb, h⟩, hB, h1, hll, hbl, ha⟩ := h
  have h' := h.below hb1
  have hk := (KeepM.of_below hb1 hB).trans (sets_keepM h'.base h'.box (by decide) (by decide) [(10, .slice ao log.length cap)])
  exact ⟨⟨⟨⟨_, _, _, _, _, hold_sets h' (by omega) (by decide) (by decide) [(10, .slice ao log.length cap)] (r' := { r with best := log }) (x' := undef) ⟨h'.rows.log, own_mono hown hB, h'.rows.ack, h'.rows.vot, h'.rows.vor, apart_new h.rows.log hown, h'.rows.a2, h'.rows.a3, h'.rows.a4⟩ (fun f f' e e' => by subst e e'; exact ⟨rfl, rfl, rfl, rfl, rfl, rfl, rfl, rfl, rfl, rfl, rfl, rfl, rfl, rfl⟩)⟩, Nat.le_trans hB hk.low.size, h1, hll, hl, ha⟩, hk⟩, ⟨_, h'.box.cell 10 (by omega)⟩, h'.box.unfrozen 10⟩
end Go.Proofs.YtgdehjdajjhjpaaGreat
