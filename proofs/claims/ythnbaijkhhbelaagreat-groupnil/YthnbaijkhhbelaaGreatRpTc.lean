/-
  Contracts of a replica at work: it is normal; it changes; it suspects; it starts again.
-/
import Derived.Test.YthnbaijkhhbelaaGreatRpTb
namespace Go.Proofs.YthnbaijkhhbelaaGreat
open Go.RowKit Num
set_option linter.unusedVariables false
set_option maxRecDepth 100000

theorem turn_sets {B : Nat} {w : World} {g : Nat} {r : Rep} {o : Msgs} (h : Turn B w g r o) (l : List (Nat × Value)) (r' : Rep)
    (e : ∀ (vl va vv vw vb x : Value) (f f' : Nat → Value), f = upds (repF r vl va vv vw vb x) l → f' = repF r' vl va vv vw vb x → f 0 = f' 0 ∧ f 1 = f' 1 ∧ f 2 = f' 2 ∧ f 3 = f' 3 ∧ f 4 = f' 4 ∧ f 5 = f' 5 ∧ f 6 = f' 6 ∧ f 7 = f' 7 ∧ f 8 = f' 8 ∧ f 9 = f' 9 ∧ f 10 = f' 10 ∧ f 11 = f' 11 ∧ f 12 = f' 12 ∧ f 13 = f' 13)
    (e1 : r'.log = r.log) (e2 : r'.best = r.best) (e3 : r'.acked = r.acked) (e4 : r'.votes = r.votes) (e5 : r'.voters = r.voters) (e6 : r'.id = r.id) (e7 : r'.n = r.n) : Turn B (sets w g l) g r' o ∧ Keep B w (sets w g l) := by
  obtain ⟨⟨vl, va, vv, vw, vb, x, h, ho⟩, hB, h1, hl, hb, ha⟩ := h
  have hk := sets_keep h.base h.box (by decide) l
  exact ⟨⟨⟨vl, va, vv, vw, vb, x, hold_sets h (by omega) (by decide) (by decide) l (by rw [e1, e2, e3, e4, e5]; exact h.rows) (e vl va vv vw vb x), ownO_stay ho (sets_box l h.box).2 (by decide) (by decide)⟩, Nat.le_trans hB hk.low.size, by rw [e6, e7]; exact h1, by rw [e1]; exact hl, by rw [e2]; exact hb, by rw [e3, e7]; exact ha⟩, hk⟩
theorem Num.Turn.cells {B : Nat} {w : World} {g : Nat} {r : Rep} {o : Msgs} (h : Turn B w g r o) : ∃ (s : Sl) (xo : Option Addr) (xc : Nat), (w.cell? ⟨g, 0, none⟩ = some (.int .i64 r.id) ∧ w.cell? ⟨g, 1, none⟩ = some (.int .i64 r.n) ∧ w.cell? ⟨g, 2, none⟩ = some (.int .i64 r.view) ∧ w.cell? ⟨g, 3, none⟩ = some (.int .i64 r.normal) ∧ w.cell? ⟨g, 4, none⟩ = some (.int .i64 r.how) ∧ w.cell? ⟨g, 5, none⟩ = some (.slice s.lo r.log.length s.lc) ∧ w.cell? ⟨g, 6, none⟩ = some (.int .i64 r.commit) ∧ w.cell? ⟨g, 7, none⟩ = some (.slice s.ao r.acked.length s.ac) ∧ w.cell? ⟨g, 8, none⟩ = some (.slice s.vo r.votes.length s.vc) ∧ w.cell? ⟨g, 9, none⟩ = some (.slice s.wo r.voters.length s.wc) ∧ w.cell? ⟨g, 10, none⟩ = some (.slice s.bo r.best.length s.bc) ∧ w.cell? ⟨g, 11, none⟩ = some (.int .i64 r.bestView) ∧ w.cell? ⟨g, 12, none⟩ = some (.int .i64 r.bestDone) ∧ w.cell? ⟨g, 13, none⟩ = some (.slice xo o.length xc)) ∧ (∀ k, w.frozen? ⟨g, k, none⟩ = false) ∧ LiesR w w.heap.size s r ∧ (Hold 143 14 (.slice xo o.length xc) B w g r (.slice s.lo r.log.length s.lc) (.slice s.ao r.acked.length s.ac) (.slice s.vo r.votes.length s.vc) (.slice s.wo r.voters.length s.wc) (.slice s.bo r.best.length s.bc) ∧ OwnO B w (.slice xo o.length xc) o) := by
  obtain ⟨⟨vl, va, vv, vw, vb, x, h, ho⟩, hB, h1, hl, hb, ha⟩ := h
  obtain ⟨k0, k1, k2, k3, k4, k5, k6, k7, k8, k9, k10, k11, k12⟩ := h.cells (by omega)
  obtain ⟨lo, lc, rfl, l1⟩ := ownE_lies h.rows.log
  obtain ⟨bo, bc, rfl, l2⟩ := ownE_lies h.rows.best
  obtain ⟨ao, ac, rfl, l3⟩ := ownN_lies h.rows.ack
  obtain ⟨vo, vc, rfl, l4⟩ := ownN_lies h.rows.vot
  obtain ⟨wo, wc, rfl, l5⟩ := ownN_lies h.rows.vor
  obtain ⟨xo, xc, rfl⟩ := ho.shape
  exact ⟨⟨lo, lc, ao, ac, vo, vc, wo, wc, bo, bc⟩, xo, xc, ⟨k0, k1, k2, k3, k4, k5, k6, k7, k8, k9, k10, k11, k12, h.box.cell 13 (by omega)⟩, h.box.unfrozen, ⟨l1, l3, l4, l5, l2⟩, h, ho⟩
theorem Num.Hold.src {t : TypeId} {N : Nat} {x : Value} {B : Nat} {w : World} {g : Nat} {r : Rep} {lo : Option Addr} {lc : Nat} {va vv vw vb : Value} (h : Hold t N x B w g r (.slice lo r.log.length lc) va vv vw vb) : SrcE B w lo lc r.log := .inr h.rows.log
/-- Another log, the call's own, is put in. -/
theorem turn_log {B : Nat} {w : World} {g : Nat} {r : Rep} {o : Msgs} (h : Turn B w g r o) {w1 : World} (hb1 : Below w.heap.size w w1) (log : List Ent) (hl : log.length ≤ 1000) {ao : Option Addr} {cap : Nat} (hown : w1.ownsRow w.heap.size 78 2 (.slice ao log.length cap) log.length (enCells log)) :
    Turn B (w1.setCell ⟨g, 5, none⟩ (.slice ao log.length cap)) g { r with log := log } o ∧ Keep B w (w1.setCell ⟨g, 5, none⟩ (.slice ao log.length cap)) := by
  obtain ⟨⟨vl, va, vv, vw, vb, x, h, ho⟩, hB, h1, hl0, hb, ha⟩ := h
  have h' := h.below hb1
  have ho' := ownO_below ho hb1
  have hk := (Keep.of_below hb1 hB).trans (sets_keep h'.base h'.box (by decide) [(5, .slice ao log.length cap)])
  exact ⟨⟨⟨_, _, _, _, _, _, hold_sets h' (by omega) (by decide) (by decide) [(5, .slice ao log.length cap)] (r' := { r with log := log }) (x' := x) ⟨own_mono hown hB, h'.rows.best, h'.rows.ack, h'.rows.vot, h'.rows.vor, (apart_new h.rows.best hown).symm, h'.rows.a2, h'.rows.a3, h'.rows.a4⟩ (fun f f' e e' => by subst e e'; exact ⟨rfl, rfl, rfl, rfl, rfl, rfl, rfl, rfl, rfl, rfl, rfl, rfl, rfl, rfl⟩), ownO_stay ho' (sets_box [(5, .slice ao log.length cap)] h'.box).2 (by decide) (by decide)⟩, Nat.le_trans hB hk.low.size, h1, hl, hb, ha⟩, hk⟩
set_option maxHeartbeats 1000000 in
theorem normalT_any (B g : Nat) (r : Rep) (o : Msgs) (log : List Ent) (bo : Option Addr) (c : Nat) (view com : Int) (w : World) (h : Turn B w g r o) (hs : SrcE B w bo c log) (hlog : log.length ≤ 1000) :
    Calls Tryz.prog 112 #[.pointer (some ⟨g, 0, none⟩), .int .i64 view, .slice bo log.length c, .int .i64 com] w fun e w' => e = .returned (.tuple #[]) ∧ Turn B w' g (normalR r log view com) o ∧ Keep B w w' := by
  have hB := h.base
  obtain ⟨s, xo, xc, ⟨k0, k1, k2, k3, k4, k5, k6, k7, k8, k9, k10, k11, k12, k13⟩, z, _⟩ := h.cells
  obtain ⟨hT0, hK0⟩ := turn_sets h [(2, .int .i64 view), (3, .int .i64 view), (4, .int .i64 0)] { r with view := view, normal := view, how := 0 } (fun _ _ _ _ _ _ f f' e e' => by subst e e'; exact ⟨rfl, rfl, rfl, rfl, rfl, rfl, rfl, rfl, rfl, rfl, rfl, rfl, rfl, rfl⟩) rfl rfl rfl rfl rfl rfl rfl
  have hcl := cloneE_any bo log.length c (enCells log) (by omega) _ (liesE_src ((hs.keep hK0).lies hT0.base))
  simp only [sets] at hT0 hK0 hcl
  clear h k0 k1 k5 k6 k7 k8 k9 k10 k11 k12 k13
  have key : ∀ w4, Turn B w4 g (freshR (clearR { r with view := view, normal := view, how := 0, log := log })) o → ∃ xo4 xc4, w4.cell? ⟨g, 6, none⟩ = some (.int .i64 r.commit) ∧ w4.cell? ⟨g, 1, none⟩ = some (.int .i64 r.n) ∧ w4.cell? ⟨g, 13, none⟩ = some (.slice xo4 o.length xc4) ∧ (∀ k, w4.frozen? ⟨g, k, none⟩ = false) := fun w4 h4 => by
    obtain ⟨s, xo, xc, ⟨k0, k1, k2, k3, k4, k5, k6, k7, k8, k9, k10, k11, k12, k13⟩, z, _⟩ := h4.cells
    exact ⟨xo, xc, k6, k1, k13, z⟩
  by_cases hn : r.n = 1
  · have hn2 : (r.n == 1) = true := by simp [hn]
    have fin : ∀ w4, Turn B w4 g (freshR (clearR { r with view := view, normal := view, how := 0, log := log })) o → Turn B ((w4.setCell ⟨g, 6, none⟩ (.int .i64 (min (max r.commit com) (log.length : Int)))).setCell ⟨g, 6, none⟩ (.int .i64 (log.length : Int))) g (normalR r log view com) o ∧ Keep B w4 ((w4.setCell ⟨g, 6, none⟩ (.int .i64 (min (max r.commit com) (log.length : Int)))).setCell ⟨g, 6, none⟩ (.int .i64 (log.length : Int))) := fun w4 h4 =>
      turn_sets h4 [(6, .int .i64 (min (max r.commit com) (log.length : Int))), (6, .int .i64 (log.length : Int))] (normalR r log view com) (fun _ _ _ _ _ _ f f' e e' => by subst e e'; exact ⟨rfl, rfl, rfl, rfl, rfl, rfl, by show Value.int .i64 _ = .int .i64 (comR r log com); unfold comR; rw [if_pos hn], rfl, rfl, rfl, rfl, rfl, rfl, rfl⟩) rfl rfl rfl rfl rfl rfl rfl
    go_enter Tryz.func112, Tryz.ntmps112
    go_wp2_with (first
      | (go_at_call 72; refine hcl.mono ?_; rintro e w1 ⟨ao1, cap1, rfl, hown1, hb1⟩
         obtain ⟨hT1, hK1⟩ := turn_log hT0 hb1 log hlog hown1
         obtain ⟨s1, xo1, xc1, ⟨_, _, _, _, _, a5, _⟩, az, _⟩ := (hT0.below hb1).cells
         have hcT := clearT_any B g _ o _ hT1
         clear hcl)
      | (go_at_call 114; refine hcT.mono ?_; rintro e w2 ⟨rfl, hT2, hK2⟩; have haT := ackT_any B g _ o _ hT2; clear hcT)
      | (go_at_call 115; refine haT.mono ?_; rintro e w3 ⟨rfl, hT3, hK3⟩
         obtain ⟨xo3, xc3, b6, b1, _, bz⟩ := key _ hT3
         obtain ⟨hT4, hK4⟩ := fin _ hT3
         clear haT))
    go_end0
    exact ⟨rfl, hT4, (((hK0.trans hK1).trans hK2).trans hK3).trans hK4⟩
  · have hn2 : (r.n == 1) = false := by simp [hn]
    have hn3 : decide (r.n = 1) = false := decide_eq_false hn
    have fin : ∀ w4, Turn B w4 g (freshR (clearR { r with view := view, normal := view, how := 0, log := log })) o → Turn B (w4.setCell ⟨g, 6, none⟩ (.int .i64 (min (max r.commit com) (log.length : Int)))) g (normalR r log view com) o ∧ Keep B w4 (w4.setCell ⟨g, 6, none⟩ (.int .i64 (min (max r.commit com) (log.length : Int)))) := fun w4 h4 =>
      turn_sets h4 [(6, .int .i64 (min (max r.commit com) (log.length : Int)))] (normalR r log view com) (fun _ _ _ _ _ _ f f' e e' => by subst e e'; exact ⟨rfl, rfl, rfl, rfl, rfl, rfl, by show Value.int .i64 _ = .int .i64 (comR r log com); unfold comR; rw [if_neg hn], rfl, rfl, rfl, rfl, rfl, rfl, rfl⟩) rfl rfl rfl rfl rfl rfl rfl
    go_enter Tryz.func112, Tryz.ntmps112
    go_wp2_with (first
      | (go_at_call 72; refine hcl.mono ?_; rintro e w1 ⟨ao1, cap1, rfl, hown1, hb1⟩
         obtain ⟨hT1, hK1⟩ := turn_log hT0 hb1 log hlog hown1
         obtain ⟨s1, xo1, xc1, ⟨_, _, _, _, _, a5, _⟩, az, _⟩ := (hT0.below hb1).cells
         have hcT := clearT_any B g _ o _ hT1
         clear hcl)
      | (go_at_call 114; refine hcT.mono ?_; rintro e w2 ⟨rfl, hT2, hK2⟩; have haT := ackT_any B g _ o _ hT2; clear hcT)
      | (go_at_call 115; refine haT.mono ?_; rintro e w3 ⟨rfl, hT3, hK3⟩
         obtain ⟨xo3, xc3, b6, b1, _, bz⟩ := key _ hT3
         obtain ⟨hT4, hK4⟩ := fin _ hT3
         clear haT))
    go_end0
    exact ⟨rfl, hT4, (((hK0.trans hK1).trans hK2).trans hK3).trans hK4⟩
/-- Votes is the replica's own ID alone, a row that was just laid. -/
theorem turn_votes1 {B : Nat} {w : World} {g : Nat} {r : Rep} {o : Msgs} (h : Turn B w g r o) :
    Turn B ((w.alloc (.cells #[.int .i64 r.id] 3)).setCell ⟨g, 8, none⟩ (.slice (some ⟨w.heap.size, 0, none⟩) 1 1)) g { r with votes := [r.id] } o ∧ Keep B w ((w.alloc (.cells #[.int .i64 r.id] 3)).setCell ⟨g, 8, none⟩ (.slice (some ⟨w.heap.size, 0, none⟩) 1 1)) := by
  obtain ⟨⟨vl, va, vv, vw, vb, x, h, ho⟩, hB, h1, hl0, hb, ha⟩ := h
  have hb1 : Below w.heap.size w (w.alloc (.cells #[.int .i64 r.id] 3)) := (Below.refl _ w).alloc (Nat.le_refl _) _
  have hown : (w.alloc (.cells #[.int .i64 r.id] 3)).ownsRow w.heap.size 3 1 (.slice (some ⟨w.heap.size, 0, none⟩) 1 1) 1 (inCells [r.id]) := ⟨rfl, .inr ⟨w.heap.size, 1, _, rfl, Nat.le_refl _, heap_new w _, Nat.le_refl _, by unfold maxLen; omega, rfl, rfl⟩⟩
  have h' := h.below hb1
  have ho' := ownO_below ho hb1
  have hk := (Keep.of_below hb1 hB).trans (sets_keep h'.base h'.box (by decide) [(8, .slice (some ⟨w.heap.size, 0, none⟩) 1 1)])
  exact ⟨⟨⟨_, _, _, _, _, _, hold_sets h' (by omega) (by decide) (by decide) [(8, .slice (some ⟨w.heap.size, 0, none⟩) 1 1)] (r' := { r with votes := [r.id] }) (x' := x) ⟨h'.rows.log, h'.rows.best, h'.rows.ack, own_mono hown hB, h'.rows.vor, h'.rows.a1, apart_new h.rows.ack hown, h'.rows.a3, (apart_new h.rows.vor hown).symm⟩ (fun f f' e e' => by subst e e'; exact ⟨rfl, rfl, rfl, rfl, rfl, rfl, rfl, rfl, rfl, rfl, rfl, rfl, rfl, rfl⟩), ownO_stay ho' (sets_box [(8, .slice (some ⟨w.heap.size, 0, none⟩) 1 1)] h'.box).2 (by decide) (by decide)⟩, Nat.le_trans hB hk.low.size, h1, hl0, hb, ha⟩, hk⟩
theorem srcE_nil (B : Nat) (w : World) : SrcE B w none 0 [] := .inl fun i x hx => by simp at hx
set_option maxHeartbeats 1000000 in
theorem changeT_any (B g : Nat) (r : Rep) (o : Msgs) (view : Int) (w : World) (h : Turn B w g r o) (hol : o.length ≤ 50) :
    Calls Tryz.prog 113 #[.pointer (some ⟨g, 0, none⟩), .int .i64 view] w fun e w' => e = .returned (.tuple #[]) ∧ Turn B w' g (changeR r view) (o ++ allM (changeR r view) (msg 4 0 0 0 [])) ∧ Keep B w w' := by
  have hB := h.base
  obtain ⟨s, xo, xc, ⟨k0, k1, k2, k3, k4, k5, k6, k7, k8, k9, k10, k11, k12, k13⟩, z, _⟩ := h.cells
  obtain ⟨hT0, hK0⟩ := turn_sets h [(2, .int .i64 view), (4, .int .i64 1)] { r with view := view, how := 1 } (fun _ _ _ _ _ _ f f' e e' => by subst e e'; exact ⟨rfl, rfl, rfl, rfl, rfl, rfl, rfl, rfl, rfl, rfl, rfl, rfl, rfl, rfl⟩) rfl rfl rfl rfl rfl rfl rfl
  have hcT := clearT_any B g _ o _ hT0
  simp only [sets] at hcT hK0
  clear h hT0 k0 k1 k3 k5 k6 k7 k8 k9 k10 k11 k12 k13
  go_enter Tryz.func113, Tryz.ntmps113
  go_wp2_with (first
    | (go_at_call 114; refine hcT.mono ?_; rintro e w2 ⟨rfl, hT2, hK2⟩
       obtain ⟨s2, xo2, xc2, ⟨b0, _, _, _, _, _, _, _, b8, _⟩, bz, _, _⟩ := hT2.cells
       have b0' : w2.cell? ⟨g, 0, none⟩ = some (.int .i64 r.id) := b0
       clear b0
       obtain ⟨hT3, hK3⟩ := turn_votes1 hT2
       have e8 := alloc_cell (.cells #[.int .i64 r.id] 3) b8
       have ez := ((hT2.below ((Below.refl _ _).alloc (Nat.le_refl _) (.cells #[.int .i64 r.id] 3))).cells).choose_spec.choose_spec.choose_spec.2.1 8
       have hT3' : Turn B ((w2.alloc (.cells #[.int .i64 r.id] 3)).setCell ⟨g, 8, none⟩ (.slice (some ⟨w2.heap.size, 0, none⟩) 1 1)) g (changeR r view) o := hT3
       have hall := sendAllT_any B g (changeR r view) o (msg 4 0 0 0 []) none 0 _ hT3' (srcE_nil _ _) (by simp) hol
       clear hcT hT2 b8)
    | (go_at_call 109; refine hall.mono ?_; rintro e w4 ⟨rfl, hT4, hK4⟩))
  go_end0
  exact ⟨rfl, hT4, ((hK0.trans hK2).trans hK3).trans hK4⟩
/-- What must panics with. -/
def Num.boom (e : Int) : List PanicEntry := [{ v := .iface 26 (.int .i64 e), recovered := false }]
theorem must_yes (e : Int) (w : World) : Calls Tryz.prog 105 #[.bool true, .int .i64 e] w fun r w' => r = .returned (.tuple #[]) ∧ w' = w := by
  go_enter Tryz.func105, Tryz.ntmps105
  go_wp2
  go_end0
  exact ⟨rfl, rfl⟩
theorem must_no (e : Int) (w : World) : Calls Tryz.prog 105 #[.bool false, .int .i64 e] w fun r w' => r = .panicked (boom e) ∧ w' = w := by
  go_enter Tryz.func105, Tryz.ntmps105
  go_wp2
  refine ⟨rfl, ?_⟩
  exact ⟨rfl, rfl⟩
end Go.Proofs.YthnbaijkhhbelaaGreat
