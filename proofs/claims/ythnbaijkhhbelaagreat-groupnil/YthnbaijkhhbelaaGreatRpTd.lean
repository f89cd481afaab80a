/-
  Contracts of a replica at work: it suspects; it starts again; it proposes.
-/
import Derived.Test.YthnbaijkhhbelaaGreatRpTc
import Derived.Test.YthnbaijkhhbelaaGreatRpMay
import Derived.Deep.QuietTactic
namespace Go.Proofs.YthnbaijkhhbelaaGreat
open Go.RowKit Num
open scoped Classical
set_option linter.unusedVariables false
set_option maxRecDepth 100000

theorem suspect_no (B g : Nat) (r : Rep) (o : Msgs) (w : World) (h : Turn B w g r o) (hv : 0 ≤ r.view ∧ r.view < 1099511627776) (hno : ¬ r.view + 1 < 1099511627776) :
    Calls Tryz.prog 80 #[.pointer (some ⟨g, 0, none⟩)] w fun e w' => e = .panicked (boom 4) ∧ w' = w := by
  obtain ⟨s, xo, xc, ⟨k0, k1, k2, k3, k4, k5, k6, k7, k8, k9, k10, k11, k12, k13⟩, z, _⟩ := h.cells
  have hw : IntKind.i64.wrap (r.view + 1) = r.view + 1 := by rw [IntKind.wrap_i64]; omega
  have hm := fun W => must_no 4 W
  have hd : decide (r.view + 1 < 1099511627776) = false := decide_eq_false hno
  clear h
  go_enter Tryz.func80, Tryz.ntmps80
  go_wp2_with (first
    | (go_at_call 105; refine (hm _).mono ?_; rintro e wn ⟨rfl, hq⟩; have hq' := hq.symm; clear hq; subst hq'))
  exact ⟨rfl, rfl, rfl⟩
set_option maxHeartbeats 1000000 in
theorem suspect_one (B g : Nat) (r : Rep) (o : Msgs) (w : World) (h : Turn B w g r o) (hv : 0 ≤ r.view ∧ r.view + 1 < 1099511627776) (hn : r.n = 1) :
    Calls Tryz.prog 80 #[.pointer (some ⟨g, 0, none⟩)] w fun e w' => e = .returned (.tuple #[]) ∧ Turn B w' g (normalR r r.log (r.view + 1) r.commit) o ∧ Below B w w' := by
  have hll := h.ll
  have hB := h.base
  obtain ⟨s, xo, xc, ⟨k0, k1, k2, k3, k4, k5, k6, k7, k8, k9, k10, k11, k12, k13⟩, z, _, hH, _⟩ := h.cells
  have hw : IntKind.i64.wrap (r.view + 1) = r.view + 1 := by rw [IntKind.wrap_i64]; omega
  have hm := fun W => must_yes 4 W
  have hd : decide (r.view + 1 < 1099511627776) = true := decide_eq_true hv.2
  have hn2 : (r.n == 1) = true := by simp [hn]
  have hN := normalT_any B g r o r.log s.lo s.lc (r.view + 1) r.commit w.drew h.drew (hH.below (Below.refl _ _).drew).src hll
  clear h hH hn
  go_enter Tryz.func80, Tryz.ntmps80
  go_wp2_with (first
    | (go_at_call 105; refine (hm _).mono ?_; rintro e wn ⟨rfl, hq⟩; have hq' := hq.symm; clear hq; subst hq'))
  go_region_with (go_at_call 112; refine hN.mono ?_; rintro e w1 ⟨rfl, hT1, hK1⟩)
  all_goals
    go_wp2
    first
      | go_end0
      | refine bodyPost_ret (results_none rfl _ _ _) rfl ?_
    exact ⟨rfl, hT1, (Below.refl _ _).drew.trans hK1.low⟩
set_option maxHeartbeats 1000000 in
theorem suspect_many (B g : Nat) (r : Rep) (o : Msgs) (w : World) (h : Turn B w g r o) (hv : 0 ≤ r.view ∧ r.view + 1 < 1099511627776) (hn : ¬ r.n = 1) (hol : o.length ≤ 50) :
    Calls Tryz.prog 80 #[.pointer (some ⟨g, 0, none⟩)] w fun e w' => e = .returned (.tuple #[]) ∧ Turn B w' g (changeR r (r.view + 1)) (o ++ allM (changeR r (r.view + 1)) (msg 4 0 0 0 [])) ∧ Below B w w' := by
  obtain ⟨s, xo, xc, ⟨k0, k1, k2, k3, k4, k5, k6, k7, k8, k9, k10, k11, k12, k13⟩, z, _, hH, _⟩ := h.cells
  have hw : IntKind.i64.wrap (r.view + 1) = r.view + 1 := by rw [IntKind.wrap_i64]; omega
  have hm := fun W => must_yes 4 W
  have hd : decide (r.view + 1 < 1099511627776) = true := decide_eq_true hv.2
  have hn2 : (r.n == 1) = false := by simp [hn]
  have hn3 : decide (r.n = 1) = false := decide_eq_false hn
  have hC := changeT_any B g r o (r.view + 1) w h hol
  clear h hH
  go_enter Tryz.func80, Tryz.ntmps80
  go_wp2_with (first
    | (go_at_call 105; refine (hm _).mono ?_; rintro e wn ⟨rfl, hq⟩; have hq' := hq.symm; clear hq; subst hq')
    | (go_at_call 113; refine hC.mono ?_; rintro e w1 ⟨rfl, hT1, hK1⟩))
  go_end0
  exact ⟨rfl, hT1, hK1.low⟩
def Num.restartR (r : Rep) : Rep := freshR { clearR r with votes := if r.how = 1 then [r.id] else [] }
set_option maxHeartbeats 1000000 in
theorem restart_any (B g : Nat) (r : Rep) (o : Msgs) (w : World) (h : Turn B w g r o) :
    Calls Tryz.prog 81 #[.pointer (some ⟨g, 0, none⟩)] w fun e w' => e = .returned (.tuple #[]) ∧ Turn B w' g (restartR r) o ∧ Below B w w' := by
  have hC := clearT_any B g r o w h
  clear h
  by_cases hh : r.how = 1
  · have h2 : (r.how == 1) = true := by simp [hh]
    have HE : Hid (∀ W, Turn B W g (freshR { clearR r with votes := [r.id] }) o → Turn B W g (restartR r) o) := fun W h => by unfold restartR; rw [if_pos hh]; exact h
    clear hh
    go_enter Tryz.func81, Tryz.ntmps81
    go_wp2_with (first
      | (go_at_call 114; refine hC.mono ?_; rintro e w1 ⟨rfl, hT1, hK1⟩
         obtain ⟨s2, xo2, xc2, ⟨b0, _, _, _, b4, _, _, _, b8, _⟩, bz, _, _⟩ := hT1.cells
         have b0' : w1.cell? ⟨g, 0, none⟩ = some (.int .i64 r.id) := b0
         have b4' : w1.cell? ⟨g, 4, none⟩ = some (.int .i64 r.how) := b4
         clear b0 b4
         obtain ⟨hT3, hK3⟩ := turn_votes1 hT1
         have hT3' : Turn B ((w1.alloc (.cells #[.int .i64 r.id] 3)).setCell ⟨g, 8, none⟩ (.slice (some ⟨w1.heap.size, 0, none⟩) 1 1)) g { clearR r with votes := [r.id] } o := hT3
         have e8 := alloc_cell (.cells #[.int .i64 r.id] 3) b8
         have ez := ((hT1.below ((Below.refl _ _).alloc (Nat.le_refl _) (.cells #[.int .i64 r.id] 3))).cells).choose_spec.choose_spec.choose_spec.2.1 8
         have hA := ackT_any B g _ o _ hT3'
         clear hC hT3)
      | (go_at_call 115; refine hA.mono ?_; rintro e w2 ⟨rfl, hT2, hK2⟩))
    go_end0
    exact ⟨rfl, HE.out _ hT2, ((hK1.trans hK3).trans hK2).low⟩
  · have h2 : (r.how == 1) = false := by simp [hh]
    have h3 : decide (r.how = 1) = false := decide_eq_false hh
    have HE : Hid (∀ W, Turn B W g (freshR (clearR r)) o → Turn B W g (restartR r) o) := fun W h => by unfold restartR; rw [if_neg hh]; exact h
    go_enter Tryz.func81, Tryz.ntmps81
    go_wp2_with (first
      | (go_at_call 114; refine hC.mono ?_; rintro e w1 ⟨rfl, hT1, hK1⟩
         obtain ⟨s2, xo2, xc2, ⟨b0, _, _, _, b4, _, _, _, b8, _⟩, bz, _, _⟩ := hT1.cells
         have b4' : w1.cell? ⟨g, 4, none⟩ = some (.int .i64 r.how) := b4
         clear b0 b4
         have hA := ackT_any B g _ o _ hT1
         clear hC)
      | (go_at_call 115; refine hA.mono ?_; rintro e w2 ⟨rfl, hT2, hK2⟩))
    go_end0
    exact ⟨rfl, HE.out _ hT2, (hK1.trans hK2).low⟩
end Go.Proofs.YthnbaijkhhbelaaGreat
