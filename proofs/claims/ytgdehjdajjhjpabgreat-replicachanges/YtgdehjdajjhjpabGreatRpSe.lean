/-
  Contracts of the document's own replica: a state is told to it.
-/
import Derived.Test.YtgdehjdajjhjpabGreatRpG17
namespace Go.Proofs.YtgdehjdajjhjpabGreat
open Go.RowKit Num
open scoped Classical
set_option linter.unusedVariables false
set_option maxRecDepth 100000
def Num.BestC (r : Rep) (was : Int) (log : List Ent) : Prop := r.bestView < was ∨ was = r.bestView ∧ r.best.length < log.length
theorem bestR_yes {r : Rep} {frm was com : Int} {log : List Ent} (h : BestC r was log) : bestR r frm was com log = { r with voters := addI r.voters frm, best := log, bestView := was, bestDone := min (max r.bestDone com) (log.length : Int) } := by
  have h : r.bestView < was ∨ was = r.bestView ∧ r.best.length < log.length := h
  unfold bestR
  simp only [if_pos h]
theorem bestR_no {r : Rep} {frm was com : Int} {log : List Ent} (h : ¬ BestC r was log) : bestR r frm was com log = { r with voters := addI r.voters frm, bestDone := min (max r.bestDone com) (r.best.length : Int) } := by
  have h : ¬ (r.bestView < was ∨ was = r.bestView ∧ r.best.length < log.length) := h
  unfold bestR
  simp only [if_neg h]
theorem bestR_same (r : Rep) (frm was com : Int) (log : List Ent) : (bestR r frm was com log).n = r.n ∧ (bestR r frm was com log).view = r.view ∧ (bestR r frm was com log).voters = addI r.voters frm := by
  by_cases h : BestC r was log
  · rw [bestR_yes h]; exact ⟨rfl, rfl, rfl⟩
  · rw [bestR_no h]; exact ⟨rfl, rfl, rfl⟩
set_option maxRecDepth 100000 in
set_option maxHeartbeats 1000000 in
theorem rstates_old (B g : Nat) (r : Rep) (frm was com : Int) (log : List Ent) (bo : Option Addr) (c : Nat) (hvl : r.voters.length ≤ 20) (hlog : log.length ≤ 1000) (hk : frm ∈ r.voters) (w : World) (h : TurnR B w g r) (hs : SrcE B w bo c log) :
    Calls Tryz.prog 56 #[.pointer (some ⟨g, 0, none⟩), .int .i64 frm, .int .i64 was, .int .i64 com, .slice bo log.length c] w fun e w' => ∃ v, e = .returned v ∧ OwnO B w' v (statesR r frm was com log).2 ∧ TurnR B w' g (statesR r frm was com log).1 ∧ KeepM B w w' := by
  have e1 : statesR r frm was com log = (r, []) := by unfold statesR; rw [if_pos hk]
  rw [e1]
  have hB := h.base
  obtain ⟨sk, ⟨k0, k1, k2, k3, k4, k5, k6, k7, k8, k9, k10, k11, k12⟩, kz, kL, kH⟩ := h.cells
  have hadd := radd_yes r.voters frm hk sk.wo sk.wc (by omega) w kL.voters
  clear hk
  go_enter Tryz.func56, Tryz.ntmps56
  go_wp2_with (first
    | (go_at_call 53; refine hadd.mono ?_; rintro e w1 ⟨rfl, hb1⟩))
  go_ret
  exact ⟨_, rfl, OwnS.nil _ _ _ _ _, h.below hb1, KeepM.of_below hb1 hB⟩
set_option maxRecDepth 100000 in
set_option maxHeartbeats 1000000 in
theorem rstates_an (B g : Nat) (r : Rep) (frm was com : Int) (log : List Ent) (bo : Option Addr) (c : Nat) (hvl : r.voters.length ≤ 20) (hlog : log.length ≤ 1000) (hk : frm ∉ r.voters) (hx : r.bestView < was) (hy : ¬ ((addI r.voters frm).length : Int) = mostN r.n) (w : World) (h : TurnR B w g r) (hs : SrcE B w bo c log) :
    Calls Tryz.prog 56 #[.pointer (some ⟨g, 0, none⟩), .int .i64 frm, .int .i64 was, .int .i64 com, .slice bo log.length c] w fun e w' => ∃ v, e = .returned v ∧ OwnO B w' v (statesR r frm was com log).2 ∧ TurnR B w' g (statesR r frm was com log).1 ∧ KeepM B w w' := by
  have e1 : statesR r frm was com log = (bestR r frm was com log, []) := by
    unfold statesR
    rw [if_neg hk, if_neg (by rw [(bestR_same r frm was com log).2.2]; exact hy)]
  have dy : decide (((addI r.voters frm).length : Int) = mostN r.n) = false := decide_eq_false hy
  have dy2 : (((addI r.voters frm).length : Int) == mostN r.n) = false := by simp [hy]
  rw [e1]
  clear e1
  have HX : Hid (BestC r was log) := .inl hx
  have d1 : decide (r.bestView < was) = true := decide_eq_true hx
  clear hx
  clear hy
  have hB := h.base
  have hn := one_bounds h.one
  have hnr : r.n ≤ 5 := by omega
  obtain ⟨sk, ⟨k0, k1, k2, k3, k4, k5, k6, k7, k8, k9, k10, k11, k12⟩, kz, kL, kH⟩ := h.cells
  have hadd := radd_no r.voters frm hk sk.wo sk.wc (by omega) w kL.voters
  clear hk k0 k1 k2 k3 k4 k5 k6 k7 k8 k10 k11 k12 kL kH
  go_enter Tryz.func56, Tryz.ntmps56
  go_wp2_with (first
    | (go_at_call 53; refine hadd.mono ?_; rintro e w1 ⟨ao1, cap1, rfl, hown1, hb1⟩
       obtain ⟨⟨hT1, hK1⟩, ⟨u9, y9⟩, z9⟩ := turnS_voters h hb1 _ hown1
       obtain ⟨sa, ⟨a0, a1, a2, a3, a4, a5, a6, a7, a8, a9, a10, a11, a12⟩, az, aL, aH⟩ := hT1.cells
       have a11' : (w1.setCell ⟨g, 9, none⟩ (.slice ao1 (addI r.voters frm).length cap1)).cell? ⟨g, 11, none⟩ = some (.int .i64 r.bestView) := a11
       have a10' : (w1.setCell ⟨g, 9, none⟩ (.slice ao1 (addI r.voters frm).length cap1)).cell? ⟨g, 10, none⟩ = some (.slice sa.bo r.best.length sa.bc) := a10
       have a12' : (w1.setCell ⟨g, 9, none⟩ (.slice ao1 (addI r.voters frm).length cap1)).cell? ⟨g, 12, none⟩ = some (.int .i64 r.bestDone) := a12
       clear a0 a1 a2 a3 a4 a5 a6 a7 a8 a9 a10 a11 a12 aH aL hadd k9 kz hown1 hb1 h
       have hsV := hs.keep hK1.toKeep
       have hheld := fun ob : Obj => src_next (liesE_src (hsV.lies hT1.base)) ((Below.refl _ (w1.setCell ⟨g, 9, none⟩ (.slice ao1 (addI r.voters frm).length cap1))).alloc (Nat.le_refl _) ob)
       have hszV : (w1.setCell ⟨g, 9, none⟩ (.slice ao1 (addI r.voters frm).length cap1)).heap.size = w1.heap.size := by simp [World.setCell]
       have hmade := own_made0 (w1.setCell ⟨g, 9, none⟩ (.slice ao1 (addI r.voters frm).length cap1)) 45 2
       have HW : Hid (∀ (w2 : World) (ao2 : Option Addr) (cap2 : Nat), ((w1.setCell ⟨g, 9, none⟩ (.slice ao1 (addI r.voters frm).length cap1)).alloc (.cells #[] 45)).grownBy w2 (some w1.heap.size) → w2.ownsRow w1.heap.size 45 2 (.slice ao2 log.length cap2) log.length (enCells log) →
           TurnR B ((w2.setCell ⟨g, 10, none⟩ (.slice ao2 log.length cap2)).setCell ⟨g, 11, none⟩ (.int .i64 was)) g { r with voters := addI r.voters frm, best := log, bestView := was } ∧ KeepM B (w1.setCell ⟨g, 9, none⟩ (.slice ao1 (addI r.voters frm).length cap1)) ((w2.setCell ⟨g, 10, none⟩ (.slice ao2 log.length cap2)).setCell ⟨g, 11, none⟩ (.int .i64 was)) ∧ (∃ u, w2.cell? ⟨g, 10, none⟩ = some u) ∧ (∃ u, w2.cell? ⟨g, 11, none⟩ = some u) ∧ (∀ k, w2.frozen? ⟨g, k, none⟩ = false)) := by
         intro w2 ao2 cap2 hgr hown
         rw [← hszV] at hgr hown
         have hb2 : Below (w1.setCell ⟨g, 9, none⟩ (.slice ao1 (addI r.voters frm).length cap1)).heap.size (w1.setCell ⟨g, 9, none⟩ (.slice ao1 (addI r.voters frm).length cap1)) w2 := ((Below.refl _ (w1.setCell ⟨g, 9, none⟩ (.slice ao1 (addI r.voters frm).length cap1))).alloc (Nat.le_refl _) _).grown hgr (by simp [World.setCell]) (fun j hj => by cases hj; exact Nat.le_refl _)
         obtain ⟨⟨hT2, hK2⟩, u10, z10⟩ := turnS_best hT1 hb2 log hlog hown
         obtain ⟨hT3, hK3⟩ := turnS_sets hT2 [(11, .int .i64 was)] { r with voters := addI r.voters frm, best := log, bestView := was } (fun _ _ _ _ _ f f' e e' => by subst e e'; exact ⟨rfl, rfl, rfl, rfl, rfl, rfl, rfl, rfl, rfl, rfl, rfl, rfl, rfl, rfl⟩) rfl rfl rfl rfl rfl rfl rfl
         obtain ⟨_, ⟨_, _, _, _, _, _, _, _, _, _, _, b11, _⟩, bz, _⟩ := (hT1.below hb2).cells
         exact ⟨hT3, hK2.trans hK3, u10, ⟨_, b11⟩, bz⟩
       rw [hszV] at hmade)
    | (at_builtin; refine wpList_app_g Tryz.underlying22 Tryz.infoEn (by decide) _ rfl _ _ rfl w1.heap.size (.slice (some ⟨w1.heap.size, 0, none⟩) 0 0) 0 [] rfl hmade bo log.length c (enCells log) rfl (hheld _) (by omega) (by simp [World.setCell]) ?_; intro v1 w2 hown2 hgrow2 _; obtain ⟨ao2, cap2, rfl⟩ := own_form hown2
       rw [List.nil_append] at hown2
       simp only [Nat.zero_add] at hown2
       obtain ⟨hT2, hK2, ⟨u10, y10⟩, ⟨u11, y11⟩, zz⟩ := HW.out w2 ao2 cap2 hgrow2 hown2
       clear HW hheld hmade))
  generalize ((w2.setCell ⟨g, 10, none⟩ (.slice ao2 log.length cap2)).setCell ⟨g, 11, none⟩ (.int .i64 was)) = V2 at hT2 hK2 ⊢
  obtain ⟨hT3, hK3⟩ := turnS_sets hT2 [(12, .int .i64 (min (max r.bestDone com) (log.length : Int)))] (bestR r frm was com log) (by rw [bestR_yes HX.out]; exact (fun _ _ _ _ _ f f' e e' => by subst e e'; exact ⟨rfl, rfl, rfl, rfl, rfl, rfl, rfl, rfl, rfl, rfl, rfl, rfl, rfl, rfl⟩)) (by rw [bestR_yes HX.out]) (by rw [bestR_yes HX.out]) (by rw [bestR_yes HX.out]) (by rw [bestR_yes HX.out]) (by rw [bestR_yes HX.out]) (by rw [bestR_yes HX.out]) (by rw [bestR_yes HX.out])
  obtain ⟨sb, ⟨b0, b1, b2, b3, b4, b5, b6, b7, b8, b9, b10, b11, b12⟩, bz, bL, bH⟩ := hT2.cells
  have b10' : V2.cell? ⟨g, 10, none⟩ = some (.slice sb.bo log.length sb.bc) := b10
  have b12' : V2.cell? ⟨g, 12, none⟩ = some (.int .i64 r.bestDone) := b12
  clear b0 b1 b2 b3 b4 b5 b6 b7 b8 b9 b10 b11 b12 bL bH
  have hK23 := (hK1.trans hK2).trans hK3
  simp only [sets] at hT3 hK23
  go_region
  have hT4 := hT3.drew
  have hK4 := hK23.drew
  generalize (V2.setCell ⟨g, 12, none⟩ (.int .i64 (min (max r.bestDone com) (log.length : Int)))).drew = V4 at *
  obtain ⟨hrn, hrv, _⟩ := bestR_same r frm was com log
  obtain ⟨r3, hr3⟩ : ∃ x, x = bestR r frm was com log := ⟨_, rfl⟩
  rw [← hr3] at hT4 hrn
  have HR3 : Hid (r3 = bestR r frm was com log) := hr3
  clear hr3 hrv
  obtain ⟨sd, ⟨d0', d1', d2', d3', d4', d5', d6', d7', d8', d9', d10', d11', d12'⟩, dz, dL, dH⟩ := hT4.cells
  rw [hrn] at d1'
  clear hrn
  have hmo := fun W => rmost_any r.n ⟨by omega, by omega⟩ W
  go_wp2_with (first
    | (go_at_call 54; refine (hmo _).mono ?_; rintro e wn ⟨rfl, hq⟩; have hq' := hq.symm; clear hq; subst hq'))
  go_ret
  rw [HR3.out] at hT4
  exact ⟨_, rfl, OwnS.nil _ _ _ _ _, hT4, hK4⟩
set_option maxRecDepth 100000 in
set_option maxHeartbeats 1000000 in
theorem rstates_bn (B g : Nat) (r : Rep) (frm was com : Int) (log : List Ent) (bo : Option Addr) (c : Nat) (hvl : r.voters.length ≤ 20) (hlog : log.length ≤ 1000) (hk : frm ∉ r.voters) (hx : ¬ r.bestView < was) (hx2 : was = r.bestView) (hx3 : r.best.length < log.length) (hy : ¬ ((addI r.voters frm).length : Int) = mostN r.n) (w : World) (h : TurnR B w g r) (hs : SrcE B w bo c log) :
    Calls Tryz.prog 56 #[.pointer (some ⟨g, 0, none⟩), .int .i64 frm, .int .i64 was, .int .i64 com, .slice bo log.length c] w fun e w' => ∃ v, e = .returned v ∧ OwnO B w' v (statesR r frm was com log).2 ∧ TurnR B w' g (statesR r frm was com log).1 ∧ KeepM B w w' := by
  have e1 : statesR r frm was com log = (bestR r frm was com log, []) := by
    unfold statesR
    rw [if_neg hk, if_neg (by rw [(bestR_same r frm was com log).2.2]; exact hy)]
  have dy : decide (((addI r.voters frm).length : Int) = mostN r.n) = false := decide_eq_false hy
  have dy2 : (((addI r.voters frm).length : Int) == mostN r.n) = false := by simp [hy]
  rw [e1]
  clear e1
  have HX : Hid (BestC r was log) := .inr ⟨hx2, hx3⟩
  have d1 : decide (r.bestView < was) = false := decide_eq_false hx
  have d2 : decide (was = r.bestView) = true := decide_eq_true hx2
  have d3 : (r.best.length : Int) < (log.length : Int) := by omega
  clear hx
  have d4 : (was == r.bestView) = true := by simp [hx2]
  clear hx2
  clear hy
  have hB := h.base
  have hn := one_bounds h.one
  have hnr : r.n ≤ 5 := by omega
  obtain ⟨sk, ⟨k0, k1, k2, k3, k4, k5, k6, k7, k8, k9, k10, k11, k12⟩, kz, kL, kH⟩ := h.cells
  have hadd := radd_no r.voters frm hk sk.wo sk.wc (by omega) w kL.voters
  clear hk k0 k1 k2 k3 k4 k5 k6 k7 k8 k10 k11 k12 kL kH
  go_enter Tryz.func56, Tryz.ntmps56
  go_wp2_with (first
    | (go_at_call 53; refine hadd.mono ?_; rintro e w1 ⟨ao1, cap1, rfl, hown1, hb1⟩
       obtain ⟨⟨hT1, hK1⟩, ⟨u9, y9⟩, z9⟩ := turnS_voters h hb1 _ hown1
       obtain ⟨sa, ⟨a0, a1, a2, a3, a4, a5, a6, a7, a8, a9, a10, a11, a12⟩, az, aL, aH⟩ := hT1.cells
       have a11' : (w1.setCell ⟨g, 9, none⟩ (.slice ao1 (addI r.voters frm).length cap1)).cell? ⟨g, 11, none⟩ = some (.int .i64 r.bestView) := a11
       have a10' : (w1.setCell ⟨g, 9, none⟩ (.slice ao1 (addI r.voters frm).length cap1)).cell? ⟨g, 10, none⟩ = some (.slice sa.bo r.best.length sa.bc) := a10
       have a12' : (w1.setCell ⟨g, 9, none⟩ (.slice ao1 (addI r.voters frm).length cap1)).cell? ⟨g, 12, none⟩ = some (.int .i64 r.bestDone) := a12
       clear a0 a1 a2 a3 a4 a5 a6 a7 a8 a9 a10 a11 a12 aH aL hadd k9 kz hown1 hb1 h
       have hsV := hs.keep hK1.toKeep
       have hheld := fun ob : Obj => src_next (liesE_src (hsV.lies hT1.base)) ((Below.refl _ (w1.setCell ⟨g, 9, none⟩ (.slice ao1 (addI r.voters frm).length cap1))).alloc (Nat.le_refl _) ob)
       have hszV : (w1.setCell ⟨g, 9, none⟩ (.slice ao1 (addI r.voters frm).length cap1)).heap.size = w1.heap.size := by simp [World.setCell]
       have hmade := own_made0 (w1.setCell ⟨g, 9, none⟩ (.slice ao1 (addI r.voters frm).length cap1)) 45 2
       have HW : Hid (∀ (w2 : World) (ao2 : Option Addr) (cap2 : Nat), ((w1.setCell ⟨g, 9, none⟩ (.slice ao1 (addI r.voters frm).length cap1)).alloc (.cells #[] 45)).grownBy w2 (some w1.heap.size) → w2.ownsRow w1.heap.size 45 2 (.slice ao2 log.length cap2) log.length (enCells log) →
           TurnR B ((w2.setCell ⟨g, 10, none⟩ (.slice ao2 log.length cap2)).setCell ⟨g, 11, none⟩ (.int .i64 was)) g { r with voters := addI r.voters frm, best := log, bestView := was } ∧ KeepM B (w1.setCell ⟨g, 9, none⟩ (.slice ao1 (addI r.voters frm).length cap1)) ((w2.setCell ⟨g, 10, none⟩ (.slice ao2 log.length cap2)).setCell ⟨g, 11, none⟩ (.int .i64 was)) ∧ (∃ u, w2.cell? ⟨g, 10, none⟩ = some u) ∧ (∃ u, w2.cell? ⟨g, 11, none⟩ = some u) ∧ (∀ k, w2.frozen? ⟨g, k, none⟩ = false)) := by
         intro w2 ao2 cap2 hgr hown
         rw [← hszV] at hgr hown
         have hb2 : Below (w1.setCell ⟨g, 9, none⟩ (.slice ao1 (addI r.voters frm).length cap1)).heap.size (w1.setCell ⟨g, 9, none⟩ (.slice ao1 (addI r.voters frm).length cap1)) w2 := ((Below.refl _ (w1.setCell ⟨g, 9, none⟩ (.slice ao1 (addI r.voters frm).length cap1))).alloc (Nat.le_refl _) _).grown hgr (by simp [World.setCell]) (fun j hj => by cases hj; exact Nat.le_refl _)
         obtain ⟨⟨hT2, hK2⟩, u10, z10⟩ := turnS_best hT1 hb2 log hlog hown
         obtain ⟨hT3, hK3⟩ := turnS_sets hT2 [(11, .int .i64 was)] { r with voters := addI r.voters frm, best := log, bestView := was } (fun _ _ _ _ _ f f' e e' => by subst e e'; exact ⟨rfl, rfl, rfl, rfl, rfl, rfl, rfl, rfl, rfl, rfl, rfl, rfl, rfl, rfl⟩) rfl rfl rfl rfl rfl rfl rfl
         obtain ⟨_, ⟨_, _, _, _, _, _, _, _, _, _, _, b11, _⟩, bz, _⟩ := (hT1.below hb2).cells
         exact ⟨hT3, hK2.trans hK3, u10, ⟨_, b11⟩, bz⟩
       rw [hszV] at hmade)
    | (at_builtin; refine wpList_app_g Tryz.underlying22 Tryz.infoEn (by decide) _ rfl _ _ rfl w1.heap.size (.slice (some ⟨w1.heap.size, 0, none⟩) 0 0) 0 [] rfl hmade bo log.length c (enCells log) rfl (hheld _) (by omega) (by simp [World.setCell]) ?_; intro v1 w2 hown2 hgrow2 _; obtain ⟨ao2, cap2, rfl⟩ := own_form hown2
       rw [List.nil_append] at hown2
       simp only [Nat.zero_add] at hown2
       obtain ⟨hT2, hK2, ⟨u10, y10⟩, ⟨u11, y11⟩, zz⟩ := HW.out w2 ao2 cap2 hgrow2 hown2
       clear HW hheld hmade))
  generalize ((w2.setCell ⟨g, 10, none⟩ (.slice ao2 log.length cap2)).setCell ⟨g, 11, none⟩ (.int .i64 was)) = V2 at hT2 hK2 ⊢
  obtain ⟨hT3, hK3⟩ := turnS_sets hT2 [(12, .int .i64 (min (max r.bestDone com) (log.length : Int)))] (bestR r frm was com log) (by rw [bestR_yes HX.out]; exact (fun _ _ _ _ _ f f' e e' => by subst e e'; exact ⟨rfl, rfl, rfl, rfl, rfl, rfl, rfl, rfl, rfl, rfl, rfl, rfl, rfl, rfl⟩)) (by rw [bestR_yes HX.out]) (by rw [bestR_yes HX.out]) (by rw [bestR_yes HX.out]) (by rw [bestR_yes HX.out]) (by rw [bestR_yes HX.out]) (by rw [bestR_yes HX.out]) (by rw [bestR_yes HX.out])
  obtain ⟨sb, ⟨b0, b1, b2, b3, b4, b5, b6, b7, b8, b9, b10, b11, b12⟩, bz, bL, bH⟩ := hT2.cells
  have b10' : V2.cell? ⟨g, 10, none⟩ = some (.slice sb.bo log.length sb.bc) := b10
  have b12' : V2.cell? ⟨g, 12, none⟩ = some (.int .i64 r.bestDone) := b12
  clear b0 b1 b2 b3 b4 b5 b6 b7 b8 b9 b10 b11 b12 bL bH
  have hK23 := (hK1.trans hK2).trans hK3
  simp only [sets] at hT3 hK23
  go_region
  have hT4 := hT3.drew
  have hK4 := hK23.drew
  generalize (V2.setCell ⟨g, 12, none⟩ (.int .i64 (min (max r.bestDone com) (log.length : Int)))).drew = V4 at *
  obtain ⟨hrn, hrv, _⟩ := bestR_same r frm was com log
  obtain ⟨r3, hr3⟩ : ∃ x, x = bestR r frm was com log := ⟨_, rfl⟩
  rw [← hr3] at hT4 hrn
  have HR3 : Hid (r3 = bestR r frm was com log) := hr3
  clear hr3 hrv
  obtain ⟨sd, ⟨d0', d1', d2', d3', d4', d5', d6', d7', d8', d9', d10', d11', d12'⟩, dz, dL, dH⟩ := hT4.cells
  rw [hrn] at d1'
  clear hrn
  have hmo := fun W => rmost_any r.n ⟨by omega, by omega⟩ W
  go_wp2_with (first
    | (go_at_call 54; refine (hmo _).mono ?_; rintro e wn ⟨rfl, hq⟩; have hq' := hq.symm; clear hq; subst hq'))
  go_ret
  rw [HR3.out] at hT4
  exact ⟨_, rfl, OwnS.nil _ _ _ _ _, hT4, hK4⟩
set_option maxRecDepth 100000 in
set_option maxHeartbeats 1000000 in
theorem rstates_cn (B g : Nat) (r : Rep) (frm was com : Int) (log : List Ent) (bo : Option Addr) (c : Nat) (hvl : r.voters.length ≤ 20) (hlog : log.length ≤ 1000) (hk : frm ∉ r.voters) (hx : ¬ r.bestView < was) (hx2 : ¬ was = r.bestView) (hy : ¬ ((addI r.voters frm).length : Int) = mostN r.n) (w : World) (h : TurnR B w g r) (hs : SrcE B w bo c log) :
    Calls Tryz.prog 56 #[.pointer (some ⟨g, 0, none⟩), .int .i64 frm, .int .i64 was, .int .i64 com, .slice bo log.length c] w fun e w' => ∃ v, e = .returned v ∧ OwnO B w' v (statesR r frm was com log).2 ∧ TurnR B w' g (statesR r frm was com log).1 ∧ KeepM B w w' := by
  have e1 : statesR r frm was com log = (bestR r frm was com log, []) := by
    unfold statesR
    rw [if_neg hk, if_neg (by rw [(bestR_same r frm was com log).2.2]; exact hy)]
  have dy : decide (((addI r.voters frm).length : Int) = mostN r.n) = false := decide_eq_false hy
  have dy2 : (((addI r.voters frm).length : Int) == mostN r.n) = false := by simp [hy]
  rw [e1]
  clear e1
  have HX : Hid (¬ BestC r was log) := fun q => by rcases q with q | q; exact hx q; exact hx2 q.1
  have d1 : decide (r.bestView < was) = false := decide_eq_false hx
  have d2 : decide (was = r.bestView) = false := decide_eq_false hx2
  have d4 : (was == r.bestView) = false := by simp [hx2]
  clear hx
  clear hy
  have hB := h.base
  have hn := one_bounds h.one
  have hnr : r.n ≤ 5 := by omega
  obtain ⟨sk, ⟨k0, k1, k2, k3, k4, k5, k6, k7, k8, k9, k10, k11, k12⟩, kz, kL, kH⟩ := h.cells
  have hadd := radd_no r.voters frm hk sk.wo sk.wc (by omega) w kL.voters
  clear hk k0 k1 k2 k3 k4 k5 k6 k7 k8 k10 k11 k12 kL kH
  go_enter Tryz.func56, Tryz.ntmps56
  go_wp2_with (first
    | (go_at_call 53; refine hadd.mono ?_; rintro e w1 ⟨ao1, cap1, rfl, hown1, hb1⟩
       obtain ⟨⟨hT1, hK1⟩, ⟨u9, y9⟩, z9⟩ := turnS_voters h hb1 _ hown1
       obtain ⟨sa, ⟨a0, a1, a2, a3, a4, a5, a6, a7, a8, a9, a10, a11, a12⟩, az, aL, aH⟩ := hT1.cells
       have a11' : (w1.setCell ⟨g, 9, none⟩ (.slice ao1 (addI r.voters frm).length cap1)).cell? ⟨g, 11, none⟩ = some (.int .i64 r.bestView) := a11
       have a10' : (w1.setCell ⟨g, 9, none⟩ (.slice ao1 (addI r.voters frm).length cap1)).cell? ⟨g, 10, none⟩ = some (.slice sa.bo r.best.length sa.bc) := a10
       have a12' : (w1.setCell ⟨g, 9, none⟩ (.slice ao1 (addI r.voters frm).length cap1)).cell? ⟨g, 12, none⟩ = some (.int .i64 r.bestDone) := a12
       clear a0 a1 a2 a3 a4 a5 a6 a7 a8 a9 a10 a11 a12 aH aL hadd k9 kz hown1 hb1 h))
  generalize (w1.setCell ⟨g, 9, none⟩ (.slice ao1 (addI r.voters frm).length cap1)) = V at *
  obtain ⟨hT3, hK3⟩ := turnS_sets hT1 [(12, .int .i64 (min (max r.bestDone com) (r.best.length : Int)))] (bestR r frm was com log) (by rw [bestR_no HX.out]; exact (fun _ _ _ _ _ f f' e e' => by subst e e'; exact ⟨rfl, rfl, rfl, rfl, rfl, rfl, rfl, rfl, rfl, rfl, rfl, rfl, rfl, rfl⟩)) (by rw [bestR_no HX.out]) (by rw [bestR_no HX.out]) (by rw [bestR_no HX.out]) (by rw [bestR_no HX.out]) (by rw [bestR_no HX.out]) (by rw [bestR_no HX.out]) (by rw [bestR_no HX.out])
  have hK23 := hK1.trans hK3
  simp only [sets] at hT3 hK23
  go_region
  have hT4 := hT3.drew
  have hK4 := hK23.drew
  generalize (V.setCell ⟨g, 12, none⟩ (.int .i64 (min (max r.bestDone com) (r.best.length : Int)))).drew = V4 at *
  obtain ⟨hrn, hrv, _⟩ := bestR_same r frm was com log
  obtain ⟨r3, hr3⟩ : ∃ x, x = bestR r frm was com log := ⟨_, rfl⟩
  rw [← hr3] at hT4 hrn
  have HR3 : Hid (r3 = bestR r frm was com log) := hr3
  clear hr3 hrv
  obtain ⟨sd, ⟨d0', d1', d2', d3', d4', d5', d6', d7', d8', d9', d10', d11', d12'⟩, dz, dL, dH⟩ := hT4.cells
  rw [hrn] at d1'
  clear hrn
  have hmo := fun W => rmost_any r.n ⟨by omega, by omega⟩ W
  go_wp2_with (first
    | (go_at_call 54; refine (hmo _).mono ?_; rintro e wn ⟨rfl, hq⟩; have hq' := hq.symm; clear hq; subst hq'))
  go_ret
  rw [HR3.out] at hT4
  exact ⟨_, rfl, OwnS.nil _ _ _ _ _, hT4, hK4⟩
set_option maxRecDepth 100000 in
set_option maxHeartbeats 1000000 in
theorem rstates_dn (B g : Nat) (r : Rep) (frm was com : Int) (log : List Ent) (bo : Option Addr) (c : Nat) (hvl : r.voters.length ≤ 20) (hlog : log.length ≤ 1000) (hk : frm ∉ r.voters) (hx : ¬ r.bestView < was) (hx2 : was = r.bestView) (hx3 : ¬ r.best.length < log.length) (hy : ¬ ((addI r.voters frm).length : Int) = mostN r.n) (w : World) (h : TurnR B w g r) (hs : SrcE B w bo c log) :
    Calls Tryz.prog 56 #[.pointer (some ⟨g, 0, none⟩), .int .i64 frm, .int .i64 was, .int .i64 com, .slice bo log.length c] w fun e w' => ∃ v, e = .returned v ∧ OwnO B w' v (statesR r frm was com log).2 ∧ TurnR B w' g (statesR r frm was com log).1 ∧ KeepM B w w' := by
  have e1 : statesR r frm was com log = (bestR r frm was com log, []) := by
    unfold statesR
    rw [if_neg hk, if_neg (by rw [(bestR_same r frm was com log).2.2]; exact hy)]
  have dy : decide (((addI r.voters frm).length : Int) = mostN r.n) = false := decide_eq_false hy
  have dy2 : (((addI r.voters frm).length : Int) == mostN r.n) = false := by simp [hy]
  rw [e1]
  clear e1
  have HX : Hid (¬ BestC r was log) := fun q => by rcases q with q | q; exact hx q; exact hx3 q.2
  have d1 : decide (r.bestView < was) = false := decide_eq_false hx
  have d2 : decide (was = r.bestView) = true := decide_eq_true hx2
  have d4 : (was == r.bestView) = true := by simp [hx2]
  have d3 : decide ((r.best.length : Int) < (log.length : Int)) = false := decide_eq_false (by omega)
  have d5 : decide (r.best.length < log.length) = false := decide_eq_false hx3
  clear hx
  clear hx2
  clear hy
  have hB := h.base
  have hn := one_bounds h.one
  have hnr : r.n ≤ 5 := by omega
  obtain ⟨sk, ⟨k0, k1, k2, k3, k4, k5, k6, k7, k8, k9, k10, k11, k12⟩, kz, kL, kH⟩ := h.cells
  have hadd := radd_no r.voters frm hk sk.wo sk.wc (by omega) w kL.voters
  clear hk k0 k1 k2 k3 k4 k5 k6 k7 k8 k10 k11 k12 kL kH
  go_enter Tryz.func56, Tryz.ntmps56
  go_wp2_with (first
    | (go_at_call 53; refine hadd.mono ?_; rintro e w1 ⟨ao1, cap1, rfl, hown1, hb1⟩
       obtain ⟨⟨hT1, hK1⟩, ⟨u9, y9⟩, z9⟩ := turnS_voters h hb1 _ hown1
       obtain ⟨sa, ⟨a0, a1, a2, a3, a4, a5, a6, a7, a8, a9, a10, a11, a12⟩, az, aL, aH⟩ := hT1.cells
       have a11' : (w1.setCell ⟨g, 9, none⟩ (.slice ao1 (addI r.voters frm).length cap1)).cell? ⟨g, 11, none⟩ = some (.int .i64 r.bestView) := a11
       have a10' : (w1.setCell ⟨g, 9, none⟩ (.slice ao1 (addI r.voters frm).length cap1)).cell? ⟨g, 10, none⟩ = some (.slice sa.bo r.best.length sa.bc) := a10
       have a12' : (w1.setCell ⟨g, 9, none⟩ (.slice ao1 (addI r.voters frm).length cap1)).cell? ⟨g, 12, none⟩ = some (.int .i64 r.bestDone) := a12
       clear a0 a1 a2 a3 a4 a5 a6 a7 a8 a9 a10 a11 a12 aH aL hadd k9 kz hown1 hb1 h))
  generalize (w1.setCell ⟨g, 9, none⟩ (.slice ao1 (addI r.voters frm).length cap1)) = V at *
  obtain ⟨hT3, hK3⟩ := turnS_sets hT1 [(12, .int .i64 (min (max r.bestDone com) (r.best.length : Int)))] (bestR r frm was com log) (by rw [bestR_no HX.out]; exact (fun _ _ _ _ _ f f' e e' => by subst e e'; exact ⟨rfl, rfl, rfl, rfl, rfl, rfl, rfl, rfl, rfl, rfl, rfl, rfl, rfl, rfl⟩)) (by rw [bestR_no HX.out]) (by rw [bestR_no HX.out]) (by rw [bestR_no HX.out]) (by rw [bestR_no HX.out]) (by rw [bestR_no HX.out]) (by rw [bestR_no HX.out]) (by rw [bestR_no HX.out])
  have hK23 := hK1.trans hK3
  simp only [sets] at hT3 hK23
  go_region
  have hT4 := hT3.drew
  have hK4 := hK23.drew
  generalize (V.setCell ⟨g, 12, none⟩ (.int .i64 (min (max r.bestDone com) (r.best.length : Int)))).drew = V4 at *
  obtain ⟨hrn, hrv, _⟩ := bestR_same r frm was com log
  obtain ⟨r3, hr3⟩ : ∃ x, x = bestR r frm was com log := ⟨_, rfl⟩
  rw [← hr3] at hT4 hrn
  have HR3 : Hid (r3 = bestR r frm was com log) := hr3
  clear hr3 hrv
  obtain ⟨sd, ⟨d0', d1', d2', d3', d4', d5', d6', d7', d8', d9', d10', d11', d12'⟩, dz, dL, dH⟩ := hT4.cells
  rw [hrn] at d1'
  clear hrn
  have hmo := fun W => rmost_any r.n ⟨by omega, by omega⟩ W
  go_wp2_with (first
    | (go_at_call 54; refine (hmo _).mono ?_; rintro e wn ⟨rfl, hq⟩; have hq' := hq.symm; clear hq; subst hq'))
  go_ret
  rw [HR3.out] at hT4
  exact ⟨_, rfl, OwnS.nil _ _ _ _ _, hT4, hK4⟩
end Go.Proofs.YtgdehjdajjhjpabGreat
