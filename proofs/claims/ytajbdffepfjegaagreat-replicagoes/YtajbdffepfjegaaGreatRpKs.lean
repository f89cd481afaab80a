/-
  Contracts of a replica at work: it puts behind its log what that lacks.
-/
import Derived.Test.YtajbdffepfjegaaGreatRpKr
namespace Go.Proofs.YtajbdffepfjegaaGreat
open Go.RowKit Num
open scoped Classical
set_option linter.unusedVariables false
set_option maxRecDepth 100000

theorem drop_min {α : Type} (l : List α) (k : Nat) : l.drop (min k l.length) = l.drop k := by
  by_cases h : k ≤ l.length
  · rw [Nat.min_eq_left h]
  · rw [Nat.min_eq_right (by omega), List.drop_eq_nil_of_le (Nat.le_refl _), List.drop_eq_nil_of_le (by omega)]
theorem tm_appL {M : Nat × Obj} {B : Nat} {W : World} {g : Nat} {r : Rep} (h : TM M B W g r []) (more : List Ent) (hm : more.length ≤ 1000) (hl : r.log.length + more.length ≤ 1000) {bo : Option Addr} {c : Nat} (hs : LiesE W W.heap.size bo more) :
    ∃ (lo : Option Addr) (lc : Nat) (v' : Value) (w' : World), W.cell? ⟨g, 5, none⟩ = some (.slice lo r.log.length lc) ∧ (Builtin.append_ #[22, 22] 22 #[.slice lo r.log.length lc, .slice bo more.length c]).run Tryz.prog W = .ok v' w' ∧
      (∃ ao cap, v' = .slice ao (r.log ++ more).length cap) ∧ w'.cell? ⟨g, 5, none⟩ = some (.slice lo r.log.length lc) ∧ (∀ k, w'.frozen? ⟨g, k, none⟩ = false) ∧ TM M B (w'.setCell ⟨g, 5, none⟩ v') g { r with log := r.log ++ more } [] ∧ Below B W (w'.setCell ⟨g, 5, none⟩ v') := by
  obtain ⟨⟨vl, va, vv, vw, vb, x, hH, ho, hx⟩, hM, hne, hty, hB, h1, hl0, hb, ha⟩ := h
  obtain ⟨lo, lc, rfl, _⟩ := ownE_lies hH.rows.log
  obtain ⟨v', w', hr, ⟨ao, cap, rfl⟩, bx, hH', hst, hbel, hoff⟩ := app_en hH (by omega) (by decide) (by decide) hB hl0 more hm bo c (liesE_src hs) 22
  have hcell := bx.cell 5 (by omega)
  have hS2 := bx.stays 5 (.slice ao (r.log ++ more).length cap)
  have hbel2 : Below B W (w'.setCell ⟨g, 5, none⟩ (.slice ao (r.log ++ more).length cap)) := hbel.setCell (p := ⟨g, 5, none⟩) hH.base _
  exact ⟨lo, lc, _, w', hH.box.cell 5 (by omega), hr, ⟨ao, cap, rfl⟩, hcell, bx.unfrozen, ⟨⟨_, _, _, _, _, _, hH', ownO_stay (ownO_nil_stay ho hst (by decide)) hS2 (by decide) (by decide), hx⟩, msg_stay hty (msg_stay hty hM hst (by decide)) hS2 (by decide), hne, hty, Nat.le_trans hB hbel2.size, h1, by rw [List.length_append]; exact hl, hb, ha⟩, hbel2⟩
set_option maxRecDepth 100000 in
set_option maxHeartbeats 3000000 in
theorem extendN (B g : Nat) (r : Rep) (m : Msg) (a : Addr) (c : Nat) (h4 : 0 ≤ m.a4 ∧ m.a4 ≤ (r.log.length : Int)) (hml : m.log.length ≤ 1000) (hmc : m.log.length ≤ c) (hno : ¬ FitP r.log (m.log.drop (r.log.length - m.a4.toNat)))  (w : World) (h : Turn B w g r []) (hs : SrcE B w (some a) c m.log) :
    Calls Tryz.prog 91 #[.pointer (some ⟨g, 0, none⟩), msV m (some a) c] w fun e w' => e = .returned (.tuple #[]) ∧ Turn B w' g r [] ∧ Below B w w' := by
  have hT := tm_new h #[.int .i64 m.a0, .int .i64 m.a1, .int .i64 m.a2, .int .i64 m.a3, .int .i64 m.a4, .int .i64 m.a5, .int .i64 m.a6, .slice (some a) m.log.length c]
  have hgw : w.heap.size ≠ g := hT.ne
  have hlow : Below w.heap.size w (w.alloc (.cells #[.int .i64 m.a0, .int .i64 m.a1, .int .i64 m.a2, .int .i64 m.a3, .int .i64 m.a4, .int .i64 m.a5, .int .i64 m.a6, .slice (some a) m.log.length c] 27)) := (Below.refl _ w).alloc (Nat.le_refl _) _
  have hK := Keep.of_below hlow h.base
  have hs := hs.keep hK
  have hB := h.base
  have HN : Hid (¬ FitP r.log (m.log.drop (r.log.length - m.a4.toNat))) := hno
  clear hno
  go_enter Tryz.func91, Tryz.ntmps91
  go_wp2_with fail
  clear h
  have hmlt : w.heap.size < (w.alloc (.cells #[.int .i64 m.a0, .int .i64 m.a1, .int .i64 m.a2, .int .i64 m.a3, .int .i64 m.a4, .int .i64 m.a5, .int .i64 m.a6, .slice (some a) m.log.length c] 27)).heap.size := by simp
  have hmb : (w.alloc (.cells #[.int .i64 m.a0, .int .i64 m.a1, .int .i64 m.a2, .int .i64 m.a3, .int .i64 m.a4, .int .i64 m.a5, .int .i64 m.a6, .slice (some a) m.log.length c] 27)).heap[w.heap.size]? = some (.cells #[.int .i64 m.a0, .int .i64 m.a1, .int .i64 m.a2, .int .i64 m.a3, .int .i64 m.a4, .int .i64 m.a5, .int .i64 m.a6, .slice (some a) m.log.length c] 27 (0, 0)) := hT.box
  obtain ⟨MB, hMB⟩ : ∃ M : Nat × Obj, M = (w.heap.size, .cells #[.int .i64 m.a0, .int .i64 m.a1, .int .i64 m.a2, .int .i64 m.a3, .int .i64 m.a4, .int .i64 m.a5, .int .i64 m.a6, .slice (some a) m.log.length c] 27 (0, 0)) := ⟨_, rfl⟩
  have HMX : Hid (∀ (w3 : World) (r' : Rep) (o' : Msgs), TM MB B w3 g r' o' → w3.heap[w.heap.size]? = some (.cells #[.int .i64 m.a0, .int .i64 m.a1, .int .i64 m.a2, .int .i64 m.a3, .int .i64 m.a4, .int .i64 m.a5, .int .i64 m.a6, .slice (some a) m.log.length c] 27 (0, 0))) := fun w3 r' o' h3 => by
    have := h3.box
    rw [hMB] at this
    exact this
  rw [← hMB] at hT
  clear hMB
  generalize (w.alloc (.cells #[.int .i64 m.a0, .int .i64 m.a1, .int .i64 m.a2, .int .i64 m.a3, .int .i64 m.a4, .int .i64 m.a5, .int .i64 m.a6, .slice (some a) m.log.length c] 27)) = W at *
  obtain ⟨sk, xok, xck, ⟨k0, k1, k2, k3, k4, k5, k6, k7, k8, k9, k10, k11, k12, k13⟩, kz, _, kH, _⟩ := hT.turn.cells
  obtain ⟨c0, c1, c2, c3, c4, c5, c6, c7⟩ := msg_cells hmb
  have hlen := hT.ll
  obtain ⟨H, hH⟩ : ∃ H : Nat, min ((r.log.length : Int) - m.a4) (m.log.length : Int) = (H : Int) := Int.eq_ofNat_of_zero_le (by omega)
  have HHV : Hid (H = min (r.log.length - m.a4.toNat) m.log.length) := by unfold Hid; omega
  have i1 : IntKind.i64.wrap ((r.log.length : Int) - m.a4) = (r.log.length : Int) - m.a4 := by rw [IntKind.wrap_i64]; omega
  have i2 : (H : Int) ≤ (m.log.length : Int) := by omega
  have i3 : (m.log.length : Int) ≤ (c : Int) := by omega
  have i5 : H ≤ m.log.length := by omega
  obtain ⟨mo, hmo⟩ : ∃ mo, m.log.drop H = mo := ⟨_, rfl⟩
  have hmol : mo.length = m.log.length - H := by rw [← hmo, List.length_drop]
  have HMO : Hid (m.log.drop (r.log.length - m.a4.toNat) = mo) := by
    unfold Hid
    rw [← hmo, HHV.out, drop_min]
  have hsub := lies_sub (hs.lies hT.base) H
  rw [hmo] at hsub
  rw [HMO.out] at HN
  have HML : Hid (mo.length = m.log.length - H) := hmol
  have HEM : Hid (c = H → mo = []) := fun e => List.eq_nil_of_length_eq_zero (by omega)
  go_region
  go_upto_region 2 with fail
  have hTV := hT.drew
  have hKV := hK.trans (Keep.refl B W).drew
  have hsV : LiesE W.drew W.drew.heap.size (some (a.add (H * 2))) mo := liesE_next hsub (Below.refl W.heap.size W).drew (Nat.le_refl _)
  clear k0 k1 k2 k3 k4 k5 k6 k7 k8 k9 k10 k11 k12 k13 kz kH c0 c1 c2 c3 c4 c5 c6 c7 hT hs hsub hmo hmol hH
  generalize W.drew = V at *
  have hbV := HMX.out _ _ _ hTV
  obtain ⟨sl, xol, xcl, ⟨l0, l1, l2, l3, l4, l5, l6, l7, l8, l9, l10, l11, l12, l13⟩, lz, _, lH, _⟩ := hTV.turn.cells
  obtain ⟨d0, d1, d2, d3, d4, d5, d6, d7⟩ := msg_cells hbV
  go_cut [5] from 19 to 22 (fun v wx => ∃ b' c', v = .slice b' (m.log.length - H) c' ∧ LiesE V V.heap.size b' mo ∧ wx = V)
  case first =>
    by_cases hc : c = H
    · have hmo0 := HEM.out hc
      subst hc
      go_wp2_with fail
      go_meet
      case rel => exact ⟨some a, 0, by rw [show m.log.length - c = 0 by omega], (by rw [hmo0]; exact fun i x hx => by simp at hx), rfl⟩
    · go_wp2_with fail
      go_meet
      case rel => exact ⟨_, _, rfl, hsV, rfl⟩
  case rest =>
    obtain ⟨b', c', rfl, hlm, rfl⟩ := hcut
    generalize wc = V at *
    have hfit : ∀ L, mo.length = L → Calls Tryz.prog 78 #[.slice sl.lo r.log.length sl.lc, .slice b' L c'] V fun e w' => e = .returned (.bool (tru (FitP r.log mo))) ∧ ∃ k, w' = V.drewN k := by
      intro L hL
      subst hL
      exact fit_any r.log mo hlen (by have := HML.out; omega) sl.lo b' sl.lc c' V (own_liesE lH.rows.log) hlm
    rw [tru_no HN.out] at hfit
    go_wp2_with (first
      | (go_at_call 78; refine (hfit _ HML.out).mono ?_; rintro e wn ⟨rfl, nk, rfl⟩))
    first
      | go_end0
      | refine bodyPost_ret (results_none rfl _ _ _) rfl ?_
    exact ⟨rfl, (hTV.drewN _).turn, (hKV.trans (keep_drewN _ hTV.base)).low⟩
set_option maxRecDepth 100000 in
set_option maxHeartbeats 3000000 in
theorem extendY (B g : Nat) (r : Rep) (m : Msg) (a : Addr) (c : Nat) (h4 : 0 ≤ m.a4 ∧ m.a4 ≤ (r.log.length : Int)) (hml : m.log.length ≤ 1000) (hmc : m.log.length ≤ c) (hno : FitP r.log (m.log.drop (r.log.length - m.a4.toNat))) (htl : r.log.length + (m.log.drop (r.log.length - m.a4.toNat)).length ≤ 1000)  (w : World) (h : Turn B w g r []) (hs : SrcE B w (some a) c m.log) :
    Calls Tryz.prog 91 #[.pointer (some ⟨g, 0, none⟩), msV m (some a) c] w fun e w' => e = .returned (.tuple #[]) ∧ Turn B w' g (raiseR { r with log := r.log ++ (m.log.drop (r.log.length - m.a4.toNat)) } m.a5) (preM (raiseR { r with log := r.log ++ (m.log.drop (r.log.length - m.a4.toNat)) } m.a5) m.a1) ∧ Below B w w' := by
  have hT := tm_new h #[.int .i64 m.a0, .int .i64 m.a1, .int .i64 m.a2, .int .i64 m.a3, .int .i64 m.a4, .int .i64 m.a5, .int .i64 m.a6, .slice (some a) m.log.length c]
  have hgw : w.heap.size ≠ g := hT.ne
  have hlow : Below w.heap.size w (w.alloc (.cells #[.int .i64 m.a0, .int .i64 m.a1, .int .i64 m.a2, .int .i64 m.a3, .int .i64 m.a4, .int .i64 m.a5, .int .i64 m.a6, .slice (some a) m.log.length c] 27)) := (Below.refl _ w).alloc (Nat.le_refl _) _
  have hK := Keep.of_below hlow h.base
  have hs := hs.keep hK
  have hB := h.base
  have HN : Hid (FitP r.log (m.log.drop (r.log.length - m.a4.toNat))) := hno
  clear hno
  go_enter Tryz.func91, Tryz.ntmps91
  go_wp2_with fail
  clear h
  have hmlt : w.heap.size < (w.alloc (.cells #[.int .i64 m.a0, .int .i64 m.a1, .int .i64 m.a2, .int .i64 m.a3, .int .i64 m.a4, .int .i64 m.a5, .int .i64 m.a6, .slice (some a) m.log.length c] 27)).heap.size := by simp
  have hmb : (w.alloc (.cells #[.int .i64 m.a0, .int .i64 m.a1, .int .i64 m.a2, .int .i64 m.a3, .int .i64 m.a4, .int .i64 m.a5, .int .i64 m.a6, .slice (some a) m.log.length c] 27)).heap[w.heap.size]? = some (.cells #[.int .i64 m.a0, .int .i64 m.a1, .int .i64 m.a2, .int .i64 m.a3, .int .i64 m.a4, .int .i64 m.a5, .int .i64 m.a6, .slice (some a) m.log.length c] 27 (0, 0)) := hT.box
  obtain ⟨MB, hMB⟩ : ∃ M : Nat × Obj, M = (w.heap.size, .cells #[.int .i64 m.a0, .int .i64 m.a1, .int .i64 m.a2, .int .i64 m.a3, .int .i64 m.a4, .int .i64 m.a5, .int .i64 m.a6, .slice (some a) m.log.length c] 27 (0, 0)) := ⟨_, rfl⟩
  have HMX : Hid (∀ (w3 : World) (r' : Rep) (o' : Msgs), TM MB B w3 g r' o' → w3.heap[w.heap.size]? = some (.cells #[.int .i64 m.a0, .int .i64 m.a1, .int .i64 m.a2, .int .i64 m.a3, .int .i64 m.a4, .int .i64 m.a5, .int .i64 m.a6, .slice (some a) m.log.length c] 27 (0, 0))) := fun w3 r' o' h3 => by
    have := h3.box
    rw [hMB] at this
    exact this
  rw [← hMB] at hT
  clear hMB
  generalize (w.alloc (.cells #[.int .i64 m.a0, .int .i64 m.a1, .int .i64 m.a2, .int .i64 m.a3, .int .i64 m.a4, .int .i64 m.a5, .int .i64 m.a6, .slice (some a) m.log.length c] 27)) = W at *
  obtain ⟨sk, xok, xck, ⟨k0, k1, k2, k3, k4, k5, k6, k7, k8, k9, k10, k11, k12, k13⟩, kz, _, kH, _⟩ := hT.turn.cells
  obtain ⟨c0, c1, c2, c3, c4, c5, c6, c7⟩ := msg_cells hmb
  have hlen := hT.ll
  obtain ⟨H, hH⟩ : ∃ H : Nat, min ((r.log.length : Int) - m.a4) (m.log.length : Int) = (H : Int) := Int.eq_ofNat_of_zero_le (by omega)
  have HHV : Hid (H = min (r.log.length - m.a4.toNat) m.log.length) := by unfold Hid; omega
  have i1 : IntKind.i64.wrap ((r.log.length : Int) - m.a4) = (r.log.length : Int) - m.a4 := by rw [IntKind.wrap_i64]; omega
  have i2 : (H : Int) ≤ (m.log.length : Int) := by omega
  have i3 : (m.log.length : Int) ≤ (c : Int) := by omega
  have i5 : H ≤ m.log.length := by omega
  obtain ⟨mo, hmo⟩ : ∃ mo, m.log.drop H = mo := ⟨_, rfl⟩
  have hmol : mo.length = m.log.length - H := by rw [← hmo, List.length_drop]
  have HMO : Hid (m.log.drop (r.log.length - m.a4.toNat) = mo) := by
    unfold Hid
    rw [← hmo, HHV.out, drop_min]
  have hsub := lies_sub (hs.lies hT.base) H
  rw [hmo] at hsub
  rw [HMO.out] at HN htl
  have HML : Hid (mo.length = m.log.length - H) := hmol
  have HEM : Hid (c = H → mo = []) := fun e => List.eq_nil_of_length_eq_zero (by omega)
  go_region
  go_upto_region 2 with fail
  have hTV := hT.drew
  have hKV := hK.trans (Keep.refl B W).drew
  have hsV : LiesE W.drew W.drew.heap.size (some (a.add (H * 2))) mo := liesE_next hsub (Below.refl W.heap.size W).drew (Nat.le_refl _)
  clear k0 k1 k2 k3 k4 k5 k6 k7 k8 k9 k10 k11 k12 k13 kz kH c0 c1 c2 c3 c4 c5 c6 c7 hT hs hsub hmo hmol hH
  generalize W.drew = V at *
  have hbV := HMX.out _ _ _ hTV
  obtain ⟨sl, xol, xcl, ⟨l0, l1, l2, l3, l4, l5, l6, l7, l8, l9, l10, l11, l12, l13⟩, lz, _, lH, _⟩ := hTV.turn.cells
  obtain ⟨d0, d1, d2, d3, d4, d5, d6, d7⟩ := msg_cells hbV
  go_cut [5] from 19 to 22 (fun v wx => ∃ b' c', v = .slice b' (m.log.length - H) c' ∧ LiesE V V.heap.size b' mo ∧ wx = V)
  case first =>
    by_cases hc : c = H
    · have hmo0 := HEM.out hc
      subst hc
      go_wp2_with fail
      go_meet
      case rel => exact ⟨some a, 0, by rw [show m.log.length - c = 0 by omega], (by rw [hmo0]; exact fun i x hx => by simp at hx), rfl⟩
    · go_wp2_with fail
      go_meet
      case rel => exact ⟨_, _, rfl, hsV, rfl⟩
  case rest =>
    obtain ⟨b', c', rfl, hlm, rfl⟩ := hcut
    generalize wc = V at *
    have hfit : ∀ L, mo.length = L → Calls Tryz.prog 78 #[.slice sl.lo r.log.length sl.lc, .slice b' L c'] V fun e w' => e = .returned (.bool (tru (FitP r.log mo))) ∧ ∃ k, w' = V.drewN k := by
      intro L hL
      subst hL
      exact fit_any r.log mo hlen (by have := HML.out; omega) sl.lo b' sl.lc c' V (own_liesE lH.rows.log) hlm
    rw [tru_yes HN.out] at hfit
    go_wp2_with (first
      | (go_at_call 78; refine (hfit _ HML.out).mono ?_; rintro e wn ⟨rfl, nk, rfl⟩
         obtain ⟨lo2, lc2, v', w3, q5, hr, ⟨ao3, cap3, rfl⟩, d5', dz', hT3, hb3⟩ := tm_appL (hTV.drewN nk) mo (by have := HML.out; omega) (by omega) (liesE_next hlm (below_drewN (Below.refl V.heap.size V) nk) (below_drewN (Below.refl V.heap.size V) nk).size) (c := c')
         have e5 := q5.symm.trans ((cell_drewN V nk _).trans l5)
         simp only [Option.some.injEq, Value.slice.injEq, true_and] at e5
         obtain ⟨rfl, rfl⟩ := e5
         rw [HML.out] at hr
         obtain ⟨lg, hlg⟩ : ∃ lg, r.log ++ mo = lg := ⟨_, rfl⟩
         rw [hlg] at hr hT3 hb3
         have HG : Hid (r.log ++ mo = lg) := hlg
         have hbX := HMX.out _ _ _ hT3
         obtain ⟨x0, x1, x2, x3, x4, x5, x6, x7⟩ := msg_cells hbX
         have hra := raiseM_any MB B g _ [] m.a5 _ hT3
         clear hlg q5 hfit)
      | (at_builtin; refine Lib.wpList_append_run _ rfl _ _ _ _ rfl _ _ rfl rfl _ _ hr ?_)
      | (go_at_call 79; refine hra.mono ?_; rintro e w5 ⟨rfl, hT5, hK5⟩
         obtain ⟨y0, y1, y2, y3, y4, y5, y6, y7⟩ := msg_cells (HMX.out _ _ _ hT5)
         have hpre := preM_any MB B g _ [] m.a1 w5 hT5 (by simp))
      | (go_at_call 81; refine hpre.mono ?_; rintro e w6 ⟨rfl, hT6, hK6⟩))
    first
      | go_end0
      | refine bodyPost_ret (results_none rfl _ _ _) rfl ?_
    rw [HMO.out, HG.out]
    exact ⟨rfl, hT6.turn, ((((hKV.trans (keep_drewN nk hTV.base)).low).trans hb3).trans hK5.low).trans hK6.low⟩
set_option maxRecDepth 100000 in
set_option maxHeartbeats 3000000 in
theorem extendZ (B g : Nat) (r : Rep) (m : Msg)  (c : Nat) (h4 : 0 ≤ m.a4 ∧ m.a4 ≤ (r.log.length : Int)) (hml : m.log.length ≤ 1000) (hmc : m.log.length ≤ c) (hno : FitP r.log (m.log.drop (r.log.length - m.a4.toNat))) (htl : r.log.length + (m.log.drop (r.log.length - m.a4.toNat)).length ≤ 1000)  (w : World) (h : Turn B w g r []) (hs : SrcE B w none c m.log) :
    Calls Tryz.prog 91 #[.pointer (some ⟨g, 0, none⟩), msV m none c] w fun e w' => e = .returned (.tuple #[]) ∧ Turn B w' g (raiseR { r with log := r.log ++ (m.log.drop (r.log.length - m.a4.toNat)) } m.a5) (preM (raiseR { r with log := r.log ++ (m.log.drop (r.log.length - m.a4.toNat)) } m.a5) m.a1) ∧ Below B w w' := by
  have hT := tm_new h #[.int .i64 m.a0, .int .i64 m.a1, .int .i64 m.a2, .int .i64 m.a3, .int .i64 m.a4, .int .i64 m.a5, .int .i64 m.a6, .slice none m.log.length c]
  have hgw : w.heap.size ≠ g := hT.ne
  have hlow : Below w.heap.size w (w.alloc (.cells #[.int .i64 m.a0, .int .i64 m.a1, .int .i64 m.a2, .int .i64 m.a3, .int .i64 m.a4, .int .i64 m.a5, .int .i64 m.a6, .slice none m.log.length c] 27)) := (Below.refl _ w).alloc (Nat.le_refl _) _
  have hK := Keep.of_below hlow h.base
  have hs := hs.keep hK
  have hB := h.base
  have HN : Hid (FitP r.log (m.log.drop (r.log.length - m.a4.toNat))) := hno
  clear hno
  go_enter Tryz.func91, Tryz.ntmps91
  go_wp2_with fail
  clear h
  have hmlt : w.heap.size < (w.alloc (.cells #[.int .i64 m.a0, .int .i64 m.a1, .int .i64 m.a2, .int .i64 m.a3, .int .i64 m.a4, .int .i64 m.a5, .int .i64 m.a6, .slice none m.log.length c] 27)).heap.size := by simp
  have hmb : (w.alloc (.cells #[.int .i64 m.a0, .int .i64 m.a1, .int .i64 m.a2, .int .i64 m.a3, .int .i64 m.a4, .int .i64 m.a5, .int .i64 m.a6, .slice none m.log.length c] 27)).heap[w.heap.size]? = some (.cells #[.int .i64 m.a0, .int .i64 m.a1, .int .i64 m.a2, .int .i64 m.a3, .int .i64 m.a4, .int .i64 m.a5, .int .i64 m.a6, .slice none m.log.length c] 27 (0, 0)) := hT.box
  obtain ⟨MB, hMB⟩ : ∃ M : Nat × Obj, M = (w.heap.size, .cells #[.int .i64 m.a0, .int .i64 m.a1, .int .i64 m.a2, .int .i64 m.a3, .int .i64 m.a4, .int .i64 m.a5, .int .i64 m.a6, .slice none m.log.length c] 27 (0, 0)) := ⟨_, rfl⟩
  have HMX : Hid (∀ (w3 : World) (r' : Rep) (o' : Msgs), TM MB B w3 g r' o' → w3.heap[w.heap.size]? = some (.cells #[.int .i64 m.a0, .int .i64 m.a1, .int .i64 m.a2, .int .i64 m.a3, .int .i64 m.a4, .int .i64 m.a5, .int .i64 m.a6, .slice none m.log.length c] 27 (0, 0))) := fun w3 r' o' h3 => by
    have := h3.box
    rw [hMB] at this
    exact this
  rw [← hMB] at hT
  clear hMB
  generalize (w.alloc (.cells #[.int .i64 m.a0, .int .i64 m.a1, .int .i64 m.a2, .int .i64 m.a3, .int .i64 m.a4, .int .i64 m.a5, .int .i64 m.a6, .slice none m.log.length c] 27)) = W at *
  obtain ⟨sk, xok, xck, ⟨k0, k1, k2, k3, k4, k5, k6, k7, k8, k9, k10, k11, k12, k13⟩, kz, _, kH, _⟩ := hT.turn.cells
  obtain ⟨c0, c1, c2, c3, c4, c5, c6, c7⟩ := msg_cells hmb
  have hlen := hT.ll
  obtain ⟨H, hH⟩ : ∃ H : Nat, min ((r.log.length : Int) - m.a4) (m.log.length : Int) = (H : Int) := Int.eq_ofNat_of_zero_le (by omega)
  have HHV : Hid (H = min (r.log.length - m.a4.toNat) m.log.length) := by unfold Hid; omega
  have i1 : IntKind.i64.wrap ((r.log.length : Int) - m.a4) = (r.log.length : Int) - m.a4 := by rw [IntKind.wrap_i64]; omega
  have i2 : (H : Int) ≤ (m.log.length : Int) := by omega
  have i3 : (m.log.length : Int) ≤ (c : Int) := by omega
  have i5 : H ≤ m.log.length := by omega
  obtain ⟨mo, hmo⟩ : ∃ mo, m.log.drop H = mo := ⟨_, rfl⟩
  have hmol : mo.length = m.log.length - H := by rw [← hmo, List.length_drop]
  have HMO : Hid (m.log.drop (r.log.length - m.a4.toNat) = mo) := by
    unfold Hid
    rw [← hmo, HHV.out, drop_min]
  have hmn : m.log = [] := liesE_none (hs.lies hT.base)
  have hmo0 : mo = [] := by rw [← hmo, hmn]; simp
  have HNO : Hid (mo = []) := hmo0
  clear hmn hmo0
  rw [HMO.out] at HN htl
  have HML : Hid (mo.length = m.log.length - H) := hmol
  have HEM : Hid (c = H → mo = []) := fun e => List.eq_nil_of_length_eq_zero (by omega)
  go_region
  go_upto_region 2 with fail
  have hTV := hT.drew
  have hKV := hK.trans (Keep.refl B W).drew
  have hsV : LiesE W.drew W.drew.heap.size none mo := by rw [HNO.out]; exact fun i x hx => by simp at hx
  clear k0 k1 k2 k3 k4 k5 k6 k7 k8 k9 k10 k11 k12 k13 kz kH c0 c1 c2 c3 c4 c5 c6 c7 hT hs hmo hmol hH
  generalize W.drew = V at *
  have hbV := HMX.out _ _ _ hTV
  obtain ⟨sl, xol, xcl, ⟨l0, l1, l2, l3, l4, l5, l6, l7, l8, l9, l10, l11, l12, l13⟩, lz, _, lH, _⟩ := hTV.turn.cells
  obtain ⟨d0, d1, d2, d3, d4, d5, d6, d7⟩ := msg_cells hbV
  go_cut [5] from 19 to 22 (fun v wx => ∃ b' c', v = .slice b' (m.log.length - H) c' ∧ LiesE V V.heap.size b' mo ∧ wx = V)
  case first =>
    go_wp2_with fail
    go_meet
    case rel => exact ⟨_, _, rfl, hsV, rfl⟩
  case rest =>
    obtain ⟨b', c', rfl, hlm, rfl⟩ := hcut
    generalize wc = V at *
    have hfit : ∀ L, mo.length = L → Calls Tryz.prog 78 #[.slice sl.lo r.log.length sl.lc, .slice b' L c'] V fun e w' => e = .returned (.bool (tru (FitP r.log mo))) ∧ ∃ k, w' = V.drewN k := by
      intro L hL
      subst hL
      exact fit_any r.log mo hlen (by have := HML.out; omega) sl.lo b' sl.lc c' V (own_liesE lH.rows.log) hlm
    rw [tru_yes HN.out] at hfit
    go_wp2_with (first
      | (go_at_call 78; refine (hfit _ HML.out).mono ?_; rintro e wn ⟨rfl, nk, rfl⟩
         obtain ⟨lo2, lc2, v', w3, q5, hr, ⟨ao3, cap3, rfl⟩, d5', dz', hT3, hb3⟩ := tm_appL (hTV.drewN nk) mo (by have := HML.out; omega) (by omega) (liesE_next hlm (below_drewN (Below.refl V.heap.size V) nk) (below_drewN (Below.refl V.heap.size V) nk).size) (c := c')
         have e5 := q5.symm.trans ((cell_drewN V nk _).trans l5)
         simp only [Option.some.injEq, Value.slice.injEq, true_and] at e5
         obtain ⟨rfl, rfl⟩ := e5
         rw [HML.out] at hr
         obtain ⟨lg, hlg⟩ : ∃ lg, r.log ++ mo = lg := ⟨_, rfl⟩
         rw [hlg] at hr hT3 hb3
         have HG : Hid (r.log ++ mo = lg) := hlg
         have hbX := HMX.out _ _ _ hT3
         obtain ⟨x0, x1, x2, x3, x4, x5, x6, x7⟩ := msg_cells hbX
         have hra := raiseM_any MB B g _ [] m.a5 _ hT3
         clear hlg q5 hfit)
      | (at_builtin; refine Lib.wpList_append_run _ rfl _ _ _ _ rfl _ _ rfl rfl _ _ hr ?_)
      | (go_at_call 79; refine hra.mono ?_; rintro e w5 ⟨rfl, hT5, hK5⟩
         obtain ⟨y0, y1, y2, y3, y4, y5, y6, y7⟩ := msg_cells (HMX.out _ _ _ hT5)
         have hpre := preM_any MB B g _ [] m.a1 w5 hT5 (by simp))
      | (go_at_call 81; refine hpre.mono ?_; rintro e w6 ⟨rfl, hT6, hK6⟩))
    first
      | go_end0
      | refine bodyPost_ret (results_none rfl _ _ _) rfl ?_
    rw [HMO.out, HG.out]
    exact ⟨rfl, hT6.turn, ((((hKV.trans (keep_drewN nk hTV.base)).low).trans hb3).trans hK5.low).trans hK6.low⟩
end Go.Proofs.YtajbdffepfjegaaGreat
