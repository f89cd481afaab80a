/-
  Contracts of a replica at work: a state is told to it.
-/
import Derived.Test.YtajbdffepfjegaaGreatRpKk
namespace Go.Proofs.YtajbdffepfjegaaGreat
open Go.RowKit Num
open scoped Classical
set_option linter.unusedVariables false
set_option maxRecDepth 100000

set_option maxRecDepth 100000 in
set_option maxHeartbeats 3000000 in
theorem stateGyes (B g : Nat) (r : Rep) (o : Msgs) (m : Msg) (bo : Option Addr) (c : Nat) (hv : 0 ≤ m.a3 ∧ m.a3 < 1099511627776) (hlt : ¬ m.a3 < r.view) (heq : m.a3 % r.n = r.id) (hgt : r.view < m.a3) (hh : (changeR r m.a3).how = 1) (hin : m.a1 ∉ (changeR r m.a3).voters) (hids : IdsOk (changeR r m.a3).voters (changeR r m.a3).n) (hmo : (((bestR (changeR r m.a3) m.a1 m.a6 m.a5 m.log).voters.length : Int) = mostN (changeR r m.a3).n)) (hvl : r.voters.length ≤ 900) (hml : m.log.length ≤ 1000) (hol : o.length ≤ 40) (w : World) (h : Turn B w g r o) (hs : SrcE B w bo c m.log) :
    Calls Tryz.prog 63 #[.pointer (some ⟨g, 0, none⟩), msV m bo c] w fun e w' => e = .returned (.tuple #[]) ∧ Turn B w' g (normalR (bestR (changeR r m.a3) m.a1 m.a6 m.a5 m.log) (bestR (changeR r m.a3) m.a1 m.a6 m.a5 m.log).best (changeR r m.a3).view (bestR (changeR r m.a3) m.a1 m.a6 m.a5 m.log).bestDone) ((o ++ allM (changeR r m.a3) (msg 4 0 0 0 [])) ++ allM (normalR (bestR (changeR r m.a3) m.a1 m.a6 m.a5 m.log) (bestR (changeR r m.a3) m.a1 m.a6 m.a5 m.log).best (changeR r m.a3).view (bestR (changeR r m.a3) m.a1 m.a6 m.a5 m.log).bestDone) (msg 6 0 (normalR (bestR (changeR r m.a3) m.a1 m.a6 m.a5 m.log) (bestR (changeR r m.a3) m.a1 m.a6 m.a5 m.log).best (changeR r m.a3).view (bestR (changeR r m.a3) m.a1 m.a6 m.a5 m.log).bestDone).commit 0 (bestR (changeR r m.a3) m.a1 m.a6 m.a5 m.log).best)) ∧ Keep B w w' := by
  have hT := tm_new h #[.int .i64 m.a0, .int .i64 m.a1, .int .i64 m.a2, .int .i64 m.a3, .int .i64 m.a4, .int .i64 m.a5, .int .i64 m.a6, .slice bo m.log.length c]
  have hgw : w.heap.size ≠ g := hT.ne
  have hlow : Below w.heap.size w (w.alloc (.cells #[.int .i64 m.a0, .int .i64 m.a1, .int .i64 m.a2, .int .i64 m.a3, .int .i64 m.a4, .int .i64 m.a5, .int .i64 m.a6, .slice bo m.log.length c] 27)) := (Below.refl _ w).alloc (Nat.le_refl _) _
  have hK := Keep.of_below hlow h.base
  have hs := hs.keep hK
  have hB := h.base
  have HD : Hid (¬ m.a3 < r.view ∧ m.a3 % r.n = r.id ∧ r.view < m.a3) := ⟨hlt, heq, hgt⟩
  have HC : Hid ((changeR r m.a3).how = 1 ∧ m.a1 ∉ (changeR r m.a3).voters ∧ IdsOk (changeR r m.a3).voters (changeR r m.a3).n ∧ (((bestR (changeR r m.a3) m.a1 m.a6 m.a5 m.log).voters.length : Int) = mostN (changeR r m.a3).n)) := ⟨hh, hin, hids, hmo⟩
  clear hlt heq hgt hh hin hids hmo
  go_enter Tryz.func63, Tryz.ntmps63
  go_wp2_with fail
  clear h
  have hmlt : w.heap.size < (w.alloc (.cells #[.int .i64 m.a0, .int .i64 m.a1, .int .i64 m.a2, .int .i64 m.a3, .int .i64 m.a4, .int .i64 m.a5, .int .i64 m.a6, .slice bo m.log.length c] 27)).heap.size := by simp
  have hmb : (w.alloc (.cells #[.int .i64 m.a0, .int .i64 m.a1, .int .i64 m.a2, .int .i64 m.a3, .int .i64 m.a4, .int .i64 m.a5, .int .i64 m.a6, .slice bo m.log.length c] 27)).heap[w.heap.size]? = some (.cells #[.int .i64 m.a0, .int .i64 m.a1, .int .i64 m.a2, .int .i64 m.a3, .int .i64 m.a4, .int .i64 m.a5, .int .i64 m.a6, .slice bo m.log.length c] 27 (0, 0)) := hT.box
  obtain ⟨MB, hMB⟩ : ∃ M : Nat × Obj, M = (w.heap.size, .cells #[.int .i64 m.a0, .int .i64 m.a1, .int .i64 m.a2, .int .i64 m.a3, .int .i64 m.a4, .int .i64 m.a5, .int .i64 m.a6, .slice bo m.log.length c] 27 (0, 0)) := ⟨_, rfl⟩
  have HMX : Hid (∀ (w3 : World) (r' : Rep) (o' : Msgs), TM MB B w3 g r' o' → w3.heap[w.heap.size]? = some (.cells #[.int .i64 m.a0, .int .i64 m.a1, .int .i64 m.a2, .int .i64 m.a3, .int .i64 m.a4, .int .i64 m.a5, .int .i64 m.a6, .slice bo m.log.length c] 27 (0, 0))) := fun w3 r' o' h3 => by
    have := h3.box
    rw [hMB] at this
    exact this
  rw [← hMB] at hT
  clear hMB
  generalize (w.alloc (.cells #[.int .i64 m.a0, .int .i64 m.a1, .int .i64 m.a2, .int .i64 m.a3, .int .i64 m.a4, .int .i64 m.a5, .int .i64 m.a6, .slice bo m.log.length c] 27)) = W at *
  obtain ⟨sk, xok, xck, ⟨k0, k1, k2, k3, k4, k5, k6, k7, k8, k9, k10, k11, k12, k13⟩, kz, _, kH, _⟩ := hT.turn.cells
  obtain ⟨c0, c1, c2, c3, c4, c5, c6, c7⟩ := msg_cells hmb
  have hp := fun n => primaryT_any B g r o m.a3 (W.drewN n) (hT.turn.drewN n) hv
  have hd : decide (m.a3 < r.view) = false := decide_eq_false (by have := HD.out.1; omega)
  rw [HD.out.2.1] at hp
  go_quiet (first | (go_at_call 75; refine Calls.quiet_of_same (hp _)))
  go_wp2_with fail
  clear hd hp
  have hTV := hT.drewN nq
  have hKV := hK.trans (keep_drewN nq hT.base)
  have hsV := hs.keep (keep_drewN nq hT.base)
  clear k0 k1 k2 k3 k4 k5 k6 k7 k8 k9 k10 k11 k12 k13 kz kH c0 c1 c2 c3 c4 c5 c6 c7 hT hs
  generalize W.drewN nq = V at *
  have hbV := HMX.out _ _ _ hTV
  obtain ⟨sl, xol, xcl, ⟨l0, l1, l2, l3, l4, l5, l6, l7, l8, l9, l10, l11, l12, l13⟩, lz, _, lH, _⟩ := hTV.turn.cells
  obtain ⟨d0, d1, d2, d3, d4, d5, d6, d7⟩ := msg_cells hbV
  have hd : decide (r.view < m.a3) = true := decide_eq_true HD.out.2.2
  go_quiet (fail)
  have hch := fun n => changeM_any MB B g r o m.a3 (V.drewN n) (hTV.drewN n) (by omega)
  go_wp2_with (first
    | (go_at_call 83; refine (hch _).mono ?_; rintro e X ⟨rfl, hTX, hKX0⟩
       have hKX := hKV.trans ((keep_drewN _ hTV.base).trans hKX0)
       have hsX := hsV.keep ((keep_drewN _ hTV.base).trans hKX0)
       clear hch))
  clear l0 l1 l2 l3 l4 l5 l6 l7 l8 l9 l10 l11 l12 l13 lz lH d0 d1 d2 d3 d4 d5 d6 d7 hTV hsV hd
  have hbX := HMX.out _ _ _ hTX
  obtain ⟨sa, xoa, xca, ⟨a0, a1, a2, a3, a4, a5, a6, a7, a8, a9, a10, a11, a12, a13⟩, az, _, aH, _⟩ := hTX.turn.cells
  obtain ⟨b0, b1, b2, b3, b4, b5, b6, b7⟩ := msg_cells hbX
  have hcon := fun n => contains_any sa.wo sa.wc (changeR r m.a3).voters (by show ([] : List Int).length ≤ _; simp) m.a1 (X.drewN n) (own_liesN (own_below aH.rows.vor (below_drewN (Below.refl _ X) n)))
  rw [HC.out.1] at a4
  rw [tru_no HC.out.2.1] at hcon
  go_quiet (first | (go_at_call 84; refine Calls.quiet_of_same (hcon _)))
  go_wp2_with fail
  obtain ⟨ao9, cap9, q9, own9, J9⟩ := tm_voters ((hTX.drewN nq).drew) m.a1 (addI (changeR r m.a3).voters m.a1)
  have hjo := joined_any B (changeR r m.a3).voters (changeR r m.a3).n m.a1 HC.out.2.2.1 HC.out.2.1 (by show ([] : List Int).length ≤ _; simp) (.slice ao9 (changeR r m.a3).voters.length cap9) (X.drewN nq).drew (hTX.drewN nq).drew.base own9
  have hK9 := hKX.trans ((keep_drewN nq hTX.base).trans (Keep.refl _ _).drew)
  have hs9 := hsX.keep ((keep_drewN nq hTX.base).trans (Keep.refl _ _).drew)
  have q9' : X.cell? ⟨g, 9, none⟩ = some (.slice ao9 (changeR r m.a3).voters.length cap9) := (cell_drewN X nq _).symm.trans q9
  have HJ := hid J9
  clear J9 own9 q9 a9 aH hcon
  go_cut [63] from 52 to 63 (fun _ wx => TM MB B wx g { (changeR r m.a3) with voters := addI (changeR r m.a3).voters m.a1 } (o ++ allM (changeR r m.a3) (msg 4 0 0 0 [])) ∧ Keep B (X.drewN nq).drew wx)
  case first =>
    go_region_with (go_at_call 85; refine hjo.mono ?_; rintro e w5 ⟨v5, rfl, hJ5⟩; obtain ⟨ao5, cap5, rfl⟩ := own_form hJ5.own; obtain ⟨z9, y9, hT6, hK6⟩ := HJ.out _ _ hJ5)
    all_goals
      go_wp2_with fail
      go_meet
      case rel => exact ⟨hT6, hK6⟩
  case rest =>
    obtain ⟨hT6, hK6⟩ := hcut
    clear hjo HJ
    generalize wc = Y at *
    have hb6 := HMX.out _ _ _ hT6
    obtain ⟨e0, e1, e2, e3, e4, e5, e6, e7⟩ := msg_cells hb6
    have hkb := keepBest_any B g _ _ m bo c hml (by rw [List.length_append]; have := restM_len (changeR r m.a3) (msg 4 0 0 0 []) 0; have h5 := one_bounds hTX.one; have h6 : (changeR r m.a3).n = r.n := rfl; unfold allM; omega) Y hT6.turn (hs9.keep hK6)
    go_wp2_with (first
      | (go_at_call 88; refine hkb.mono ?_; rintro e w7 ⟨rfl, hT7, hK7⟩
         have hT7 : Turn B w7 g (bestR (changeR r m.a3) m.a1 m.a6 m.a5 m.log) (o ++ allM (changeR r m.a3) (msg 4 0 0 0 [])) := by rw [bestR_keep]; exact hT7
         obtain ⟨s7, xo7, xc7, ⟨m0, m1, m2, m3, m4, m5, m6, m7, m8, m9, m10, m11, m12, m13⟩, m7z, _, m7H, _⟩ := hT7.cells
         rw [bestR_view] at m2
         have hju := justMost_any B g _ _ (bestR (changeR r m.a3) m.a1 m.a6 m.a5 m.log).voters.length (by rw [bestR_voters, addI_len]; show (0 : Nat) + 1 ≤ _; omega) s7.wo s7.wc w7 hT7
         rw [bestR_n, decide_eq_true HC.out.2.2.2] at hju
         clear hkb)
      | (go_at_call 86; refine hju.mono ?_; rintro e wn ⟨rfl, hq⟩; have hq' := hq.symm; clear hq; subst hq'))
    go_wp2_with fail
    clear hju
    have hno := normalT_any B g _ _ (bestR (changeR r m.a3) m.a1 m.a6 m.a5 m.log).best s7.bo s7.bc (changeR r m.a3).view (bestR (changeR r m.a3) m.a1 m.a6 m.a5 m.log).bestDone w7.drew hT7.drew (.inr (m7H.below (Below.refl _ _).drew).rows.best) hT7.bl
    go_cut [90] from 74 to 90 (fun _ wx => Turn B wx g (normalR (bestR (changeR r m.a3) m.a1 m.a6 m.a5 m.log) (bestR (changeR r m.a3) m.a1 m.a6 m.a5 m.log).best (changeR r m.a3).view (bestR (changeR r m.a3) m.a1 m.a6 m.a5 m.log).bestDone) (o ++ allM (changeR r m.a3) (msg 4 0 0 0 [])) ∧ Keep B w7.drew wx)
    case first =>
      go_region_with (go_at_call 89; refine hno.mono ?_; rintro e w8 ⟨rfl, hT8, hK8⟩)
      all_goals
        go_wp2_with fail
        go_meet
        case rel => exact ⟨hT8, hK8⟩
    case rest =>
      obtain ⟨hT8, hK8⟩ := hcut
      clear hno
      generalize wc = w8 at *
      obtain ⟨s9, xo9, xc9, ⟨_, _, _, _, _, n5, n6, _⟩, _, _, n9H, _⟩ := hT8.cells
      have hsa := sendAllT_any B g _ _ (msg 6 0 (normalR (bestR (changeR r m.a3) m.a1 m.a6 m.a5 m.log) (bestR (changeR r m.a3) m.a1 m.a6 m.a5 m.log).best (changeR r m.a3).view (bestR (changeR r m.a3) m.a1 m.a6 m.a5 m.log).bestDone).commit 0 (bestR (changeR r m.a3) m.a1 m.a6 m.a5 m.log).best) s9.lo s9.lc w8.drew hT8.drew (.inr (n9H.below (Below.refl _ _).drew).rows.log) hT7.bl (by rw [List.length_append]; have := restM_len (changeR r m.a3) (msg 4 0 0 0 []) 0; have h5 := one_bounds hTX.one; have h6 : (changeR r m.a3).n = r.n := rfl; unfold allM; omega)
      go_wp2_with fail
      go_region_with (go_at_call 51; refine hsa.mono ?_; rintro e w9 ⟨rfl, hT9, hK9z⟩)
      all_goals
        go_wp2
        first
          | go_end0
          | refine bodyPost_ret (results_none rfl _ _ _) rfl ?_
        exact ⟨rfl, hT9, (((hK9.trans hK6).trans hK7).trans ((Keep.refl _ _).drew.trans hK8)).trans ((Keep.refl _ _).drew.trans hK9z)⟩
end Go.Proofs.YtajbdffepfjegaaGreat
