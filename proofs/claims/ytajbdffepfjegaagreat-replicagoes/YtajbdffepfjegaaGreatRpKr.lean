/-
  Contracts of a replica at work: it goes by a log that it has asked for.
-/
import Derived.Test.YtajbdffepfjegaaGreatRpKh
import Derived.Test.YtajbdffepfjegaaGreatRpCon
import Derived.Deep.RegionHeldLaw
import Derived.Deep.CutRange
namespace Go.Proofs.YtajbdffepfjegaaGreat
open Go.RowKit Num
open scoped Classical
set_option linter.unusedVariables false
set_option maxRecDepth 100000

set_option maxRecDepth 100000 in
set_option maxHeartbeats 3000000 in
theorem replaceN (B g : Nat) (r : Rep) (o : Msgs) (m : Msg) (bo : Option Addr) (c : Nat) (h4 : 0 ≤ m.a4 ∧ m.a4 ≤ (r.log.length : Int)) (hml : m.log.length ≤ 1000) (hno : ¬ FitP (r.log.take m.a4.toNat) m.log)  (hol : o.length ≤ 50) (w : World) (h : Turn B w g r o) (hs : SrcE B w bo c m.log) :
    Calls Tryz.prog 90 #[.pointer (some ⟨g, 0, none⟩), msV m bo c] w fun e w' => e = .returned (.tuple #[]) ∧ Turn B w' g r o ∧ Keep B w w' := by
  have hT := tm_new h #[.int .i64 m.a0, .int .i64 m.a1, .int .i64 m.a2, .int .i64 m.a3, .int .i64 m.a4, .int .i64 m.a5, .int .i64 m.a6, .slice bo m.log.length c]
  have hgw : w.heap.size ≠ g := hT.ne
  have hlow : Below w.heap.size w (w.alloc (.cells #[.int .i64 m.a0, .int .i64 m.a1, .int .i64 m.a2, .int .i64 m.a3, .int .i64 m.a4, .int .i64 m.a5, .int .i64 m.a6, .slice bo m.log.length c] 27)) := (Below.refl _ w).alloc (Nat.le_refl _) _
  have hK := Keep.of_below hlow h.base
  have hs := hs.keep hK
  have hB := h.base
  have HN : Hid (¬ FitP (r.log.take m.a4.toNat) m.log) := hno
  clear hno
  go_enter Tryz.func90, Tryz.ntmps90
  go_wp2_with fail
  clear h
  have hmlt : w.heap.size < (w.alloc (.cells #[.int .i64 m.a0, .int .i64 m.a1, .int .i64 m.a2, .int .i64 m.a3, .int .i64 m.a4, .int .i64 m.a5, .int .i64 m.a6, .slice bo m.log.length c] 27)).heap.size := by simp
  have hmb : (w.alloc (.cells #[.int .i64 m.a0, .int .i64 m.a1, .int .i64 m.a2, .int .i64 m.a3, .int .i64 m.a4, .int .i64 m.a5, .int .i64 m.a6, .slice bo m.log.length c] 27)).heap[w.heap.size]? = some (.cells #[.int .i64 m.a0, .int .i64 m.a1, .int .i64 m.a2, .int .i64 m.a3, .int .i64 m.a4, .int .i64 m.a5, .int .i64 m.a6, .slice bo m.log.length c] 27 (0, 0)) := hT.box
  obtain ⟨MB, hMB⟩ : ∃ M : Nat × Obj, M = (w.heap.size, .cells #[.int .i64 m.a0, .int .i64 m.a1, .int .i64 m.a2, .int .i64 m.a3, .int .i64 m.a4, .int .i64 m.a5, .int .i64 m.a6, .slice bo m.log.length c] 27 (0, 0)) := ⟨_, rfl⟩
  have HMX : Hid (∀ (w3 : World) (r' : Rep) (o' : Msgs), TM MB B w3 g r' o' → w3.heap[w.heap.size]? = some (.cells #[.int .i64 m.a0, .int .i64 m.a1, .int .i64 m.a2, .int .i64 m.a3, .int .i64 m.a4, .int .i64 m.a5, .int .i64 m.a6, .slice bo m.log.length c] 27 (0, 0))) := fun w3 r' o' h3 => by
    have := h3.box
    rw [hMB] at this
    exact this
  rw [← hMB] at hT
  clear hMB
  generalize (w.alloc (.cells #[.int .i64 m.a0, .int .i64 m.a1, .int .i64 m.a2, .int .i64 m.a3, .int .i64 m.a4, .int .i64 m.a5, .int .i64 m.a6, .slice bo m.log.length c] 27)) = W at *
  obtain ⟨sk, xok, xck, ⟨k0, k1, k2, k3, k4, k5, k6, k7, k8, k9, k10, k11, k12, k13⟩, kz, _, kH, _⟩ := hT.turn.cells
  obtain ⟨c0, c1, c2, c3, c4, c5, c6, c7⟩ := msg_cells hmb
  have hlen := hT.ll
  have i3 : ¬ m.a4 < 0 := by omega
  have i1 : m.a4 ≤ (r.log.length : Int) := h4.2
  obtain ⟨hd, hhd⟩ : ∃ hd, r.log.take m.a4.toNat = hd := ⟨_, rfl⟩
  have hdl : hd.length = m.a4.toNat := by rw [← hhd, List.length_take]; omega
  have HHD : Hid (r.log.take m.a4.toNat = hd) := hhd
  rw [hhd] at HN
  have hv1 : r.log.length ≤ sk.lc := by
    rcases kH.rows.log.2 with ⟨hv0, hn0⟩ | ⟨gl, cap, cur, hv0, _, _, hcap, _⟩
    · omega
    · injection hv0 with _ _ h3
      omega
  have i2 : (r.log.length : Int) ≤ (sk.lc : Int) := by omega
  have i4 : m.a4 ≤ (sk.lc : Int) := by omega
  have hrow := kH.rows.log
  have hlh : LiesE W W.heap.size sk.lo hd := by
    rw [← hhd]
    exact Num.LiesG.take (own_liesE hrow) _
  have HDL : Hid (hd.length = m.a4.toNat) := hdl
  have hfit : ∀ (n L : Nat), hd.length = L → Calls Tryz.prog 78 #[.slice sk.lo L sk.lc, .slice bo m.log.length c] (W.drewN n) fun e w' => e = .returned (.bool (tru (FitP hd m.log))) ∧ ∃ k, w' = (W.drewN n).drewN k := by
    intro n L hL
    subst hL
    exact fit_any hd m.log (by omega) hml sk.lo bo sk.lc c (W.drewN n) (liesE_next hlh (below_drewN (Below.refl W.heap.size W) n) (below_drewN (Below.refl W.heap.size W) n).size) ((hs.keep (keep_drewN n hT.base)).lies (hT.drewN n).base)
  rw [tru_no HN.out] at hfit
  have hdl1 : hd.length ≤ 1000 := by omega
  clear hdl hhd
  go_quiet (fail)
  go_wp2_with (first
    | (go_at_call 78; refine (hfit _ _ HDL.out).mono ?_; rintro e wn ⟨rfl, nk, rfl⟩))
  first
    | go_end0
    | refine bodyPost_ret (results_none rfl _ _ _) rfl ?_
  exact ⟨rfl, (hT.drewN _).turn, hK.trans (keep_drewN _ hT.base)⟩
set_option maxRecDepth 100000 in
set_option maxHeartbeats 3000000 in
theorem replaceY (B g : Nat) (r : Rep) (o : Msgs) (m : Msg) (bo : Option Addr) (c : Nat) (h4 : 0 ≤ m.a4 ∧ m.a4 ≤ (r.log.length : Int)) (hml : m.log.length ≤ 1000) (hno : FitP (r.log.take m.a4.toNat) m.log) (htl : (r.log.take m.a4.toNat ++ m.log).length ≤ 1000) (hol : o.length ≤ 50) (w : World) (h : Turn B w g r o) (hs : SrcE B w bo c m.log) :
    Calls Tryz.prog 90 #[.pointer (some ⟨g, 0, none⟩), msV m bo c] w fun e w' => e = .returned (.tuple #[]) ∧ Turn B w' g (normalR r (r.log.take m.a4.toNat ++ m.log) r.view m.a5) (o ++ preM (normalR r (r.log.take m.a4.toNat ++ m.log) r.view m.a5) m.a1) ∧ Keep B w w' := by
  have hT := tm_new h #[.int .i64 m.a0, .int .i64 m.a1, .int .i64 m.a2, .int .i64 m.a3, .int .i64 m.a4, .int .i64 m.a5, .int .i64 m.a6, .slice bo m.log.length c]
  have hgw : w.heap.size ≠ g := hT.ne
  have hlow : Below w.heap.size w (w.alloc (.cells #[.int .i64 m.a0, .int .i64 m.a1, .int .i64 m.a2, .int .i64 m.a3, .int .i64 m.a4, .int .i64 m.a5, .int .i64 m.a6, .slice bo m.log.length c] 27)) := (Below.refl _ w).alloc (Nat.le_refl _) _
  have hK := Keep.of_below hlow h.base
  have hs := hs.keep hK
  have hB := h.base
  have HN : Hid (FitP (r.log.take m.a4.toNat) m.log) := hno
  clear hno
  go_enter Tryz.func90, Tryz.ntmps90
  go_wp2_with fail
  clear h
  have hmlt : w.heap.size < (w.alloc (.cells #[.int .i64 m.a0, .int .i64 m.a1, .int .i64 m.a2, .int .i64 m.a3, .int .i64 m.a4, .int .i64 m.a5, .int .i64 m.a6, .slice bo m.log.length c] 27)).heap.size := by simp
  have hmb : (w.alloc (.cells #[.int .i64 m.a0, .int .i64 m.a1, .int .i64 m.a2, .int .i64 m.a3, .int .i64 m.a4, .int .i64 m.a5, .int .i64 m.a6, .slice bo m.log.length c] 27)).heap[w.heap.size]? = some (.cells #[.int .i64 m.a0, .int .i64 m.a1, .int .i64 m.a2, .int .i64 m.a3, .int .i64 m.a4, .int .i64 m.a5, .int .i64 m.a6, .slice bo m.log.length c] 27 (0, 0)) := hT.box
  obtain ⟨MB, hMB⟩ : ∃ M : Nat × Obj, M = (w.heap.size, .cells #[.int .i64 m.a0, .int .i64 m.a1, .int .i64 m.a2, .int .i64 m.a3, .int .i64 m.a4, .int .i64 m.a5, .int .i64 m.a6, .slice bo m.log.length c] 27 (0, 0)) := ⟨_, rfl⟩
  have HMX : Hid (∀ (w3 : World) (r' : Rep) (o' : Msgs), TM MB B w3 g r' o' → w3.heap[w.heap.size]? = some (.cells #[.int .i64 m.a0, .int .i64 m.a1, .int .i64 m.a2, .int .i64 m.a3, .int .i64 m.a4, .int .i64 m.a5, .int .i64 m.a6, .slice bo m.log.length c] 27 (0, 0))) := fun w3 r' o' h3 => by
    have := h3.box
    rw [hMB] at this
    exact this
  rw [← hMB] at hT
  clear hMB
  generalize (w.alloc (.cells #[.int .i64 m.a0, .int .i64 m.a1, .int .i64 m.a2, .int .i64 m.a3, .int .i64 m.a4, .int .i64 m.a5, .int .i64 m.a6, .slice bo m.log.length c] 27)) = W at *
  obtain ⟨sk, xok, xck, ⟨k0, k1, k2, k3, k4, k5, k6, k7, k8, k9, k10, k11, k12, k13⟩, kz, _, kH, _⟩ := hT.turn.cells
  obtain ⟨c0, c1, c2, c3, c4, c5, c6, c7⟩ := msg_cells hmb
  have hlen := hT.ll
  have i3 : ¬ m.a4 < 0 := by omega
  have i1 : m.a4 ≤ (r.log.length : Int) := h4.2
  obtain ⟨hd, hhd⟩ : ∃ hd, r.log.take m.a4.toNat = hd := ⟨_, rfl⟩
  have hdl : hd.length = m.a4.toNat := by rw [← hhd, List.length_take]; omega
  have HHD : Hid (r.log.take m.a4.toNat = hd) := hhd
  rw [hhd] at HN htl
  have hv1 : r.log.length ≤ sk.lc := by
    rcases kH.rows.log.2 with ⟨hv0, hn0⟩ | ⟨gl, cap, cur, hv0, _, _, hcap, _⟩
    · omega
    · injection hv0 with _ _ h3
      omega
  have i2 : (r.log.length : Int) ≤ (sk.lc : Int) := by omega
  have i4 : m.a4 ≤ (sk.lc : Int) := by omega
  have hrow := kH.rows.log
  have hlh : LiesE W W.heap.size sk.lo hd := by
    rw [← hhd]
    exact Num.LiesG.take (own_liesE hrow) _
  have HDL : Hid (hd.length = m.a4.toNat) := hdl
  have hfit : ∀ (n L : Nat), hd.length = L → Calls Tryz.prog 78 #[.slice sk.lo L sk.lc, .slice bo m.log.length c] (W.drewN n) fun e w' => e = .returned (.bool (tru (FitP hd m.log))) ∧ ∃ k, w' = (W.drewN n).drewN k := by
    intro n L hL
    subst hL
    exact fit_any hd m.log (by omega) hml sk.lo bo sk.lc c (W.drewN n) (liesE_next hlh (below_drewN (Below.refl W.heap.size W) n) (below_drewN (Below.refl W.heap.size W) n).size) ((hs.keep (keep_drewN n hT.base)).lies (hT.drewN n).base)
  rw [tru_yes HN.out] at hfit
  have hdl1 : hd.length ≤ 1000 := by omega
  clear hdl hhd
  go_quiet (fail)
  go_wp2_with (first
    | (go_at_call 78; refine (hfit _ _ HDL.out).mono ?_; rintro e wn ⟨rfl, nk, rfl⟩))
  have hTV := hT.drewN (nq + nk)
  have hKV := hK.trans (keep_drewN (nq + nk) hT.base)
  have hsV := hs.keep (keep_drewN (nq + nk) hT.base)
  have hlV := liesE_next hlh (below_drewN (Below.refl W.heap.size W) (nq + nk)) (below_drewN (Below.refl W.heap.size W) (nq + nk)).size
  clear k0 k1 k2 k3 k4 k5 k6 k7 k8 k9 k10 k11 k12 k13 kz kH c0 c1 c2 c3 c4 c5 c6 c7 hT hs hlh hfit hrow
  generalize W.drewN (nq + nk) = V at *
  have hbV := HMX.out _ _ _ hTV
  obtain ⟨sl, xol, xcl, ⟨l0, l1, l2, l3, l4, l5, l6, l7, l8, l9, l10, l11, l12, l13⟩, lz, _, lH, _⟩ := hTV.turn.cells
  obtain ⟨d0, d1, d2, d3, d4, d5, d6, d7⟩ := msg_cells hbV
  go_cut [31] from 18 to 31 (fun _ wx => TM MB B wx g (normalR r (hd ++ m.log) r.view m.a5) o ∧ Keep B V wx)
  case first =>
    have hbA : Below V.heap.size V (V.alloc (.cells #[.slice sk.lo m.a4.toNat sk.lc, .slice bo m.log.length c] 22)).drew := ((Below.refl _ V).alloc (Nat.le_refl _) _).drew
    have hTA := hTV.below hbA
    have hba := HMX.out _ _ _ hTA
    have hrw : (V.alloc (.cells #[.slice sk.lo m.a4.toNat sk.lc, .slice bo m.log.length c] 22)).drew.heap[V.heap.size]? = some (.cells #[.slice sk.lo m.a4.toNat sk.lc, .slice bo m.log.length c] 22 (0, 0)) := heap_drew (heap_new V _)
    have hcon := concatE_any sk.lo bo hd.length m.log.length sk.lc c V.heap.size (enCells hd) (enCells m.log) (by omega) (by omega) (V.alloc (.cells #[.slice sk.lo m.a4.toNat sk.lc, .slice bo m.log.length c] 22)).drew (src_next (liesE_src hlV) hbA) (src_next (liesE_src (hsV.lies hTV.base)) hbA) (by rw [HDL.out]; exact box_cell hrw 0 _ rfl) (box_cell hrw 1 _ rfl)
    have HNOR : Hid (∀ (w2 : World) (ao cap1 L), (hd ++ m.log).length = L → Below V.heap.size V w2 → w2.ownsRow V.heap.size 48 2 (.slice ao L cap1) L (enCells (hd ++ m.log)) → Calls Tryz.prog 89 #[.pointer (some ⟨g, 0, none⟩), .int .i64 r.view, .slice ao L cap1, .int .i64 m.a5] w2 fun e w' => e = .returned (.tuple #[]) ∧ TM MB B w' g (normalR r (hd ++ m.log) r.view m.a5) o ∧ Keep B w2 w') := by
      intro w2 ao cap1 L hL hb2 hown
      subst hL
      exact normalM_any MB B g r o (hd ++ m.log) ao cap1 r.view m.a5 w2 (hTV.below hb2) (.inr (own_mono hown hTV.base)) htl
    have HLL : Hid ((hd ++ m.log).length = hd.length + m.log.length) := List.length_append
    have HEC : Hid (enCells hd ++ enCells m.log = enCells (hd ++ m.log)) := by unfold enCells; exact List.flatMap_append.symm
    have hS0 : V.drew.cell? ⟨g, 2, none⟩ = some (.int .i64 r.view) ∧ V.drew.cell? ⟨w.heap.size, 5, none⟩ = some (.int .i64 m.a5) ∧ V.drew.cell? ⟨w.heap.size, 7, none⟩ = some (.slice bo m.log.length c) := ⟨l2, d5, d7⟩
    obtain ⟨sA, xoA, xcA, ⟨_, _, q2, _⟩, _⟩ := hTA.turn.cells
    obtain ⟨_, _, _, _, _, f5, _, f7⟩ := msg_cells hba
    have hS1 := And.intro q2 (And.intro f5 f7)
    clear q2 f5 f7
    go_region_held_law (fun w' : World => w'.cell? ⟨g, 2, none⟩ = some (.int .i64 r.view) ∧ w'.cell? ⟨w.heap.size, 5, none⟩ = some (.int .i64 m.a5) ∧ w'.cell? ⟨w.heap.size, 7, none⟩ = some (.slice bo m.log.length c)) (first | with_reducible exact hS0 | with_reducible exact hS1 | with_reducible exact hS2 | with_reducible exact hS3)
      (first
      | (go_at_call 100; rw [HDL.out] at hcon; refine hcon.mono ?_; rintro e w2 ⟨ao2, cap2, rfl, hown2, hb2⟩
         have hb3 := below_next hbA (Nat.le_refl _) hb2
         have hT2 := hTV.below hb3
         obtain ⟨s2, xo2, xc2, ⟨_, _, p2, _⟩, _⟩ := hT2.turn.cells
         obtain ⟨_, _, _, _, _, e5, _, e7⟩ := msg_cells (HMX.out _ _ _ hT2)
         have hS2 := And.intro p2 (And.intro e5 e7)
         have hnor := HNOR.out w2 ao2 cap2 _ (HLL.out.trans (by rw [HDL.out])) hb3 (by rw [← HEC.out]; exact own_mono hown2 hbA.size)
         clear p2 e5 e7)
      | (go_at_call 89; refine hnor.mono ?_; rintro e w8 ⟨rfl, hT8, hK8⟩
         obtain ⟨s8, xo8, xc8, ⟨_, _, p2, _⟩, _⟩ := hT8.turn.cells
         obtain ⟨_, _, _, _, _, e5, _, e7⟩ := msg_cells (HMX.out _ _ _ hT8)
         have p2' : w8.cell? ⟨g, 2, none⟩ = some (.int .i64 r.view) := p2
         have hS3 := And.intro p2' (And.intro e5 e7)
         clear p2))
    all_goals
      go_wp2_with fail
      go_meet
      case rel => exact ⟨hT8, (Keep.of_below hb3 hTV.base).trans hK8⟩
  case rest =>
    obtain ⟨hT8, hK8⟩ := hcut
    generalize wc = Y at *
    obtain ⟨y0, y1, y2, y3, y4, y5, y6, y7⟩ := msg_cells (HMX.out _ _ _ hT8)
    have hpre := preM_any MB B g _ o m.a1 Y hT8 (by omega)
    go_wp2_with (first
      | (go_at_call 81; refine hpre.mono ?_; rintro e w9 ⟨rfl, hT9, hK9⟩))
    first
      | go_end0
      | refine bodyPost_ret (results_none rfl _ _ _) rfl ?_
    rw [HHD.out]
    exact ⟨rfl, hT9.turn, (hKV.trans hK8).trans hK9⟩
end Go.Proofs.YtajbdffepfjegaaGreat
