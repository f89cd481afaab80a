/-
  Contracts of a replica at work: what it makes of a log.
-/
import Derived.Test.YtajbdffepfjegaaGreatRpKs
namespace Go.Proofs.YtajbdffepfjegaaGreat
open Go.RowKit Num
open scoped Classical
set_option linter.unusedVariables false
set_option maxRecDepth 100000

/-- What it makes of a log that it has asked for; of one that goes on where its own ends. -/
def Num.replR (r : Rep) (m : Msg) [∀ l, Decidable (LogOk l)] : Rep × Msgs := if LogOk (r.log.take m.a4.toNat ++ m.log) then (normalR r (r.log.take m.a4.toNat ++ m.log) r.view m.a5, preM (normalR r (r.log.take m.a4.toNat ++ m.log) r.view m.a5) m.a1) else (r, [])
def Num.extR (r : Rep) (m : Msg) [∀ l, Decidable (LogOk l)] : Rep × Msgs := if LogOk (r.log ++ (m.log.drop (r.log.length - m.a4.toNat))) then (raiseR { r with log := r.log ++ (m.log.drop (r.log.length - m.a4.toNat)) } m.a5, preM (raiseR { r with log := r.log ++ (m.log.drop (r.log.length - m.a4.toNat)) } m.a5) m.a1) else (r, [])
theorem fit_ok {a b : List Ent} (ha : LogOk a) (hb : LogOk b) : LogOk (a ++ b) ↔ FitP a b := logOk_append ha hb
theorem repl_any (B g : Nat) (r : Rep) (m : Msg) (bo : Option Addr) (c : Nat) (h4 : 0 ≤ m.a4 ∧ m.a4 ≤ (r.log.length : Int)) (hlr : LogOk r.log) (hlm : LogOk m.log) (w : World) (h : Turn B w g r []) (hs : SrcE B w bo c m.log) :
    Calls Tryz.prog 90 #[.pointer (some ⟨g, 0, none⟩), msV m bo c] w fun e w' => e = .returned (.tuple #[]) ∧ Turn B w' g (replR r m).1 (replR r m).2 ∧ Below B w w' := by
  unfold replR
  by_cases h1 : LogOk (r.log.take m.a4.toNat ++ m.log)
  · rw [if_pos h1]
    exact (replaceY B g r [] m bo c h4 hlm.1 ((fit_ok (logOk_take hlr _) hlm).1 h1) h1.1 (by simp) w h hs).mono fun e w' h => ⟨h.1, h.2.1, h.2.2.low⟩
  · rw [if_neg h1]
    exact (replaceN B g r [] m bo c h4 hlm.1 (fun e => h1 ((fit_ok (logOk_take hlr _) hlm).2 e)) (by simp) w h hs).mono fun e w' h => ⟨h.1, h.2.1, h.2.2.low⟩
theorem ext_any (B g : Nat) (r : Rep) (m : Msg) (bo : Option Addr) (c : Nat) (h4 : 0 ≤ m.a4 ∧ m.a4 ≤ (r.log.length : Int)) (hlr : LogOk r.log) (hlm : LogOk m.log) (hmc : m.log.length ≤ c) (w : World) (h : Turn B w g r []) (hs : SrcE B w bo c m.log) :
    Calls Tryz.prog 91 #[.pointer (some ⟨g, 0, none⟩), msV m bo c] w fun e w' => e = .returned (.tuple #[]) ∧ Turn B w' g (extR r m).1 (extR r m).2 ∧ Below B w w' := by
  have hd : LogOk (m.log.drop (r.log.length - m.a4.toNat)) := logOk_drop hlm _
  unfold extR
  cases bo with
  | none =>
    have hn : m.log = [] := liesE_none (hs.lies h.base)
    have h1 : LogOk (r.log ++ (m.log.drop (r.log.length - m.a4.toNat))) := by
      rw [hn]
      simpa using hlr
    rw [if_pos h1]
    exact extendZ B g r m c h4 hlm.1 hmc ((fit_ok hlr hd).1 h1) (by rw [← List.length_append]; exact h1.1) w h hs
  | some a =>
    by_cases h1 : LogOk (r.log ++ (m.log.drop (r.log.length - m.a4.toNat)))
    · rw [if_pos h1]
      exact extendY B g r m a c h4 hlm.1 hmc ((fit_ok hlr hd).1 h1) (by rw [← List.length_append]; exact h1.1) w h hs
    · rw [if_neg h1]
      exact extendN B g r m a c h4 hlm.1 hmc (fun e => h1 ((fit_ok hlr hd).2 e)) w h hs
set_option maxRecDepth 100000 in
set_option maxHeartbeats 3000000 in
theorem log1 (B g : Nat) (r : Rep) (m : Msg) (bo : Option Addr) (c : Nat) (h4 : 0 ≤ m.a4 ∧ m.a4 < 1099511627776) (hrv : 0 ≤ r.view ∧ r.view < 1099511627776) (hrc : 0 ≤ r.commit ∧ r.commit ≤ (r.log.length : Int)) (hlr : LogOk r.log) (hlm : LogOk m.log) (hmc : m.log.length ≤ c) (hc : ¬ m.a3 = r.view)  (w : World) (h : Turn B w g r []) (hs : SrcE B w bo c m.log) :
    Calls Tryz.prog 66 #[.pointer (some ⟨g, 0, none⟩), msV m bo c] w fun e w' => e = .returned (.tuple #[]) ∧ Turn B w' g r [] ∧ Below B w w' := by
  have hT := tm_new h #[.int .i64 m.a0, .int .i64 m.a1, .int .i64 m.a2, .int .i64 m.a3, .int .i64 m.a4, .int .i64 m.a5, .int .i64 m.a6, .slice bo m.log.length c]
  have hgw : w.heap.size ≠ g := hT.ne
  have hlow : Below w.heap.size w (w.alloc (.cells #[.int .i64 m.a0, .int .i64 m.a1, .int .i64 m.a2, .int .i64 m.a3, .int .i64 m.a4, .int .i64 m.a5, .int .i64 m.a6, .slice bo m.log.length c] 27)) := (Below.refl _ w).alloc (Nat.le_refl _) _
  have hK := Keep.of_below hlow h.base
  have hs := hs.keep hK
  have hB := h.base
  have HC : Hid (¬ m.a3 = r.view) := hc
  have HL : Hid (LogOk r.log ∧ LogOk m.log) := ⟨hlr, hlm⟩
  have hml := hlm.1
  clear hc hlr hlm
  go_enter Tryz.func66, Tryz.ntmps66
  go_wp2_with fail
  clear h
  have hmlt : w.heap.size < (w.alloc (.cells #[.int .i64 m.a0, .int .i64 m.a1, .int .i64 m.a2, .int .i64 m.a3, .int .i64 m.a4, .int .i64 m.a5, .int .i64 m.a6, .slice bo m.log.length c] 27)).heap.size := by simp
  have hmb : (w.alloc (.cells #[.int .i64 m.a0, .int .i64 m.a1, .int .i64 m.a2, .int .i64 m.a3, .int .i64 m.a4, .int .i64 m.a5, .int .i64 m.a6, .slice bo m.log.length c] 27)).heap[w.heap.size]? = some (.cells #[.int .i64 m.a0, .int .i64 m.a1, .int .i64 m.a2, .int .i64 m.a3, .int .i64 m.a4, .int .i64 m.a5, .int .i64 m.a6, .slice bo m.log.length c] 27 (0, 0)) := hT.box
  obtain ⟨MB, hMB⟩ : ∃ M : Nat × Obj, M = (w.heap.size, .cells #[.int .i64 m.a0, .int .i64 m.a1, .int .i64 m.a2, .int .i64 m.a3, .int .i64 m.a4, .int .i64 m.a5, .int .i64 m.a6, .slice bo m.log.length c] 27 (0, 0)) := ⟨_, rfl⟩
  have HMX : Hid (∀ (w3 : World) (r' : Rep) (o' : Msgs), TM MB B w3 g r' o' → w3.heap[w.heap.size]? = some (.cells #[.int .i64 m.a0, .int .i64 m.a1, .int .i64 m.a2, .int .i64 m.a3, .int .i64 m.a4, .int .i64 m.a5, .int .i64 m.a6, .slice bo m.log.length c] 27 (0, 0))) := fun w3 r' o' h3 => by
    have := h3.box
    rw [hMB] at this
    exact this
  rw [← hMB] at hT
  clear hMB
  generalize (w.alloc (.cells #[.int .i64 m.a0, .int .i64 m.a1, .int .i64 m.a2, .int .i64 m.a3, .int .i64 m.a4, .int .i64 m.a5, .int .i64 m.a6, .slice bo m.log.length c] 27)) = W at *
  obtain ⟨sk, xok, xck, ⟨k0, k1, k2, k3, k4, k5, k6, k7, k8, k9, k10, k11, k12, k13⟩, kz, _, kH, _⟩ := hT.turn.cells
  obtain ⟨c0, c1, c2, c3, c4, c5, c6, c7⟩ := msg_cells hmb
  have hq : (m.a3 != r.view) = true := by simp [HC.out]
  go_quiet (fail)
  go_wp2
  first
    | go_end0
    | refine bodyPost_ret (results_none rfl _ _ _) rfl ?_
  exact ⟨rfl, (hT.drewN _).turn, (hK.trans (keep_drewN _ hT.base)).low⟩
set_option maxRecDepth 100000 in
set_option maxHeartbeats 3000000 in
theorem log2 (B g : Nat) (r : Rep) (m : Msg) (bo : Option Addr) (c : Nat) (h4 : 0 ≤ m.a4 ∧ m.a4 < 1099511627776) (hrv : 0 ≤ r.view ∧ r.view < 1099511627776) (hrc : 0 ≤ r.commit ∧ r.commit ≤ (r.log.length : Int)) (hlr : LogOk r.log) (hlm : LogOk m.log) (hmc : m.log.length ≤ c) (hc : m.a3 = r.view ∧ (r.log.length : Int) < m.a4)  (w : World) (h : Turn B w g r []) (hs : SrcE B w bo c m.log) :
    Calls Tryz.prog 66 #[.pointer (some ⟨g, 0, none⟩), msV m bo c] w fun e w' => e = .returned (.tuple #[]) ∧ Turn B w' g r [] ∧ Below B w w' := by
  have hT := tm_new h #[.int .i64 m.a0, .int .i64 m.a1, .int .i64 m.a2, .int .i64 m.a3, .int .i64 m.a4, .int .i64 m.a5, .int .i64 m.a6, .slice bo m.log.length c]
  have hgw : w.heap.size ≠ g := hT.ne
  have hlow : Below w.heap.size w (w.alloc (.cells #[.int .i64 m.a0, .int .i64 m.a1, .int .i64 m.a2, .int .i64 m.a3, .int .i64 m.a4, .int .i64 m.a5, .int .i64 m.a6, .slice bo m.log.length c] 27)) := (Below.refl _ w).alloc (Nat.le_refl _) _
  have hK := Keep.of_below hlow h.base
  have hs := hs.keep hK
  have hB := h.base
  have HC : Hid (m.a3 = r.view ∧ (r.log.length : Int) < m.a4) := hc
  have HL : Hid (LogOk r.log ∧ LogOk m.log) := ⟨hlr, hlm⟩
  have hml := hlm.1
  clear hc hlr hlm
  go_enter Tryz.func66, Tryz.ntmps66
  go_wp2_with fail
  clear h
  have hmlt : w.heap.size < (w.alloc (.cells #[.int .i64 m.a0, .int .i64 m.a1, .int .i64 m.a2, .int .i64 m.a3, .int .i64 m.a4, .int .i64 m.a5, .int .i64 m.a6, .slice bo m.log.length c] 27)).heap.size := by simp
  have hmb : (w.alloc (.cells #[.int .i64 m.a0, .int .i64 m.a1, .int .i64 m.a2, .int .i64 m.a3, .int .i64 m.a4, .int .i64 m.a5, .int .i64 m.a6, .slice bo m.log.length c] 27)).heap[w.heap.size]? = some (.cells #[.int .i64 m.a0, .int .i64 m.a1, .int .i64 m.a2, .int .i64 m.a3, .int .i64 m.a4, .int .i64 m.a5, .int .i64 m.a6, .slice bo m.log.length c] 27 (0, 0)) := hT.box
  obtain ⟨MB, hMB⟩ : ∃ M : Nat × Obj, M = (w.heap.size, .cells #[.int .i64 m.a0, .int .i64 m.a1, .int .i64 m.a2, .int .i64 m.a3, .int .i64 m.a4, .int .i64 m.a5, .int .i64 m.a6, .slice bo m.log.length c] 27 (0, 0)) := ⟨_, rfl⟩
  have HMX : Hid (∀ (w3 : World) (r' : Rep) (o' : Msgs), TM MB B w3 g r' o' → w3.heap[w.heap.size]? = some (.cells #[.int .i64 m.a0, .int .i64 m.a1, .int .i64 m.a2, .int .i64 m.a3, .int .i64 m.a4, .int .i64 m.a5, .int .i64 m.a6, .slice bo m.log.length c] 27 (0, 0))) := fun w3 r' o' h3 => by
    have := h3.box
    rw [hMB] at this
    exact this
  rw [← hMB] at hT
  clear hMB
  generalize (w.alloc (.cells #[.int .i64 m.a0, .int .i64 m.a1, .int .i64 m.a2, .int .i64 m.a3, .int .i64 m.a4, .int .i64 m.a5, .int .i64 m.a6, .slice bo m.log.length c] 27)) = W at *
  obtain ⟨sk, xok, xck, ⟨k0, k1, k2, k3, k4, k5, k6, k7, k8, k9, k10, k11, k12, k13⟩, kz, _, kH, _⟩ := hT.turn.cells
  obtain ⟨c0, c1, c2, c3, c4, c5, c6, c7⟩ := msg_cells hmb
  have hq : (m.a3 != r.view) = false := by rw [HC.out.1]; simp
  have hq2 : decide ((r.log.length : Int) < m.a4) = true := decide_eq_true HC.out.2
  go_quiet (fail)
  go_wp2
  first
    | go_end0
    | refine bodyPost_ret (results_none rfl _ _ _) rfl ?_
  exact ⟨rfl, (hT.drewN _).turn, (hK.trans (keep_drewN _ hT.base)).low⟩
set_option maxRecDepth 100000 in
set_option maxHeartbeats 3000000 in
theorem logA (B g : Nat) (r : Rep) (m : Msg) (bo : Option Addr) (c : Nat) (h4 : 0 ≤ m.a4 ∧ m.a4 < 1099511627776) (hrv : 0 ≤ r.view ∧ r.view < 1099511627776) (hrc : 0 ≤ r.commit ∧ r.commit ≤ (r.log.length : Int)) (hlr : LogOk r.log) (hlm : LogOk m.log) (hmc : m.log.length ≤ c) (hc : (m.a3 = r.view ∧ ¬ (r.log.length : Int) < m.a4) ∧ r.how = 2 ∧ (m.a4 ≤ r.commit ∧ r.commit ≤ m.a4 + (m.log.length : Int)))  (w : World) (h : Turn B w g r []) (hs : SrcE B w bo c m.log) :
    Calls Tryz.prog 66 #[.pointer (some ⟨g, 0, none⟩), msV m bo c] w fun e w' => e = .returned (.tuple #[]) ∧ Turn B w' g (replR r m).1 (replR r m).2 ∧ Below B w w' := by
  have hT := tm_new h #[.int .i64 m.a0, .int .i64 m.a1, .int .i64 m.a2, .int .i64 m.a3, .int .i64 m.a4, .int .i64 m.a5, .int .i64 m.a6, .slice bo m.log.length c]
  have hgw : w.heap.size ≠ g := hT.ne
  have hlow : Below w.heap.size w (w.alloc (.cells #[.int .i64 m.a0, .int .i64 m.a1, .int .i64 m.a2, .int .i64 m.a3, .int .i64 m.a4, .int .i64 m.a5, .int .i64 m.a6, .slice bo m.log.length c] 27)) := (Below.refl _ w).alloc (Nat.le_refl _) _
  have hK := Keep.of_below hlow h.base
  have hs := hs.keep hK
  have hB := h.base
  have HC : Hid ((m.a3 = r.view ∧ ¬ (r.log.length : Int) < m.a4) ∧ r.how = 2 ∧ (m.a4 ≤ r.commit ∧ r.commit ≤ m.a4 + (m.log.length : Int))) := hc
  have HL : Hid (LogOk r.log ∧ LogOk m.log) := ⟨hlr, hlm⟩
  have hml := hlm.1
  clear hc hlr hlm
  go_enter Tryz.func66, Tryz.ntmps66
  go_wp2_with fail
  clear h
  have hmlt : w.heap.size < (w.alloc (.cells #[.int .i64 m.a0, .int .i64 m.a1, .int .i64 m.a2, .int .i64 m.a3, .int .i64 m.a4, .int .i64 m.a5, .int .i64 m.a6, .slice bo m.log.length c] 27)).heap.size := by simp
  have hmb : (w.alloc (.cells #[.int .i64 m.a0, .int .i64 m.a1, .int .i64 m.a2, .int .i64 m.a3, .int .i64 m.a4, .int .i64 m.a5, .int .i64 m.a6, .slice bo m.log.length c] 27)).heap[w.heap.size]? = some (.cells #[.int .i64 m.a0, .int .i64 m.a1, .int .i64 m.a2, .int .i64 m.a3, .int .i64 m.a4, .int .i64 m.a5, .int .i64 m.a6, .slice bo m.log.length c] 27 (0, 0)) := hT.box
  obtain ⟨MB, hMB⟩ : ∃ M : Nat × Obj, M = (w.heap.size, .cells #[.int .i64 m.a0, .int .i64 m.a1, .int .i64 m.a2, .int .i64 m.a3, .int .i64 m.a4, .int .i64 m.a5, .int .i64 m.a6, .slice bo m.log.length c] 27 (0, 0)) := ⟨_, rfl⟩
  have HMX : Hid (∀ (w3 : World) (r' : Rep) (o' : Msgs), TM MB B w3 g r' o' → w3.heap[w.heap.size]? = some (.cells #[.int .i64 m.a0, .int .i64 m.a1, .int .i64 m.a2, .int .i64 m.a3, .int .i64 m.a4, .int .i64 m.a5, .int .i64 m.a6, .slice bo m.log.length c] 27 (0, 0))) := fun w3 r' o' h3 => by
    have := h3.box
    rw [hMB] at this
    exact this
  rw [← hMB] at hT
  clear hMB
  generalize (w.alloc (.cells #[.int .i64 m.a0, .int .i64 m.a1, .int .i64 m.a2, .int .i64 m.a3, .int .i64 m.a4, .int .i64 m.a5, .int .i64 m.a6, .slice bo m.log.length c] 27)) = W at *
  obtain ⟨sk, xok, xck, ⟨k0, k1, k2, k3, k4, k5, k6, k7, k8, k9, k10, k11, k12, k13⟩, kz, _, kH, _⟩ := hT.turn.cells
  obtain ⟨c0, c1, c2, c3, c4, c5, c6, c7⟩ := msg_cells hmb
  have hq : (m.a3 != r.view) = false := by rw [HC.out.1.1]; simp
  have hq2 : decide ((r.log.length : Int) < m.a4) = false := decide_eq_false (by have := HC.out.1.2; omega)
  go_quiet (fail)
  clear hq hq2
  have hll := hT.ll
  have i1 : IntKind.i64.wrap (m.a4 + (m.log.length : Int)) = m.a4 + (m.log.length : Int) := by rw [IntKind.wrap_i64]; omega
  go_wp2_with fail
  have hTV := hT.drewN nq
  have hKV := hK.trans (keep_drewN nq hT.base)
  have hsV := hs.keep (keep_drewN nq hT.base)
  clear k0 k1 k2 k3 k4 k5 k6 k7 k8 k9 k10 k11 k12 k13 kz kH c0 c1 c2 c3 c4 c5 c6 c7 hT hs
  generalize W.drewN nq = V at *
  have hbV := HMX.out _ _ _ hTV
  obtain ⟨sl, xol, xcl, ⟨l0, l1, l2, l3, l4, l5, l6, l7, l8, l9, l10, l11, l12, l13⟩, lz, _, lH, _⟩ := hTV.turn.cells
  obtain ⟨d0, d1, d2, d3, d4, d5, d6, d7⟩ := msg_cells hbV
  have hif := fun W => isFrom_any m.a4 r.commit (m.a4 + (m.log.length : Int)) W
  rw [HC.out.2.1] at l4
  rw [tru_yes HC.out.2.2] at hif
  go_quiet (first | (go_at_call 39; refine Calls.quiet_of_same (hif _)))
  have hre := fun n => repl_any B g r m bo c ⟨h4.1, by have := HC.out.1.2; omega⟩ HL.out.1 HL.out.2 (V.drewN n) (hTV.drewN n).turn (hsV.keep (keep_drewN n hTV.base))
  go_wp2_with (first
    | (go_at_call 90; refine (hre _).mono ?_; rintro e w9 ⟨rfl, hT9, hb9⟩))
  first
    | go_end0
    | refine bodyPost_ret (results_none rfl _ _ _) rfl ?_
  exact ⟨rfl, hT9, (hKV.trans (keep_drewN _ hTV.base)).low.trans hb9⟩
set_option maxRecDepth 100000 in
set_option maxHeartbeats 3000000 in
theorem logB (B g : Nat) (r : Rep) (m : Msg) (bo : Option Addr) (c : Nat) (h4 : 0 ≤ m.a4 ∧ m.a4 < 1099511627776) (hrv : 0 ≤ r.view ∧ r.view < 1099511627776) (hrc : 0 ≤ r.commit ∧ r.commit ≤ (r.log.length : Int)) (hlr : LogOk r.log) (hlm : LogOk m.log) (hmc : m.log.length ≤ c) (hc : (m.a3 = r.view ∧ ¬ (r.log.length : Int) < m.a4) ∧ r.how = 2 ∧ ¬ (m.a4 ≤ r.commit ∧ r.commit ≤ m.a4 + (m.log.length : Int)))  (w : World) (h : Turn B w g r []) (hs : SrcE B w bo c m.log) :
    Calls Tryz.prog 66 #[.pointer (some ⟨g, 0, none⟩), msV m bo c] w fun e w' => e = .returned (.tuple #[]) ∧ Turn B w' g r [] ∧ Below B w w' := by
  have hT := tm_new h #[.int .i64 m.a0, .int .i64 m.a1, .int .i64 m.a2, .int .i64 m.a3, .int .i64 m.a4, .int .i64 m.a5, .int .i64 m.a6, .slice bo m.log.length c]
  have hgw : w.heap.size ≠ g := hT.ne
  have hlow : Below w.heap.size w (w.alloc (.cells #[.int .i64 m.a0, .int .i64 m.a1, .int .i64 m.a2, .int .i64 m.a3, .int .i64 m.a4, .int .i64 m.a5, .int .i64 m.a6, .slice bo m.log.length c] 27)) := (Below.refl _ w).alloc (Nat.le_refl _) _
  have hK := Keep.of_below hlow h.base
  have hs := hs.keep hK
  have hB := h.base
  have HC : Hid ((m.a3 = r.view ∧ ¬ (r.log.length : Int) < m.a4) ∧ r.how = 2 ∧ ¬ (m.a4 ≤ r.commit ∧ r.commit ≤ m.a4 + (m.log.length : Int))) := hc
  have HL : Hid (LogOk r.log ∧ LogOk m.log) := ⟨hlr, hlm⟩
  have hml := hlm.1
  clear hc hlr hlm
  go_enter Tryz.func66, Tryz.ntmps66
  go_wp2_with fail
  clear h
  have hmlt : w.heap.size < (w.alloc (.cells #[.int .i64 m.a0, .int .i64 m.a1, .int .i64 m.a2, .int .i64 m.a3, .int .i64 m.a4, .int .i64 m.a5, .int .i64 m.a6, .slice bo m.log.length c] 27)).heap.size := by simp
  have hmb : (w.alloc (.cells #[.int .i64 m.a0, .int .i64 m.a1, .int .i64 m.a2, .int .i64 m.a3, .int .i64 m.a4, .int .i64 m.a5, .int .i64 m.a6, .slice bo m.log.length c] 27)).heap[w.heap.size]? = some (.cells #[.int .i64 m.a0, .int .i64 m.a1, .int .i64 m.a2, .int .i64 m.a3, .int .i64 m.a4, .int .i64 m.a5, .int .i64 m.a6, .slice bo m.log.length c] 27 (0, 0)) := hT.box
  obtain ⟨MB, hMB⟩ : ∃ M : Nat × Obj, M = (w.heap.size, .cells #[.int .i64 m.a0, .int .i64 m.a1, .int .i64 m.a2, .int .i64 m.a3, .int .i64 m.a4, .int .i64 m.a5, .int .i64 m.a6, .slice bo m.log.length c] 27 (0, 0)) := ⟨_, rfl⟩
  have HMX : Hid (∀ (w3 : World) (r' : Rep) (o' : Msgs), TM MB B w3 g r' o' → w3.heap[w.heap.size]? = some (.cells #[.int .i64 m.a0, .int .i64 m.a1, .int .i64 m.a2, .int .i64 m.a3, .int .i64 m.a4, .int .i64 m.a5, .int .i64 m.a6, .slice bo m.log.length c] 27 (0, 0))) := fun w3 r' o' h3 => by
    have := h3.box
    rw [hMB] at this
    exact this
  rw [← hMB] at hT
  clear hMB
  generalize (w.alloc (.cells #[.int .i64 m.a0, .int .i64 m.a1, .int .i64 m.a2, .int .i64 m.a3, .int .i64 m.a4, .int .i64 m.a5, .int .i64 m.a6, .slice bo m.log.length c] 27)) = W at *
  obtain ⟨sk, xok, xck, ⟨k0, k1, k2, k3, k4, k5, k6, k7, k8, k9, k10, k11, k12, k13⟩, kz, _, kH, _⟩ := hT.turn.cells
  obtain ⟨c0, c1, c2, c3, c4, c5, c6, c7⟩ := msg_cells hmb
  have hq : (m.a3 != r.view) = false := by rw [HC.out.1.1]; simp
  have hq2 : decide ((r.log.length : Int) < m.a4) = false := decide_eq_false (by have := HC.out.1.2; omega)
  go_quiet (fail)
  clear hq hq2
  have hll := hT.ll
  have i1 : IntKind.i64.wrap (m.a4 + (m.log.length : Int)) = m.a4 + (m.log.length : Int) := by rw [IntKind.wrap_i64]; omega
  go_wp2_with fail
  have hTV := hT.drewN nq
  have hKV := hK.trans (keep_drewN nq hT.base)
  have hsV := hs.keep (keep_drewN nq hT.base)
  clear k0 k1 k2 k3 k4 k5 k6 k7 k8 k9 k10 k11 k12 k13 kz kH c0 c1 c2 c3 c4 c5 c6 c7 hT hs
  generalize W.drewN nq = V at *
  have hbV := HMX.out _ _ _ hTV
  obtain ⟨sl, xol, xcl, ⟨l0, l1, l2, l3, l4, l5, l6, l7, l8, l9, l10, l11, l12, l13⟩, lz, _, lH, _⟩ := hTV.turn.cells
  obtain ⟨d0, d1, d2, d3, d4, d5, d6, d7⟩ := msg_cells hbV
  have hif := fun W => isFrom_any m.a4 r.commit (m.a4 + (m.log.length : Int)) W
  rw [HC.out.2.1] at l4
  rw [tru_no HC.out.2.2] at hif
  go_quiet (first | (go_at_call 39; refine Calls.quiet_of_same (hif _)))
  go_wp2
  first
    | go_end0
    | refine bodyPost_ret (results_none rfl _ _ _) rfl ?_
  exact ⟨rfl, (hTV.drewN _).turn, (hKV.trans (keep_drewN _ hTV.base)).low⟩
set_option maxRecDepth 100000 in
set_option maxHeartbeats 3000000 in
theorem logC (B g : Nat) (r : Rep) (m : Msg) (bo : Option Addr) (c : Nat) (h4 : 0 ≤ m.a4 ∧ m.a4 < 1099511627776) (hrv : 0 ≤ r.view ∧ r.view < 1099511627776) (hrc : 0 ≤ r.commit ∧ r.commit ≤ (r.log.length : Int)) (hlr : LogOk r.log) (hlm : LogOk m.log) (hmc : m.log.length ≤ c) (hc : (m.a3 = r.view ∧ ¬ (r.log.length : Int) < m.a4) ∧ ¬ r.how = 2 ∧ ¬ r.how = 0)  (w : World) (h : Turn B w g r []) (hs : SrcE B w bo c m.log) :
    Calls Tryz.prog 66 #[.pointer (some ⟨g, 0, none⟩), msV m bo c] w fun e w' => e = .returned (.tuple #[]) ∧ Turn B w' g r [] ∧ Below B w w' := by
  have hT := tm_new h #[.int .i64 m.a0, .int .i64 m.a1, .int .i64 m.a2, .int .i64 m.a3, .int .i64 m.a4, .int .i64 m.a5, .int .i64 m.a6, .slice bo m.log.length c]
  have hgw : w.heap.size ≠ g := hT.ne
  have hlow : Below w.heap.size w (w.alloc (.cells #[.int .i64 m.a0, .int .i64 m.a1, .int .i64 m.a2, .int .i64 m.a3, .int .i64 m.a4, .int .i64 m.a5, .int .i64 m.a6, .slice bo m.log.length c] 27)) := (Below.refl _ w).alloc (Nat.le_refl _) _
  have hK := Keep.of_below hlow h.base
  have hs := hs.keep hK
  have hB := h.base
  have HC : Hid ((m.a3 = r.view ∧ ¬ (r.log.length : Int) < m.a4) ∧ ¬ r.how = 2 ∧ ¬ r.how = 0) := hc
  have HL : Hid (LogOk r.log ∧ LogOk m.log) := ⟨hlr, hlm⟩
  have hml := hlm.1
  clear hc hlr hlm
  go_enter Tryz.func66, Tryz.ntmps66
  go_wp2_with fail
  clear h
  have hmlt : w.heap.size < (w.alloc (.cells #[.int .i64 m.a0, .int .i64 m.a1, .int .i64 m.a2, .int .i64 m.a3, .int .i64 m.a4, .int .i64 m.a5, .int .i64 m.a6, .slice bo m.log.length c] 27)).heap.size := by simp
  have hmb : (w.alloc (.cells #[.int .i64 m.a0, .int .i64 m.a1, .int .i64 m.a2, .int .i64 m.a3, .int .i64 m.a4, .int .i64 m.a5, .int .i64 m.a6, .slice bo m.log.length c] 27)).heap[w.heap.size]? = some (.cells #[.int .i64 m.a0, .int .i64 m.a1, .int .i64 m.a2, .int .i64 m.a3, .int .i64 m.a4, .int .i64 m.a5, .int .i64 m.a6, .slice bo m.log.length c] 27 (0, 0)) := hT.box
  obtain ⟨MB, hMB⟩ : ∃ M : Nat × Obj, M = (w.heap.size, .cells #[.int .i64 m.a0, .int .i64 m.a1, .int .i64 m.a2, .int .i64 m.a3, .int .i64 m.a4, .int .i64 m.a5, .int .i64 m.a6, .slice bo m.log.length c] 27 (0, 0)) := ⟨_, rfl⟩
  have HMX : Hid (∀ (w3 : World) (r' : Rep) (o' : Msgs), TM MB B w3 g r' o' → w3.heap[w.heap.size]? = some (.cells #[.int .i64 m.a0, .int .i64 m.a1, .int .i64 m.a2, .int .i64 m.a3, .int .i64 m.a4, .int .i64 m.a5, .int .i64 m.a6, .slice bo m.log.length c] 27 (0, 0))) := fun w3 r' o' h3 => by
    have := h3.box
    rw [hMB] at this
    exact this
  rw [← hMB] at hT
  clear hMB
  generalize (w.alloc (.cells #[.int .i64 m.a0, .int .i64 m.a1, .int .i64 m.a2, .int .i64 m.a3, .int .i64 m.a4, .int .i64 m.a5, .int .i64 m.a6, .slice bo m.log.length c] 27)) = W at *
  obtain ⟨sk, xok, xck, ⟨k0, k1, k2, k3, k4, k5, k6, k7, k8, k9, k10, k11, k12, k13⟩, kz, _, kH, _⟩ := hT.turn.cells
  obtain ⟨c0, c1, c2, c3, c4, c5, c6, c7⟩ := msg_cells hmb
  have hq : (m.a3 != r.view) = false := by rw [HC.out.1.1]; simp
  have hq2 : decide ((r.log.length : Int) < m.a4) = false := decide_eq_false (by have := HC.out.1.2; omega)
  go_quiet (fail)
  clear hq hq2
  have hll := hT.ll
  have i1 : IntKind.i64.wrap (m.a4 + (m.log.length : Int)) = m.a4 + (m.log.length : Int) := by rw [IntKind.wrap_i64]; omega
  go_wp2_with fail
  have hTV := hT.drewN nq
  have hKV := hK.trans (keep_drewN nq hT.base)
  have hsV := hs.keep (keep_drewN nq hT.base)
  clear k0 k1 k2 k3 k4 k5 k6 k7 k8 k9 k10 k11 k12 k13 kz kH c0 c1 c2 c3 c4 c5 c6 c7 hT hs
  generalize W.drewN nq = V at *
  have hbV := HMX.out _ _ _ hTV
  obtain ⟨sl, xol, xcl, ⟨l0, l1, l2, l3, l4, l5, l6, l7, l8, l9, l10, l11, l12, l13⟩, lz, _, lH, _⟩ := hTV.turn.cells
  obtain ⟨d0, d1, d2, d3, d4, d5, d6, d7⟩ := msg_cells hbV
  have hif := fun W => isFrom_any m.a4 r.commit (m.a4 + (m.log.length : Int)) W
  have hq : (r.how == 2) = false := by simp [HC.out.2.1]
  have hq0 : decide (r.how = 2) = false := decide_eq_false (by exact HC.out.2.1)
  go_quiet (first | (go_at_call 39; refine Calls.quiet_of_same (hif _)))
  have hq3 : (r.how == 0) = false := by simp [HC.out.2.2]
  have hq4 : decide (r.how = 0) = false := decide_eq_false HC.out.2.2
  go_wp2
  first
    | go_end0
    | refine bodyPost_ret (results_none rfl _ _ _) rfl ?_
  exact ⟨rfl, (hTV.drewN _).turn, (hKV.trans (keep_drewN _ hTV.base)).low⟩
set_option maxRecDepth 100000 in
set_option maxHeartbeats 3000000 in
theorem logD (B g : Nat) (r : Rep) (m : Msg) (bo : Option Addr) (c : Nat) (h4 : 0 ≤ m.a4 ∧ m.a4 < 1099511627776) (hrv : 0 ≤ r.view ∧ r.view < 1099511627776) (hrc : 0 ≤ r.commit ∧ r.commit ≤ (r.log.length : Int)) (hlr : LogOk r.log) (hlm : LogOk m.log) (hmc : m.log.length ≤ c) (hc : (m.a3 = r.view ∧ ¬ (r.log.length : Int) < m.a4) ∧ r.how = 0 ∧ r.view % r.n = r.id)  (w : World) (h : Turn B w g r []) (hs : SrcE B w bo c m.log) :
    Calls Tryz.prog 66 #[.pointer (some ⟨g, 0, none⟩), msV m bo c] w fun e w' => e = .returned (.tuple #[]) ∧ Turn B w' g r [] ∧ Below B w w' := by
  have hT := tm_new h #[.int .i64 m.a0, .int .i64 m.a1, .int .i64 m.a2, .int .i64 m.a3, .int .i64 m.a4, .int .i64 m.a5, .int .i64 m.a6, .slice bo m.log.length c]
  have hgw : w.heap.size ≠ g := hT.ne
  have hlow : Below w.heap.size w (w.alloc (.cells #[.int .i64 m.a0, .int .i64 m.a1, .int .i64 m.a2, .int .i64 m.a3, .int .i64 m.a4, .int .i64 m.a5, .int .i64 m.a6, .slice bo m.log.length c] 27)) := (Below.refl _ w).alloc (Nat.le_refl _) _
  have hK := Keep.of_below hlow h.base
  have hs := hs.keep hK
  have hB := h.base
  have HC : Hid ((m.a3 = r.view ∧ ¬ (r.log.length : Int) < m.a4) ∧ r.how = 0 ∧ r.view % r.n = r.id) := hc
  have HL : Hid (LogOk r.log ∧ LogOk m.log) := ⟨hlr, hlm⟩
  have hml := hlm.1
  clear hc hlr hlm
  go_enter Tryz.func66, Tryz.ntmps66
  go_wp2_with fail
  clear h
  have hmlt : w.heap.size < (w.alloc (.cells #[.int .i64 m.a0, .int .i64 m.a1, .int .i64 m.a2, .int .i64 m.a3, .int .i64 m.a4, .int .i64 m.a5, .int .i64 m.a6, .slice bo m.log.length c] 27)).heap.size := by simp
  have hmb : (w.alloc (.cells #[.int .i64 m.a0, .int .i64 m.a1, .int .i64 m.a2, .int .i64 m.a3, .int .i64 m.a4, .int .i64 m.a5, .int .i64 m.a6, .slice bo m.log.length c] 27)).heap[w.heap.size]? = some (.cells #[.int .i64 m.a0, .int .i64 m.a1, .int .i64 m.a2, .int .i64 m.a3, .int .i64 m.a4, .int .i64 m.a5, .int .i64 m.a6, .slice bo m.log.length c] 27 (0, 0)) := hT.box
  obtain ⟨MB, hMB⟩ : ∃ M : Nat × Obj, M = (w.heap.size, .cells #[.int .i64 m.a0, .int .i64 m.a1, .int .i64 m.a2, .int .i64 m.a3, .int .i64 m.a4, .int .i64 m.a5, .int .i64 m.a6, .slice bo m.log.length c] 27 (0, 0)) := ⟨_, rfl⟩
  have HMX : Hid (∀ (w3 : World) (r' : Rep) (o' : Msgs), TM MB B w3 g r' o' → w3.heap[w.heap.size]? = some (.cells #[.int .i64 m.a0, .int .i64 m.a1, .int .i64 m.a2, .int .i64 m.a3, .int .i64 m.a4, .int .i64 m.a5, .int .i64 m.a6, .slice bo m.log.length c] 27 (0, 0))) := fun w3 r' o' h3 => by
    have := h3.box
    rw [hMB] at this
    exact this
  rw [← hMB] at hT
  clear hMB
  generalize (w.alloc (.cells #[.int .i64 m.a0, .int .i64 m.a1, .int .i64 m.a2, .int .i64 m.a3, .int .i64 m.a4, .int .i64 m.a5, .int .i64 m.a6, .slice bo m.log.length c] 27)) = W at *
  obtain ⟨sk, xok, xck, ⟨k0, k1, k2, k3, k4, k5, k6, k7, k8, k9, k10, k11, k12, k13⟩, kz, _, kH, _⟩ := hT.turn.cells
  obtain ⟨c0, c1, c2, c3, c4, c5, c6, c7⟩ := msg_cells hmb
  have hq : (m.a3 != r.view) = false := by rw [HC.out.1.1]; simp
  have hq2 : decide ((r.log.length : Int) < m.a4) = false := decide_eq_false (by have := HC.out.1.2; omega)
  go_quiet (fail)
  clear hq hq2
  have hll := hT.ll
  have i1 : IntKind.i64.wrap (m.a4 + (m.log.length : Int)) = m.a4 + (m.log.length : Int) := by rw [IntKind.wrap_i64]; omega
  go_wp2_with fail
  have hTV := hT.drewN nq
  have hKV := hK.trans (keep_drewN nq hT.base)
  have hsV := hs.keep (keep_drewN nq hT.base)
  clear k0 k1 k2 k3 k4 k5 k6 k7 k8 k9 k10 k11 k12 k13 kz kH c0 c1 c2 c3 c4 c5 c6 c7 hT hs
  generalize W.drewN nq = V at *
  have hbV := HMX.out _ _ _ hTV
  obtain ⟨sl, xol, xcl, ⟨l0, l1, l2, l3, l4, l5, l6, l7, l8, l9, l10, l11, l12, l13⟩, lz, _, lH, _⟩ := hTV.turn.cells
  obtain ⟨d0, d1, d2, d3, d4, d5, d6, d7⟩ := msg_cells hbV
  have hif := fun W => isFrom_any m.a4 r.commit (m.a4 + (m.log.length : Int)) W
  have hq : (r.how == 2) = false := by simp [HC.out.2.1]
  have hq0 : decide (r.how = 2) = false := decide_eq_false (by have := HC.out.2.1; omega)
  go_quiet (first | (go_at_call 39; refine Calls.quiet_of_same (hif _)))
  have hle := fun n => leadsD_any B g r [] (V.drewN n) (hTV.drewN n).turn hrv
  rw [tru_yes ⟨HC.out.2.1, HC.out.2.2⟩] at hle
  rw [HC.out.2.1] at l4
  have hex := fun n => ext_any B g r m bo c ⟨h4.1, by have := HC.out.1.2; omega⟩ HL.out.1 HL.out.2 hmc (V.drewN n) (hTV.drewN n).turn (hsV.keep (keep_drewN n hTV.base))
  go_wp2_with (first
    | (go_at_call 49; refine (hle _).mono ?_; rintro e wn ⟨rfl, nk, rfl⟩)
    | (go_at_call 91; refine (hex _).mono ?_; rintro e w9 ⟨rfl, hT9, hb9⟩))
  first
    | go_end0
    | refine bodyPost_ret (results_none rfl _ _ _) rfl ?_
  exact ⟨rfl, (hTV.drewN _).turn, (hKV.trans (keep_drewN _ hTV.base)).low⟩
set_option maxRecDepth 100000 in
set_option maxHeartbeats 3000000 in
theorem logE (B g : Nat) (r : Rep) (m : Msg) (bo : Option Addr) (c : Nat) (h4 : 0 ≤ m.a4 ∧ m.a4 < 1099511627776) (hrv : 0 ≤ r.view ∧ r.view < 1099511627776) (hrc : 0 ≤ r.commit ∧ r.commit ≤ (r.log.length : Int)) (hlr : LogOk r.log) (hlm : LogOk m.log) (hmc : m.log.length ≤ c) (hc : (m.a3 = r.view ∧ ¬ (r.log.length : Int) < m.a4) ∧ r.how = 0 ∧ ¬ r.view % r.n = r.id)  (w : World) (h : Turn B w g r []) (hs : SrcE B w bo c m.log) :
    Calls Tryz.prog 66 #[.pointer (some ⟨g, 0, none⟩), msV m bo c] w fun e w' => e = .returned (.tuple #[]) ∧ Turn B w' g (extR r m).1 (extR r m).2 ∧ Below B w w' := by
  have hT := tm_new h #[.int .i64 m.a0, .int .i64 m.a1, .int .i64 m.a2, .int .i64 m.a3, .int .i64 m.a4, .int .i64 m.a5, .int .i64 m.a6, .slice bo m.log.length c]
  have hgw : w.heap.size ≠ g := hT.ne
  have hlow : Below w.heap.size w (w.alloc (.cells #[.int .i64 m.a0, .int .i64 m.a1, .int .i64 m.a2, .int .i64 m.a3, .int .i64 m.a4, .int .i64 m.a5, .int .i64 m.a6, .slice bo m.log.length c] 27)) := (Below.refl _ w).alloc (Nat.le_refl _) _
  have hK := Keep.of_below hlow h.base
  have hs := hs.keep hK
  have hB := h.base
  have HC : Hid ((m.a3 = r.view ∧ ¬ (r.log.length : Int) < m.a4) ∧ r.how = 0 ∧ ¬ r.view % r.n = r.id) := hc
  have HL : Hid (LogOk r.log ∧ LogOk m.log) := ⟨hlr, hlm⟩
  have hml := hlm.1
  clear hc hlr hlm
  go_enter Tryz.func66, Tryz.ntmps66
  go_wp2_with fail
  clear h
  have hmlt : w.heap.size < (w.alloc (.cells #[.int .i64 m.a0, .int .i64 m.a1, .int .i64 m.a2, .int .i64 m.a3, .int .i64 m.a4, .int .i64 m.a5, .int .i64 m.a6, .slice bo m.log.length c] 27)).heap.size := by simp
  have hmb : (w.alloc (.cells #[.int .i64 m.a0, .int .i64 m.a1, .int .i64 m.a2, .int .i64 m.a3, .int .i64 m.a4, .int .i64 m.a5, .int .i64 m.a6, .slice bo m.log.length c] 27)).heap[w.heap.size]? = some (.cells #[.int .i64 m.a0, .int .i64 m.a1, .int .i64 m.a2, .int .i64 m.a3, .int .i64 m.a4, .int .i64 m.a5, .int .i64 m.a6, .slice bo m.log.length c] 27 (0, 0)) := hT.box
  obtain ⟨MB, hMB⟩ : ∃ M : Nat × Obj, M = (w.heap.size, .cells #[.int .i64 m.a0, .int .i64 m.a1, .int .i64 m.a2, .int .i64 m.a3, .int .i64 m.a4, .int .i64 m.a5, .int .i64 m.a6, .slice bo m.log.length c] 27 (0, 0)) := ⟨_, rfl⟩
  have HMX : Hid (∀ (w3 : World) (r' : Rep) (o' : Msgs), TM MB B w3 g r' o' → w3.heap[w.heap.size]? = some (.cells #[.int .i64 m.a0, .int .i64 m.a1, .int .i64 m.a2, .int .i64 m.a3, .int .i64 m.a4, .int .i64 m.a5, .int .i64 m.a6, .slice bo m.log.length c] 27 (0, 0))) := fun w3 r' o' h3 => by
    have := h3.box
    rw [hMB] at this
    exact this
  rw [← hMB] at hT
  clear hMB
  generalize (w.alloc (.cells #[.int .i64 m.a0, .int .i64 m.a1, .int .i64 m.a2, .int .i64 m.a3, .int .i64 m.a4, .int .i64 m.a5, .int .i64 m.a6, .slice bo m.log.length c] 27)) = W at *
  obtain ⟨sk, xok, xck, ⟨k0, k1, k2, k3, k4, k5, k6, k7, k8, k9, k10, k11, k12, k13⟩, kz, _, kH, _⟩ := hT.turn.cells
  obtain ⟨c0, c1, c2, c3, c4, c5, c6, c7⟩ := msg_cells hmb
  have hq : (m.a3 != r.view) = false := by rw [HC.out.1.1]; simp
  have hq2 : decide ((r.log.length : Int) < m.a4) = false := decide_eq_false (by have := HC.out.1.2; omega)
  go_quiet (fail)
  clear hq hq2
  have hll := hT.ll
  have i1 : IntKind.i64.wrap (m.a4 + (m.log.length : Int)) = m.a4 + (m.log.length : Int) := by rw [IntKind.wrap_i64]; omega
  go_wp2_with fail
  have hTV := hT.drewN nq
  have hKV := hK.trans (keep_drewN nq hT.base)
  have hsV := hs.keep (keep_drewN nq hT.base)
  clear k0 k1 k2 k3 k4 k5 k6 k7 k8 k9 k10 k11 k12 k13 kz kH c0 c1 c2 c3 c4 c5 c6 c7 hT hs
  generalize W.drewN nq = V at *
  have hbV := HMX.out _ _ _ hTV
  obtain ⟨sl, xol, xcl, ⟨l0, l1, l2, l3, l4, l5, l6, l7, l8, l9, l10, l11, l12, l13⟩, lz, _, lH, _⟩ := hTV.turn.cells
  obtain ⟨d0, d1, d2, d3, d4, d5, d6, d7⟩ := msg_cells hbV
  have hif := fun W => isFrom_any m.a4 r.commit (m.a4 + (m.log.length : Int)) W
  have hq : (r.how == 2) = false := by simp [HC.out.2.1]
  have hq0 : decide (r.how = 2) = false := decide_eq_false (by have := HC.out.2.1; omega)
  go_quiet (first | (go_at_call 39; refine Calls.quiet_of_same (hif _)))
  have hle := fun n => leadsD_any B g r [] (V.drewN n) (hTV.drewN n).turn hrv
  rw [tru_no (fun h => HC.out.2.2 h.2)] at hle
  rw [HC.out.2.1] at l4
  have hex := fun n => ext_any B g r m bo c ⟨h4.1, by have := HC.out.1.2; omega⟩ HL.out.1 HL.out.2 hmc (V.drewN n) (hTV.drewN n).turn (hsV.keep (keep_drewN n hTV.base))
  go_wp2_with (first
    | (go_at_call 49; refine (hle _).mono ?_; rintro e wn ⟨rfl, nk, rfl⟩)
    | (go_at_call 91; refine (hex _).mono ?_; rintro e w9 ⟨rfl, hT9, hb9⟩))
  first
    | go_end0
    | refine bodyPost_ret (results_none rfl _ _ _) rfl ?_
  exact ⟨rfl, hT9, (hKV.trans (keep_drewN _ hTV.base)).low.trans hb9⟩
end Go.Proofs.YtajbdffepfjegaaGreat
