/-
  Contracts of a replica at work: what it makes of a view.
-/
import Derived.Test.YtajbdffepfjegaaGreatRpKf
namespace Go.Proofs.YtajbdffepfjegaaGreat
open Go.RowKit Num
open scoped Classical
set_option linter.unusedVariables false
set_option maxRecDepth 100000

set_option maxRecDepth 100000 in
set_option maxHeartbeats 1000000 in
theorem view0lt (B g : Nat) (r : Rep) (o : Msgs) (m : Msg) (bo : Option Addr) (c : Nat) (hv : 0 ≤ m.a3 ∧ m.a3 < 1099511627776) (hc : ¬ m.a3 = r.view) (hlt : m.a3 < r.view) (hol : o.length ≤ 50) (w : World) (h : Turn B w g r o) (hs : SrcE B w bo c m.log) :
    Calls Tryz.prog 64 #[.pointer (some ⟨g, 0, none⟩), msV m bo c] w fun e w' => e = .returned (.tuple #[]) ∧ Turn B w' g r o ∧ Keep B w w' := by
  have hT := tm_new h #[.int .i64 m.a0, .int .i64 m.a1, .int .i64 m.a2, .int .i64 m.a3, .int .i64 m.a4, .int .i64 m.a5, .int .i64 m.a6, .slice bo m.log.length c]
  have hlow : Below w.heap.size w (w.alloc (.cells #[.int .i64 m.a0, .int .i64 m.a1, .int .i64 m.a2, .int .i64 m.a3, .int .i64 m.a4, .int .i64 m.a5, .int .i64 m.a6, .slice bo m.log.length c] 27)) := (Below.refl _ w).alloc (Nat.le_refl _) _
  have hK := Keep.of_below hlow h.base
  have hs := hs.keep hK
  have hB := h.base
  have HC : Hid (¬ m.a3 = r.view) := hc
  clear hc
  have HD : Hid (m.a3 < r.view) := hlt
  clear hlt
  go_enter Tryz.func64, Tryz.ntmps64
  go_wp2_with fail
  clear h
  have hmlt : w.heap.size < (w.alloc (.cells #[.int .i64 m.a0, .int .i64 m.a1, .int .i64 m.a2, .int .i64 m.a3, .int .i64 m.a4, .int .i64 m.a5, .int .i64 m.a6, .slice bo m.log.length c] 27)).heap.size := by simp
  have hmb : (w.alloc (.cells #[.int .i64 m.a0, .int .i64 m.a1, .int .i64 m.a2, .int .i64 m.a3, .int .i64 m.a4, .int .i64 m.a5, .int .i64 m.a6, .slice bo m.log.length c] 27)).heap[w.heap.size]? = some (.cells #[.int .i64 m.a0, .int .i64 m.a1, .int .i64 m.a2, .int .i64 m.a3, .int .i64 m.a4, .int .i64 m.a5, .int .i64 m.a6, .slice bo m.log.length c] 27 (0, 0)) := hT.box
  obtain ⟨MB, hMB⟩ : ∃ M : Nat × Obj, M = (w.heap.size, .cells #[.int .i64 m.a0, .int .i64 m.a1, .int .i64 m.a2, .int .i64 m.a3, .int .i64 m.a4, .int .i64 m.a5, .int .i64 m.a6, .slice bo m.log.length c] 27 (0, 0)) := ⟨_, rfl⟩
  have HMX : Hid (∀ (w3 : World) (r' : Rep) (o' : Msgs), TM MB B w3 g r' o' → w3.heap[w.heap.size]? = some (.cells #[.int .i64 m.a0, .int .i64 m.a1, .int .i64 m.a2, .int .i64 m.a3, .int .i64 m.a4, .int .i64 m.a5, .int .i64 m.a6, .slice bo m.log.length c] 27 (0, 0))) := fun w3 r' o' h3 => by
    have := h3.box
    rw [hMB] at this
    exact this
  rw [← hMB] at hT
  clear hMB
  generalize (w.alloc (.cells #[.int .i64 m.a0, .int .i64 m.a1, .int .i64 m.a2, .int .i64 m.a3, .int .i64 m.a4, .int .i64 m.a5, .int .i64 m.a6, .slice bo m.log.length c] 27)) = W at *
  obtain ⟨sk, xok, xck, ⟨k0, k1, k2, k3, k4, k5, k6, k7, k8, k9, k10, k11, k12, k13⟩, kz, _, kH, _⟩ := hT.turn.cells
  obtain ⟨c0, c1, c2, c3, c4, c5, c6, c7⟩ := msg_cells hmb
  have hq : (m.a3 == r.view) = false := by simp [HC.out]
  go_quiet (fail)
  clear hq
  go_wp2_with fail
  have hTV := hT.drewN nq
  have hKV := hK.trans (keep_drewN nq hT.base)
  have hsV := hs.keep (keep_drewN nq hT.base)
  clear k0 k1 k2 k3 k4 k5 k6 k7 k8 k9 k10 k11 k12 k13 kz kH c0 c1 c2 c3 c4 c5 c6 c7 hT hs
  generalize W.drewN nq = V at *
  have hbV := HMX.out _ _ _ hTV
  obtain ⟨sl, xol, xcl, ⟨l0, l1, l2, l3, l4, l5, l6, l7, l8, l9, l10, l11, l12, l13⟩, lz, _, lH, _⟩ := hTV.turn.cells
  obtain ⟨d0, d1, d2, d3, d4, d5, d6, d7⟩ := msg_cells hbV
  have hp := fun n => primaryT_any B g r o m.a3 (V.drewN n) (hTV.turn.drewN n) hv
  have hd : decide (m.a3 < r.view) = true := decide_eq_true HD.out
  go_quiet (first | (go_at_call 75; refine Calls.quiet_of_same (hp _)))
  go_wp2
  first
    | go_end0
    | refine bodyPost_ret (results_none rfl _ _ _) rfl ?_
  exact ⟨rfl, (hTV.drewN _).turn, hKV.trans (keep_drewN _ hTV.base)⟩
set_option maxRecDepth 100000 in
set_option maxHeartbeats 1000000 in
theorem view0ne (B g : Nat) (r : Rep) (o : Msgs) (m : Msg) (bo : Option Addr) (c : Nat) (hv : 0 ≤ m.a3 ∧ m.a3 < 1099511627776) (hc : ¬ m.a3 = r.view) (hlt : ¬ m.a3 < r.view) (hne : ¬ m.a3 % r.n = m.a1) (hol : o.length ≤ 50) (w : World) (h : Turn B w g r o) (hs : SrcE B w bo c m.log) :
    Calls Tryz.prog 64 #[.pointer (some ⟨g, 0, none⟩), msV m bo c] w fun e w' => e = .returned (.tuple #[]) ∧ Turn B w' g r o ∧ Keep B w w' := by
  have hT := tm_new h #[.int .i64 m.a0, .int .i64 m.a1, .int .i64 m.a2, .int .i64 m.a3, .int .i64 m.a4, .int .i64 m.a5, .int .i64 m.a6, .slice bo m.log.length c]
  have hlow : Below w.heap.size w (w.alloc (.cells #[.int .i64 m.a0, .int .i64 m.a1, .int .i64 m.a2, .int .i64 m.a3, .int .i64 m.a4, .int .i64 m.a5, .int .i64 m.a6, .slice bo m.log.length c] 27)) := (Below.refl _ w).alloc (Nat.le_refl _) _
  have hK := Keep.of_below hlow h.base
  have hs := hs.keep hK
  have hB := h.base
  have HC : Hid (¬ m.a3 = r.view) := hc
  clear hc
  have HD : Hid (¬ m.a3 < r.view ∧ ¬ m.a3 % r.n = m.a1) := ⟨hlt, hne⟩
  clear hlt hne
  go_enter Tryz.func64, Tryz.ntmps64
  go_wp2_with fail
  clear h
  have hmlt : w.heap.size < (w.alloc (.cells #[.int .i64 m.a0, .int .i64 m.a1, .int .i64 m.a2, .int .i64 m.a3, .int .i64 m.a4, .int .i64 m.a5, .int .i64 m.a6, .slice bo m.log.length c] 27)).heap.size := by simp
  have hmb : (w.alloc (.cells #[.int .i64 m.a0, .int .i64 m.a1, .int .i64 m.a2, .int .i64 m.a3, .int .i64 m.a4, .int .i64 m.a5, .int .i64 m.a6, .slice bo m.log.length c] 27)).heap[w.heap.size]? = some (.cells #[.int .i64 m.a0, .int .i64 m.a1, .int .i64 m.a2, .int .i64 m.a3, .int .i64 m.a4, .int .i64 m.a5, .int .i64 m.a6, .slice bo m.log.length c] 27 (0, 0)) := hT.box
  obtain ⟨MB, hMB⟩ : ∃ M : Nat × Obj, M = (w.heap.size, .cells #[.int .i64 m.a0, .int .i64 m.a1, .int .i64 m.a2, .int .i64 m.a3, .int .i64 m.a4, .int .i64 m.a5, .int .i64 m.a6, .slice bo m.log.length c] 27 (0, 0)) := ⟨_, rfl⟩
  have HMX : Hid (∀ (w3 : World) (r' : Rep) (o' : Msgs), TM MB B w3 g r' o' → w3.heap[w.heap.size]? = some (.cells #[.int .i64 m.a0, .int .i64 m.a1, .int .i64 m.a2, .int .i64 m.a3, .int .i64 m.a4, .int .i64 m.a5, .int .i64 m.a6, .slice bo m.log.length c] 27 (0, 0))) := fun w3 r' o' h3 => by
    have := h3.box
    rw [hMB] at this
    exact this
  rw [← hMB] at hT
  clear hMB
  generalize (w.alloc (.cells #[.int .i64 m.a0, .int .i64 m.a1, .int .i64 m.a2, .int .i64 m.a3, .int .i64 m.a4, .int .i64 m.a5, .int .i64 m.a6, .slice bo m.log.length c] 27)) = W at *
  obtain ⟨sk, xok, xck, ⟨k0, k1, k2, k3, k4, k5, k6, k7, k8, k9, k10, k11, k12, k13⟩, kz, _, kH, _⟩ := hT.turn.cells
  obtain ⟨c0, c1, c2, c3, c4, c5, c6, c7⟩ := msg_cells hmb
  have hq : (m.a3 == r.view) = false := by simp [HC.out]
  go_quiet (fail)
  clear hq
  go_wp2_with fail
  have hTV := hT.drewN nq
  have hKV := hK.trans (keep_drewN nq hT.base)
  have hsV := hs.keep (keep_drewN nq hT.base)
  clear k0 k1 k2 k3 k4 k5 k6 k7 k8 k9 k10 k11 k12 k13 kz kH c0 c1 c2 c3 c4 c5 c6 c7 hT hs
  generalize W.drewN nq = V at *
  have hbV := HMX.out _ _ _ hTV
  obtain ⟨sl, xol, xcl, ⟨l0, l1, l2, l3, l4, l5, l6, l7, l8, l9, l10, l11, l12, l13⟩, lz, _, lH, _⟩ := hTV.turn.cells
  obtain ⟨d0, d1, d2, d3, d4, d5, d6, d7⟩ := msg_cells hbV
  have hp := fun n => primaryT_any B g r o m.a3 (V.drewN n) (hTV.turn.drewN n) hv
  have hd : decide (m.a3 < r.view) = false := decide_eq_false (by have := HD.out.1; omega)
  have hn2 : ¬ m.a1 = m.a3 % r.n := fun e => HD.out.2 e.symm
  have hn3 : (m.a1 != m.a3 % r.n) = true := by simp [hn2]
  have hn4 : decide (m.a1 = m.a3 % r.n) = false := decide_eq_false hn2
  go_quiet (first | (go_at_call 75; refine Calls.quiet_of_same (hp _)))
  go_wp2
  first
    | go_end0
    | refine bodyPost_ret (results_none rfl _ _ _) rfl ?_
  exact ⟨rfl, (hTV.drewN _).turn, hKV.trans (keep_drewN _ hTV.base)⟩
set_option maxRecDepth 100000 in
set_option maxHeartbeats 1000000 in
theorem view1ne (B g : Nat) (r : Rep) (o : Msgs) (m : Msg) (bo : Option Addr) (c : Nat) (hv : 0 ≤ m.a3 ∧ m.a3 < 1099511627776) (hc : m.a3 = r.view ∧ r.how = 0) (hlt : ¬ m.a3 < r.view) (hne : ¬ m.a3 % r.n = m.a1) (hol : o.length ≤ 50) (w : World) (h : Turn B w g r o) (hs : SrcE B w bo c m.log) :
    Calls Tryz.prog 64 #[.pointer (some ⟨g, 0, none⟩), msV m bo c] w fun e w' => e = .returned (.tuple #[]) ∧ Turn B w' g r o ∧ Keep B w w' := by
  have hT := tm_new h #[.int .i64 m.a0, .int .i64 m.a1, .int .i64 m.a2, .int .i64 m.a3, .int .i64 m.a4, .int .i64 m.a5, .int .i64 m.a6, .slice bo m.log.length c]
  have hlow : Below w.heap.size w (w.alloc (.cells #[.int .i64 m.a0, .int .i64 m.a1, .int .i64 m.a2, .int .i64 m.a3, .int .i64 m.a4, .int .i64 m.a5, .int .i64 m.a6, .slice bo m.log.length c] 27)) := (Below.refl _ w).alloc (Nat.le_refl _) _
  have hK := Keep.of_below hlow h.base
  have hs := hs.keep hK
  have hB := h.base
  have HC : Hid (m.a3 = r.view ∧ r.how = 0) := hc
  clear hc
  have HD : Hid (¬ m.a3 < r.view ∧ ¬ m.a3 % r.n = m.a1) := ⟨hlt, hne⟩
  clear hlt hne
  go_enter Tryz.func64, Tryz.ntmps64
  go_wp2_with fail
  clear h
  have hmlt : w.heap.size < (w.alloc (.cells #[.int .i64 m.a0, .int .i64 m.a1, .int .i64 m.a2, .int .i64 m.a3, .int .i64 m.a4, .int .i64 m.a5, .int .i64 m.a6, .slice bo m.log.length c] 27)).heap.size := by simp
  have hmb : (w.alloc (.cells #[.int .i64 m.a0, .int .i64 m.a1, .int .i64 m.a2, .int .i64 m.a3, .int .i64 m.a4, .int .i64 m.a5, .int .i64 m.a6, .slice bo m.log.length c] 27)).heap[w.heap.size]? = some (.cells #[.int .i64 m.a0, .int .i64 m.a1, .int .i64 m.a2, .int .i64 m.a3, .int .i64 m.a4, .int .i64 m.a5, .int .i64 m.a6, .slice bo m.log.length c] 27 (0, 0)) := hT.box
  obtain ⟨MB, hMB⟩ : ∃ M : Nat × Obj, M = (w.heap.size, .cells #[.int .i64 m.a0, .int .i64 m.a1, .int .i64 m.a2, .int .i64 m.a3, .int .i64 m.a4, .int .i64 m.a5, .int .i64 m.a6, .slice bo m.log.length c] 27 (0, 0)) := ⟨_, rfl⟩
  have HMX : Hid (∀ (w3 : World) (r' : Rep) (o' : Msgs), TM MB B w3 g r' o' → w3.heap[w.heap.size]? = some (.cells #[.int .i64 m.a0, .int .i64 m.a1, .int .i64 m.a2, .int .i64 m.a3, .int .i64 m.a4, .int .i64 m.a5, .int .i64 m.a6, .slice bo m.log.length c] 27 (0, 0))) := fun w3 r' o' h3 => by
    have := h3.box
    rw [hMB] at this
    exact this
  rw [← hMB] at hT
  clear hMB
  generalize (w.alloc (.cells #[.int .i64 m.a0, .int .i64 m.a1, .int .i64 m.a2, .int .i64 m.a3, .int .i64 m.a4, .int .i64 m.a5, .int .i64 m.a6, .slice bo m.log.length c] 27)) = W at *
  obtain ⟨sk, xok, xck, ⟨k0, k1, k2, k3, k4, k5, k6, k7, k8, k9, k10, k11, k12, k13⟩, kz, _, kH, _⟩ := hT.turn.cells
  obtain ⟨c0, c1, c2, c3, c4, c5, c6, c7⟩ := msg_cells hmb
  have hq : (m.a3 == r.view) = true := by rw [HC.out.1]; simp
  rw [HC.out.2] at k4
  go_quiet (fail)
  clear hq
  go_wp2_with fail
  have hTV := hT.drewN nq
  have hKV := hK.trans (keep_drewN nq hT.base)
  have hsV := hs.keep (keep_drewN nq hT.base)
  clear k0 k1 k2 k3 k4 k5 k6 k7 k8 k9 k10 k11 k12 k13 kz kH c0 c1 c2 c3 c4 c5 c6 c7 hT hs
  generalize W.drewN nq = V at *
  have hbV := HMX.out _ _ _ hTV
  obtain ⟨sl, xol, xcl, ⟨l0, l1, l2, l3, l4, l5, l6, l7, l8, l9, l10, l11, l12, l13⟩, lz, _, lH, _⟩ := hTV.turn.cells
  obtain ⟨d0, d1, d2, d3, d4, d5, d6, d7⟩ := msg_cells hbV
  have hp := fun n => primaryT_any B g r o m.a3 (V.drewN n) (hTV.turn.drewN n) hv
  have hd : decide (m.a3 < r.view) = false := decide_eq_false (by have := HD.out.1; omega)
  have hn2 : ¬ m.a1 = m.a3 % r.n := fun e => HD.out.2 e.symm
  have hn3 : (m.a1 != m.a3 % r.n) = true := by simp [hn2]
  have hn4 : decide (m.a1 = m.a3 % r.n) = false := decide_eq_false hn2
  go_quiet (first | (go_at_call 75; refine Calls.quiet_of_same (hp _)))
  go_wp2
  first
    | go_end0
    | refine bodyPost_ret (results_none rfl _ _ _) rfl ?_
  exact ⟨rfl, (hTV.drewN _).turn, hKV.trans (keep_drewN _ hTV.base)⟩
set_option maxRecDepth 100000 in
set_option maxHeartbeats 1000000 in
theorem view2ne (B g : Nat) (r : Rep) (o : Msgs) (m : Msg) (bo : Option Addr) (c : Nat) (hv : 0 ≤ m.a3 ∧ m.a3 < 1099511627776) (hc : m.a3 = r.view ∧ ¬ r.how = 0) (hlt : ¬ m.a3 < r.view) (hne : ¬ m.a3 % r.n = m.a1) (hol : o.length ≤ 50) (w : World) (h : Turn B w g r o) (hs : SrcE B w bo c m.log) :
    Calls Tryz.prog 64 #[.pointer (some ⟨g, 0, none⟩), msV m bo c] w fun e w' => e = .returned (.tuple #[]) ∧ Turn B w' g r o ∧ Keep B w w' := by
  have hT := tm_new h #[.int .i64 m.a0, .int .i64 m.a1, .int .i64 m.a2, .int .i64 m.a3, .int .i64 m.a4, .int .i64 m.a5, .int .i64 m.a6, .slice bo m.log.length c]
  have hlow : Below w.heap.size w (w.alloc (.cells #[.int .i64 m.a0, .int .i64 m.a1, .int .i64 m.a2, .int .i64 m.a3, .int .i64 m.a4, .int .i64 m.a5, .int .i64 m.a6, .slice bo m.log.length c] 27)) := (Below.refl _ w).alloc (Nat.le_refl _) _
  have hK := Keep.of_below hlow h.base
  have hs := hs.keep hK
  have hB := h.base
  have HC : Hid (m.a3 = r.view ∧ ¬ r.how = 0) := hc
  clear hc
  have HD : Hid (¬ m.a3 < r.view ∧ ¬ m.a3 % r.n = m.a1) := ⟨hlt, hne⟩
  clear hlt hne
  go_enter Tryz.func64, Tryz.ntmps64
  go_wp2_with fail
  clear h
  have hmlt : w.heap.size < (w.alloc (.cells #[.int .i64 m.a0, .int .i64 m.a1, .int .i64 m.a2, .int .i64 m.a3, .int .i64 m.a4, .int .i64 m.a5, .int .i64 m.a6, .slice bo m.log.length c] 27)).heap.size := by simp
  have hmb : (w.alloc (.cells #[.int .i64 m.a0, .int .i64 m.a1, .int .i64 m.a2, .int .i64 m.a3, .int .i64 m.a4, .int .i64 m.a5, .int .i64 m.a6, .slice bo m.log.length c] 27)).heap[w.heap.size]? = some (.cells #[.int .i64 m.a0, .int .i64 m.a1, .int .i64 m.a2, .int .i64 m.a3, .int .i64 m.a4, .int .i64 m.a5, .int .i64 m.a6, .slice bo m.log.length c] 27 (0, 0)) := hT.box
  obtain ⟨MB, hMB⟩ : ∃ M : Nat × Obj, M = (w.heap.size, .cells #[.int .i64 m.a0, .int .i64 m.a1, .int .i64 m.a2, .int .i64 m.a3, .int .i64 m.a4, .int .i64 m.a5, .int .i64 m.a6, .slice bo m.log.length c] 27 (0, 0)) := ⟨_, rfl⟩
  have HMX : Hid (∀ (w3 : World) (r' : Rep) (o' : Msgs), TM MB B w3 g r' o' → w3.heap[w.heap.size]? = some (.cells #[.int .i64 m.a0, .int .i64 m.a1, .int .i64 m.a2, .int .i64 m.a3, .int .i64 m.a4, .int .i64 m.a5, .int .i64 m.a6, .slice bo m.log.length c] 27 (0, 0))) := fun w3 r' o' h3 => by
    have := h3.box
    rw [hMB] at this
    exact this
  rw [← hMB] at hT
  clear hMB
  generalize (w.alloc (.cells #[.int .i64 m.a0, .int .i64 m.a1, .int .i64 m.a2, .int .i64 m.a3, .int .i64 m.a4, .int .i64 m.a5, .int .i64 m.a6, .slice bo m.log.length c] 27)) = W at *
  obtain ⟨sk, xok, xck, ⟨k0, k1, k2, k3, k4, k5, k6, k7, k8, k9, k10, k11, k12, k13⟩, kz, _, kH, _⟩ := hT.turn.cells
  obtain ⟨c0, c1, c2, c3, c4, c5, c6, c7⟩ := msg_cells hmb
  have hq : (m.a3 == r.view) = true := by rw [HC.out.1]; simp
  have hq2 : (r.how == 0) = false := by simp [HC.out.2]
  have hq3 : decide (r.how = 0) = false := decide_eq_false HC.out.2
  go_quiet (fail)
  clear hq
  go_wp2_with fail
  have hTV := hT.drewN nq
  have hKV := hK.trans (keep_drewN nq hT.base)
  have hsV := hs.keep (keep_drewN nq hT.base)
  clear k0 k1 k2 k3 k4 k5 k6 k7 k8 k9 k10 k11 k12 k13 kz kH c0 c1 c2 c3 c4 c5 c6 c7 hT hs
  generalize W.drewN nq = V at *
  have hbV := HMX.out _ _ _ hTV
  obtain ⟨sl, xol, xcl, ⟨l0, l1, l2, l3, l4, l5, l6, l7, l8, l9, l10, l11, l12, l13⟩, lz, _, lH, _⟩ := hTV.turn.cells
  obtain ⟨d0, d1, d2, d3, d4, d5, d6, d7⟩ := msg_cells hbV
  have hp := fun n => primaryT_any B g r o m.a3 (V.drewN n) (hTV.turn.drewN n) hv
  have hd : decide (m.a3 < r.view) = false := decide_eq_false (by have := HD.out.1; omega)
  have hn2 : ¬ m.a1 = m.a3 % r.n := fun e => HD.out.2 e.symm
  have hn3 : (m.a1 != m.a3 % r.n) = true := by simp [hn2]
  have hn4 : decide (m.a1 = m.a3 % r.n) = false := decide_eq_false hn2
  go_quiet (first | (go_at_call 75; refine Calls.quiet_of_same (hp _)))
  go_wp2
  first
    | go_end0
    | refine bodyPost_ret (results_none rfl _ _ _) rfl ?_
  exact ⟨rfl, (hTV.drewN _).turn, hKV.trans (keep_drewN _ hTV.base)⟩
set_option maxRecDepth 100000 in
set_option maxHeartbeats 1000000 in
theorem view1eq (B g : Nat) (r : Rep) (o : Msgs) (m : Msg) (bo : Option Addr) (c : Nat) (hv : 0 ≤ m.a3 ∧ m.a3 < 1099511627776) (hc : m.a3 = r.view ∧ r.how = 0) (hlt : ¬ m.a3 < r.view) (heq : m.a3 % r.n = m.a1) (hol : o.length ≤ 50) (w : World) (h : Turn B w g r o) (hs : SrcE B w bo c m.log) :
    Calls Tryz.prog 64 #[.pointer (some ⟨g, 0, none⟩), msV m bo c] w fun e w' => e = .returned (.tuple #[]) ∧ Turn B w' g r o ∧ Keep B w w' := by
  have hT := tm_new h #[.int .i64 m.a0, .int .i64 m.a1, .int .i64 m.a2, .int .i64 m.a3, .int .i64 m.a4, .int .i64 m.a5, .int .i64 m.a6, .slice bo m.log.length c]
  have hlow : Below w.heap.size w (w.alloc (.cells #[.int .i64 m.a0, .int .i64 m.a1, .int .i64 m.a2, .int .i64 m.a3, .int .i64 m.a4, .int .i64 m.a5, .int .i64 m.a6, .slice bo m.log.length c] 27)) := (Below.refl _ w).alloc (Nat.le_refl _) _
  have hK := Keep.of_below hlow h.base
  have hs := hs.keep hK
  have hB := h.base
  have HC : Hid (m.a3 = r.view ∧ r.how = 0) := hc
  clear hc
  have HD : Hid (¬ m.a3 < r.view ∧ m.a3 % r.n = m.a1) := ⟨hlt, heq⟩
  clear hlt heq
  go_enter Tryz.func64, Tryz.ntmps64
  go_wp2_with fail
  clear h
  have hmlt : w.heap.size < (w.alloc (.cells #[.int .i64 m.a0, .int .i64 m.a1, .int .i64 m.a2, .int .i64 m.a3, .int .i64 m.a4, .int .i64 m.a5, .int .i64 m.a6, .slice bo m.log.length c] 27)).heap.size := by simp
  have hmb : (w.alloc (.cells #[.int .i64 m.a0, .int .i64 m.a1, .int .i64 m.a2, .int .i64 m.a3, .int .i64 m.a4, .int .i64 m.a5, .int .i64 m.a6, .slice bo m.log.length c] 27)).heap[w.heap.size]? = some (.cells #[.int .i64 m.a0, .int .i64 m.a1, .int .i64 m.a2, .int .i64 m.a3, .int .i64 m.a4, .int .i64 m.a5, .int .i64 m.a6, .slice bo m.log.length c] 27 (0, 0)) := hT.box
  obtain ⟨MB, hMB⟩ : ∃ M : Nat × Obj, M = (w.heap.size, .cells #[.int .i64 m.a0, .int .i64 m.a1, .int .i64 m.a2, .int .i64 m.a3, .int .i64 m.a4, .int .i64 m.a5, .int .i64 m.a6, .slice bo m.log.length c] 27 (0, 0)) := ⟨_, rfl⟩
  have HMX : Hid (∀ (w3 : World) (r' : Rep) (o' : Msgs), TM MB B w3 g r' o' → w3.heap[w.heap.size]? = some (.cells #[.int .i64 m.a0, .int .i64 m.a1, .int .i64 m.a2, .int .i64 m.a3, .int .i64 m.a4, .int .i64 m.a5, .int .i64 m.a6, .slice bo m.log.length c] 27 (0, 0))) := fun w3 r' o' h3 => by
    have := h3.box
    rw [hMB] at this
    exact this
  rw [← hMB] at hT
  clear hMB
  generalize (w.alloc (.cells #[.int .i64 m.a0, .int .i64 m.a1, .int .i64 m.a2, .int .i64 m.a3, .int .i64 m.a4, .int .i64 m.a5, .int .i64 m.a6, .slice bo m.log.length c] 27)) = W at *
  obtain ⟨sk, xok, xck, ⟨k0, k1, k2, k3, k4, k5, k6, k7, k8, k9, k10, k11, k12, k13⟩, kz, _, kH, _⟩ := hT.turn.cells
  obtain ⟨c0, c1, c2, c3, c4, c5, c6, c7⟩ := msg_cells hmb
  have hq : (m.a3 == r.view) = true := by rw [HC.out.1]; simp
  rw [HC.out.2] at k4
  go_quiet (fail)
  clear hq
  go_wp2_with fail
  have hTV := hT.drewN nq
  have hKV := hK.trans (keep_drewN nq hT.base)
  have hsV := hs.keep (keep_drewN nq hT.base)
  clear k0 k1 k2 k3 k4 k5 k6 k7 k8 k9 k10 k11 k12 k13 kz kH c0 c1 c2 c3 c4 c5 c6 c7 hT hs
  generalize W.drewN nq = V at *
  have hbV := HMX.out _ _ _ hTV
  obtain ⟨sl, xol, xcl, ⟨l0, l1, l2, l3, l4, l5, l6, l7, l8, l9, l10, l11, l12, l13⟩, lz, _, lH, _⟩ := hTV.turn.cells
  obtain ⟨d0, d1, d2, d3, d4, d5, d6, d7⟩ := msg_cells hbV
  have hp := fun n => primaryT_any B g r o m.a3 (V.drewN n) (hTV.turn.drewN n) hv
  have hd : decide (m.a3 < r.view) = false := decide_eq_false (by have := HD.out.1; omega)
  rw [HD.out.2] at hp
  go_quiet (first | (go_at_call 75; refine Calls.quiet_of_same (hp _)))
  go_wp2
  first
    | go_end0
    | refine bodyPost_ret (results_none rfl _ _ _) rfl ?_
  exact ⟨rfl, (hTV.drewN _).turn, hKV.trans (keep_drewN _ hTV.base)⟩
set_option maxRecDepth 100000 in
set_option maxHeartbeats 1000000 in
theorem view0eq (B g : Nat) (r : Rep) (o : Msgs) (m : Msg) (bo : Option Addr) (c : Nat) (hv : 0 ≤ m.a3 ∧ m.a3 < 1099511627776) (hc : ¬ m.a3 = r.view) (hlt : ¬ m.a3 < r.view) (heq : m.a3 % r.n = m.a1) (hml : m.log.length ≤ 1000) (hol : o.length ≤ 50) (w : World) (h : Turn B w g r o) (hs : SrcE B w bo c m.log) :
    Calls Tryz.prog 64 #[.pointer (some ⟨g, 0, none⟩), msV m bo c] w fun e w' => e = .returned (.tuple #[]) ∧ Turn B w' g (normalR r m.log m.a3 m.a5) (o ++ preM (normalR r m.log m.a3 m.a5) m.a1) ∧ Keep B w w' := by
  have hT := tm_new h #[.int .i64 m.a0, .int .i64 m.a1, .int .i64 m.a2, .int .i64 m.a3, .int .i64 m.a4, .int .i64 m.a5, .int .i64 m.a6, .slice bo m.log.length c]
  have hlow : Below w.heap.size w (w.alloc (.cells #[.int .i64 m.a0, .int .i64 m.a1, .int .i64 m.a2, .int .i64 m.a3, .int .i64 m.a4, .int .i64 m.a5, .int .i64 m.a6, .slice bo m.log.length c] 27)) := (Below.refl _ w).alloc (Nat.le_refl _) _
  have hK := Keep.of_below hlow h.base
  have hs := hs.keep hK
  have hB := h.base
  have HC : Hid (¬ m.a3 = r.view) := hc
  clear hc
  have HD : Hid (¬ m.a3 < r.view ∧ m.a3 % r.n = m.a1) := ⟨hlt, heq⟩
  clear hlt heq
  go_enter Tryz.func64, Tryz.ntmps64
  go_wp2_with fail
  clear h
  have hmlt : w.heap.size < (w.alloc (.cells #[.int .i64 m.a0, .int .i64 m.a1, .int .i64 m.a2, .int .i64 m.a3, .int .i64 m.a4, .int .i64 m.a5, .int .i64 m.a6, .slice bo m.log.length c] 27)).heap.size := by simp
  have hmb : (w.alloc (.cells #[.int .i64 m.a0, .int .i64 m.a1, .int .i64 m.a2, .int .i64 m.a3, .int .i64 m.a4, .int .i64 m.a5, .int .i64 m.a6, .slice bo m.log.length c] 27)).heap[w.heap.size]? = some (.cells #[.int .i64 m.a0, .int .i64 m.a1, .int .i64 m.a2, .int .i64 m.a3, .int .i64 m.a4, .int .i64 m.a5, .int .i64 m.a6, .slice bo m.log.length c] 27 (0, 0)) := hT.box
  obtain ⟨MB, hMB⟩ : ∃ M : Nat × Obj, M = (w.heap.size, .cells #[.int .i64 m.a0, .int .i64 m.a1, .int .i64 m.a2, .int .i64 m.a3, .int .i64 m.a4, .int .i64 m.a5, .int .i64 m.a6, .slice bo m.log.length c] 27 (0, 0)) := ⟨_, rfl⟩
  have HMX : Hid (∀ (w3 : World) (r' : Rep) (o' : Msgs), TM MB B w3 g r' o' → w3.heap[w.heap.size]? = some (.cells #[.int .i64 m.a0, .int .i64 m.a1, .int .i64 m.a2, .int .i64 m.a3, .int .i64 m.a4, .int .i64 m.a5, .int .i64 m.a6, .slice bo m.log.length c] 27 (0, 0))) := fun w3 r' o' h3 => by
    have := h3.box
    rw [hMB] at this
    exact this
  rw [← hMB] at hT
  clear hMB
  generalize (w.alloc (.cells #[.int .i64 m.a0, .int .i64 m.a1, .int .i64 m.a2, .int .i64 m.a3, .int .i64 m.a4, .int .i64 m.a5, .int .i64 m.a6, .slice bo m.log.length c] 27)) = W at *
  obtain ⟨sk, xok, xck, ⟨k0, k1, k2, k3, k4, k5, k6, k7, k8, k9, k10, k11, k12, k13⟩, kz, _, kH, _⟩ := hT.turn.cells
  obtain ⟨c0, c1, c2, c3, c4, c5, c6, c7⟩ := msg_cells hmb
  have hq : (m.a3 == r.view) = false := by simp [HC.out]
  go_quiet (fail)
  clear hq
  go_wp2_with fail
  have hTV := hT.drewN nq
  have hKV := hK.trans (keep_drewN nq hT.base)
  have hsV := hs.keep (keep_drewN nq hT.base)
  clear k0 k1 k2 k3 k4 k5 k6 k7 k8 k9 k10 k11 k12 k13 kz kH c0 c1 c2 c3 c4 c5 c6 c7 hT hs
  generalize W.drewN nq = V at *
  have hbV := HMX.out _ _ _ hTV
  obtain ⟨sl, xol, xcl, ⟨l0, l1, l2, l3, l4, l5, l6, l7, l8, l9, l10, l11, l12, l13⟩, lz, _, lH, _⟩ := hTV.turn.cells
  obtain ⟨d0, d1, d2, d3, d4, d5, d6, d7⟩ := msg_cells hbV
  have hp := fun n => primaryT_any B g r o m.a3 (V.drewN n) (hTV.turn.drewN n) hv
  have hd : decide (m.a3 < r.view) = false := decide_eq_false (by have := HD.out.1; omega)
  rw [HD.out.2] at hp
  go_quiet (first | (go_at_call 75; refine Calls.quiet_of_same (hp _)))
  have hnor := fun n => normalM_any MB B g r o m.log bo c m.a3 m.a5 (V.drewN n) (hTV.drewN n) (hsV.keep (keep_drewN n hTV.base)) hml
  go_wp2_with (first
    | (go_at_call 89; refine (hnor _).mono ?_; rintro e w2 ⟨rfl, hT2, hK2⟩
       have hb2 := HMX.out _ _ _ hT2
       obtain ⟨y0, y1, y2, y3, y4, y5, y6, y7⟩ := msg_cells hb2
       have hpre := preM_any MB B g _ o m.a1 w2 hT2 (by omega)
       clear hnor)
    | (go_at_call 81; refine hpre.mono ?_; rintro e w3 ⟨rfl, hT3, hK3⟩))
  first
    | go_end0
    | refine bodyPost_ret (results_none rfl _ _ _) rfl ?_
  exact ⟨rfl, hT3.turn, (hKV.trans (keep_drewN _ hTV.base)).trans (hK2.trans hK3)⟩
set_option maxRecDepth 100000 in
set_option maxHeartbeats 1000000 in
theorem view2eq (B g : Nat) (r : Rep) (o : Msgs) (m : Msg) (bo : Option Addr) (c : Nat) (hv : 0 ≤ m.a3 ∧ m.a3 < 1099511627776) (hc : m.a3 = r.view ∧ ¬ r.how = 0) (hlt : ¬ m.a3 < r.view) (heq : m.a3 % r.n = m.a1) (hml : m.log.length ≤ 1000) (hol : o.length ≤ 50) (w : World) (h : Turn B w g r o) (hs : SrcE B w bo c m.log) :
    Calls Tryz.prog 64 #[.pointer (some ⟨g, 0, none⟩), msV m bo c] w fun e w' => e = .returned (.tuple #[]) ∧ Turn B w' g (normalR r m.log m.a3 m.a5) (o ++ preM (normalR r m.log m.a3 m.a5) m.a1) ∧ Keep B w w' := by
  have hT := tm_new h #[.int .i64 m.a0, .int .i64 m.a1, .int .i64 m.a2, .int .i64 m.a3, .int .i64 m.a4, .int .i64 m.a5, .int .i64 m.a6, .slice bo m.log.length c]
  have hlow : Below w.heap.size w (w.alloc (.cells #[.int .i64 m.a0, .int .i64 m.a1, .int .i64 m.a2, .int .i64 m.a3, .int .i64 m.a4, .int .i64 m.a5, .int .i64 m.a6, .slice bo m.log.length c] 27)) := (Below.refl _ w).alloc (Nat.le_refl _) _
  have hK := Keep.of_below hlow h.base
  have hs := hs.keep hK
  have hB := h.base
  have HC : Hid (m.a3 = r.view ∧ ¬ r.how = 0) := hc
  clear hc
  have HD : Hid (¬ m.a3 < r.view ∧ m.a3 % r.n = m.a1) := ⟨hlt, heq⟩
  clear hlt heq
  go_enter Tryz.func64, Tryz.ntmps64
  go_wp2_with fail
  clear h
  have hmlt : w.heap.size < (w.alloc (.cells #[.int .i64 m.a0, .int .i64 m.a1, .int .i64 m.a2, .int .i64 m.a3, .int .i64 m.a4, .int .i64 m.a5, .int .i64 m.a6, .slice bo m.log.length c] 27)).heap.size := by simp
  have hmb : (w.alloc (.cells #[.int .i64 m.a0, .int .i64 m.a1, .int .i64 m.a2, .int .i64 m.a3, .int .i64 m.a4, .int .i64 m.a5, .int .i64 m.a6, .slice bo m.log.length c] 27)).heap[w.heap.size]? = some (.cells #[.int .i64 m.a0, .int .i64 m.a1, .int .i64 m.a2, .int .i64 m.a3, .int .i64 m.a4, .int .i64 m.a5, .int .i64 m.a6, .slice bo m.log.length c] 27 (0, 0)) := hT.box
  obtain ⟨MB, hMB⟩ : ∃ M : Nat × Obj, M = (w.heap.size, .cells #[.int .i64 m.a0, .int .i64 m.a1, .int .i64 m.a2, .int .i64 m.a3, .int .i64 m.a4, .int .i64 m.a5, .int .i64 m.a6, .slice bo m.log.length c] 27 (0, 0)) := ⟨_, rfl⟩
  have HMX : Hid (∀ (w3 : World) (r' : Rep) (o' : Msgs), TM MB B w3 g r' o' → w3.heap[w.heap.size]? = some (.cells #[.int .i64 m.a0, .int .i64 m.a1, .int .i64 m.a2, .int .i64 m.a3, .int .i64 m.a4, .int .i64 m.a5, .int .i64 m.a6, .slice bo m.log.length c] 27 (0, 0))) := fun w3 r' o' h3 => by
    have := h3.box
    rw [hMB] at this
    exact this
  rw [← hMB] at hT
  clear hMB
  generalize (w.alloc (.cells #[.int .i64 m.a0, .int .i64 m.a1, .int .i64 m.a2, .int .i64 m.a3, .int .i64 m.a4, .int .i64 m.a5, .int .i64 m.a6, .slice bo m.log.length c] 27)) = W at *
  obtain ⟨sk, xok, xck, ⟨k0, k1, k2, k3, k4, k5, k6, k7, k8, k9, k10, k11, k12, k13⟩, kz, _, kH, _⟩ := hT.turn.cells
  obtain ⟨c0, c1, c2, c3, c4, c5, c6, c7⟩ := msg_cells hmb
  have hq : (m.a3 == r.view) = true := by rw [HC.out.1]; simp
  have hq2 : (r.how == 0) = false := by simp [HC.out.2]
  have hq3 : decide (r.how = 0) = false := decide_eq_false HC.out.2
  go_quiet (fail)
  clear hq
  go_wp2_with fail
  have hTV := hT.drewN nq
  have hKV := hK.trans (keep_drewN nq hT.base)
  have hsV := hs.keep (keep_drewN nq hT.base)
  clear k0 k1 k2 k3 k4 k5 k6 k7 k8 k9 k10 k11 k12 k13 kz kH c0 c1 c2 c3 c4 c5 c6 c7 hT hs
  generalize W.drewN nq = V at *
  have hbV := HMX.out _ _ _ hTV
  obtain ⟨sl, xol, xcl, ⟨l0, l1, l2, l3, l4, l5, l6, l7, l8, l9, l10, l11, l12, l13⟩, lz, _, lH, _⟩ := hTV.turn.cells
  obtain ⟨d0, d1, d2, d3, d4, d5, d6, d7⟩ := msg_cells hbV
  have hp := fun n => primaryT_any B g r o m.a3 (V.drewN n) (hTV.turn.drewN n) hv
  have hd : decide (m.a3 < r.view) = false := decide_eq_false (by have := HD.out.1; omega)
  rw [HD.out.2] at hp
  go_quiet (first | (go_at_call 75; refine Calls.quiet_of_same (hp _)))
  have hnor := fun n => normalM_any MB B g r o m.log bo c m.a3 m.a5 (V.drewN n) (hTV.drewN n) (hsV.keep (keep_drewN n hTV.base)) hml
  go_wp2_with (first
    | (go_at_call 89; refine (hnor _).mono ?_; rintro e w2 ⟨rfl, hT2, hK2⟩
       have hb2 := HMX.out _ _ _ hT2
       obtain ⟨y0, y1, y2, y3, y4, y5, y6, y7⟩ := msg_cells hb2
       have hpre := preM_any MB B g _ o m.a1 w2 hT2 (by omega)
       clear hnor)
    | (go_at_call 81; refine hpre.mono ?_; rintro e w3 ⟨rfl, hT3, hK3⟩))
  first
    | go_end0
    | refine bodyPost_ret (results_none rfl _ _ _) rfl ?_
  exact ⟨rfl, hT3.turn, (hKV.trans (keep_drewN _ hTV.base)).trans (hK2.trans hK3)⟩
theorem view_any (B g : Nat) (r : Rep) (o : Msgs) (m : Msg) (bo : Option Addr) (c : Nat) (hv : 0 ≤ m.a3 ∧ m.a3 < 1099511627776) (hml : m.log.length ≤ 1000) (hol : o.length ≤ 50) (w : World) (h : Turn B w g r o) (hs : SrcE B w bo c m.log) :
    Calls Tryz.prog 64 #[.pointer (some ⟨g, 0, none⟩), msV m bo c] w fun e w' => e = .returned (.tuple #[]) ∧ Turn B w' g (viewH r m).1 (o ++ (viewH r m).2) ∧ Keep B w w' := by
  unfold viewH
  by_cases h1 : m.a3 < r.view
  · rw [if_pos (.inl h1), List.append_nil]
    exact view0lt B g r o m bo c hv (by omega) h1 hol w h hs
  · by_cases h2 : m.a3 % r.n = m.a1
    · by_cases h3 : m.a3 = r.view
      · by_cases h4 : r.how = 0
        · rw [if_pos (.inr (.inr ⟨h3, h4⟩)), List.append_nil]
          exact view1eq B g r o m bo c hv ⟨h3, h4⟩ h1 h2 hol w h hs
        · rw [if_neg (fun h => by rcases h with h | h | h; exact h1 h; exact h h2; exact h4 h.2)]
          exact view2eq B g r o m bo c hv ⟨h3, h4⟩ h1 h2 hml hol w h hs
      · rw [if_neg (fun h => by rcases h with h | h | h; exact h1 h; exact h h2; exact h3 h.1)]
        exact view0eq B g r o m bo c hv h3 h1 h2 hml hol w h hs
    · rw [if_pos (.inr (.inl h2)), List.append_nil]
      by_cases h3 : m.a3 = r.view
      · by_cases h4 : r.how = 0
        · exact view1ne B g r o m bo c hv ⟨h3, h4⟩ h1 h2 hol w h hs
        · exact view2ne B g r o m bo c hv ⟨h3, h4⟩ h1 h2 hol w h hs
      · exact view0ne B g r o m bo c hv h3 h1 h2 hol w h hs
end Go.Proofs.YtajbdffepfjegaaGreat
