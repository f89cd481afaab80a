/-
  Contracts of a replica at work: what it makes of a change of the view.
-/
import Derived.Test.YtajbdffepfjegaaGreatRpKp
import Derived.Deep.CutRange
namespace Go.Proofs.YtajbdffepfjegaaGreat
open Go.RowKit Num
open scoped Classical
set_option linter.unusedVariables false
set_option maxRecDepth 100000

set_option maxRecDepth 100000 in
set_option maxHeartbeats 3000000 in
theorem changeNlt (B g : Nat) (r : Rep) (o : Msgs) (m : Msg) (bo : Option Addr) (c : Nat) (hv : 0 ≤ m.a3 ∧ m.a3 < 1099511627776) (hrv : 0 ≤ r.view ∧ r.view < 1099511627776) (hlt : m.a3 < r.view) (hgt : ¬ r.view < m.a3) (hvl : r.votes.length ≤ 900) (hwl : r.voters.length ≤ 900) (hol : o.length ≤ 30) (w : World) (h : Turn B w g r o) (hs : SrcE B w bo c m.log) :
    Calls Tryz.prog 62 #[.pointer (some ⟨g, 0, none⟩), msV m bo c] w fun e w' => e = .returned (.tuple #[]) ∧ Turn B w' g r o ∧ Keep B w w' := by
  have hT := tm_new h #[.int .i64 m.a0, .int .i64 m.a1, .int .i64 m.a2, .int .i64 m.a3, .int .i64 m.a4, .int .i64 m.a5, .int .i64 m.a6, .slice bo m.log.length c]
  have hgw : w.heap.size ≠ g := hT.ne
  have hlow : Below w.heap.size w (w.alloc (.cells #[.int .i64 m.a0, .int .i64 m.a1, .int .i64 m.a2, .int .i64 m.a3, .int .i64 m.a4, .int .i64 m.a5, .int .i64 m.a6, .slice bo m.log.length c] 27)) := (Below.refl _ w).alloc (Nat.le_refl _) _
  have hK := Keep.of_below hlow h.base
  have hs := hs.keep hK
  have hB := h.base
  have HD : Hid (m.a3 < r.view ∧ ¬ r.view < m.a3) := ⟨hlt, hgt⟩
  have HC : Hid (True) := trivial
  clear hlt hgt 
  go_enter Tryz.func62, Tryz.ntmps62
  go_wp2_with fail
  clear h
  have hmlt : w.heap.size < (w.alloc (.cells #[.int .i64 m.a0, .int .i64 m.a1, .int .i64 m.a2, .int .i64 m.a3, .int .i64 m.a4, .int .i64 m.a5, .int .i64 m.a6, .slice bo m.log.length c] 27)).heap.size := by simp
  have hmb : (w.alloc (.cells #[.int .i64 m.a0, .int .i64 m.a1, .int .i64 m.a2, .int .i64 m.a3, .int .i64 m.a4, .int .i64 m.a5, .int .i64 m.a6, .slice bo m.log.length c] 27)).heap[w.heap.size]? = some (.cells #[.int .i64 m.a0, .int .i64 m.a1, .int .i64 m.a2, .int .i64 m.a3, .int .i64 m.a4, .int .i64 m.a5, .int .i64 m.a6, .slice bo m.log.length c] 27 (0, 0)) := hT.box
  obtain ⟨MB, hMB⟩ : ∃ M : Nat × Obj, M = (w.heap.size, .cells #[.int .i64 m.a0, .int .i64 m.a1, .int .i64 m.a2, .int .i64 m.a3, .int .i64 m.a4, .int .i64 m.a5, .int .i64 m.a6, .slice bo m.log.length c] 27 (0, 0)) := ⟨_, rfl⟩
  have HMX : Hid (∀ (w3 : World) (r' : Rep) (o' : Msgs), TM MB B w3 g r' o' → w3.heap[w.heap.size]? = some (.cells #[.int .i64 m.a0, .int .i64 m.a1, .int .i64 m.a2, .int .i64 m.a3, .int .i64 m.a4, .int .i64 m.a5, .int .i64 m.a6, .slice bo m.log.length c] 27 (0, 0))) := fun w3 r' o' h3 => by
    have := h3.box
    rw [hMB] at this
    exact this
  rw [← hMB] at hT
  clear hMB
  generalize (w.alloc (.cells #[.int .i64 m.a0, .int .i64 m.a1, .int .i64 m.a2, .int .i64 m.a3, .int .i64 m.a4, .int .i64 m.a5, .int .i64 m.a6, .slice bo m.log.length c] 27)) = W at *
  obtain ⟨sk, xok, xck, ⟨k0, k1, k2, k3, k4, k5, k6, k7, k8, k9, k10, k11, k12, k13⟩, kz, _, kH, _⟩ := hT.turn.cells
  obtain ⟨c0, c1, c2, c3, c4, c5, c6, c7⟩ := msg_cells hmb
  have hd : decide (r.view < m.a3) = false := decide_eq_false (by have := HD.out.2; omega)
  go_quiet (fail)
  go_wp2_with fail
  have hTX := hT.drewN nq
  have hKX := hK.trans (keep_drewN nq hT.base)
  clear k0 k1 k2 k3 k4 k5 k6 k7 k8 k9 k10 k11 k12 k13 kz kH c0 c1 c2 c3 c4 c5 c6 c7 hT hs hd
  generalize W.drewN nq = X at *
  have hbX := HMX.out _ _ _ hTX
  obtain ⟨sa, xoa, xca, ⟨a0, a1, a2, a3, a4, a5, a6, a7, a8, a9, a10, a11, a12, a13⟩, az, _, aH, _⟩ := hTX.turn.cells
  obtain ⟨b0, b1, b2, b3, b4, b5, b6, b7⟩ := msg_cells hbX
  have hcon := fun n => contains_any sa.vo sa.vc r.votes (by omega) m.a1 (X.drewN n) (own_liesN (own_below aH.rows.vot (below_drewN (Below.refl _ X) n)))
  have hd : decide (m.a3 < r.view) = true := decide_eq_true HD.out.1
  go_quiet (first | (go_at_call 84; refine Calls.quiet_of_same (hcon _)))
  go_wp2
  first
    | go_end0
    | refine bodyPost_ret (results_none rfl _ _ _) rfl ?_
  exact ⟨rfl, (hTX.drewN _).turn, hKX.trans (keep_drewN _ hTX.base)⟩
set_option maxRecDepth 100000 in
set_option maxHeartbeats 3000000 in
theorem changeNhow (B g : Nat) (r : Rep) (o : Msgs) (m : Msg) (bo : Option Addr) (c : Nat) (hv : 0 ≤ m.a3 ∧ m.a3 < 1099511627776) (hrv : 0 ≤ r.view ∧ r.view < 1099511627776) (hlt : ¬ m.a3 < r.view) (hgt : ¬ r.view < m.a3) (hh : ¬ r.how = 1) (hvl : r.votes.length ≤ 900) (hwl : r.voters.length ≤ 900) (hol : o.length ≤ 30) (w : World) (h : Turn B w g r o) (hs : SrcE B w bo c m.log) :
    Calls Tryz.prog 62 #[.pointer (some ⟨g, 0, none⟩), msV m bo c] w fun e w' => e = .returned (.tuple #[]) ∧ Turn B w' g r o ∧ Keep B w w' := by
  have hT := tm_new h #[.int .i64 m.a0, .int .i64 m.a1, .int .i64 m.a2, .int .i64 m.a3, .int .i64 m.a4, .int .i64 m.a5, .int .i64 m.a6, .slice bo m.log.length c]
  have hgw : w.heap.size ≠ g := hT.ne
  have hlow : Below w.heap.size w (w.alloc (.cells #[.int .i64 m.a0, .int .i64 m.a1, .int .i64 m.a2, .int .i64 m.a3, .int .i64 m.a4, .int .i64 m.a5, .int .i64 m.a6, .slice bo m.log.length c] 27)) := (Below.refl _ w).alloc (Nat.le_refl _) _
  have hK := Keep.of_below hlow h.base
  have hs := hs.keep hK
  have hB := h.base
  have HD : Hid (¬ m.a3 < r.view ∧ ¬ r.view < m.a3) := ⟨hlt, hgt⟩
  have HC : Hid (¬ r.how = 1) := hh
  clear hlt hgt hh
  go_enter Tryz.func62, Tryz.ntmps62
  go_wp2_with fail
  clear h
  have hmlt : w.heap.size < (w.alloc (.cells #[.int .i64 m.a0, .int .i64 m.a1, .int .i64 m.a2, .int .i64 m.a3, .int .i64 m.a4, .int .i64 m.a5, .int .i64 m.a6, .slice bo m.log.length c] 27)).heap.size := by simp
  have hmb : (w.alloc (.cells #[.int .i64 m.a0, .int .i64 m.a1, .int .i64 m.a2, .int .i64 m.a3, .int .i64 m.a4, .int .i64 m.a5, .int .i64 m.a6, .slice bo m.log.length c] 27)).heap[w.heap.size]? = some (.cells #[.int .i64 m.a0, .int .i64 m.a1, .int .i64 m.a2, .int .i64 m.a3, .int .i64 m.a4, .int .i64 m.a5, .int .i64 m.a6, .slice bo m.log.length c] 27 (0, 0)) := hT.box
  obtain ⟨MB, hMB⟩ : ∃ M : Nat × Obj, M = (w.heap.size, .cells #[.int .i64 m.a0, .int .i64 m.a1, .int .i64 m.a2, .int .i64 m.a3, .int .i64 m.a4, .int .i64 m.a5, .int .i64 m.a6, .slice bo m.log.length c] 27 (0, 0)) := ⟨_, rfl⟩
  have HMX : Hid (∀ (w3 : World) (r' : Rep) (o' : Msgs), TM MB B w3 g r' o' → w3.heap[w.heap.size]? = some (.cells #[.int .i64 m.a0, .int .i64 m.a1, .int .i64 m.a2, .int .i64 m.a3, .int .i64 m.a4, .int .i64 m.a5, .int .i64 m.a6, .slice bo m.log.length c] 27 (0, 0))) := fun w3 r' o' h3 => by
    have := h3.box
    rw [hMB] at this
    exact this
  rw [← hMB] at hT
  clear hMB
  generalize (w.alloc (.cells #[.int .i64 m.a0, .int .i64 m.a1, .int .i64 m.a2, .int .i64 m.a3, .int .i64 m.a4, .int .i64 m.a5, .int .i64 m.a6, .slice bo m.log.length c] 27)) = W at *
  obtain ⟨sk, xok, xck, ⟨k0, k1, k2, k3, k4, k5, k6, k7, k8, k9, k10, k11, k12, k13⟩, kz, _, kH, _⟩ := hT.turn.cells
  obtain ⟨c0, c1, c2, c3, c4, c5, c6, c7⟩ := msg_cells hmb
  have hd : decide (r.view < m.a3) = false := decide_eq_false (by have := HD.out.2; omega)
  go_quiet (fail)
  go_wp2_with fail
  have hTX := hT.drewN nq
  have hKX := hK.trans (keep_drewN nq hT.base)
  clear k0 k1 k2 k3 k4 k5 k6 k7 k8 k9 k10 k11 k12 k13 kz kH c0 c1 c2 c3 c4 c5 c6 c7 hT hs hd
  generalize W.drewN nq = X at *
  have hbX := HMX.out _ _ _ hTX
  obtain ⟨sa, xoa, xca, ⟨a0, a1, a2, a3, a4, a5, a6, a7, a8, a9, a10, a11, a12, a13⟩, az, _, aH, _⟩ := hTX.turn.cells
  obtain ⟨b0, b1, b2, b3, b4, b5, b6, b7⟩ := msg_cells hbX
  have hcon := fun n => contains_any sa.vo sa.vc r.votes (by omega) m.a1 (X.drewN n) (own_liesN (own_below aH.rows.vot (below_drewN (Below.refl _ X) n)))
  have hd : decide (m.a3 < r.view) = false := decide_eq_false (by have := HD.out.1; omega)
  have hq : (r.how != 1) = true := by simp [HC.out]
  go_quiet (first | (go_at_call 84; refine Calls.quiet_of_same (hcon _)))
  go_wp2
  first
    | go_end0
    | refine bodyPost_ret (results_none rfl _ _ _) rfl ?_
  exact ⟨rfl, (hTX.drewN _).turn, hKX.trans (keep_drewN _ hTX.base)⟩
set_option maxRecDepth 100000 in
set_option maxHeartbeats 3000000 in
theorem changeNhas (B g : Nat) (r : Rep) (o : Msgs) (m : Msg) (bo : Option Addr) (c : Nat) (hv : 0 ≤ m.a3 ∧ m.a3 < 1099511627776) (hrv : 0 ≤ r.view ∧ r.view < 1099511627776) (hlt : ¬ m.a3 < r.view) (hgt : ¬ r.view < m.a3) (hh : r.how = 1) (hin : m.a1 ∈ r.votes) (hvl : r.votes.length ≤ 900) (hwl : r.voters.length ≤ 900) (hol : o.length ≤ 30) (w : World) (h : Turn B w g r o) (hs : SrcE B w bo c m.log) :
    Calls Tryz.prog 62 #[.pointer (some ⟨g, 0, none⟩), msV m bo c] w fun e w' => e = .returned (.tuple #[]) ∧ Turn B w' g r o ∧ Keep B w w' := by
  have hT := tm_new h #[.int .i64 m.a0, .int .i64 m.a1, .int .i64 m.a2, .int .i64 m.a3, .int .i64 m.a4, .int .i64 m.a5, .int .i64 m.a6, .slice bo m.log.length c]
  have hgw : w.heap.size ≠ g := hT.ne
  have hlow : Below w.heap.size w (w.alloc (.cells #[.int .i64 m.a0, .int .i64 m.a1, .int .i64 m.a2, .int .i64 m.a3, .int .i64 m.a4, .int .i64 m.a5, .int .i64 m.a6, .slice bo m.log.length c] 27)) := (Below.refl _ w).alloc (Nat.le_refl _) _
  have hK := Keep.of_below hlow h.base
  have hs := hs.keep hK
  have hB := h.base
  have HD : Hid (¬ m.a3 < r.view ∧ ¬ r.view < m.a3) := ⟨hlt, hgt⟩
  have HC : Hid (r.how = 1 ∧ m.a1 ∈ r.votes) := ⟨hh, hin⟩
  clear hlt hgt hh hin
  go_enter Tryz.func62, Tryz.ntmps62
  go_wp2_with fail
  clear h
  have hmlt : w.heap.size < (w.alloc (.cells #[.int .i64 m.a0, .int .i64 m.a1, .int .i64 m.a2, .int .i64 m.a3, .int .i64 m.a4, .int .i64 m.a5, .int .i64 m.a6, .slice bo m.log.length c] 27)).heap.size := by simp
  have hmb : (w.alloc (.cells #[.int .i64 m.a0, .int .i64 m.a1, .int .i64 m.a2, .int .i64 m.a3, .int .i64 m.a4, .int .i64 m.a5, .int .i64 m.a6, .slice bo m.log.length c] 27)).heap[w.heap.size]? = some (.cells #[.int .i64 m.a0, .int .i64 m.a1, .int .i64 m.a2, .int .i64 m.a3, .int .i64 m.a4, .int .i64 m.a5, .int .i64 m.a6, .slice bo m.log.length c] 27 (0, 0)) := hT.box
  obtain ⟨MB, hMB⟩ : ∃ M : Nat × Obj, M = (w.heap.size, .cells #[.int .i64 m.a0, .int .i64 m.a1, .int .i64 m.a2, .int .i64 m.a3, .int .i64 m.a4, .int .i64 m.a5, .int .i64 m.a6, .slice bo m.log.length c] 27 (0, 0)) := ⟨_, rfl⟩
  have HMX : Hid (∀ (w3 : World) (r' : Rep) (o' : Msgs), TM MB B w3 g r' o' → w3.heap[w.heap.size]? = some (.cells #[.int .i64 m.a0, .int .i64 m.a1, .int .i64 m.a2, .int .i64 m.a3, .int .i64 m.a4, .int .i64 m.a5, .int .i64 m.a6, .slice bo m.log.length c] 27 (0, 0))) := fun w3 r' o' h3 => by
    have := h3.box
    rw [hMB] at this
    exact this
  rw [← hMB] at hT
  clear hMB
  generalize (w.alloc (.cells #[.int .i64 m.a0, .int .i64 m.a1, .int .i64 m.a2, .int .i64 m.a3, .int .i64 m.a4, .int .i64 m.a5, .int .i64 m.a6, .slice bo m.log.length c] 27)) = W at *
  obtain ⟨sk, xok, xck, ⟨k0, k1, k2, k3, k4, k5, k6, k7, k8, k9, k10, k11, k12, k13⟩, kz, _, kH, _⟩ := hT.turn.cells
  obtain ⟨c0, c1, c2, c3, c4, c5, c6, c7⟩ := msg_cells hmb
  have hd : decide (r.view < m.a3) = false := decide_eq_false (by have := HD.out.2; omega)
  go_quiet (fail)
  go_wp2_with fail
  have hTX := hT.drewN nq
  have hKX := hK.trans (keep_drewN nq hT.base)
  clear k0 k1 k2 k3 k4 k5 k6 k7 k8 k9 k10 k11 k12 k13 kz kH c0 c1 c2 c3 c4 c5 c6 c7 hT hs hd
  generalize W.drewN nq = X at *
  have hbX := HMX.out _ _ _ hTX
  obtain ⟨sa, xoa, xca, ⟨a0, a1, a2, a3, a4, a5, a6, a7, a8, a9, a10, a11, a12, a13⟩, az, _, aH, _⟩ := hTX.turn.cells
  obtain ⟨b0, b1, b2, b3, b4, b5, b6, b7⟩ := msg_cells hbX
  have hcon := fun n => contains_any sa.vo sa.vc r.votes (by omega) m.a1 (X.drewN n) (own_liesN (own_below aH.rows.vot (below_drewN (Below.refl _ X) n)))
  have hd : decide (m.a3 < r.view) = false := decide_eq_false (by have := HD.out.1; omega)
  rw [HC.out.1] at a4
  rw [tru_yes HC.out.2] at hcon
  go_quiet (first | (go_at_call 84; refine Calls.quiet_of_same (hcon _)))
  go_wp2
  first
    | go_end0
    | refine bodyPost_ret (results_none rfl _ _ _) rfl ?_
  exact ⟨rfl, (hTX.drewN _).turn, hKX.trans (keep_drewN _ hTX.base)⟩
set_option maxRecDepth 100000 in
set_option maxHeartbeats 3000000 in
theorem changeNno (B g : Nat) (r : Rep) (o : Msgs) (m : Msg) (bo : Option Addr) (c : Nat) (hv : 0 ≤ m.a3 ∧ m.a3 < 1099511627776) (hrv : 0 ≤ r.view ∧ r.view < 1099511627776) (hlt : ¬ m.a3 < r.view) (hgt : ¬ r.view < m.a3) (hh : r.how = 1) (hin : m.a1 ∉ r.votes) (hids : IdsOk r.votes r.n) (hvo : IdsOk r.voters r.n) (hmo : ¬ (((addI r.votes m.a1).length : Int) = mostN r.n)) (hvl : r.votes.length ≤ 900) (hwl : r.voters.length ≤ 900) (hol : o.length ≤ 30) (w : World) (h : Turn B w g r o) (hs : SrcE B w bo c m.log) :
    Calls Tryz.prog 62 #[.pointer (some ⟨g, 0, none⟩), msV m bo c] w fun e w' => e = .returned (.tuple #[]) ∧ Turn B w' g { r with votes := addI r.votes m.a1 } o ∧ Keep B w w' := by
  have hT := tm_new h #[.int .i64 m.a0, .int .i64 m.a1, .int .i64 m.a2, .int .i64 m.a3, .int .i64 m.a4, .int .i64 m.a5, .int .i64 m.a6, .slice bo m.log.length c]
  have hgw : w.heap.size ≠ g := hT.ne
  have hlow : Below w.heap.size w (w.alloc (.cells #[.int .i64 m.a0, .int .i64 m.a1, .int .i64 m.a2, .int .i64 m.a3, .int .i64 m.a4, .int .i64 m.a5, .int .i64 m.a6, .slice bo m.log.length c] 27)) := (Below.refl _ w).alloc (Nat.le_refl _) _
  have hK := Keep.of_below hlow h.base
  have hs := hs.keep hK
  have hB := h.base
  have HD : Hid (¬ m.a3 < r.view ∧ ¬ r.view < m.a3) := ⟨hlt, hgt⟩
  have HC : Hid (r.how = 1 ∧ m.a1 ∉ r.votes ∧ IdsOk r.votes r.n ∧ IdsOk r.voters r.n ∧ ¬ (((addI r.votes m.a1).length : Int) = mostN r.n)) := ⟨hh, hin, hids, hvo, hmo⟩
  clear hlt hgt hh hin hids hvo hmo
  go_enter Tryz.func62, Tryz.ntmps62
  go_wp2_with fail
  clear h
  have hmlt : w.heap.size < (w.alloc (.cells #[.int .i64 m.a0, .int .i64 m.a1, .int .i64 m.a2, .int .i64 m.a3, .int .i64 m.a4, .int .i64 m.a5, .int .i64 m.a6, .slice bo m.log.length c] 27)).heap.size := by simp
  have hmb : (w.alloc (.cells #[.int .i64 m.a0, .int .i64 m.a1, .int .i64 m.a2, .int .i64 m.a3, .int .i64 m.a4, .int .i64 m.a5, .int .i64 m.a6, .slice bo m.log.length c] 27)).heap[w.heap.size]? = some (.cells #[.int .i64 m.a0, .int .i64 m.a1, .int .i64 m.a2, .int .i64 m.a3, .int .i64 m.a4, .int .i64 m.a5, .int .i64 m.a6, .slice bo m.log.length c] 27 (0, 0)) := hT.box
  obtain ⟨MB, hMB⟩ : ∃ M : Nat × Obj, M = (w.heap.size, .cells #[.int .i64 m.a0, .int .i64 m.a1, .int .i64 m.a2, .int .i64 m.a3, .int .i64 m.a4, .int .i64 m.a5, .int .i64 m.a6, .slice bo m.log.length c] 27 (0, 0)) := ⟨_, rfl⟩
  have HMX : Hid (∀ (w3 : World) (r' : Rep) (o' : Msgs), TM MB B w3 g r' o' → w3.heap[w.heap.size]? = some (.cells #[.int .i64 m.a0, .int .i64 m.a1, .int .i64 m.a2, .int .i64 m.a3, .int .i64 m.a4, .int .i64 m.a5, .int .i64 m.a6, .slice bo m.log.length c] 27 (0, 0))) := fun w3 r' o' h3 => by
    have := h3.box
    rw [hMB] at this
    exact this
  rw [← hMB] at hT
  clear hMB
  generalize (w.alloc (.cells #[.int .i64 m.a0, .int .i64 m.a1, .int .i64 m.a2, .int .i64 m.a3, .int .i64 m.a4, .int .i64 m.a5, .int .i64 m.a6, .slice bo m.log.length c] 27)) = W at *
  obtain ⟨sk, xok, xck, ⟨k0, k1, k2, k3, k4, k5, k6, k7, k8, k9, k10, k11, k12, k13⟩, kz, _, kH, _⟩ := hT.turn.cells
  obtain ⟨c0, c1, c2, c3, c4, c5, c6, c7⟩ := msg_cells hmb
  have hd : decide (r.view < m.a3) = false := decide_eq_false (by have := HD.out.2; omega)
  go_quiet (fail)
  go_wp2_with fail
  have hTX := hT.drewN nq
  have hKX := hK.trans (keep_drewN nq hT.base)
  clear k0 k1 k2 k3 k4 k5 k6 k7 k8 k9 k10 k11 k12 k13 kz kH c0 c1 c2 c3 c4 c5 c6 c7 hT hs hd
  generalize W.drewN nq = X at *
  have hbX := HMX.out _ _ _ hTX
  obtain ⟨sa, xoa, xca, ⟨a0, a1, a2, a3, a4, a5, a6, a7, a8, a9, a10, a11, a12, a13⟩, az, _, aH, _⟩ := hTX.turn.cells
  obtain ⟨b0, b1, b2, b3, b4, b5, b6, b7⟩ := msg_cells hbX
  have hcon := fun n => contains_any sa.vo sa.vc r.votes (by omega) m.a1 (X.drewN n) (own_liesN (own_below aH.rows.vot (below_drewN (Below.refl _ X) n)))
  have hd : decide (m.a3 < r.view) = false := decide_eq_false (by have := HD.out.1; omega)
  rw [HC.out.1] at a4
  rw [tru_no HC.out.2.1] at hcon
  go_quiet (first | (go_at_call 84; refine Calls.quiet_of_same (hcon _)))
  go_wp2_with fail
  obtain ⟨ao9, cap9, q9, own9, J9⟩ := tm_votes ((hTX.drewN nq).drew) m.a1 (addI r.votes m.a1)
  have hjo := joined_any B r.votes r.n m.a1 HC.out.2.2.1 HC.out.2.1 (by omega) (.slice ao9 r.votes.length cap9) (X.drewN nq).drew (hTX.drewN nq).drew.base own9
  have hK9 := hKX.trans ((keep_drewN nq hTX.base).trans (Keep.refl _ _).drew)
  have q9' : X.cell? ⟨g, 8, none⟩ = some (.slice ao9 r.votes.length cap9) := (cell_drewN X nq _).symm.trans q9
  have HJ := hid J9
  clear J9 own9 q9 a8 aH hcon
  go_cut [53] from 42 to 53 (fun _ wx => TM MB B wx g { r with votes := addI r.votes m.a1 } o ∧ Keep B (X.drewN nq).drew wx)
  case first =>
    go_region_with (go_at_call 85; refine hjo.mono ?_; rintro e w5 ⟨v5, rfl, hJ5⟩; obtain ⟨ao5, cap5, rfl⟩ := own_form hJ5.own; obtain ⟨z9, y9, hT6, hK6⟩ := HJ.out _ _ hJ5)
    all_goals
      go_wp2_with fail
      go_meet
      case rel => exact ⟨hT6, hK6⟩
  case rest =>
    obtain ⟨hT6, hK6⟩ := hcut
    clear hjo HJ
    generalize wc = Y at *
    obtain ⟨s7, xo7, xc7, ⟨_, _, _, _, _, _, _, _, m8, _⟩, _⟩ := hT6.turn.cells
    have hju := justMost_any B g _ _ (addI r.votes m.a1).length (by rw [addI_len]; omega) s7.vo s7.vc Y hT6.turn
    have hjn : decide (((addI r.votes m.a1).length : Int) = mostN { r with votes := addI r.votes m.a1 }.n) = false := decide_eq_false HC.out.2.2.2.2
    rw [hjn] at hju
    go_wp2_with (first
      | (go_at_call 86; refine hju.mono ?_; rintro e wn ⟨rfl, hq⟩; have hq' := hq.symm; clear hq; subst hq'))
    first
      | go_end0
      | refine bodyPost_ret (results_none rfl _ _ _) rfl ?_
    exact ⟨rfl, hT6.turn, hK9.trans hK6⟩
set_option maxRecDepth 100000 in
set_option maxHeartbeats 3000000 in
theorem changeNyes (B g : Nat) (r : Rep) (o : Msgs) (m : Msg) (bo : Option Addr) (c : Nat) (hv : 0 ≤ m.a3 ∧ m.a3 < 1099511627776) (hrv : 0 ≤ r.view ∧ r.view < 1099511627776) (hlt : ¬ m.a3 < r.view) (hgt : ¬ r.view < m.a3) (hh : r.how = 1) (hin : m.a1 ∉ r.votes) (hids : IdsOk r.votes r.n) (hvo : IdsOk r.voters r.n) (hmo : ((addI r.votes m.a1).length : Int) = mostN r.n) (hvl : r.votes.length ≤ 900) (hwl : r.voters.length ≤ 900) (hol : o.length ≤ 30) (w : World) (h : Turn B w g r o) (hs : SrcE B w bo c m.log) :
    Calls Tryz.prog 62 #[.pointer (some ⟨g, 0, none⟩), msV m bo c] w fun e w' => e = .returned (.tuple #[]) ∧ Turn B w' g (tellR { r with votes := addI r.votes m.a1 }).1 (o ++ (tellR { r with votes := addI r.votes m.a1 }).2) ∧ Keep B w w' := by
  have hT := tm_new h #[.int .i64 m.a0, .int .i64 m.a1, .int .i64 m.a2, .int .i64 m.a3, .int .i64 m.a4, .int .i64 m.a5, .int .i64 m.a6, .slice bo m.log.length c]
  have hgw : w.heap.size ≠ g := hT.ne
  have hlow : Below w.heap.size w (w.alloc (.cells #[.int .i64 m.a0, .int .i64 m.a1, .int .i64 m.a2, .int .i64 m.a3, .int .i64 m.a4, .int .i64 m.a5, .int .i64 m.a6, .slice bo m.log.length c] 27)) := (Below.refl _ w).alloc (Nat.le_refl _) _
  have hK := Keep.of_below hlow h.base
  have hs := hs.keep hK
  have hB := h.base
  have HD : Hid (¬ m.a3 < r.view ∧ ¬ r.view < m.a3) := ⟨hlt, hgt⟩
  have HC : Hid (r.how = 1 ∧ m.a1 ∉ r.votes ∧ IdsOk r.votes r.n ∧ IdsOk r.voters r.n ∧ ((addI r.votes m.a1).length : Int) = mostN r.n) := ⟨hh, hin, hids, hvo, hmo⟩
  clear hlt hgt hh hin hids hvo hmo
  go_enter Tryz.func62, Tryz.ntmps62
  go_wp2_with fail
  clear h
  have hmlt : w.heap.size < (w.alloc (.cells #[.int .i64 m.a0, .int .i64 m.a1, .int .i64 m.a2, .int .i64 m.a3, .int .i64 m.a4, .int .i64 m.a5, .int .i64 m.a6, .slice bo m.log.length c] 27)).heap.size := by simp
  have hmb : (w.alloc (.cells #[.int .i64 m.a0, .int .i64 m.a1, .int .i64 m.a2, .int .i64 m.a3, .int .i64 m.a4, .int .i64 m.a5, .int .i64 m.a6, .slice bo m.log.length c] 27)).heap[w.heap.size]? = some (.cells #[.int .i64 m.a0, .int .i64 m.a1, .int .i64 m.a2, .int .i64 m.a3, .int .i64 m.a4, .int .i64 m.a5, .int .i64 m.a6, .slice bo m.log.length c] 27 (0, 0)) := hT.box
  obtain ⟨MB, hMB⟩ : ∃ M : Nat × Obj, M = (w.heap.size, .cells #[.int .i64 m.a0, .int .i64 m.a1, .int .i64 m.a2, .int .i64 m.a3, .int .i64 m.a4, .int .i64 m.a5, .int .i64 m.a6, .slice bo m.log.length c] 27 (0, 0)) := ⟨_, rfl⟩
  have HMX : Hid (∀ (w3 : World) (r' : Rep) (o' : Msgs), TM MB B w3 g r' o' → w3.heap[w.heap.size]? = some (.cells #[.int .i64 m.a0, .int .i64 m.a1, .int .i64 m.a2, .int .i64 m.a3, .int .i64 m.a4, .int .i64 m.a5, .int .i64 m.a6, .slice bo m.log.length c] 27 (0, 0))) := fun w3 r' o' h3 => by
    have := h3.box
    rw [hMB] at this
    exact this
  rw [← hMB] at hT
  clear hMB
  generalize (w.alloc (.cells #[.int .i64 m.a0, .int .i64 m.a1, .int .i64 m.a2, .int .i64 m.a3, .int .i64 m.a4, .int .i64 m.a5, .int .i64 m.a6, .slice bo m.log.length c] 27)) = W at *
  obtain ⟨sk, xok, xck, ⟨k0, k1, k2, k3, k4, k5, k6, k7, k8, k9, k10, k11, k12, k13⟩, kz, _, kH, _⟩ := hT.turn.cells
  obtain ⟨c0, c1, c2, c3, c4, c5, c6, c7⟩ := msg_cells hmb
  have hd : decide (r.view < m.a3) = false := decide_eq_false (by have := HD.out.2; omega)
  go_quiet (fail)
  go_wp2_with fail
  have hTX := hT.drewN nq
  have hKX := hK.trans (keep_drewN nq hT.base)
  clear k0 k1 k2 k3 k4 k5 k6 k7 k8 k9 k10 k11 k12 k13 kz kH c0 c1 c2 c3 c4 c5 c6 c7 hT hs hd
  generalize W.drewN nq = X at *
  have hbX := HMX.out _ _ _ hTX
  obtain ⟨sa, xoa, xca, ⟨a0, a1, a2, a3, a4, a5, a6, a7, a8, a9, a10, a11, a12, a13⟩, az, _, aH, _⟩ := hTX.turn.cells
  obtain ⟨b0, b1, b2, b3, b4, b5, b6, b7⟩ := msg_cells hbX
  have hcon := fun n => contains_any sa.vo sa.vc r.votes (by omega) m.a1 (X.drewN n) (own_liesN (own_below aH.rows.vot (below_drewN (Below.refl _ X) n)))
  have hd : decide (m.a3 < r.view) = false := decide_eq_false (by have := HD.out.1; omega)
  rw [HC.out.1] at a4
  rw [tru_no HC.out.2.1] at hcon
  go_quiet (first | (go_at_call 84; refine Calls.quiet_of_same (hcon _)))
  go_wp2_with fail
  obtain ⟨ao9, cap9, q9, own9, J9⟩ := tm_votes ((hTX.drewN nq).drew) m.a1 (addI r.votes m.a1)
  have hjo := joined_any B r.votes r.n m.a1 HC.out.2.2.1 HC.out.2.1 (by omega) (.slice ao9 r.votes.length cap9) (X.drewN nq).drew (hTX.drewN nq).drew.base own9
  have hK9 := hKX.trans ((keep_drewN nq hTX.base).trans (Keep.refl _ _).drew)
  have q9' : X.cell? ⟨g, 8, none⟩ = some (.slice ao9 r.votes.length cap9) := (cell_drewN X nq _).symm.trans q9
  have HJ := hid J9
  clear J9 own9 q9 a8 aH hcon
  go_cut [53] from 42 to 53 (fun _ wx => TM MB B wx g { r with votes := addI r.votes m.a1 } o ∧ Keep B (X.drewN nq).drew wx)
  case first =>
    go_region_with (go_at_call 85; refine hjo.mono ?_; rintro e w5 ⟨v5, rfl, hJ5⟩; obtain ⟨ao5, cap5, rfl⟩ := own_form hJ5.own; obtain ⟨z9, y9, hT6, hK6⟩ := HJ.out _ _ hJ5)
    all_goals
      go_wp2_with fail
      go_meet
      case rel => exact ⟨hT6, hK6⟩
  case rest =>
    obtain ⟨hT6, hK6⟩ := hcut
    clear hjo HJ
    generalize wc = Y at *
    obtain ⟨s7, xo7, xc7, ⟨_, _, _, _, _, _, _, _, m8, _⟩, _⟩ := hT6.turn.cells
    have hju := justMost_any B g _ _ (addI r.votes m.a1).length (by rw [addI_len]; omega) s7.vo s7.vc Y hT6.turn
    have hjn : decide (((addI r.votes m.a1).length : Int) = mostN { r with votes := addI r.votes m.a1 }.n) = true := decide_eq_true HC.out.2.2.2.2
    rw [hjn] at hju
    have hte := tell_any B g { r with votes := addI r.votes m.a1 } o (by exact hrv) HC.out.1 HC.out.2.2.2.1 hwl (by omega) Y hT6.turn
    go_wp2_with (first
      | (go_at_call 86; refine hju.mono ?_; rintro e wn ⟨rfl, hq⟩; have hq' := hq.symm; clear hq; subst hq')
      | (go_at_call 87; refine hte.mono ?_; rintro e w9 ⟨rfl, hT9, hK9z⟩))
    first
      | go_end0
      | refine bodyPost_ret (results_none rfl _ _ _) rfl ?_
    exact ⟨rfl, hT9, (hK9.trans hK6).trans hK9z⟩
set_option maxRecDepth 100000 in
set_option maxHeartbeats 3000000 in
theorem changeGno (B g : Nat) (r : Rep) (o : Msgs) (m : Msg) (bo : Option Addr) (c : Nat) (hv : 0 ≤ m.a3 ∧ m.a3 < 1099511627776) (hrv : 0 ≤ r.view ∧ r.view < 1099511627776) (hlt : ¬ m.a3 < r.view) (hgt : r.view < m.a3) (hh : (changeR r m.a3).how = 1) (hin : m.a1 ∉ (changeR r m.a3).votes) (hids : IdsOk (changeR r m.a3).votes (changeR r m.a3).n) (hvo : IdsOk (changeR r m.a3).voters (changeR r m.a3).n) (hmo : ¬ (((addI (changeR r m.a3).votes m.a1).length : Int) = mostN (changeR r m.a3).n)) (hvl : r.votes.length ≤ 900) (hwl : r.voters.length ≤ 900) (hol : o.length ≤ 30) (w : World) (h : Turn B w g r o) (hs : SrcE B w bo c m.log) :
    Calls Tryz.prog 62 #[.pointer (some ⟨g, 0, none⟩), msV m bo c] w fun e w' => e = .returned (.tuple #[]) ∧ Turn B w' g { (changeR r m.a3) with votes := addI (changeR r m.a3).votes m.a1 } (o ++ allM (changeR r m.a3) (msg 4 0 0 0 [])) ∧ Keep B w w' := by
  have hT := tm_new h #[.int .i64 m.a0, .int .i64 m.a1, .int .i64 m.a2, .int .i64 m.a3, .int .i64 m.a4, .int .i64 m.a5, .int .i64 m.a6, .slice bo m.log.length c]
  have hgw : w.heap.size ≠ g := hT.ne
  have hlow : Below w.heap.size w (w.alloc (.cells #[.int .i64 m.a0, .int .i64 m.a1, .int .i64 m.a2, .int .i64 m.a3, .int .i64 m.a4, .int .i64 m.a5, .int .i64 m.a6, .slice bo m.log.length c] 27)) := (Below.refl _ w).alloc (Nat.le_refl _) _
  have hK := Keep.of_below hlow h.base
  have hs := hs.keep hK
  have hB := h.base
  have HD : Hid (¬ m.a3 < r.view ∧ r.view < m.a3) := ⟨hlt, hgt⟩
  have HC : Hid ((changeR r m.a3).how = 1 ∧ m.a1 ∉ (changeR r m.a3).votes ∧ IdsOk (changeR r m.a3).votes (changeR r m.a3).n ∧ IdsOk (changeR r m.a3).voters (changeR r m.a3).n ∧ ¬ (((addI (changeR r m.a3).votes m.a1).length : Int) = mostN (changeR r m.a3).n)) := ⟨hh, hin, hids, hvo, hmo⟩
  clear hlt hgt hh hin hids hvo hmo
  go_enter Tryz.func62, Tryz.ntmps62
  go_wp2_with fail
  clear h
  have hmlt : w.heap.size < (w.alloc (.cells #[.int .i64 m.a0, .int .i64 m.a1, .int .i64 m.a2, .int .i64 m.a3, .int .i64 m.a4, .int .i64 m.a5, .int .i64 m.a6, .slice bo m.log.length c] 27)).heap.size := by simp
  have hmb : (w.alloc (.cells #[.int .i64 m.a0, .int .i64 m.a1, .int .i64 m.a2, .int .i64 m.a3, .int .i64 m.a4, .int .i64 m.a5, .int .i64 m.a6, .slice bo m.log.length c] 27)).heap[w.heap.size]? = some (.cells #[.int .i64 m.a0, .int .i64 m.a1, .int .i64 m.a2, .int .i64 m.a3, .int .i64 m.a4, .int .i64 m.a5, .int .i64 m.a6, .slice bo m.log.length c] 27 (0, 0)) := hT.box
  obtain ⟨MB, hMB⟩ : ∃ M : Nat × Obj, M = (w.heap.size, .cells #[.int .i64 m.a0, .int .i64 m.a1, .int .i64 m.a2, .int .i64 m.a3, .int .i64 m.a4, .int .i64 m.a5, .int .i64 m.a6, .slice bo m.log.length c] 27 (0, 0)) := ⟨_, rfl⟩
  have HMX : Hid (∀ (w3 : World) (r' : Rep) (o' : Msgs), TM MB B w3 g r' o' → w3.heap[w.heap.size]? = some (.cells #[.int .i64 m.a0, .int .i64 m.a1, .int .i64 m.a2, .int .i64 m.a3, .int .i64 m.a4, .int .i64 m.a5, .int .i64 m.a6, .slice bo m.log.length c] 27 (0, 0))) := fun w3 r' o' h3 => by
    have := h3.box
    rw [hMB] at this
    exact this
  rw [← hMB] at hT
  clear hMB
  generalize (w.alloc (.cells #[.int .i64 m.a0, .int .i64 m.a1, .int .i64 m.a2, .int .i64 m.a3, .int .i64 m.a4, .int .i64 m.a5, .int .i64 m.a6, .slice bo m.log.length c] 27)) = W at *
  obtain ⟨sk, xok, xck, ⟨k0, k1, k2, k3, k4, k5, k6, k7, k8, k9, k10, k11, k12, k13⟩, kz, _, kH, _⟩ := hT.turn.cells
  obtain ⟨c0, c1, c2, c3, c4, c5, c6, c7⟩ := msg_cells hmb
  have hd : decide (r.view < m.a3) = true := decide_eq_true HD.out.2
  go_quiet (fail)
  have hch := fun n => changeM_any MB B g r o m.a3 (W.drewN n) (hT.drewN n) (by omega)
  go_wp2_with (first
    | (go_at_call 83; refine (hch _).mono ?_; rintro e X ⟨rfl, hTX, hKX0⟩
       have hKX := hK.trans ((keep_drewN _ hT.base).trans hKX0)
       clear hch))
  clear k0 k1 k2 k3 k4 k5 k6 k7 k8 k9 k10 k11 k12 k13 kz kH c0 c1 c2 c3 c4 c5 c6 c7 hT hs hd
  have hbX := HMX.out _ _ _ hTX
  obtain ⟨sa, xoa, xca, ⟨a0, a1, a2, a3, a4, a5, a6, a7, a8, a9, a10, a11, a12, a13⟩, az, _, aH, _⟩ := hTX.turn.cells
  obtain ⟨b0, b1, b2, b3, b4, b5, b6, b7⟩ := msg_cells hbX
  have a2' : X.cell? ⟨g, 2, none⟩ = some (.int .i64 m.a3) := a2
  clear a2
  have hcon := fun n => contains_any sa.vo sa.vc (changeR r m.a3).votes (by show (1 : Nat) ≤ _; omega) m.a1 (X.drewN n) (own_liesN (own_below aH.rows.vot (below_drewN (Below.refl _ X) n)))
  have hd : decide (m.a3 < m.a3) = false := decide_eq_false (by omega)
  rw [HC.out.1] at a4
  rw [tru_no HC.out.2.1] at hcon
  go_quiet (first | (go_at_call 84; refine Calls.quiet_of_same (hcon _)))
  go_wp2_with fail
  obtain ⟨ao9, cap9, q9, own9, J9⟩ := tm_votes ((hTX.drewN nq).drew) m.a1 (addI (changeR r m.a3).votes m.a1)
  have hjo := joined_any B (changeR r m.a3).votes (changeR r m.a3).n m.a1 HC.out.2.2.1 HC.out.2.1 (by show (1 : Nat) ≤ _; omega) (.slice ao9 (changeR r m.a3).votes.length cap9) (X.drewN nq).drew (hTX.drewN nq).drew.base own9
  have hK9 := hKX.trans ((keep_drewN nq hTX.base).trans (Keep.refl _ _).drew)
  have q9' : X.cell? ⟨g, 8, none⟩ = some (.slice ao9 (changeR r m.a3).votes.length cap9) := (cell_drewN X nq _).symm.trans q9
  have HJ := hid J9
  clear J9 own9 q9 a8 aH hcon
  go_cut [53] from 42 to 53 (fun _ wx => TM MB B wx g { (changeR r m.a3) with votes := addI (changeR r m.a3).votes m.a1 } (o ++ allM (changeR r m.a3) (msg 4 0 0 0 [])) ∧ Keep B (X.drewN nq).drew wx)
  case first =>
    go_region_with (go_at_call 85; refine hjo.mono ?_; rintro e w5 ⟨v5, rfl, hJ5⟩; obtain ⟨ao5, cap5, rfl⟩ := own_form hJ5.own; obtain ⟨z9, y9, hT6, hK6⟩ := HJ.out _ _ hJ5)
    all_goals
      go_wp2_with fail
      go_meet
      case rel => exact ⟨hT6, hK6⟩
  case rest =>
    obtain ⟨hT6, hK6⟩ := hcut
    clear hjo HJ
    generalize wc = Y at *
    obtain ⟨s7, xo7, xc7, ⟨_, _, _, _, _, _, _, _, m8, _⟩, _⟩ := hT6.turn.cells
    have hju := justMost_any B g _ _ (addI (changeR r m.a3).votes m.a1).length (by rw [addI_len]; show (1 : Nat) + 1 ≤ _; omega) s7.vo s7.vc Y hT6.turn
    have hjn : decide (((addI (changeR r m.a3).votes m.a1).length : Int) = mostN { (changeR r m.a3) with votes := addI (changeR r m.a3).votes m.a1 }.n) = false := decide_eq_false HC.out.2.2.2.2
    rw [hjn] at hju
    go_wp2_with (first
      | (go_at_call 86; refine hju.mono ?_; rintro e wn ⟨rfl, hq⟩; have hq' := hq.symm; clear hq; subst hq'))
    first
      | go_end0
      | refine bodyPost_ret (results_none rfl _ _ _) rfl ?_
    exact ⟨rfl, hT6.turn, hK9.trans hK6⟩
set_option maxRecDepth 100000 in
set_option maxHeartbeats 3000000 in
theorem changeGyes (B g : Nat) (r : Rep) (o : Msgs) (m : Msg) (bo : Option Addr) (c : Nat) (hv : 0 ≤ m.a3 ∧ m.a3 < 1099511627776) (hrv : 0 ≤ r.view ∧ r.view < 1099511627776) (hlt : ¬ m.a3 < r.view) (hgt : r.view < m.a3) (hh : (changeR r m.a3).how = 1) (hin : m.a1 ∉ (changeR r m.a3).votes) (hids : IdsOk (changeR r m.a3).votes (changeR r m.a3).n) (hvo : IdsOk (changeR r m.a3).voters (changeR r m.a3).n) (hmo : ((addI (changeR r m.a3).votes m.a1).length : Int) = mostN (changeR r m.a3).n) (hvl : r.votes.length ≤ 900) (hwl : r.voters.length ≤ 900) (hol : o.length ≤ 30) (w : World) (h : Turn B w g r o) (hs : SrcE B w bo c m.log) :
    Calls Tryz.prog 62 #[.pointer (some ⟨g, 0, none⟩), msV m bo c] w fun e w' => e = .returned (.tuple #[]) ∧ Turn B w' g (tellR { (changeR r m.a3) with votes := addI (changeR r m.a3).votes m.a1 }).1 ((o ++ allM (changeR r m.a3) (msg 4 0 0 0 [])) ++ (tellR { (changeR r m.a3) with votes := addI (changeR r m.a3).votes m.a1 }).2) ∧ Keep B w w' := by
  have hT := tm_new h #[.int .i64 m.a0, .int .i64 m.a1, .int .i64 m.a2, .int .i64 m.a3, .int .i64 m.a4, .int .i64 m.a5, .int .i64 m.a6, .slice bo m.log.length c]
  have hgw : w.heap.size ≠ g := hT.ne
  have hlow : Below w.heap.size w (w.alloc (.cells #[.int .i64 m.a0, .int .i64 m.a1, .int .i64 m.a2, .int .i64 m.a3, .int .i64 m.a4, .int .i64 m.a5, .int .i64 m.a6, .slice bo m.log.length c] 27)) := (Below.refl _ w).alloc (Nat.le_refl _) _
  have hK := Keep.of_below hlow h.base
  have hs := hs.keep hK
  have hB := h.base
  have HD : Hid (¬ m.a3 < r.view ∧ r.view < m.a3) := ⟨hlt, hgt⟩
  have HC : Hid ((changeR r m.a3).how = 1 ∧ m.a1 ∉ (changeR r m.a3).votes ∧ IdsOk (changeR r m.a3).votes (changeR r m.a3).n ∧ IdsOk (changeR r m.a3).voters (changeR r m.a3).n ∧ ((addI (changeR r m.a3).votes m.a1).length : Int) = mostN (changeR r m.a3).n) := ⟨hh, hin, hids, hvo, hmo⟩
  clear hlt hgt hh hin hids hvo hmo
  go_enter Tryz.func62, Tryz.ntmps62
  go_wp2_with fail
  clear h
  have hmlt : w.heap.size < (w.alloc (.cells #[.int .i64 m.a0, .int .i64 m.a1, .int .i64 m.a2, .int .i64 m.a3, .int .i64 m.a4, .int .i64 m.a5, .int .i64 m.a6, .slice bo m.log.length c] 27)).heap.size := by simp
  have hmb : (w.alloc (.cells #[.int .i64 m.a0, .int .i64 m.a1, .int .i64 m.a2, .int .i64 m.a3, .int .i64 m.a4, .int .i64 m.a5, .int .i64 m.a6, .slice bo m.log.length c] 27)).heap[w.heap.size]? = some (.cells #[.int .i64 m.a0, .int .i64 m.a1, .int .i64 m.a2, .int .i64 m.a3, .int .i64 m.a4, .int .i64 m.a5, .int .i64 m.a6, .slice bo m.log.length c] 27 (0, 0)) := hT.box
  obtain ⟨MB, hMB⟩ : ∃ M : Nat × Obj, M = (w.heap.size, .cells #[.int .i64 m.a0, .int .i64 m.a1, .int .i64 m.a2, .int .i64 m.a3, .int .i64 m.a4, .int .i64 m.a5, .int .i64 m.a6, .slice bo m.log.length c] 27 (0, 0)) := ⟨_, rfl⟩
  have HMX : Hid (∀ (w3 : World) (r' : Rep) (o' : Msgs), TM MB B w3 g r' o' → w3.heap[w.heap.size]? = some (.cells #[.int .i64 m.a0, .int .i64 m.a1, .int .i64 m.a2, .int .i64 m.a3, .int .i64 m.a4, .int .i64 m.a5, .int .i64 m.a6, .slice bo m.log.length c] 27 (0, 0))) := fun w3 r' o' h3 => by
    have := h3.box
    rw [hMB] at this
    exact this
  rw [← hMB] at hT
  clear hMB
  generalize (w.alloc (.cells #[.int .i64 m.a0, .int .i64 m.a1, .int .i64 m.a2, .int .i64 m.a3, .int .i64 m.a4, .int .i64 m.a5, .int .i64 m.a6, .slice bo m.log.length c] 27)) = W at *
  obtain ⟨sk, xok, xck, ⟨k0, k1, k2, k3, k4, k5, k6, k7, k8, k9, k10, k11, k12, k13⟩, kz, _, kH, _⟩ := hT.turn.cells
  obtain ⟨c0, c1, c2, c3, c4, c5, c6, c7⟩ := msg_cells hmb
  have hd : decide (r.view < m.a3) = true := decide_eq_true HD.out.2
  go_quiet (fail)
  have hch := fun n => changeM_any MB B g r o m.a3 (W.drewN n) (hT.drewN n) (by omega)
  go_wp2_with (first
    | (go_at_call 83; refine (hch _).mono ?_; rintro e X ⟨rfl, hTX, hKX0⟩
       have hKX := hK.trans ((keep_drewN _ hT.base).trans hKX0)
       clear hch))
  clear k0 k1 k2 k3 k4 k5 k6 k7 k8 k9 k10 k11 k12 k13 kz kH c0 c1 c2 c3 c4 c5 c6 c7 hT hs hd
  have hbX := HMX.out _ _ _ hTX
  obtain ⟨sa, xoa, xca, ⟨a0, a1, a2, a3, a4, a5, a6, a7, a8, a9, a10, a11, a12, a13⟩, az, _, aH, _⟩ := hTX.turn.cells
  obtain ⟨b0, b1, b2, b3, b4, b5, b6, b7⟩ := msg_cells hbX
  have a2' : X.cell? ⟨g, 2, none⟩ = some (.int .i64 m.a3) := a2
  clear a2
  have hcon := fun n => contains_any sa.vo sa.vc (changeR r m.a3).votes (by show (1 : Nat) ≤ _; omega) m.a1 (X.drewN n) (own_liesN (own_below aH.rows.vot (below_drewN (Below.refl _ X) n)))
  have hd : decide (m.a3 < m.a3) = false := decide_eq_false (by omega)
  rw [HC.out.1] at a4
  rw [tru_no HC.out.2.1] at hcon
  go_quiet (first | (go_at_call 84; refine Calls.quiet_of_same (hcon _)))
  go_wp2_with fail
  obtain ⟨ao9, cap9, q9, own9, J9⟩ := tm_votes ((hTX.drewN nq).drew) m.a1 (addI (changeR r m.a3).votes m.a1)
  have hjo := joined_any B (changeR r m.a3).votes (changeR r m.a3).n m.a1 HC.out.2.2.1 HC.out.2.1 (by show (1 : Nat) ≤ _; omega) (.slice ao9 (changeR r m.a3).votes.length cap9) (X.drewN nq).drew (hTX.drewN nq).drew.base own9
  have hK9 := hKX.trans ((keep_drewN nq hTX.base).trans (Keep.refl _ _).drew)
  have q9' : X.cell? ⟨g, 8, none⟩ = some (.slice ao9 (changeR r m.a3).votes.length cap9) := (cell_drewN X nq _).symm.trans q9
  have HJ := hid J9
  clear J9 own9 q9 a8 aH hcon
  go_cut [53] from 42 to 53 (fun _ wx => TM MB B wx g { (changeR r m.a3) with votes := addI (changeR r m.a3).votes m.a1 } (o ++ allM (changeR r m.a3) (msg 4 0 0 0 [])) ∧ Keep B (X.drewN nq).drew wx)
  case first =>
    go_region_with (go_at_call 85; refine hjo.mono ?_; rintro e w5 ⟨v5, rfl, hJ5⟩; obtain ⟨ao5, cap5, rfl⟩ := own_form hJ5.own; obtain ⟨z9, y9, hT6, hK6⟩ := HJ.out _ _ hJ5)
    all_goals
      go_wp2_with fail
      go_meet
      case rel => exact ⟨hT6, hK6⟩
  case rest =>
    obtain ⟨hT6, hK6⟩ := hcut
    clear hjo HJ
    generalize wc = Y at *
    obtain ⟨s7, xo7, xc7, ⟨_, _, _, _, _, _, _, _, m8, _⟩, _⟩ := hT6.turn.cells
    have hju := justMost_any B g _ _ (addI (changeR r m.a3).votes m.a1).length (by rw [addI_len]; show (1 : Nat) + 1 ≤ _; omega) s7.vo s7.vc Y hT6.turn
    have hjn : decide (((addI (changeR r m.a3).votes m.a1).length : Int) = mostN { (changeR r m.a3) with votes := addI (changeR r m.a3).votes m.a1 }.n) = true := decide_eq_true HC.out.2.2.2.2
    rw [hjn] at hju
    have hte := tell_any B g { (changeR r m.a3) with votes := addI (changeR r m.a3).votes m.a1 } (o ++ allM (changeR r m.a3) (msg 4 0 0 0 [])) (by exact hv) HC.out.1 HC.out.2.2.2.1 (by show (0 : Nat) ≤ _; omega) (by rw [List.length_append]; have := restM_len (changeR r m.a3) (msg 4 0 0 0 []) 0; have h5 := one_bounds hTX.one; have h6 : (changeR r m.a3).n = r.n := rfl; unfold allM; omega) Y hT6.turn
    go_wp2_with (first
      | (go_at_call 86; refine hju.mono ?_; rintro e wn ⟨rfl, hq⟩; have hq' := hq.symm; clear hq; subst hq')
      | (go_at_call 87; refine hte.mono ?_; rintro e w9 ⟨rfl, hT9, hK9z⟩))
    first
      | go_end0
      | refine bodyPost_ret (results_none rfl _ _ _) rfl ?_
    exact ⟨rfl, hT9, (hK9.trans hK6).trans hK9z⟩
end Go.Proofs.YtajbdffepfjegaaGreat
