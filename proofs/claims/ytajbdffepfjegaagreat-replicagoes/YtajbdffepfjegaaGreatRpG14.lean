/-
  Joined:
  Contracts of a replica at work: does it follow the one that has sent a message? What it makes of a commit and of a new entry.
  Contracts of a replica at work: what it makes of a commit, a new entry, a view.
-/
import Derived.Test.YtajbdffepfjegaaGreatRpG13
namespace Go.Proofs.YtajbdffepfjegaaGreat
open Go.RowKit Num
open scoped Classical
set_option linter.unusedVariables false
set_option maxRecDepth 100000

theorem msg_cells {w : World} {k : Nat} {m : Msg} {bo : Option Addr} {c : Nat} (h : w.heap[k]? = some (.cells #[.int .i64 m.a0, .int .i64 m.a1, .int .i64 m.a2, .int .i64 m.a3, .int .i64 m.a4, .int .i64 m.a5, .int .i64 m.a6, .slice bo m.log.length c] 27 (0, 0))) : w.cell? ⟨k, 0, none⟩ = some (.int .i64 m.a0) ∧ w.cell? ⟨k, 1, none⟩ = some (.int .i64 m.a1) ∧ w.cell? ⟨k, 2, none⟩ = some (.int .i64 m.a2) ∧ w.cell? ⟨k, 3, none⟩ = some (.int .i64 m.a3) ∧ w.cell? ⟨k, 4, none⟩ = some (.int .i64 m.a4) ∧ w.cell? ⟨k, 5, none⟩ = some (.int .i64 m.a5) ∧ w.cell? ⟨k, 6, none⟩ = some (.int .i64 m.a6) ∧ w.cell? ⟨k, 7, none⟩ = some (.slice bo m.log.length c) :=
  ⟨box_cell h 0 _ rfl, box_cell h 1 _ rfl, box_cell h 2 _ rfl, box_cell h 3 _ rfl, box_cell h 4 _ rfl, box_cell h 5 _ rfl, box_cell h 6 _ rfl, box_cell h 7 _ rfl⟩
theorem box_drewN {w : World} {k : Nat} {o : Obj} (h : w.heap[k]? = some o) (n : Nat) : (w.drewN n).heap[k]? = some o := ((below_drewN (Below.refl _ w) n).block _ (Array.getElem?_eq_some_iff.1 h).1).trans h
theorem Num.TM.boxed {M : Nat × Obj} {B : Nat} {w : World} {g : Nat} {r : Rep} {o : Msgs} (h : TM M B w g r o) {k : Nat} {ob : Obj} {w0 : World} (h0 : TM M B w0 g r o) (e : M.1 = k) (hb : w0.heap[k]? = some ob) : w.heap[k]? = some ob := by
  subst e
  rw [h0.box] at hb
  cases hb
  exact h.box
set_option maxRecDepth 100000 in
set_option maxHeartbeats 1000000 in
theorem followsA1 (B g : Nat) (r : Rep) (o : Msgs) (m : Msg) (bo : Option Addr) (c : Nat) (hv : 0 ≤ m.a3 ∧ m.a3 < 1099511627776) (hlt : m.a3 < r.view) (hol : o.length ≤ 50) (w : World) (h : Turn B w g r o) (hs : SrcE B w bo c m.log) :
    Calls Tryz.prog 77 #[.pointer (some ⟨g, 0, none⟩), msV m bo c] w fun e w' => e = .returned (.bool false) ∧ Below w.heap.size w w' := by
  have hT := tm_new h #[.int .i64 m.a0, .int .i64 m.a1, .int .i64 m.a2, .int .i64 m.a3, .int .i64 m.a4, .int .i64 m.a5, .int .i64 m.a6, .slice bo m.log.length c]
  have hlow : Below w.heap.size w (w.alloc (.cells #[.int .i64 m.a0, .int .i64 m.a1, .int .i64 m.a2, .int .i64 m.a3, .int .i64 m.a4, .int .i64 m.a5, .int .i64 m.a6, .slice bo m.log.length c] 27)) := (Below.refl _ w).alloc (Nat.le_refl _) _
  have hK := Keep.of_below hlow h.base
  have hs := hs.keep hK
  have hB := h.base
  go_enter Tryz.func77, Tryz.ntmps77
  go_wp2_with fail
  clear h
  have hmlt : w.heap.size < (w.alloc (.cells #[.int .i64 m.a0, .int .i64 m.a1, .int .i64 m.a2, .int .i64 m.a3, .int .i64 m.a4, .int .i64 m.a5, .int .i64 m.a6, .slice bo m.log.length c] 27)).heap.size := by simp
  have hmb : (w.alloc (.cells #[.int .i64 m.a0, .int .i64 m.a1, .int .i64 m.a2, .int .i64 m.a3, .int .i64 m.a4, .int .i64 m.a5, .int .i64 m.a6, .slice bo m.log.length c] 27)).heap[w.heap.size]? = some (.cells #[.int .i64 m.a0, .int .i64 m.a1, .int .i64 m.a2, .int .i64 m.a3, .int .i64 m.a4, .int .i64 m.a5, .int .i64 m.a6, .slice bo m.log.length c] 27 (0, 0)) := hT.box
  obtain ⟨MB, hMB⟩ : ∃ M : Nat × Obj, M = (w.heap.size, .cells #[.int .i64 m.a0, .int .i64 m.a1, .int .i64 m.a2, .int .i64 m.a3, .int .i64 m.a4, .int .i64 m.a5, .int .i64 m.a6, .slice bo m.log.length c] 27 (0, 0)) := ⟨_, rfl⟩
  have HMX : Hid (∀ (w3 : World) (r' : Rep) (o' : Msgs), TM MB B w3 g r' o' → w3.heap[w.heap.size]? = some (.cells #[.int .i64 m.a0, .int .i64 m.a1, .int .i64 m.a2, .int .i64 m.a3, .int .i64 m.a4, .int .i64 m.a5, .int .i64 m.a6, .slice bo m.log.length c] 27 (0, 0))) := fun w3 r' o' h3 => by
    have := h3.box
    rw [hMB] at this
    exact this
  rw [← hMB] at hT
  clear hMB
  generalize (w.alloc (.cells #[.int .i64 m.a0, .int .i64 m.a1, .int .i64 m.a2, .int .i64 m.a3, .int .i64 m.a4, .int .i64 m.a5, .int .i64 m.a6, .slice bo m.log.length c] 27)) = W at *
  obtain ⟨sk, xok, xck, ⟨k0, k1, k2, k3, k4, k5, k6, k7, k8, k9, k10, k11, k12, k13⟩, kz, _, kH, _⟩ := hT.turn.cells
  obtain ⟨c0, c1, c2, c3, c4, c5, c6, c7⟩ := msg_cells hmb
  have hp := fun n => primaryT_any B g r o m.a3 (W.drewN n) (hT.turn.drewN n) hv
  have hd : decide (m.a3 < r.view) = true := decide_eq_true hlt
  go_quiet (first | (go_at_call 75; refine Calls.quiet_of_same (hp _)))
  go_wp2
  go_ret
  exact ⟨rfl, below_drewN hlow _⟩
set_option maxRecDepth 100000 in
set_option maxHeartbeats 1000000 in
theorem followsA2 (B g : Nat) (r : Rep) (o : Msgs) (m : Msg) (bo : Option Addr) (c : Nat) (hv : 0 ≤ m.a3 ∧ m.a3 < 1099511627776) (hlt : ¬ m.a3 < r.view) (hne : ¬ m.a3 % r.n = m.a1) (hol : o.length ≤ 50) (w : World) (h : Turn B w g r o) (hs : SrcE B w bo c m.log) :
    Calls Tryz.prog 77 #[.pointer (some ⟨g, 0, none⟩), msV m bo c] w fun e w' => e = .returned (.bool false) ∧ Below w.heap.size w w' := by
  have hT := tm_new h #[.int .i64 m.a0, .int .i64 m.a1, .int .i64 m.a2, .int .i64 m.a3, .int .i64 m.a4, .int .i64 m.a5, .int .i64 m.a6, .slice bo m.log.length c]
  have hlow : Below w.heap.size w (w.alloc (.cells #[.int .i64 m.a0, .int .i64 m.a1, .int .i64 m.a2, .int .i64 m.a3, .int .i64 m.a4, .int .i64 m.a5, .int .i64 m.a6, .slice bo m.log.length c] 27)) := (Below.refl _ w).alloc (Nat.le_refl _) _
  have hK := Keep.of_below hlow h.base
  have hs := hs.keep hK
  have hB := h.base
  go_enter Tryz.func77, Tryz.ntmps77
  go_wp2_with fail
  clear h
  have hmlt : w.heap.size < (w.alloc (.cells #[.int .i64 m.a0, .int .i64 m.a1, .int .i64 m.a2, .int .i64 m.a3, .int .i64 m.a4, .int .i64 m.a5, .int .i64 m.a6, .slice bo m.log.length c] 27)).heap.size := by simp
  have hmb : (w.alloc (.cells #[.int .i64 m.a0, .int .i64 m.a1, .int .i64 m.a2, .int .i64 m.a3, .int .i64 m.a4, .int .i64 m.a5, .int .i64 m.a6, .slice bo m.log.length c] 27)).heap[w.heap.size]? = some (.cells #[.int .i64 m.a0, .int .i64 m.a1, .int .i64 m.a2, .int .i64 m.a3, .int .i64 m.a4, .int .i64 m.a5, .int .i64 m.a6, .slice bo m.log.length c] 27 (0, 0)) := hT.box
  obtain ⟨MB, hMB⟩ : ∃ M : Nat × Obj, M = (w.heap.size, .cells #[.int .i64 m.a0, .int .i64 m.a1, .int .i64 m.a2, .int .i64 m.a3, .int .i64 m.a4, .int .i64 m.a5, .int .i64 m.a6, .slice bo m.log.length c] 27 (0, 0)) := ⟨_, rfl⟩
  have HMX : Hid (∀ (w3 : World) (r' : Rep) (o' : Msgs), TM MB B w3 g r' o' → w3.heap[w.heap.size]? = some (.cells #[.int .i64 m.a0, .int .i64 m.a1, .int .i64 m.a2, .int .i64 m.a3, .int .i64 m.a4, .int .i64 m.a5, .int .i64 m.a6, .slice bo m.log.length c] 27 (0, 0))) := fun w3 r' o' h3 => by
    have := h3.box
    rw [hMB] at this
    exact this
  rw [← hMB] at hT
  clear hMB
  generalize (w.alloc (.cells #[.int .i64 m.a0, .int .i64 m.a1, .int .i64 m.a2, .int .i64 m.a3, .int .i64 m.a4, .int .i64 m.a5, .int .i64 m.a6, .slice bo m.log.length c] 27)) = W at *
  obtain ⟨sk, xok, xck, ⟨k0, k1, k2, k3, k4, k5, k6, k7, k8, k9, k10, k11, k12, k13⟩, kz, _, kH, _⟩ := hT.turn.cells
  obtain ⟨c0, c1, c2, c3, c4, c5, c6, c7⟩ := msg_cells hmb
  have hp := fun n => primaryT_any B g r o m.a3 (W.drewN n) (hT.turn.drewN n) hv
  have hd : decide (m.a3 < r.view) = false := decide_eq_false (by omega)
  have hn2 : ¬ m.a1 = m.a3 % r.n := fun e => hne e.symm
  have hn3 : (m.a1 != m.a3 % r.n) = true := by simp [hn2]
  have hn4 : decide (m.a1 = m.a3 % r.n) = false := decide_eq_false hn2
  clear hne
  go_quiet (first | (go_at_call 75; refine Calls.quiet_of_same (hp _)))
  go_wp2
  go_ret
  exact ⟨rfl, below_drewN hlow _⟩
set_option maxRecDepth 100000 in
set_option maxHeartbeats 1000000 in
theorem followsB (B g : Nat) (r : Rep) (o : Msgs) (m : Msg) (bo : Option Addr) (c : Nat) (hv : 0 ≤ m.a3 ∧ m.a3 < 1099511627776) (heq : m.a3 % r.n = m.a1) (he : m.a3 = r.view) (hh : r.how = 0) (hol : o.length ≤ 50) (w : World) (h : Turn B w g r o) (hs : SrcE B w bo c m.log) :
    Calls Tryz.prog 77 #[.pointer (some ⟨g, 0, none⟩), msV m bo c] w fun e w' => e = .returned (.bool true) ∧ Below w.heap.size w w' := by
  have hT := tm_new h #[.int .i64 m.a0, .int .i64 m.a1, .int .i64 m.a2, .int .i64 m.a3, .int .i64 m.a4, .int .i64 m.a5, .int .i64 m.a6, .slice bo m.log.length c]
  have hlow : Below w.heap.size w (w.alloc (.cells #[.int .i64 m.a0, .int .i64 m.a1, .int .i64 m.a2, .int .i64 m.a3, .int .i64 m.a4, .int .i64 m.a5, .int .i64 m.a6, .slice bo m.log.length c] 27)) := (Below.refl _ w).alloc (Nat.le_refl _) _
  have hK := Keep.of_below hlow h.base
  have hs := hs.keep hK
  have hB := h.base
  have HE : Hid (m.a3 = r.view) := he
  have HH : Hid (r.how = 0) := hh
  have hd : decide (m.a3 < r.view) = false := decide_eq_false (by omega)
  have HM : Hid (m.a3 % r.n = m.a1) := heq
  clear he hh heq
  go_enter Tryz.func77, Tryz.ntmps77
  go_wp2_with fail
  clear h
  have hmlt : w.heap.size < (w.alloc (.cells #[.int .i64 m.a0, .int .i64 m.a1, .int .i64 m.a2, .int .i64 m.a3, .int .i64 m.a4, .int .i64 m.a5, .int .i64 m.a6, .slice bo m.log.length c] 27)).heap.size := by simp
  have hmb : (w.alloc (.cells #[.int .i64 m.a0, .int .i64 m.a1, .int .i64 m.a2, .int .i64 m.a3, .int .i64 m.a4, .int .i64 m.a5, .int .i64 m.a6, .slice bo m.log.length c] 27)).heap[w.heap.size]? = some (.cells #[.int .i64 m.a0, .int .i64 m.a1, .int .i64 m.a2, .int .i64 m.a3, .int .i64 m.a4, .int .i64 m.a5, .int .i64 m.a6, .slice bo m.log.length c] 27 (0, 0)) := hT.box
  obtain ⟨MB, hMB⟩ : ∃ M : Nat × Obj, M = (w.heap.size, .cells #[.int .i64 m.a0, .int .i64 m.a1, .int .i64 m.a2, .int .i64 m.a3, .int .i64 m.a4, .int .i64 m.a5, .int .i64 m.a6, .slice bo m.log.length c] 27 (0, 0)) := ⟨_, rfl⟩
  have HMX : Hid (∀ (w3 : World) (r' : Rep) (o' : Msgs), TM MB B w3 g r' o' → w3.heap[w.heap.size]? = some (.cells #[.int .i64 m.a0, .int .i64 m.a1, .int .i64 m.a2, .int .i64 m.a3, .int .i64 m.a4, .int .i64 m.a5, .int .i64 m.a6, .slice bo m.log.length c] 27 (0, 0))) := fun w3 r' o' h3 => by
    have := h3.box
    rw [hMB] at this
    exact this
  rw [← hMB] at hT
  clear hMB
  generalize (w.alloc (.cells #[.int .i64 m.a0, .int .i64 m.a1, .int .i64 m.a2, .int .i64 m.a3, .int .i64 m.a4, .int .i64 m.a5, .int .i64 m.a6, .slice bo m.log.length c] 27)) = W at *
  obtain ⟨sk, xok, xck, ⟨k0, k1, k2, k3, k4, k5, k6, k7, k8, k9, k10, k11, k12, k13⟩, kz, _, kH, _⟩ := hT.turn.cells
  obtain ⟨c0, c1, c2, c3, c4, c5, c6, c7⟩ := msg_cells hmb
  have hp := fun n => primaryT_any B g r o m.a3 (W.drewN n) (hT.turn.drewN n) hv
  rw [HM.out] at hp
  rw [HH.out] at k4
  go_quiet (first | (go_at_call 75; refine Calls.quiet_of_same (hp _)))
  go_wp2_with fail
  have hq : (m.a3 == r.view) = true := by rw [HE.out]; simp
  go_quiet (fail)
  go_wp2
  go_ret
  exact ⟨rfl, below_drewN (below_drewN hlow _) _⟩
set_option maxRecDepth 100000 in
set_option maxHeartbeats 1000000 in
theorem followsC2 (B g : Nat) (r : Rep) (o : Msgs) (m : Msg) (bo : Option Addr) (c : Nat) (hv : 0 ≤ m.a3 ∧ m.a3 < 1099511627776) (hlt : ¬ m.a3 < r.view) (heq : m.a3 % r.n = m.a1) (he : m.a3 = r.view) (hh : ¬ r.how = 0) (hol : o.length ≤ 50) (w : World) (h : Turn B w g r o) (hs : SrcE B w bo c m.log) :
    Calls Tryz.prog 77 #[.pointer (some ⟨g, 0, none⟩), msV m bo c] w fun e w' => e = .returned (.bool false) ∧ Turn B w' g (behindR r m.a3) (o ++ askM (behindR r m.a3) m.a1 r.commit) ∧ Keep B w w' := by
  have hT := tm_new h #[.int .i64 m.a0, .int .i64 m.a1, .int .i64 m.a2, .int .i64 m.a3, .int .i64 m.a4, .int .i64 m.a5, .int .i64 m.a6, .slice bo m.log.length c]
  have hlow : Below w.heap.size w (w.alloc (.cells #[.int .i64 m.a0, .int .i64 m.a1, .int .i64 m.a2, .int .i64 m.a3, .int .i64 m.a4, .int .i64 m.a5, .int .i64 m.a6, .slice bo m.log.length c] 27)) := (Below.refl _ w).alloc (Nat.le_refl _) _
  have hK := Keep.of_below hlow h.base
  have hs := hs.keep hK
  have hB := h.base
  have HM : Hid (m.a3 % r.n = m.a1) := heq
  have hd : decide (m.a3 < r.view) = false := decide_eq_false hlt
  clear heq hlt
  have HE : Hid (m.a3 = r.view) := he
  clear he
  go_enter Tryz.func77, Tryz.ntmps77
  go_wp2_with fail
  clear h
  have hmlt : w.heap.size < (w.alloc (.cells #[.int .i64 m.a0, .int .i64 m.a1, .int .i64 m.a2, .int .i64 m.a3, .int .i64 m.a4, .int .i64 m.a5, .int .i64 m.a6, .slice bo m.log.length c] 27)).heap.size := by simp
  have hmb : (w.alloc (.cells #[.int .i64 m.a0, .int .i64 m.a1, .int .i64 m.a2, .int .i64 m.a3, .int .i64 m.a4, .int .i64 m.a5, .int .i64 m.a6, .slice bo m.log.length c] 27)).heap[w.heap.size]? = some (.cells #[.int .i64 m.a0, .int .i64 m.a1, .int .i64 m.a2, .int .i64 m.a3, .int .i64 m.a4, .int .i64 m.a5, .int .i64 m.a6, .slice bo m.log.length c] 27 (0, 0)) := hT.box
  obtain ⟨MB, hMB⟩ : ∃ M : Nat × Obj, M = (w.heap.size, .cells #[.int .i64 m.a0, .int .i64 m.a1, .int .i64 m.a2, .int .i64 m.a3, .int .i64 m.a4, .int .i64 m.a5, .int .i64 m.a6, .slice bo m.log.length c] 27 (0, 0)) := ⟨_, rfl⟩
  have HMX : Hid (∀ (w3 : World) (r' : Rep) (o' : Msgs), TM MB B w3 g r' o' → w3.heap[w.heap.size]? = some (.cells #[.int .i64 m.a0, .int .i64 m.a1, .int .i64 m.a2, .int .i64 m.a3, .int .i64 m.a4, .int .i64 m.a5, .int .i64 m.a6, .slice bo m.log.length c] 27 (0, 0))) := fun w3 r' o' h3 => by
    have := h3.box
    rw [hMB] at this
    exact this
  rw [← hMB] at hT
  clear hMB
  generalize (w.alloc (.cells #[.int .i64 m.a0, .int .i64 m.a1, .int .i64 m.a2, .int .i64 m.a3, .int .i64 m.a4, .int .i64 m.a5, .int .i64 m.a6, .slice bo m.log.length c] 27)) = W at *
  obtain ⟨sk, xok, xck, ⟨k0, k1, k2, k3, k4, k5, k6, k7, k8, k9, k10, k11, k12, k13⟩, kz, _, kH, _⟩ := hT.turn.cells
  obtain ⟨c0, c1, c2, c3, c4, c5, c6, c7⟩ := msg_cells hmb
  have hp := fun n => primaryT_any B g r o m.a3 (W.drewN n) (hT.turn.drewN n) hv
  rw [HM.out] at hp
  go_quiet (first | (go_at_call 75; refine Calls.quiet_of_same (hp _)))
  go_wp2_with fail
  have hq : (m.a3 == r.view) = true := by rw [HE.out]; simp
  have hq2 : (r.how == 0) = false := by simp [hh]
  have hq3 : decide (r.how = 0) = false := decide_eq_false hh
  go_quiet (fail)
  have HS : Hid (∀ n, Calls Tryz.prog 93 #[.pointer (some ⟨g, 0, none⟩)] (((W.drewN n).setCell ⟨g, 2, none⟩ (.int .i64 m.a3)).setCell ⟨g, 4, none⟩ (.int .i64 2)) fun e w3 => e = .returned (.tuple #[]) ∧ TM MB B w3 g (behindR r m.a3) o ∧ Keep B W w3) := fun n => by
    obtain ⟨a, b⟩ := tm_sets (hT.drewN n) [(2, .int .i64 m.a3), (4, .int .i64 2)] { r with view := m.a3, how := 2 } (fun _ _ _ _ _ _ f f' e e' => by subst e e'; exact ⟨rfl, rfl, rfl, rfl, rfl, rfl, rfl, rfl, rfl, rfl, rfl, rfl, rfl, rfl⟩) rfl rfl rfl rfl rfl rfl rfl
    refine (clearM_any MB B g _ o _ a).mono ?_
    rintro e w3 ⟨rfl, h3, h4⟩
    exact ⟨rfl, h3, ((keep_drewN n hT.base).trans b).trans h4⟩
  go_wp2_with (first
    | (go_at_call 93; refine (HS.out _).mono ?_; rintro e w3 ⟨rfl, hT3, hK3⟩
       have hb3 := HMX.out _ _ _ hT3
       obtain ⟨e0, e1, _⟩ := msg_cells hb3
       obtain ⟨s3, xo3, xc3, ⟨_, _, _, _, _, _, d6, _⟩, _⟩ := hT3.turn.cells
       have d6' : w3.cell? ⟨g, 6, none⟩ = some (.int .i64 r.commit) := d6
       have hask := askM_any MB B g (behindR r m.a3) o m.a1 r.commit w3.drew hT3.drew (by omega)
       clear d6))
  go_region_with (go_at_call 80; refine hask.mono ?_; rintro e w4 ⟨rfl, hT4, hK4⟩)
  all_goals
    go_wp2
    go_ret
    exact ⟨rfl, hT4.turn, (hK.trans hK3).trans ((Keep.refl _ _).drew.trans hK4)⟩
set_option maxRecDepth 100000 in
set_option maxHeartbeats 1000000 in
theorem followsC1 (B g : Nat) (r : Rep) (o : Msgs) (m : Msg) (bo : Option Addr) (c : Nat) (hv : 0 ≤ m.a3 ∧ m.a3 < 1099511627776) (hlt : ¬ m.a3 < r.view) (heq : m.a3 % r.n = m.a1) (hne : ¬ m.a3 = r.view) (hol : o.length ≤ 50) (w : World) (h : Turn B w g r o) (hs : SrcE B w bo c m.log) :
    Calls Tryz.prog 77 #[.pointer (some ⟨g, 0, none⟩), msV m bo c] w fun e w' => e = .returned (.bool false) ∧ Turn B w' g (behindR r m.a3) (o ++ askM (behindR r m.a3) m.a1 r.commit) ∧ Keep B w w' := by
  have hT := tm_new h #[.int .i64 m.a0, .int .i64 m.a1, .int .i64 m.a2, .int .i64 m.a3, .int .i64 m.a4, .int .i64 m.a5, .int .i64 m.a6, .slice bo m.log.length c]
  have hlow : Below w.heap.size w (w.alloc (.cells #[.int .i64 m.a0, .int .i64 m.a1, .int .i64 m.a2, .int .i64 m.a3, .int .i64 m.a4, .int .i64 m.a5, .int .i64 m.a6, .slice bo m.log.length c] 27)) := (Below.refl _ w).alloc (Nat.le_refl _) _
  have hK := Keep.of_below hlow h.base
  have hs := hs.keep hK
  have hB := h.base
  have HM : Hid (m.a3 % r.n = m.a1) := heq
  have hd : decide (m.a3 < r.view) = false := decide_eq_false hlt
  clear heq hlt
  go_enter Tryz.func77, Tryz.ntmps77
  go_wp2_with fail
  clear h
  have hmlt : w.heap.size < (w.alloc (.cells #[.int .i64 m.a0, .int .i64 m.a1, .int .i64 m.a2, .int .i64 m.a3, .int .i64 m.a4, .int .i64 m.a5, .int .i64 m.a6, .slice bo m.log.length c] 27)).heap.size := by simp
  have hmb : (w.alloc (.cells #[.int .i64 m.a0, .int .i64 m.a1, .int .i64 m.a2, .int .i64 m.a3, .int .i64 m.a4, .int .i64 m.a5, .int .i64 m.a6, .slice bo m.log.length c] 27)).heap[w.heap.size]? = some (.cells #[.int .i64 m.a0, .int .i64 m.a1, .int .i64 m.a2, .int .i64 m.a3, .int .i64 m.a4, .int .i64 m.a5, .int .i64 m.a6, .slice bo m.log.length c] 27 (0, 0)) := hT.box
  obtain ⟨MB, hMB⟩ : ∃ M : Nat × Obj, M = (w.heap.size, .cells #[.int .i64 m.a0, .int .i64 m.a1, .int .i64 m.a2, .int .i64 m.a3, .int .i64 m.a4, .int .i64 m.a5, .int .i64 m.a6, .slice bo m.log.length c] 27 (0, 0)) := ⟨_, rfl⟩
  have HMX : Hid (∀ (w3 : World) (r' : Rep) (o' : Msgs), TM MB B w3 g r' o' → w3.heap[w.heap.size]? = some (.cells #[.int .i64 m.a0, .int .i64 m.a1, .int .i64 m.a2, .int .i64 m.a3, .int .i64 m.a4, .int .i64 m.a5, .int .i64 m.a6, .slice bo m.log.length c] 27 (0, 0))) := fun w3 r' o' h3 => by
    have := h3.box
    rw [hMB] at this
    exact this
  rw [← hMB] at hT
  clear hMB
  generalize (w.alloc (.cells #[.int .i64 m.a0, .int .i64 m.a1, .int .i64 m.a2, .int .i64 m.a3, .int .i64 m.a4, .int .i64 m.a5, .int .i64 m.a6, .slice bo m.log.length c] 27)) = W at *
  obtain ⟨sk, xok, xck, ⟨k0, k1, k2, k3, k4, k5, k6, k7, k8, k9, k10, k11, k12, k13⟩, kz, _, kH, _⟩ := hT.turn.cells
  obtain ⟨c0, c1, c2, c3, c4, c5, c6, c7⟩ := msg_cells hmb
  have hp := fun n => primaryT_any B g r o m.a3 (W.drewN n) (hT.turn.drewN n) hv
  rw [HM.out] at hp
  go_quiet (first | (go_at_call 75; refine Calls.quiet_of_same (hp _)))
  go_wp2_with fail
  have hq : (m.a3 == r.view) = false := by simp [hne]
  go_quiet (fail)
  have HS : Hid (∀ n, Calls Tryz.prog 93 #[.pointer (some ⟨g, 0, none⟩)] (((W.drewN n).setCell ⟨g, 2, none⟩ (.int .i64 m.a3)).setCell ⟨g, 4, none⟩ (.int .i64 2)) fun e w3 => e = .returned (.tuple #[]) ∧ TM MB B w3 g (behindR r m.a3) o ∧ Keep B W w3) := fun n => by
    obtain ⟨a, b⟩ := tm_sets (hT.drewN n) [(2, .int .i64 m.a3), (4, .int .i64 2)] { r with view := m.a3, how := 2 } (fun _ _ _ _ _ _ f f' e e' => by subst e e'; exact ⟨rfl, rfl, rfl, rfl, rfl, rfl, rfl, rfl, rfl, rfl, rfl, rfl, rfl, rfl⟩) rfl rfl rfl rfl rfl rfl rfl
    refine (clearM_any MB B g _ o _ a).mono ?_
    rintro e w3 ⟨rfl, h3, h4⟩
    exact ⟨rfl, h3, ((keep_drewN n hT.base).trans b).trans h4⟩
  go_wp2_with (first
    | (go_at_call 93; refine (HS.out _).mono ?_; rintro e w3 ⟨rfl, hT3, hK3⟩
       have hb3 := HMX.out _ _ _ hT3
       obtain ⟨e0, e1, _⟩ := msg_cells hb3
       obtain ⟨s3, xo3, xc3, ⟨_, _, _, _, _, _, d6, _⟩, _⟩ := hT3.turn.cells
       have d6' : w3.cell? ⟨g, 6, none⟩ = some (.int .i64 r.commit) := d6
       have hask := askM_any MB B g (behindR r m.a3) o m.a1 r.commit w3.drew hT3.drew (by omega)
       clear d6))
  go_region_with (go_at_call 80; refine hask.mono ?_; rintro e w4 ⟨rfl, hT4, hK4⟩)
  all_goals
    go_wp2
    go_ret
    exact ⟨rfl, hT4.turn, (hK.trans hK3).trans ((Keep.refl _ _).drew.trans hK4)⟩
end Go.Proofs.YtajbdffepfjegaaGreat
namespace Go.Proofs.YtajbdffepfjegaaGreat
open Go.RowKit Num
open scoped Classical
set_option linter.unusedVariables false
set_option maxRecDepth 100000

theorem followsA (B g : Nat) (r : Rep) (o : Msgs) (m : Msg) (bo : Option Addr) (c : Nat) (hv : 0 ≤ m.a3 ∧ m.a3 < 1099511627776) (hno : m.a3 < r.view ∨ m.a3 % r.n ≠ m.a1) (hol : o.length ≤ 50) (w : World) (h : Turn B w g r o) (hs : SrcE B w bo c m.log) :
    Calls Tryz.prog 77 #[.pointer (some ⟨g, 0, none⟩), msV m bo c] w fun e w' => e = .returned (.bool false) ∧ Below w.heap.size w w' := by
  by_cases h1 : m.a3 < r.view
  · exact followsA1 B g r o m bo c hv h1 hol w h hs
  · exact followsA2 B g r o m bo c hv h1 (fun e => Or.elim hno h1 (fun h => h e)) hol w h hs
theorem followsC (B g : Nat) (r : Rep) (o : Msgs) (m : Msg) (bo : Option Addr) (c : Nat) (hv : 0 ≤ m.a3 ∧ m.a3 < 1099511627776) (hyes : ¬ (m.a3 < r.view ∨ m.a3 % r.n ≠ m.a1)) (hno : ¬ (m.a3 = r.view ∧ r.how = 0)) (hol : o.length ≤ 50) (w : World) (h : Turn B w g r o) (hs : SrcE B w bo c m.log) :
    Calls Tryz.prog 77 #[.pointer (some ⟨g, 0, none⟩), msV m bo c] w fun e w' => e = .returned (.bool false) ∧ Turn B w' g (behindR r m.a3) (o ++ askM (behindR r m.a3) m.a1 r.commit) ∧ Keep B w w' := by
  have h1 : ¬ m.a3 < r.view := fun h => hyes (.inl h)
  have h2 : m.a3 % r.n = m.a1 := Classical.byContradiction fun h => hyes (.inr h)
  by_cases h3 : m.a3 = r.view
  · exact followsC2 B g r o m bo c hv h1 h2 h3 (fun e => hno ⟨h3, e⟩) hol w h hs
  · exact followsC1 B g r o m bo c hv h1 h2 h3 hol w h hs
theorem followsD (B g : Nat) (r : Rep) (o : Msgs) (m : Msg) (bo : Option Addr) (c : Nat) (hv : 0 ≤ m.a3 ∧ m.a3 < 1099511627776) (hyes : ¬ (m.a3 < r.view ∨ m.a3 % r.n ≠ m.a1)) (hy2 : m.a3 = r.view ∧ r.how = 0) (hol : o.length ≤ 50) (w : World) (h : Turn B w g r o) (hs : SrcE B w bo c m.log) :
    Calls Tryz.prog 77 #[.pointer (some ⟨g, 0, none⟩), msV m bo c] w fun e w' => e = .returned (.bool true) ∧ Below w.heap.size w w' :=
  followsB B g r o m bo c hv (Classical.byContradiction fun h => hyes (.inr h)) hy2.1 hy2.2 hol w h hs
set_option maxRecDepth 100000 in
set_option maxHeartbeats 1000000 in
theorem commitA (B g : Nat) (r : Rep) (o : Msgs) (m : Msg) (bo : Option Addr) (c : Nat) (hv : 0 ≤ m.a3 ∧ m.a3 < 1099511627776) (hno : m.a3 < r.view ∨ m.a3 % r.n ≠ m.a1)  (hol : o.length ≤ 50) (w : World) (h : Turn B w g r o) (hs : SrcE B w bo c m.log) :
    Calls Tryz.prog 61 #[.pointer (some ⟨g, 0, none⟩), msV m bo c] w fun e w' => e = .returned (.tuple #[]) ∧ Turn B w' g r o ∧ Keep B w w' := by
  have hT := tm_new h #[.int .i64 m.a0, .int .i64 m.a1, .int .i64 m.a2, .int .i64 m.a3, .int .i64 m.a4, .int .i64 m.a5, .int .i64 m.a6, .slice bo m.log.length c]
  have hlow : Below w.heap.size w (w.alloc (.cells #[.int .i64 m.a0, .int .i64 m.a1, .int .i64 m.a2, .int .i64 m.a3, .int .i64 m.a4, .int .i64 m.a5, .int .i64 m.a6, .slice bo m.log.length c] 27)) := (Below.refl _ w).alloc (Nat.le_refl _) _
  have hK := Keep.of_below hlow h.base
  have hs := hs.keep hK
  have hB := h.base
  have HNO : Hid (m.a3 < r.view ∨ m.a3 % r.n ≠ m.a1) := hno
  clear hno
  go_enter Tryz.func61, Tryz.ntmps61
  go_wp2_with fail
  clear h
  have hmlt : w.heap.size < (w.alloc (.cells #[.int .i64 m.a0, .int .i64 m.a1, .int .i64 m.a2, .int .i64 m.a3, .int .i64 m.a4, .int .i64 m.a5, .int .i64 m.a6, .slice bo m.log.length c] 27)).heap.size := by simp
  have hmb : (w.alloc (.cells #[.int .i64 m.a0, .int .i64 m.a1, .int .i64 m.a2, .int .i64 m.a3, .int .i64 m.a4, .int .i64 m.a5, .int .i64 m.a6, .slice bo m.log.length c] 27)).heap[w.heap.size]? = some (.cells #[.int .i64 m.a0, .int .i64 m.a1, .int .i64 m.a2, .int .i64 m.a3, .int .i64 m.a4, .int .i64 m.a5, .int .i64 m.a6, .slice bo m.log.length c] 27 (0, 0)) := hT.box
  obtain ⟨MB, hMB⟩ : ∃ M : Nat × Obj, M = (w.heap.size, .cells #[.int .i64 m.a0, .int .i64 m.a1, .int .i64 m.a2, .int .i64 m.a3, .int .i64 m.a4, .int .i64 m.a5, .int .i64 m.a6, .slice bo m.log.length c] 27 (0, 0)) := ⟨_, rfl⟩
  have HMX : Hid (∀ (w3 : World) (r' : Rep) (o' : Msgs), TM MB B w3 g r' o' → w3.heap[w.heap.size]? = some (.cells #[.int .i64 m.a0, .int .i64 m.a1, .int .i64 m.a2, .int .i64 m.a3, .int .i64 m.a4, .int .i64 m.a5, .int .i64 m.a6, .slice bo m.log.length c] 27 (0, 0))) := fun w3 r' o' h3 => by
    have := h3.box
    rw [hMB] at this
    exact this
  rw [← hMB] at hT
  clear hMB
  generalize (w.alloc (.cells #[.int .i64 m.a0, .int .i64 m.a1, .int .i64 m.a2, .int .i64 m.a3, .int .i64 m.a4, .int .i64 m.a5, .int .i64 m.a6, .slice bo m.log.length c] 27)) = W at *
  obtain ⟨sk, xok, xck, ⟨k0, k1, k2, k3, k4, k5, k6, k7, k8, k9, k10, k11, k12, k13⟩, kz, _, kH, _⟩ := hT.turn.cells
  obtain ⟨c0, c1, c2, c3, c4, c5, c6, c7⟩ := msg_cells hmb
  have hf := followsA B g r o m bo c hv HNO.out hol W hT.turn hs
  clear HNO
  go_wp2_with (first
    | (go_at_call 77; refine hf.mono ?_; rintro e w1 ⟨rfl, hb1⟩; have hT1 := hT.below hb1))
  first
    | go_end0
    | refine bodyPost_ret (results_none rfl _ _ _) rfl ?_
  exact ⟨rfl, hT1.turn, hK.trans (Keep.of_below hb1 hT.base)⟩
set_option maxRecDepth 100000 in
set_option maxHeartbeats 1000000 in
theorem commitC (B g : Nat) (r : Rep) (o : Msgs) (m : Msg) (bo : Option Addr) (c : Nat) (hv : 0 ≤ m.a3 ∧ m.a3 < 1099511627776) (hyes : ¬ (m.a3 < r.view ∨ m.a3 % r.n ≠ m.a1)) (hno : ¬ (m.a3 = r.view ∧ r.how = 0))  (hol : o.length ≤ 50) (w : World) (h : Turn B w g r o) (hs : SrcE B w bo c m.log) :
    Calls Tryz.prog 61 #[.pointer (some ⟨g, 0, none⟩), msV m bo c] w fun e w' => e = .returned (.tuple #[]) ∧ Turn B w' g (behindR r m.a3) (o ++ askM (behindR r m.a3) m.a1 r.commit) ∧ Keep B w w' := by
  have hT := tm_new h #[.int .i64 m.a0, .int .i64 m.a1, .int .i64 m.a2, .int .i64 m.a3, .int .i64 m.a4, .int .i64 m.a5, .int .i64 m.a6, .slice bo m.log.length c]
  have hlow : Below w.heap.size w (w.alloc (.cells #[.int .i64 m.a0, .int .i64 m.a1, .int .i64 m.a2, .int .i64 m.a3, .int .i64 m.a4, .int .i64 m.a5, .int .i64 m.a6, .slice bo m.log.length c] 27)) := (Below.refl _ w).alloc (Nat.le_refl _) _
  have hK := Keep.of_below hlow h.base
  have hs := hs.keep hK
  have hB := h.base
  have HNO : Hid (¬ (m.a3 < r.view ∨ m.a3 % r.n ≠ m.a1) ∧ ¬ (m.a3 = r.view ∧ r.how = 0)) := ⟨hyes, hno⟩
  clear hno hyes
  go_enter Tryz.func61, Tryz.ntmps61
  go_wp2_with fail
  clear h
  have hmlt : w.heap.size < (w.alloc (.cells #[.int .i64 m.a0, .int .i64 m.a1, .int .i64 m.a2, .int .i64 m.a3, .int .i64 m.a4, .int .i64 m.a5, .int .i64 m.a6, .slice bo m.log.length c] 27)).heap.size := by simp
  have hmb : (w.alloc (.cells #[.int .i64 m.a0, .int .i64 m.a1, .int .i64 m.a2, .int .i64 m.a3, .int .i64 m.a4, .int .i64 m.a5, .int .i64 m.a6, .slice bo m.log.length c] 27)).heap[w.heap.size]? = some (.cells #[.int .i64 m.a0, .int .i64 m.a1, .int .i64 m.a2, .int .i64 m.a3, .int .i64 m.a4, .int .i64 m.a5, .int .i64 m.a6, .slice bo m.log.length c] 27 (0, 0)) := hT.box
  obtain ⟨MB, hMB⟩ : ∃ M : Nat × Obj, M = (w.heap.size, .cells #[.int .i64 m.a0, .int .i64 m.a1, .int .i64 m.a2, .int .i64 m.a3, .int .i64 m.a4, .int .i64 m.a5, .int .i64 m.a6, .slice bo m.log.length c] 27 (0, 0)) := ⟨_, rfl⟩
  have HMX : Hid (∀ (w3 : World) (r' : Rep) (o' : Msgs), TM MB B w3 g r' o' → w3.heap[w.heap.size]? = some (.cells #[.int .i64 m.a0, .int .i64 m.a1, .int .i64 m.a2, .int .i64 m.a3, .int .i64 m.a4, .int .i64 m.a5, .int .i64 m.a6, .slice bo m.log.length c] 27 (0, 0))) := fun w3 r' o' h3 => by
    have := h3.box
    rw [hMB] at this
    exact this
  rw [← hMB] at hT
  clear hMB
  generalize (w.alloc (.cells #[.int .i64 m.a0, .int .i64 m.a1, .int .i64 m.a2, .int .i64 m.a3, .int .i64 m.a4, .int .i64 m.a5, .int .i64 m.a6, .slice bo m.log.length c] 27)) = W at *
  obtain ⟨sk, xok, xck, ⟨k0, k1, k2, k3, k4, k5, k6, k7, k8, k9, k10, k11, k12, k13⟩, kz, _, kH, _⟩ := hT.turn.cells
  obtain ⟨c0, c1, c2, c3, c4, c5, c6, c7⟩ := msg_cells hmb
  have hf := followsC B g r o m bo c hv HNO.out.1 HNO.out.2 hol W hT.turn hs
  clear HNO
  go_wp2_with (first
    | (go_at_call 77; refine hf.mono ?_; rintro e w1 ⟨rfl, hT1, hK1⟩))
  first
    | go_end0
    | refine bodyPost_ret (results_none rfl _ _ _) rfl ?_
  exact ⟨rfl, hT1, hK.trans hK1⟩
set_option maxRecDepth 100000 in
set_option maxHeartbeats 1000000 in
theorem commitD1 (B g : Nat) (r : Rep) (o : Msgs) (m : Msg) (bo : Option Addr) (c : Nat) (hv : 0 ≤ m.a3 ∧ m.a3 < 1099511627776) (hyes : ¬ (m.a3 < r.view ∨ m.a3 % r.n ≠ m.a1)) (hy2 : m.a3 = r.view ∧ r.how = 0) (hgt : (r.log.length : Int) < m.a5) (hol : o.length ≤ 50) (w : World) (h : Turn B w g r o) (hs : SrcE B w bo c m.log) :
    Calls Tryz.prog 61 #[.pointer (some ⟨g, 0, none⟩), msV m bo c] w fun e w' => e = .returned (.tuple #[]) ∧ Turn B w' g (raiseR r m.a5) (o ++ askM (raiseR r m.a5) m.a1 (r.log.length : Int)) ∧ Keep B w w' := by
  have hT := tm_new h #[.int .i64 m.a0, .int .i64 m.a1, .int .i64 m.a2, .int .i64 m.a3, .int .i64 m.a4, .int .i64 m.a5, .int .i64 m.a6, .slice bo m.log.length c]
  have hlow : Below w.heap.size w (w.alloc (.cells #[.int .i64 m.a0, .int .i64 m.a1, .int .i64 m.a2, .int .i64 m.a3, .int .i64 m.a4, .int .i64 m.a5, .int .i64 m.a6, .slice bo m.log.length c] 27)) := (Below.refl _ w).alloc (Nat.le_refl _) _
  have hK := Keep.of_below hlow h.base
  have hs := hs.keep hK
  have hB := h.base
  have HY : Hid (¬ (m.a3 < r.view ∨ m.a3 % r.n ≠ m.a1) ∧ (m.a3 = r.view ∧ r.how = 0)) := ⟨hyes, hy2⟩
  clear hyes hy2
  go_enter Tryz.func61, Tryz.ntmps61
  go_wp2_with fail
  clear h
  have hmlt : w.heap.size < (w.alloc (.cells #[.int .i64 m.a0, .int .i64 m.a1, .int .i64 m.a2, .int .i64 m.a3, .int .i64 m.a4, .int .i64 m.a5, .int .i64 m.a6, .slice bo m.log.length c] 27)).heap.size := by simp
  have hmb : (w.alloc (.cells #[.int .i64 m.a0, .int .i64 m.a1, .int .i64 m.a2, .int .i64 m.a3, .int .i64 m.a4, .int .i64 m.a5, .int .i64 m.a6, .slice bo m.log.length c] 27)).heap[w.heap.size]? = some (.cells #[.int .i64 m.a0, .int .i64 m.a1, .int .i64 m.a2, .int .i64 m.a3, .int .i64 m.a4, .int .i64 m.a5, .int .i64 m.a6, .slice bo m.log.length c] 27 (0, 0)) := hT.box
  obtain ⟨MB, hMB⟩ : ∃ M : Nat × Obj, M = (w.heap.size, .cells #[.int .i64 m.a0, .int .i64 m.a1, .int .i64 m.a2, .int .i64 m.a3, .int .i64 m.a4, .int .i64 m.a5, .int .i64 m.a6, .slice bo m.log.length c] 27 (0, 0)) := ⟨_, rfl⟩
  have HMX : Hid (∀ (w3 : World) (r' : Rep) (o' : Msgs), TM MB B w3 g r' o' → w3.heap[w.heap.size]? = some (.cells #[.int .i64 m.a0, .int .i64 m.a1, .int .i64 m.a2, .int .i64 m.a3, .int .i64 m.a4, .int .i64 m.a5, .int .i64 m.a6, .slice bo m.log.length c] 27 (0, 0))) := fun w3 r' o' h3 => by
    have := h3.box
    rw [hMB] at this
    exact this
  rw [← hMB] at hT
  clear hMB
  generalize (w.alloc (.cells #[.int .i64 m.a0, .int .i64 m.a1, .int .i64 m.a2, .int .i64 m.a3, .int .i64 m.a4, .int .i64 m.a5, .int .i64 m.a6, .slice bo m.log.length c] 27)) = W at *
  obtain ⟨sk, xok, xck, ⟨k0, k1, k2, k3, k4, k5, k6, k7, k8, k9, k10, k11, k12, k13⟩, kz, _, kH, _⟩ := hT.turn.cells
  obtain ⟨c0, c1, c2, c3, c4, c5, c6, c7⟩ := msg_cells hmb
  have hf := followsD B g r o m bo c hv HY.out.1 HY.out.2 hol W hT.turn hs
  clear HY
  have hlen := hT.ll
  go_wp2_with (first
    | (go_at_call 77; refine hf.mono ?_; rintro e w1 ⟨rfl, hb1⟩
       have hT1 := hT.below hb1
       have hbp := HMX.out _ _ _ hT1
       obtain ⟨cp0, cp1, cp2, cp3, cp4, cp5, cp6, cp7⟩ := msg_cells hbp
       obtain ⟨sp, xop, xcp, ⟨kp0, kp1, kp2, kp3, kp4, kp5, kp6, kp7, kp8, kp9, kp10, kp11, kp12, kp13⟩, zp, _, Hp, _⟩ := hT1.turn.cells
       have hr := raiseM_any MB B g r o m.a5 w1 hT1
       clear hf)
    | (go_at_call 79; refine hr.mono ?_; rintro e w2 ⟨rfl, hT2, hK2⟩
       have hbq := HMX.out _ _ _ hT2
       obtain ⟨cq0, cq1, cq2, cq3, cq4, cq5, cq6, cq7⟩ := msg_cells hbq
       obtain ⟨sq, xoq, xcq, ⟨kq0, kq1, kq2, kq3, kq4, kq5, kq6, kq7, kq8, kq9, kq10, kq11, kq12, kq13⟩, zq, _, Hq, _⟩ := hT2.turn.cells
       have kq5' : w2.cell? ⟨g, 5, none⟩ = some (.slice sq.lo r.log.length sq.lc) := kq5
       clear kq5 hr))
  go_quiet (fail)
  go_wp2_with fail
  have hask := fun n => askM_any MB B g (raiseR r m.a5) o m.a1 (r.log.length : Int) ((w2.drewN n).drew) (hT2.drewN n).drew (by omega)
  go_region_with (go_at_call 80; refine (hask _).mono ?_; rintro e w4 ⟨rfl, hT4, hK4⟩)
  all_goals
    go_wp2
    first
      | go_end0
      | refine bodyPost_ret (results_none rfl _ _ _) rfl ?_
    exact ⟨rfl, hT4.turn, (((hK.trans (Keep.of_below hb1 hT.base)).trans hK2).trans (keep_drewN _ hT2.base)).trans ((Keep.refl _ _).drew.trans hK4)⟩
set_option maxRecDepth 100000 in
set_option maxHeartbeats 1000000 in
theorem commitD2 (B g : Nat) (r : Rep) (o : Msgs) (m : Msg) (bo : Option Addr) (c : Nat) (hv : 0 ≤ m.a3 ∧ m.a3 < 1099511627776) (hyes : ¬ (m.a3 < r.view ∨ m.a3 % r.n ≠ m.a1)) (hy2 : m.a3 = r.view ∧ r.how = 0) (hgt : ¬ (r.log.length : Int) < m.a5) (hol : o.length ≤ 50) (w : World) (h : Turn B w g r o) (hs : SrcE B w bo c m.log) :
    Calls Tryz.prog 61 #[.pointer (some ⟨g, 0, none⟩), msV m bo c] w fun e w' => e = .returned (.tuple #[]) ∧ Turn B w' g (raiseR r m.a5) o ∧ Keep B w w' := by
  have hT := tm_new h #[.int .i64 m.a0, .int .i64 m.a1, .int .i64 m.a2, .int .i64 m.a3, .int .i64 m.a4, .int .i64 m.a5, .int .i64 m.a6, .slice bo m.log.length c]
  have hlow : Below w.heap.size w (w.alloc (.cells #[.int .i64 m.a0, .int .i64 m.a1, .int .i64 m.a2, .int .i64 m.a3, .int .i64 m.a4, .int .i64 m.a5, .int .i64 m.a6, .slice bo m.log.length c] 27)) := (Below.refl _ w).alloc (Nat.le_refl _) _
  have hK := Keep.of_below hlow h.base
  have hs := hs.keep hK
  have hB := h.base
  have HY : Hid (¬ (m.a3 < r.view ∨ m.a3 % r.n ≠ m.a1) ∧ (m.a3 = r.view ∧ r.how = 0)) := ⟨hyes, hy2⟩
  clear hyes hy2
  go_enter Tryz.func61, Tryz.ntmps61
  go_wp2_with fail
  clear h
  have hmlt : w.heap.size < (w.alloc (.cells #[.int .i64 m.a0, .int .i64 m.a1, .int .i64 m.a2, .int .i64 m.a3, .int .i64 m.a4, .int .i64 m.a5, .int .i64 m.a6, .slice bo m.log.length c] 27)).heap.size := by simp
  have hmb : (w.alloc (.cells #[.int .i64 m.a0, .int .i64 m.a1, .int .i64 m.a2, .int .i64 m.a3, .int .i64 m.a4, .int .i64 m.a5, .int .i64 m.a6, .slice bo m.log.length c] 27)).heap[w.heap.size]? = some (.cells #[.int .i64 m.a0, .int .i64 m.a1, .int .i64 m.a2, .int .i64 m.a3, .int .i64 m.a4, .int .i64 m.a5, .int .i64 m.a6, .slice bo m.log.length c] 27 (0, 0)) := hT.box
  obtain ⟨MB, hMB⟩ : ∃ M : Nat × Obj, M = (w.heap.size, .cells #[.int .i64 m.a0, .int .i64 m.a1, .int .i64 m.a2, .int .i64 m.a3, .int .i64 m.a4, .int .i64 m.a5, .int .i64 m.a6, .slice bo m.log.length c] 27 (0, 0)) := ⟨_, rfl⟩
  have HMX : Hid (∀ (w3 : World) (r' : Rep) (o' : Msgs), TM MB B w3 g r' o' → w3.heap[w.heap.size]? = some (.cells #[.int .i64 m.a0, .int .i64 m.a1, .int .i64 m.a2, .int .i64 m.a3, .int .i64 m.a4, .int .i64 m.a5, .int .i64 m.a6, .slice bo m.log.length c] 27 (0, 0))) := fun w3 r' o' h3 => by
    have := h3.box
    rw [hMB] at this
    exact this
  rw [← hMB] at hT
  clear hMB
  generalize (w.alloc (.cells #[.int .i64 m.a0, .int .i64 m.a1, .int .i64 m.a2, .int .i64 m.a3, .int .i64 m.a4, .int .i64 m.a5, .int .i64 m.a6, .slice bo m.log.length c] 27)) = W at *
  obtain ⟨sk, xok, xck, ⟨k0, k1, k2, k3, k4, k5, k6, k7, k8, k9, k10, k11, k12, k13⟩, kz, _, kH, _⟩ := hT.turn.cells
  obtain ⟨c0, c1, c2, c3, c4, c5, c6, c7⟩ := msg_cells hmb
  have hf := followsD B g r o m bo c hv HY.out.1 HY.out.2 hol W hT.turn hs
  clear HY
  have hlen := hT.ll
  go_wp2_with (first
    | (go_at_call 77; refine hf.mono ?_; rintro e w1 ⟨rfl, hb1⟩
       have hT1 := hT.below hb1
       have hbp := HMX.out _ _ _ hT1
       obtain ⟨cp0, cp1, cp2, cp3, cp4, cp5, cp6, cp7⟩ := msg_cells hbp
       obtain ⟨sp, xop, xcp, ⟨kp0, kp1, kp2, kp3, kp4, kp5, kp6, kp7, kp8, kp9, kp10, kp11, kp12, kp13⟩, zp, _, Hp, _⟩ := hT1.turn.cells
       have hr := raiseM_any MB B g r o m.a5 w1 hT1
       clear hf)
    | (go_at_call 79; refine hr.mono ?_; rintro e w2 ⟨rfl, hT2, hK2⟩
       have hbq := HMX.out _ _ _ hT2
       obtain ⟨cq0, cq1, cq2, cq3, cq4, cq5, cq6, cq7⟩ := msg_cells hbq
       obtain ⟨sq, xoq, xcq, ⟨kq0, kq1, kq2, kq3, kq4, kq5, kq6, kq7, kq8, kq9, kq10, kq11, kq12, kq13⟩, zq, _, Hq, _⟩ := hT2.turn.cells
       have kq5' : w2.cell? ⟨g, 5, none⟩ = some (.slice sq.lo r.log.length sq.lc) := kq5
       clear kq5 hr))
  go_quiet (fail)
  go_wp2
  first
    | go_end0
    | refine bodyPost_ret (results_none rfl _ _ _) rfl ?_
  exact ⟨rfl, (hT2.drewN _).turn, ((hK.trans (Keep.of_below hb1 hT.base)).trans hK2).trans (keep_drewN _ hT2.base)⟩
theorem commit_any (B g : Nat) (r : Rep) (o : Msgs) (m : Msg) (bo : Option Addr) (c : Nat) (hv : 0 ≤ m.a3 ∧ m.a3 < 1099511627776) (hol : o.length ≤ 50) (w : World) (h : Turn B w g r o) (hs : SrcE B w bo c m.log) :
    Calls Tryz.prog 61 #[.pointer (some ⟨g, 0, none⟩), msV m bo c] w fun e w' => e = .returned (.tuple #[]) ∧ Turn B w' g (commitH r m).1 (o ++ (commitH r m).2) ∧ Keep B w w' := by
  unfold commitH
  by_cases h1 : m.a3 < r.view ∨ m.a3 % r.n ≠ m.a1
  · rw [if_pos h1, List.append_nil]
    exact commitA B g r o m bo c hv h1 hol w h hs
  · rw [if_neg h1]
    by_cases h2 : m.a3 = r.view ∧ r.how = 0
    · rw [if_pos h2]
      by_cases h3 : (r.log.length : Int) < m.a5
      · have e : (if ((raiseR r m.a5).log.length : Int) < m.a5 then askM (raiseR r m.a5) m.a1 ((raiseR r m.a5).log.length : Int) else []) = askM (raiseR r m.a5) m.a1 (r.log.length : Int) := if_pos h3
        show Calls _ _ _ _ fun e w' => e = .returned (.tuple #[]) ∧ Turn B w' g (raiseR r m.a5) (o ++ (if ((raiseR r m.a5).log.length : Int) < m.a5 then askM (raiseR r m.a5) m.a1 ((raiseR r m.a5).log.length : Int) else [])) ∧ Keep B w w'
        rw [e]
        exact commitD1 B g r o m bo c hv h1 h2 h3 hol w h hs
      · have e : (if ((raiseR r m.a5).log.length : Int) < m.a5 then askM (raiseR r m.a5) m.a1 ((raiseR r m.a5).log.length : Int) else []) = [] := if_neg h3
        show Calls _ _ _ _ fun e w' => e = .returned (.tuple #[]) ∧ Turn B w' g (raiseR r m.a5) (o ++ (if ((raiseR r m.a5).log.length : Int) < m.a5 then askM (raiseR r m.a5) m.a1 ((raiseR r m.a5).log.length : Int) else [])) ∧ Keep B w w'
        rw [e, List.append_nil]
        exact commitD2 B g r o m bo c hv h1 h2 h3 hol w h hs
    · rw [if_neg h2]
      exact commitC B g r o m bo c hv h1 h2 hol w h hs
end Go.Proofs.YtajbdffepfjegaaGreat
