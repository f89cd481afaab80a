/-
  Contracts of a replica at work: it tells what one lacks.
-/
import Derived.Test.YtajbdffepfjegaaGreatRpKg
import Derived.Deep.RegionHeldLaw
namespace Go.Proofs.YtajbdffepfjegaaGreat
open Go.RowKit Num
open scoped Classical
set_option linter.unusedVariables false
set_option maxRecDepth 100000

theorem cell_drewN (w : World) (n : Nat) (p : Addr) : (w.drewN n).cell? p = w.cell? p := by
  induction n generalizing w with
  | zero => rfl
  | succ n ih => exact (ih w.drew).trans rfl
theorem addr_zero' (a : Addr) : a.add 0 = a := by simp [Addr.add]
theorem add_add (a : Addr) (x y : Nat) : (a.add x).add y = a.add (x + y) := by
  by_cases hy : y = 0
  · subst hy
    exact addr_zero' _
  · rw [add_off a x y (by omega)]
    unfold Addr.add
    rw [if_neg hy]
/-- What lies from a place of a list on. -/
theorem lies_sub {α : Type} {At : World → Addr → α → Prop} {sz : Nat} {w : World} {B : Nat} {a : Addr} {l : List α} (h : LiesG At sz w B (some a) l) (i : Nat) : LiesG At sz w B (some (a.add (i * sz))) (l.drop i) := by
  intro j x hx
  rw [List.getElem?_drop] at hx
  obtain ⟨a', e, hb, hA⟩ := h (i + j) x hx
  cases e
  refine ⟨_, rfl, by rw [Addr.block_add]; exact hb, ?_⟩
  rw [add_add, ← Nat.add_mul]
  exact hA
theorem repF_x (r : Rep) (vl va vv vw vb x x' : Value) (k : Nat) (hk : k < 13) : repF r vl va vv vw vb x k = repF r vl va vv vw vb x' k := by
  match k, hk with
  | 0, _ => rfl
  | 1, _ => rfl
  | 2, _ => rfl
  | 3, _ => rfl
  | 4, _ => rfl
  | 5, _ => rfl
  | 6, _ => rfl
  | 7, _ => rfl
  | 8, _ => rfl
  | 9, _ => rfl
  | 10, _ => rfl
  | 11, _ => rfl
  | 12, _ => rfl
  | k + 13, hk => exact absurd hk (by omega)
set_option maxRecDepth 100000 in
set_option maxHeartbeats 2000000 in
theorem sendY_any (B g : Nat) (r : Rep) (o : Msgs) (m : Msg) (bo : Option Addr) (c : Nat) (to : Int) (w : World) (x : Value) {vl va vv vw vb : Value} (h : Hold 65 14 x B w g r vl va vv vw vb) (ho : OwnO B w x o) (hB : B ≤ w.heap.size) (hm : LiesE w w.heap.size bo m.log) (hml : m.log.length ≤ 1000) (hol : o.length ≤ 100) :
    Calls Tryz.prog 76 #[.pointer (some ⟨g, 0, none⟩), .int .i64 to, msV m bo c] w fun e w' => e = .returned (.tuple #[]) ∧ ∃ x', Hold 65 14 x' B w' g r vl va vv vw vb ∧ OwnO B w' x' (o ++ [toM r m to]) ∧ Keep B w w' ∧ Near w x x' ∧ ∀ k, k < w.heap.size → k ≠ g → x.ownBlock ≠ some k → w'.heap[k]? = w.heap[k]? := by
  obtain ⟨k0, k1, k2, k3, k4, k5, k6, k7, k8, k9, k10, k11, k12⟩ := h.cells (by omega)
  have e0 := fun ob : Obj => alloc_cell ob k0
  have e2 := fun ob : Obj => alloc_cell ob k2
  have hcl := fun (W : World) (hb : Below w.heap.size w W) => cloneE_any bo m.log.length c (enCells m.log) (by omega) W (src_next (liesE_src hm) hb)
  have hw1 := fun ob : Obj => ((Below.refl _ w).alloc (Nat.le_refl _) ob).drew
  have HX : Hid (∀ W, Below w.heap.size w W → Hold 65 14 x B W g r vl va vv vw vb ∧ OwnO B W x o) := fun W hb => ⟨h.below hb, ownO_below ho hb⟩
  clear h ho hm k1 k3 k4 k5 k6 k7 k8 k9 k10 k11 k12
  go_enter Tryz.func76, Tryz.ntmps76
  go_wp2
  go_region
  go_wp2_with (first
    | (go_at_call 52; refine (hcl _ (hw1 _)).mono ?_; rintro e w1 ⟨ao1, cap1, rfl, hown1, hb1⟩
       have bx := below_box hb1 (heap_drew (heap_new w (.cells #[.int .i64 m.a0, .int .i64 r.id, .int .i64 to, .int .i64 r.view, .int .i64 m.a4, .int .i64 m.a5, .int .i64 m.a6, .slice bo m.log.length c] 27)))
       have c7 := box_cell bx 7 _ rfl
       have z7 := box_open bx 7))
  have hw2 : Below w.heap.size w (w1.setCell ⟨w.heap.size, 7, none⟩ (.slice ao1 m.log.length cap1)) := ((hw1 _).trans (hb1.mono (by simp))).setCell (p := ⟨w.heap.size, 7, none⟩) (Nat.le_refl _) _
  have bx2 : (w1.setCell ⟨w.heap.size, 7, none⟩ (.slice ao1 m.log.length cap1)).heap[w.heap.size]? = some (.cells #[.int .i64 m.a0, .int .i64 r.id, .int .i64 to, .int .i64 r.view, .int .i64 m.a4, .int .i64 m.a5, .int .i64 m.a6, .slice ao1 m.log.length cap1] 27 (0, 0)) := (heap_setCell_same w1 w.heap.size 7 _ _ (.slice ao1 m.log.length cap1) bx).trans (by simp)
  have hst7 : Stay (fun _ => False) 27 w1 (w1.setCell ⟨w.heap.size, 7, none⟩ (.slice ao1 m.log.length cap1)) := ⟨by simp [World.setCell], fun k hk _ hn => Below.heap_setCell _ _ _ _ (fun e => by subst e; exact hn _ _ bx)⟩
  have hlog := own_stay hown1 hst7 (by decide) (fun _ h => h)
  have hlog2 := own_mono hlog (show B ≤ _ from Nat.le_trans hB (by simp))
  obtain ⟨h2, ho2⟩ := HX.out _ hw2
  have hsame := hw2.block
  have hszX := hw2.size
  have hK2 := Keep.of_below hw2 hB
  have hB2 := Nat.le_trans hB hw2.size
  clear hlog hown1 hst7 bx c7 z7 hb1 hcl hw1 hw2 HX e0 e2 k0 k2
  generalize w1.setCell ⟨w.heap.size, 7, none⟩ (.slice ao1 m.log.length cap1) = X at *
  have c0 := box_cell bx2 0 _ rfl
  have c1 := box_cell bx2 1 _ rfl
  have c2 := box_cell bx2 2 _ rfl
  have c3 := box_cell bx2 3 _ rfl
  have c4 := box_cell bx2 4 _ rfl
  have c5 := box_cell bx2 5 _ rfl
  have c6 := box_cell bx2 6 _ rfl
  have c7 := box_cell bx2 7 _ rfl
  have c13 : X.cell? ⟨g, 13, none⟩ = some x := h2.box.cell 13 (by omega)
  obtain ⟨v', w4, hr, ho4, hs4, hb4, hn4, hf4⟩ := app_ms ho2 hB2 (by omega) (toM r m to) ao1 cap1 hlog2 30
  obtain ⟨ao4, cap4, rfl⟩ := ho4.shape
  generalize hL : List.length (o ++ [toM r m to]) = L at *
  have h4 := h2.stay hs4 (by decide) (by decide) (by decide)
  have d13 : w4.cell? ⟨g, 13, none⟩ = some x := h4.box.cell 13 (by omega)
  have z13 := h4.box.unfrozen 13
  have h5 := hold_sets h4 (by omega) (by decide) (by decide) [(13, .slice ao4 L cap4)] (r' := r) (x' := .slice ao4 L cap4) h4.rows (fun f f' e e' => by subst e e'; exact ⟨rfl, rfl, rfl, rfl, rfl, rfl, rfl, rfl, rfl, rfl, rfl, rfl, rfl, rfl⟩)
  have ho5 := ownO_stay ho4 (sets_box [(13, .slice ao4 L cap4)] h4.box).2 (by decide) (by decide)
  have hk5 := (hK2.trans (Keep.of_stay hb4 hs4 (by decide))).trans (sets_keep h4.base h4.box (by decide) [(13, .slice ao4 L cap4)])
  have hnear : Near w x (.slice ao4 L cap4) := by
    rcases hn4 with e | ⟨q, e, hq⟩
    · exact .inl e
    · exact .inr ⟨q, e, Nat.le_trans hszX hq⟩
  have hoff : ∀ k, k < w.heap.size → k ≠ g → x.ownBlock ≠ some k → (w4.setCell ⟨g, 13, none⟩ (.slice ao4 L cap4)).heap[k]? = w.heap[k]? := fun k hk hg hn => (Below.heap_setCell _ _ _ _ hg).trans ((hf4 k (Nat.lt_of_lt_of_le hk hszX) hn).trans (hsame k hk))
  have hT := And.intro h5 (And.intro ho5 (And.intro hk5 (And.intro hnear hoff)))
  clear h5 ho5 h4 ho4 h2 ho2 hs4 hb4 hlog2 bx2 hK2 hk5 hnear hoff hn4 hf4 hsame hszX
  have c13z := fun ob : Obj => alloc_cell ob c13
  go_region_law (refine step_app_run rfl (.tmp 28) (.tmp 30) 30 rfl x (.slice (some ⟨X.heap.size, 0, none⟩) 1 1) (by simp [Act.eval]) (by simp [Act.eval]) hr ?_)
  all_goals
    go_end0
    exact ⟨rfl, _, hT⟩
theorem sendN_any (M : Nat × Obj) (B g : Nat) (r : Rep) (o : Msgs) (m : Msg) (bo : Option Addr) (c : Nat) (to : Int) (w : World) (h : TM M B w g r o) (hm : LiesE w w.heap.size bo m.log) (hml : m.log.length ≤ 1000) (hol : o.length ≤ 100) :
    Calls Tryz.prog 76 #[.pointer (some ⟨g, 0, none⟩), .int .i64 to, msV m bo c] w fun e w' => e = .returned (.tuple #[]) ∧ TM M B w' g r (o ++ [toM r m to]) ∧ Keep B w w' ∧ ∀ k v, k < 13 → w.cell? ⟨g, k, none⟩ = some v → w'.cell? ⟨g, k, none⟩ = some v := by
  obtain ⟨⟨vl, va, vv, vw, vb, x, h, ho, hx⟩, hM, hne, hty, hB, h1, hl, hb, ha⟩ := h
  refine (sendY_any B g r o m bo c to w x h ho hB hm hml hol).mono ?_
  rintro e w' ⟨rfl, x', h', ho', hk, hnr, hoff⟩
  have hMlt := (Array.getElem?_eq_some_iff.1 hM).1
  refine ⟨rfl, ⟨⟨vl, va, vv, vw, vb, x', h', ho', fun e => ?_⟩, (hoff _ hMlt hne hx).trans hM, hne, hty, Nat.le_trans hB hk.low.size, h1, hl, hb, ha⟩, hk, fun k v hk13 hv => ?_⟩
  rotate_left
  · have e1 := h.box.cell k (by omega)
    have e2 := h'.box.cell k (by omega)
    rw [e1] at hv
    rw [e2, ← hv, repF_x r vl va vv vw vb x' x k hk13]
  rcases hnr with e2 | ⟨q2, e2, hq2⟩
  · exact hx (e2.symm.trans e)
  · rw [e2] at e
    cases e
    omega
set_option maxRecDepth 100000 in
set_option maxHeartbeats 1000000 in
theorem ask1 (B g : Nat) (r : Rep) (o : Msgs) (m : Msg) (bo : Option Addr) (c : Nat) (hc : ¬ m.a3 = r.view) (hol : o.length ≤ 50) (w : World) (h : Turn B w g r o) (hs : SrcE B w bo c m.log) :
    Calls Tryz.prog 65 #[.pointer (some ⟨g, 0, none⟩), msV m bo c] w fun e w' => e = .returned (.tuple #[]) ∧ Turn B w' g r o ∧ Keep B w w' := by
  have hT := tm_new h #[.int .i64 m.a0, .int .i64 m.a1, .int .i64 m.a2, .int .i64 m.a3, .int .i64 m.a4, .int .i64 m.a5, .int .i64 m.a6, .slice bo m.log.length c]
  have hgw : w.heap.size ≠ g := hT.ne
  have hlow : Below w.heap.size w (w.alloc (.cells #[.int .i64 m.a0, .int .i64 m.a1, .int .i64 m.a2, .int .i64 m.a3, .int .i64 m.a4, .int .i64 m.a5, .int .i64 m.a6, .slice bo m.log.length c] 27)) := (Below.refl _ w).alloc (Nat.le_refl _) _
  have hK := Keep.of_below hlow h.base
  have hs := hs.keep hK
  have hB := h.base
  have HC : Hid (¬ m.a3 = r.view) := hc
  clear hc
  go_enter Tryz.func65, Tryz.ntmps65
  go_wp2_with fail
  clear h
  have hmlt : w.heap.size < (w.alloc (.cells #[.int .i64 m.a0, .int .i64 m.a1, .int .i64 m.a2, .int .i64 m.a3, .int .i64 m.a4, .int .i64 m.a5, .int .i64 m.a6, .slice bo m.log.length c] 27)).heap.size := by simp
  have hmb : (w.alloc (.cells #[.int .i64 m.a0, .int .i64 m.a1, .int .i64 m.a2, .int .i64 m.a3, .int .i64 m.a4, .int .i64 m.a5, .int .i64 m.a6, .slice bo m.log.length c] 27)).heap[w.heap.size]? = some (.cells #[.int .i64 m.a0, .int .i64 m.a1, .int .i64 m.a2, .int .i64 m.a3, .int .i64 m.a4, .int .i64 m.a5, .int .i64 m.a6, .slice bo m.log.length c] 27 (0, 0)) := hT.box
  obtain ⟨MB, hMB⟩ : ∃ M : Nat × Obj, M = (w.heap.size, .cells #[.int .i64 m.a0, .int .i64 m.a1, .int .i64 m.a2, .int .i64 m.a3, .int .i64 m.a4, .int .i64 m.a5, .int .i64 m.a6, .slice bo m.log.length c] 27 (0, 0)) := ⟨_, rfl⟩
  have HMX : Hid (∀ (w3 : World) (r' : Rep) (o' : Msgs), TM MB B w3 g r' o' → w3.heap[w.heap.size]? = some (.cells #[.int .i64 m.a0, .int .i64 m.a1, .int .i64 m.a2, .int .i64 m.a3, .int .i64 m.a4, .int .i64 m.a5, .int .i64 m.a6, .slice bo m.log.length c] 27 (0, 0))) := fun w3 r' o' h3 => by
    have := h3.box
    rw [hMB] at this
    exact this
  rw [← hMB] at hT
  clear hMB
  generalize (w.alloc (.cells #[.int .i64 m.a0, .int .i64 m.a1, .int .i64 m.a2, .int .i64 m.a3, .int .i64 m.a4, .int .i64 m.a5, .int .i64 m.a6, .slice bo m.log.length c] 27)) = W at *
  obtain ⟨sk, xok, xck, ⟨k0, k1, k2, k3, k4, k5, k6, k7, k8, k9, k10, k11, k12, k13⟩, kz, _, kH, _⟩ := hT.turn.cells
  obtain ⟨c0, c1, c2, c3, c4, c5, c6, c7⟩ := msg_cells hmb
  have hq : (m.a3 != r.view) = true := by simp [HC.out]
  have hq0 : (m.a3 == r.view) = false := by simp [HC.out]
  go_quiet (fail)
  clear hq
  go_wp2
  first
    | go_end0
    | refine bodyPost_ret (results_none rfl _ _ _) rfl ?_
  exact ⟨rfl, (hT.drewN _).turn, hK.trans (keep_drewN _ hT.base)⟩
set_option maxRecDepth 100000 in
set_option maxHeartbeats 1000000 in
theorem ask2 (B g : Nat) (r : Rep) (o : Msgs) (m : Msg) (bo : Option Addr) (c : Nat) (hc : m.a3 = r.view ∧ ¬ r.how = 0) (hol : o.length ≤ 50) (w : World) (h : Turn B w g r o) (hs : SrcE B w bo c m.log) :
    Calls Tryz.prog 65 #[.pointer (some ⟨g, 0, none⟩), msV m bo c] w fun e w' => e = .returned (.tuple #[]) ∧ Turn B w' g r o ∧ Keep B w w' := by
  have hT := tm_new h #[.int .i64 m.a0, .int .i64 m.a1, .int .i64 m.a2, .int .i64 m.a3, .int .i64 m.a4, .int .i64 m.a5, .int .i64 m.a6, .slice bo m.log.length c]
  have hgw : w.heap.size ≠ g := hT.ne
  have hlow : Below w.heap.size w (w.alloc (.cells #[.int .i64 m.a0, .int .i64 m.a1, .int .i64 m.a2, .int .i64 m.a3, .int .i64 m.a4, .int .i64 m.a5, .int .i64 m.a6, .slice bo m.log.length c] 27)) := (Below.refl _ w).alloc (Nat.le_refl _) _
  have hK := Keep.of_below hlow h.base
  have hs := hs.keep hK
  have hB := h.base
  have HC : Hid (m.a3 = r.view ∧ ¬ r.how = 0) := hc
  clear hc
  go_enter Tryz.func65, Tryz.ntmps65
  go_wp2_with fail
  clear h
  have hmlt : w.heap.size < (w.alloc (.cells #[.int .i64 m.a0, .int .i64 m.a1, .int .i64 m.a2, .int .i64 m.a3, .int .i64 m.a4, .int .i64 m.a5, .int .i64 m.a6, .slice bo m.log.length c] 27)).heap.size := by simp
  have hmb : (w.alloc (.cells #[.int .i64 m.a0, .int .i64 m.a1, .int .i64 m.a2, .int .i64 m.a3, .int .i64 m.a4, .int .i64 m.a5, .int .i64 m.a6, .slice bo m.log.length c] 27)).heap[w.heap.size]? = some (.cells #[.int .i64 m.a0, .int .i64 m.a1, .int .i64 m.a2, .int .i64 m.a3, .int .i64 m.a4, .int .i64 m.a5, .int .i64 m.a6, .slice bo m.log.length c] 27 (0, 0)) := hT.box
  obtain ⟨MB, hMB⟩ : ∃ M : Nat × Obj, M = (w.heap.size, .cells #[.int .i64 m.a0, .int .i64 m.a1, .int .i64 m.a2, .int .i64 m.a3, .int .i64 m.a4, .int .i64 m.a5, .int .i64 m.a6, .slice bo m.log.length c] 27 (0, 0)) := ⟨_, rfl⟩
  have HMX : Hid (∀ (w3 : World) (r' : Rep) (o' : Msgs), TM MB B w3 g r' o' → w3.heap[w.heap.size]? = some (.cells #[.int .i64 m.a0, .int .i64 m.a1, .int .i64 m.a2, .int .i64 m.a3, .int .i64 m.a4, .int .i64 m.a5, .int .i64 m.a6, .slice bo m.log.length c] 27 (0, 0))) := fun w3 r' o' h3 => by
    have := h3.box
    rw [hMB] at this
    exact this
  rw [← hMB] at hT
  clear hMB
  generalize (w.alloc (.cells #[.int .i64 m.a0, .int .i64 m.a1, .int .i64 m.a2, .int .i64 m.a3, .int .i64 m.a4, .int .i64 m.a5, .int .i64 m.a6, .slice bo m.log.length c] 27)) = W at *
  obtain ⟨sk, xok, xck, ⟨k0, k1, k2, k3, k4, k5, k6, k7, k8, k9, k10, k11, k12, k13⟩, kz, _, kH, _⟩ := hT.turn.cells
  obtain ⟨c0, c1, c2, c3, c4, c5, c6, c7⟩ := msg_cells hmb
  have hq : (m.a3 != r.view) = false := by rw [HC.out.1]; simp
  have hq2 : (r.how != 0) = true := by simp [HC.out.2]
  go_quiet (fail)
  clear hq
  go_wp2
  first
    | go_end0
    | refine bodyPost_ret (results_none rfl _ _ _) rfl ?_
  exact ⟨rfl, (hT.drewN _).turn, hK.trans (keep_drewN _ hT.base)⟩
set_option maxRecDepth 100000 in
set_option maxHeartbeats 1000000 in
theorem ask3 (B g : Nat) (r : Rep) (o : Msgs) (m : Msg) (bo : Option Addr) (c : Nat) (hc : m.a3 = r.view ∧ r.how = 0 ∧ (r.log.length : Int) < m.a4) (hol : o.length ≤ 50) (w : World) (h : Turn B w g r o) (hs : SrcE B w bo c m.log) :
    Calls Tryz.prog 65 #[.pointer (some ⟨g, 0, none⟩), msV m bo c] w fun e w' => e = .returned (.tuple #[]) ∧ Turn B w' g r o ∧ Keep B w w' := by
  have hT := tm_new h #[.int .i64 m.a0, .int .i64 m.a1, .int .i64 m.a2, .int .i64 m.a3, .int .i64 m.a4, .int .i64 m.a5, .int .i64 m.a6, .slice bo m.log.length c]
  have hgw : w.heap.size ≠ g := hT.ne
  have hlow : Below w.heap.size w (w.alloc (.cells #[.int .i64 m.a0, .int .i64 m.a1, .int .i64 m.a2, .int .i64 m.a3, .int .i64 m.a4, .int .i64 m.a5, .int .i64 m.a6, .slice bo m.log.length c] 27)) := (Below.refl _ w).alloc (Nat.le_refl _) _
  have hK := Keep.of_below hlow h.base
  have hs := hs.keep hK
  have hB := h.base
  have HC : Hid (m.a3 = r.view ∧ r.how = 0 ∧ (r.log.length : Int) < m.a4) := hc
  clear hc
  go_enter Tryz.func65, Tryz.ntmps65
  go_wp2_with fail
  clear h
  have hmlt : w.heap.size < (w.alloc (.cells #[.int .i64 m.a0, .int .i64 m.a1, .int .i64 m.a2, .int .i64 m.a3, .int .i64 m.a4, .int .i64 m.a5, .int .i64 m.a6, .slice bo m.log.length c] 27)).heap.size := by simp
  have hmb : (w.alloc (.cells #[.int .i64 m.a0, .int .i64 m.a1, .int .i64 m.a2, .int .i64 m.a3, .int .i64 m.a4, .int .i64 m.a5, .int .i64 m.a6, .slice bo m.log.length c] 27)).heap[w.heap.size]? = some (.cells #[.int .i64 m.a0, .int .i64 m.a1, .int .i64 m.a2, .int .i64 m.a3, .int .i64 m.a4, .int .i64 m.a5, .int .i64 m.a6, .slice bo m.log.length c] 27 (0, 0)) := hT.box
  obtain ⟨MB, hMB⟩ : ∃ M : Nat × Obj, M = (w.heap.size, .cells #[.int .i64 m.a0, .int .i64 m.a1, .int .i64 m.a2, .int .i64 m.a3, .int .i64 m.a4, .int .i64 m.a5, .int .i64 m.a6, .slice bo m.log.length c] 27 (0, 0)) := ⟨_, rfl⟩
  have HMX : Hid (∀ (w3 : World) (r' : Rep) (o' : Msgs), TM MB B w3 g r' o' → w3.heap[w.heap.size]? = some (.cells #[.int .i64 m.a0, .int .i64 m.a1, .int .i64 m.a2, .int .i64 m.a3, .int .i64 m.a4, .int .i64 m.a5, .int .i64 m.a6, .slice bo m.log.length c] 27 (0, 0))) := fun w3 r' o' h3 => by
    have := h3.box
    rw [hMB] at this
    exact this
  rw [← hMB] at hT
  clear hMB
  generalize (w.alloc (.cells #[.int .i64 m.a0, .int .i64 m.a1, .int .i64 m.a2, .int .i64 m.a3, .int .i64 m.a4, .int .i64 m.a5, .int .i64 m.a6, .slice bo m.log.length c] 27)) = W at *
  obtain ⟨sk, xok, xck, ⟨k0, k1, k2, k3, k4, k5, k6, k7, k8, k9, k10, k11, k12, k13⟩, kz, _, kH, _⟩ := hT.turn.cells
  obtain ⟨c0, c1, c2, c3, c4, c5, c6, c7⟩ := msg_cells hmb
  have hq : (m.a3 != r.view) = false := by rw [HC.out.1]; simp
  have hq2 : (r.how != 0) = false := by simp [HC.out.2.1]
  have hq3 : decide ((r.log.length : Int) < m.a4) = true := decide_eq_true HC.out.2.2
  go_quiet (fail)
  clear hq
  go_wp2
  first
    | go_end0
    | refine bodyPost_ret (results_none rfl _ _ _) rfl ?_
  exact ⟨rfl, (hT.drewN _).turn, hK.trans (keep_drewN _ hT.base)⟩
set_option maxRecDepth 100000 in
set_option maxHeartbeats 1000000 in
theorem ask4 (B g : Nat) (r : Rep) (o : Msgs) (m : Msg) (bo : Option Addr) (c : Nat) (hc : m.a3 = r.view ∧ r.how = 0 ∧ ¬ (r.log.length : Int) < m.a4) (h4 : 0 ≤ m.a4) (hol : o.length ≤ 50) (w : World) (h : Turn B w g r o) (hs : SrcE B w bo c m.log) :
    Calls Tryz.prog 65 #[.pointer (some ⟨g, 0, none⟩), msV m bo c] w fun e w' => e = .returned (.tuple #[]) ∧ Turn B w' g r (o ++ oneM r (msg 8 m.a4 r.commit 0 (r.log.drop m.a4.toNat)) m.a1) ∧ Keep B w w' := by
  have hT := tm_new h #[.int .i64 m.a0, .int .i64 m.a1, .int .i64 m.a2, .int .i64 m.a3, .int .i64 m.a4, .int .i64 m.a5, .int .i64 m.a6, .slice bo m.log.length c]
  have hgw : w.heap.size ≠ g := hT.ne
  have hlow : Below w.heap.size w (w.alloc (.cells #[.int .i64 m.a0, .int .i64 m.a1, .int .i64 m.a2, .int .i64 m.a3, .int .i64 m.a4, .int .i64 m.a5, .int .i64 m.a6, .slice bo m.log.length c] 27)) := (Below.refl _ w).alloc (Nat.le_refl _) _
  have hK := Keep.of_below hlow h.base
  have hs := hs.keep hK
  have hB := h.base
  have HC : Hid (m.a3 = r.view ∧ r.how = 0 ∧ ¬ (r.log.length : Int) < m.a4) := hc
  clear hc
  go_enter Tryz.func65, Tryz.ntmps65
  go_wp2_with fail
  clear h
  have hmlt : w.heap.size < (w.alloc (.cells #[.int .i64 m.a0, .int .i64 m.a1, .int .i64 m.a2, .int .i64 m.a3, .int .i64 m.a4, .int .i64 m.a5, .int .i64 m.a6, .slice bo m.log.length c] 27)).heap.size := by simp
  have hmb : (w.alloc (.cells #[.int .i64 m.a0, .int .i64 m.a1, .int .i64 m.a2, .int .i64 m.a3, .int .i64 m.a4, .int .i64 m.a5, .int .i64 m.a6, .slice bo m.log.length c] 27)).heap[w.heap.size]? = some (.cells #[.int .i64 m.a0, .int .i64 m.a1, .int .i64 m.a2, .int .i64 m.a3, .int .i64 m.a4, .int .i64 m.a5, .int .i64 m.a6, .slice bo m.log.length c] 27 (0, 0)) := hT.box
  obtain ⟨MB, hMB⟩ : ∃ M : Nat × Obj, M = (w.heap.size, .cells #[.int .i64 m.a0, .int .i64 m.a1, .int .i64 m.a2, .int .i64 m.a3, .int .i64 m.a4, .int .i64 m.a5, .int .i64 m.a6, .slice bo m.log.length c] 27 (0, 0)) := ⟨_, rfl⟩
  have HMX : Hid (∀ (w3 : World) (r' : Rep) (o' : Msgs), TM MB B w3 g r' o' → w3.heap[w.heap.size]? = some (.cells #[.int .i64 m.a0, .int .i64 m.a1, .int .i64 m.a2, .int .i64 m.a3, .int .i64 m.a4, .int .i64 m.a5, .int .i64 m.a6, .slice bo m.log.length c] 27 (0, 0))) := fun w3 r' o' h3 => by
    have := h3.box
    rw [hMB] at this
    exact this
  rw [← hMB] at hT
  clear hMB
  generalize (w.alloc (.cells #[.int .i64 m.a0, .int .i64 m.a1, .int .i64 m.a2, .int .i64 m.a3, .int .i64 m.a4, .int .i64 m.a5, .int .i64 m.a6, .slice bo m.log.length c] 27)) = W at *
  obtain ⟨sk, xok, xck, ⟨k0, k1, k2, k3, k4, k5, k6, k7, k8, k9, k10, k11, k12, k13⟩, kz, _, kH, _⟩ := hT.turn.cells
  obtain ⟨c0, c1, c2, c3, c4, c5, c6, c7⟩ := msg_cells hmb
  have hq : (m.a3 != r.view) = false := by rw [HC.out.1]; simp
  have hq2 : (r.how != 0) = false := by simp [HC.out.2.1]
  have hq3 : decide ((r.log.length : Int) < m.a4) = false := decide_eq_false (by have := HC.out.2.2; omega)
  have hlk := ownE_lies kH.rows.log
  go_quiet (fail)
  clear hq hq2 hq3
  go_wp2_with fail
  have i1 : m.a4 ≤ (r.log.length : Int) := by have := HC.out.2.2; omega
  have hcd : ∀ n p v, W.cell? p = some v → (W.drewN n).cell? p = some v := fun n p v h => (cell_drewN W n p).trans h
  have hK4 : ∀ n, Keep B w (W.drewN n) := fun n => hK.trans (keep_drewN n hT.base)
  obtain ⟨lg, hlg⟩ : ∃ lg, r.log.drop m.a4.toNat = lg := ⟨_, rfl⟩
  have hll : lg.length = r.log.length - m.a4.toNat := by rw [← hlg, List.length_drop]
  have hl1 : lg.length ≤ 1000 := by have := hT.ll; omega
  have HLG : Hid (r.log.drop m.a4.toNat = lg) := hlg
  rcases kH.rows.log.2 with ⟨hv0, hn0⟩ | ⟨gl, cap, cur, hv0, _, _, hcap, _⟩
  · rw [hv0] at k5
    have e4 : m.a4 = 0 := by omega
    rw [e4] at c4
    have hlg0 : lg = [] := List.eq_nil_of_length_eq_zero (by omega)
    have hsend := fun n => sendN_any MB B g r o (msg 8 0 r.commit 0 []) none 0 m.a1 (W.drewN n) (hT.drewN n) (fun i x hx => by simp at hx) (by simp) (by omega)
    have HE4 : Hid (m.a4 = 0 ∧ lg = []) := ⟨e4, hlg0⟩
    clear hv0 hn0 hlg hll hl1 hlk e4 hlg0 i1 h4 hT hs
    go_region_held_law (fun w' : World => w'.cell? ⟨w.heap.size, 1, none⟩ = some (.int .i64 m.a1) ∧ w'.cell? ⟨w.heap.size, 4, none⟩ = some (.int .i64 0) ∧ w'.cell? ⟨g, 6, none⟩ = some (.int .i64 r.commit) ∧ w'.cell? ⟨g, 5, none⟩ = some (.slice none 0 0)) (first | exact ⟨c1, c4, k6, k5⟩ | exact hS1) (first | (go_at_call 76; refine (hsend _).mono ?_; rintro e w4 ⟨rfl, hT4, hK5, hcs⟩; obtain ⟨_, j1, _, _, j4, _⟩ := msg_cells (HMX.out _ _ _ hT4); rw [HE4.out.1] at j4; have hS1 := And.intro j1 (And.intro j4 (And.intro (hcs 6 _ (by omega) (hcd _ _ _ k6)) (hcs 5 _ (by omega) (hcd _ _ _ k5))))))
    all_goals
      go_wp2
      first
        | go_end0
        | refine bodyPost_ret (results_none rfl _ _ _) rfl ?_
      refine ⟨rfl, ?_, (hK4 _).trans hK5⟩
      rw [HLG.out, HE4.out.1, HE4.out.2]
      exact hT4.turn
  · rw [hv0] at k5
    have i2 : r.log.length ≤ cap := by omega
    have hlies : LiesE W W.heap.size (some ⟨gl, 0, none⟩) r.log := by
      obtain ⟨lo, lc, e, hl⟩ := hlk
      rw [hv0] at e
      cases e
      exact hl
    have hsub := lies_sub hlies m.a4.toNat
    rw [hlg] at hsub
    by_cases hc : cap = m.a4.toNat
    · have hlg0 : lg = [] := List.eq_nil_of_length_eq_zero (by omega)
      have hsend := fun n c' => sendN_any MB B g r o (msg 8 m.a4 r.commit 0 []) (some ⟨gl, 0, none⟩) c' m.a1 (W.drewN n) (hT.drewN n) (fun i x hx => by simp at hx) (by simp) (by omega)
      have hl0 : r.log.length = cap := by omega
      rw [hl0] at k5
      have HE4 : Hid (lg = []) := hlg0
      subst hc
      have i3 : m.a4 ≤ ((m.a4.toNat : Nat) : Int) := by omega
      have i4 : ¬ m.a4 < 0 := by omega
      clear hv0 hlg hll hl1 hlk hlg0 hl0 hT hs hlies hsub i1 i2
      go_region_held_law (fun w' : World => w'.cell? ⟨w.heap.size, 1, none⟩ = some (.int .i64 m.a1) ∧ w'.cell? ⟨w.heap.size, 4, none⟩ = some (.int .i64 m.a4) ∧ w'.cell? ⟨g, 6, none⟩ = some (.int .i64 r.commit) ∧ w'.cell? ⟨g, 5, none⟩ = some (.slice (some ⟨gl, 0, none⟩) m.a4.toNat m.a4.toNat)) (first | exact ⟨c1, c4, k6, k5⟩ | exact hS1) (first | (go_at_call 76; refine (hsend _ _).mono ?_; rintro e w4 ⟨rfl, hT4, hK5, hcs⟩; obtain ⟨_, j1, _, _, j4, _⟩ := msg_cells (HMX.out _ _ _ hT4); have hS1 := And.intro j1 (And.intro j4 (And.intro (hcs 6 _ (by omega) (hcd _ _ _ k6)) (hcs 5 _ (by omega) (hcd _ _ _ k5))))))
      all_goals
        go_wp2
        first
          | go_end0
          | refine bodyPost_ret (results_none rfl _ _ _) rfl ?_
        refine ⟨rfl, ?_, (hK4 _).trans hK5⟩
        rw [HLG.out, HE4.out]
        exact hT4.turn
    · have hadr : (⟨gl, 0, none⟩ : Addr).add (m.a4.toNat * 2) = ⟨gl, m.a4.toNat * 2, none⟩ := by rw [Addr.add_lit, Nat.zero_add]
      rw [hadr] at hsub
      have hsend : ∀ (n L : Nat), lg.length = L → Calls Tryz.prog 76 #[.pointer (some ⟨g, 0, none⟩), .int .i64 m.a1, .agg #[.int .i64 8, .int .i64 0, .int .i64 0, .int .i64 0, .int .i64 m.a4, .int .i64 r.commit, .int .i64 0, .slice (some ⟨gl, m.a4.toNat * 2, none⟩) L (cap - m.a4.toNat)]] (W.drewN n) fun e w' => e = .returned (.tuple #[]) ∧ TM MB B w' g r (o ++ [toM r (msg 8 m.a4 r.commit 0 lg) m.a1]) ∧ Keep B (W.drewN n) w' ∧ ∀ k v, k < 13 → (W.drewN n).cell? ⟨g, k, none⟩ = some v → w'.cell? ⟨g, k, none⟩ = some v := by
        intro n L hL
        subst hL
        exact sendN_any MB B g r o (msg 8 m.a4 r.commit 0 lg) (some ⟨gl, m.a4.toNat * 2, none⟩) (cap - m.a4.toNat) m.a1 (W.drewN n) (hT.drewN n) (liesE_next hsub (below_drewN (Below.refl W.heap.size W) n) (below_drewN (Below.refl W.heap.size W) n).size) hl1 (by omega)
      have HLL : Hid (lg.length = r.log.length - m.a4.toNat) := hll
      have i4 : ¬ m.a4 < 0 := by omega
      clear hv0 hlg hll hl1 hlk hT hs hlies hsub hadr
      go_region_held_law (fun w' : World => w'.cell? ⟨w.heap.size, 1, none⟩ = some (.int .i64 m.a1) ∧ w'.cell? ⟨w.heap.size, 4, none⟩ = some (.int .i64 m.a4) ∧ w'.cell? ⟨g, 6, none⟩ = some (.int .i64 r.commit) ∧ w'.cell? ⟨g, 5, none⟩ = some (.slice (some ⟨gl, 0, none⟩) r.log.length cap)) (first | exact ⟨c1, c4, k6, k5⟩ | exact hS1) (first | (go_at_call 76; refine (hsend _ _ HLL.out).mono ?_; rintro e w4 ⟨rfl, hT4, hK5, hcs⟩; obtain ⟨_, j1, _, _, j4, _⟩ := msg_cells (HMX.out _ _ _ hT4); have hS1 := And.intro j1 (And.intro j4 (And.intro (hcs 6 _ (by omega) (hcd _ _ _ k6)) (hcs 5 _ (by omega) (hcd _ _ _ k5))))))
      all_goals
        go_wp2
        first
          | go_end0
          | refine bodyPost_ret (results_none rfl _ _ _) rfl ?_
        refine ⟨rfl, ?_, (hK4 _).trans hK5⟩
        rw [HLG.out]
        exact hT4.turn
theorem ask_any (B g : Nat) (r : Rep) (o : Msgs) (m : Msg) (bo : Option Addr) (c : Nat) (h4 : 0 ≤ m.a4) (hol : o.length ≤ 50) (w : World) (h : Turn B w g r o) (hs : SrcE B w bo c m.log) :
    Calls Tryz.prog 65 #[.pointer (some ⟨g, 0, none⟩), msV m bo c] w fun e w' => e = .returned (.tuple #[]) ∧ Turn B w' g (askH r m).1 (o ++ (askH r m).2) ∧ Keep B w w' := by
  unfold askH
  by_cases h1 : m.a3 = r.view
  · by_cases h2 : r.how = 0
    · by_cases h3 : m.a4 ≤ (r.log.length : Int)
      · rw [if_pos ⟨h1, h2, h3⟩]
        exact ask4 B g r o m bo c ⟨h1, h2, by omega⟩ h4 hol w h hs
      · rw [if_neg (fun h => h3 h.2.2), List.append_nil]
        exact ask3 B g r o m bo c ⟨h1, h2, by omega⟩ hol w h hs
    · rw [if_neg (fun h => h2 h.2.1), List.append_nil]
      exact ask2 B g r o m bo c ⟨h1, h2⟩ hol w h hs
  · rw [if_neg (fun h => h1 h.1), List.append_nil]
    exact ask1 B g r o m bo c h1 hol w h hs
end Go.Proofs.YtajbdffepfjegaaGreat
