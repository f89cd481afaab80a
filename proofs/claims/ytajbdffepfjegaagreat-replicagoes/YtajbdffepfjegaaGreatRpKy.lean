/-
  Contracts of a replica at work: a message is taken by its kind.
-/
import Derived.Test.YtajbdffepfjegaaGreatRpG15
namespace Go.Proofs.YtajbdffepfjegaaGreat
open Go.RowKit Num
open scoped Classical
set_option linter.unusedVariables false
set_option maxRecDepth 100000
theorem kinds_cell {w W : World} {g n : Nat} {t : TypeId} (hn : w.heap.size = n) (h : Below (w.alloc (.cells (kindsV g) t (0, 0))).heap.size (w.alloc (.cells (kindsV g) t (0, 0))) W) (k : Nat) {v : Value} (hv : (kindsV g)[k]? = some v) : W.cell? ⟨n, k, none⟩ = some v := by
  subst hn
  have h1 : (w.alloc (.cells (kindsV g) t (0, 0))).cell? ⟨w.heap.size, k, none⟩ = some v := by
    unfold World.cell?
    rw [heap_new]
    exact hv
  exact (h.cell (cell_lt h1)).trans h1
set_option maxRecDepth 100000 in
set_option maxHeartbeats 1000000 in
theorem take_prepare (B g : Nat) (r r' : Rep) (o' : Msgs) (m : Msg) (bo : Option Addr) (c : Nat) (hk : m.a0 = 1) (hok : MsgOk r m) (w : World) (h : Turn B w g r []) (hs : SrcE B w bo c m.log)
    (hdo : ∀ W, Turn B W g r [] → SrcE B W bo c m.log → Calls Tryz.prog 59 #[.pointer (some ⟨g, 0, none⟩), msV m bo c] W fun e w' => e = .returned (.tuple #[]) ∧ Turn B w' g r' o' ∧ Below B W w') :
    Calls Tryz.prog 24 #[.pointer (some ⟨g, 0, none⟩), msV m bo c] w fun e w' => e = .returned (.tuple #[]) ∧ Turn B w' g r' o' ∧ Below B w w' := by
  have HO : Hid (MsgOk r m) := hok
  have i1 : IntKind.i64.wrap (m.a0 - 1) = 0 := by rw [hk]; rfl
  have hif := fun W => isFrom_any 1 m.a0 8 W
  rw [tru_yes (by omega)] at hif
  have hmust := fun W => must_yes 1 W
  clear hok hk
  have hT := tm_new h #[.int .i64 m.a0, .int .i64 m.a1, .int .i64 m.a2, .int .i64 m.a3, .int .i64 m.a4, .int .i64 m.a5, .int .i64 m.a6, .slice bo m.log.length c]
  have hgw : w.heap.size ≠ g := hT.ne
  have hlow : Below w.heap.size w (w.alloc (.cells #[.int .i64 m.a0, .int .i64 m.a1, .int .i64 m.a2, .int .i64 m.a3, .int .i64 m.a4, .int .i64 m.a5, .int .i64 m.a6, .slice bo m.log.length c] 27)) := (Below.refl _ w).alloc (Nat.le_refl _) _
  have hK := Keep.of_below hlow h.base
  have hs := hs.keep hK
  have hB := h.base
  go_enter Tryz.func24, Tryz.ntmps24
  go_wp2_with fail
  clear h
  have hmlt : w.heap.size < (w.alloc (.cells #[.int .i64 m.a0, .int .i64 m.a1, .int .i64 m.a2, .int .i64 m.a3, .int .i64 m.a4, .int .i64 m.a5, .int .i64 m.a6, .slice bo m.log.length c] 27)).heap.size := by simp
  have hmb : (w.alloc (.cells #[.int .i64 m.a0, .int .i64 m.a1, .int .i64 m.a2, .int .i64 m.a3, .int .i64 m.a4, .int .i64 m.a5, .int .i64 m.a6, .slice bo m.log.length c] 27)).heap[w.heap.size]? = some (.cells #[.int .i64 m.a0, .int .i64 m.a1, .int .i64 m.a2, .int .i64 m.a3, .int .i64 m.a4, .int .i64 m.a5, .int .i64 m.a6, .slice bo m.log.length c] 27 (0, 0)) := hT.box
  obtain ⟨MB, hMB⟩ : ∃ M : Nat × Obj, M = (w.heap.size, .cells #[.int .i64 m.a0, .int .i64 m.a1, .int .i64 m.a2, .int .i64 m.a3, .int .i64 m.a4, .int .i64 m.a5, .int .i64 m.a6, .slice bo m.log.length c] 27 (0, 0)) := ⟨_, rfl⟩
  have HMX : Hid (∀ (w3 : World) (r' : Rep) (o' : Msgs), TM MB B w3 g r' o' → w3.heap[w.heap.size]? = some (.cells #[.int .i64 m.a0, .int .i64 m.a1, .int .i64 m.a2, .int .i64 m.a3, .int .i64 m.a4, .int .i64 m.a5, .int .i64 m.a6, .slice bo m.log.length c] 27 (0, 0))) := fun w3 r' o' h3 => by
    have := h3.box
    rw [hMB] at this
    exact this
  rw [← hMB] at hT
  clear hMB
  generalize (w.alloc (.cells #[.int .i64 m.a0, .int .i64 m.a1, .int .i64 m.a2, .int .i64 m.a3, .int .i64 m.a4, .int .i64 m.a5, .int .i64 m.a6, .slice bo m.log.length c] 27)) = W at *
  obtain ⟨sk, xok, xck, ⟨k0, k1, k2, k3, k4, k5, k6, k7, k8, k9, k10, k11, k12, k13⟩, kz, _, kH, _⟩ := hT.turn.cells
  obtain ⟨c0, c1, c2, c3, c4, c5, c6, c7⟩ := msg_cells hmb
  have hn := hT.base
  go_wp2_with (first
    | (go_at_call 38; refine (kinds_any g W).mono ?_; rintro e wn ⟨rfl, t, rfl⟩
       have hb2 : Below W.heap.size W (W.alloc (.cells (kindsV g) t (0, 0))) := (Below.refl _ W).alloc (Nat.le_refl _) _
       have hT2 := hT.below hb2
       have hbx := HMX.out _ _ _ hT2
       have hc2 := fun V h k v hv => kinds_cell (w := W) (W := V) (g := g) (t := t) rfl h k (v := v) hv
       have hs2 := hs.keep (Keep.of_below hb2 hT.base)
       clear k0 k1 k2 k3 k4 k5 k6 k7 k8 k9 k10 k11 k12 k13 kz kH c0 c1 c2 c3 c4 c5 c6 c7
       obtain ⟨c0, c1, c2, c3, c4, c5, c6, c7⟩ := msg_cells hbx
       generalize W.alloc (.cells (kindsV g) t (0, 0)) = V at *)
    | (go_at_call 39; refine (hif _).mono ?_; rintro e wn ⟨rfl, hq⟩; have hq' := hq.symm; clear hq; subst hq')
    | (go_at_call 36; refine (hmust _).mono ?_; rintro e wn ⟨rfl, hq⟩; have hq' := hq.symm; clear hq; subst hq')
    | (go_at_call 40; refine (mayCome_any B g r [] m bo c V hT2.turn hs2).mono ?_; rintro e w3 ⟨rfl, hb3⟩
       rw [tru_yes HO.out]
       have hT3 := hT2.below hb3
       have hc3 := hc2 _ hb3 0 _ rfl
       have hs3 := hs2.keep (Keep.of_below hb3 hT2.base)
       have hbx3 := HMX.out _ _ _ hT3
       clear c0 c1 c2 c3 c4 c5 c6 c7
       obtain ⟨c0, c1, c2, c3, c4, c5, c6, c7⟩ := msg_cells hbx3))
  have hgo := hdo w3.drew hT3.turn.drew (hs3.keep (Keep.refl B w3).drew)
  have HB : Hid (Below B w w3) := ((hK.trans (Keep.of_below hb2 hT.base)).trans (Keep.of_below hb3 hT2.base)).low
  clear hT hs hT2 hs2 hbx hdo hlow hK hc2 hb2
  go_region_with (go_at_call 59; refine hgo.mono ?_; rintro e w4 ⟨rfl, hT4, hb4⟩)
  all_goals
    go_wp2
    first
      | go_end0
      | refine bodyPost_ret (results_none rfl _ _ _) rfl ?_
    exact ⟨rfl, hT4, HB.out.trans ((Below.refl _ _).drew.trans hb4)⟩
set_option maxRecDepth 100000 in
set_option maxHeartbeats 1000000 in
theorem take_prepared (B g : Nat) (r r' : Rep) (o' : Msgs) (m : Msg) (bo : Option Addr) (c : Nat) (hk : m.a0 = 2) (hok : MsgOk r m) (w : World) (h : Turn B w g r []) (hs : SrcE B w bo c m.log)
    (hdo : ∀ W, Turn B W g r [] → SrcE B W bo c m.log → Calls Tryz.prog 60 #[.pointer (some ⟨g, 0, none⟩), msV m bo c] W fun e w' => e = .returned (.tuple #[]) ∧ Turn B w' g r' o' ∧ Below B W w') :
    Calls Tryz.prog 24 #[.pointer (some ⟨g, 0, none⟩), msV m bo c] w fun e w' => e = .returned (.tuple #[]) ∧ Turn B w' g r' o' ∧ Below B w w' := by
  have HO : Hid (MsgOk r m) := hok
  have i1 : IntKind.i64.wrap (m.a0 - 1) = 1 := by rw [hk]; rfl
  have hif := fun W => isFrom_any 1 m.a0 8 W
  rw [tru_yes (by omega)] at hif
  have hmust := fun W => must_yes 1 W
  clear hok hk
  have hT := tm_new h #[.int .i64 m.a0, .int .i64 m.a1, .int .i64 m.a2, .int .i64 m.a3, .int .i64 m.a4, .int .i64 m.a5, .int .i64 m.a6, .slice bo m.log.length c]
  have hgw : w.heap.size ≠ g := hT.ne
  have hlow : Below w.heap.size w (w.alloc (.cells #[.int .i64 m.a0, .int .i64 m.a1, .int .i64 m.a2, .int .i64 m.a3, .int .i64 m.a4, .int .i64 m.a5, .int .i64 m.a6, .slice bo m.log.length c] 27)) := (Below.refl _ w).alloc (Nat.le_refl _) _
  have hK := Keep.of_below hlow h.base
  have hs := hs.keep hK
  have hB := h.base
  go_enter Tryz.func24, Tryz.ntmps24
  go_wp2_with fail
  clear h
  have hmlt : w.heap.size < (w.alloc (.cells #[.int .i64 m.a0, .int .i64 m.a1, .int .i64 m.a2, .int .i64 m.a3, .int .i64 m.a4, .int .i64 m.a5, .int .i64 m.a6, .slice bo m.log.length c] 27)).heap.size := by simp
  have hmb : (w.alloc (.cells #[.int .i64 m.a0, .int .i64 m.a1, .int .i64 m.a2, .int .i64 m.a3, .int .i64 m.a4, .int .i64 m.a5, .int .i64 m.a6, .slice bo m.log.length c] 27)).heap[w.heap.size]? = some (.cells #[.int .i64 m.a0, .int .i64 m.a1, .int .i64 m.a2, .int .i64 m.a3, .int .i64 m.a4, .int .i64 m.a5, .int .i64 m.a6, .slice bo m.log.length c] 27 (0, 0)) := hT.box
  obtain ⟨MB, hMB⟩ : ∃ M : Nat × Obj, M = (w.heap.size, .cells #[.int .i64 m.a0, .int .i64 m.a1, .int .i64 m.a2, .int .i64 m.a3, .int .i64 m.a4, .int .i64 m.a5, .int .i64 m.a6, .slice bo m.log.length c] 27 (0, 0)) := ⟨_, rfl⟩
  have HMX : Hid (∀ (w3 : World) (r' : Rep) (o' : Msgs), TM MB B w3 g r' o' → w3.heap[w.heap.size]? = some (.cells #[.int .i64 m.a0, .int .i64 m.a1, .int .i64 m.a2, .int .i64 m.a3, .int .i64 m.a4, .int .i64 m.a5, .int .i64 m.a6, .slice bo m.log.length c] 27 (0, 0))) := fun w3 r' o' h3 => by
    have := h3.box
    rw [hMB] at this
    exact this
  rw [← hMB] at hT
  clear hMB
  generalize (w.alloc (.cells #[.int .i64 m.a0, .int .i64 m.a1, .int .i64 m.a2, .int .i64 m.a3, .int .i64 m.a4, .int .i64 m.a5, .int .i64 m.a6, .slice bo m.log.length c] 27)) = W at *
  obtain ⟨sk, xok, xck, ⟨k0, k1, k2, k3, k4, k5, k6, k7, k8, k9, k10, k11, k12, k13⟩, kz, _, kH, _⟩ := hT.turn.cells
  obtain ⟨c0, c1, c2, c3, c4, c5, c6, c7⟩ := msg_cells hmb
  have hn := hT.base
  go_wp2_with (first
    | (go_at_call 38; refine (kinds_any g W).mono ?_; rintro e wn ⟨rfl, t, rfl⟩
       have hb2 : Below W.heap.size W (W.alloc (.cells (kindsV g) t (0, 0))) := (Below.refl _ W).alloc (Nat.le_refl _) _
       have hT2 := hT.below hb2
       have hbx := HMX.out _ _ _ hT2
       have hc2 := fun V h k v hv => kinds_cell (w := W) (W := V) (g := g) (t := t) rfl h k (v := v) hv
       have hs2 := hs.keep (Keep.of_below hb2 hT.base)
       clear k0 k1 k2 k3 k4 k5 k6 k7 k8 k9 k10 k11 k12 k13 kz kH c0 c1 c2 c3 c4 c5 c6 c7
       obtain ⟨c0, c1, c2, c3, c4, c5, c6, c7⟩ := msg_cells hbx
       generalize W.alloc (.cells (kindsV g) t (0, 0)) = V at *)
    | (go_at_call 39; refine (hif _).mono ?_; rintro e wn ⟨rfl, hq⟩; have hq' := hq.symm; clear hq; subst hq')
    | (go_at_call 36; refine (hmust _).mono ?_; rintro e wn ⟨rfl, hq⟩; have hq' := hq.symm; clear hq; subst hq')
    | (go_at_call 40; refine (mayCome_any B g r [] m bo c V hT2.turn hs2).mono ?_; rintro e w3 ⟨rfl, hb3⟩
       rw [tru_yes HO.out]
       have hT3 := hT2.below hb3
       have hc3 := hc2 _ hb3 1 _ rfl
       have hs3 := hs2.keep (Keep.of_below hb3 hT2.base)
       have hbx3 := HMX.out _ _ _ hT3
       clear c0 c1 c2 c3 c4 c5 c6 c7
       obtain ⟨c0, c1, c2, c3, c4, c5, c6, c7⟩ := msg_cells hbx3))
  have hgo := hdo w3.drew hT3.turn.drew (hs3.keep (Keep.refl B w3).drew)
  have HB : Hid (Below B w w3) := ((hK.trans (Keep.of_below hb2 hT.base)).trans (Keep.of_below hb3 hT2.base)).low
  clear hT hs hT2 hs2 hbx hdo hlow hK hc2 hb2
  go_region_with (go_at_call 60; refine hgo.mono ?_; rintro e w4 ⟨rfl, hT4, hb4⟩)
  all_goals
    go_wp2
    first
      | go_end0
      | refine bodyPost_ret (results_none rfl _ _ _) rfl ?_
    exact ⟨rfl, hT4, HB.out.trans ((Below.refl _ _).drew.trans hb4)⟩
set_option maxRecDepth 100000 in
set_option maxHeartbeats 1000000 in
theorem take_commit (B g : Nat) (r r' : Rep) (o' : Msgs) (m : Msg) (bo : Option Addr) (c : Nat) (hk : m.a0 = 3) (hok : MsgOk r m) (w : World) (h : Turn B w g r []) (hs : SrcE B w bo c m.log)
    (hdo : ∀ W, Turn B W g r [] → SrcE B W bo c m.log → Calls Tryz.prog 61 #[.pointer (some ⟨g, 0, none⟩), msV m bo c] W fun e w' => e = .returned (.tuple #[]) ∧ Turn B w' g r' o' ∧ Below B W w') :
    Calls Tryz.prog 24 #[.pointer (some ⟨g, 0, none⟩), msV m bo c] w fun e w' => e = .returned (.tuple #[]) ∧ Turn B w' g r' o' ∧ Below B w w' := by
  have HO : Hid (MsgOk r m) := hok
  have i1 : IntKind.i64.wrap (m.a0 - 1) = 2 := by rw [hk]; rfl
  have hif := fun W => isFrom_any 1 m.a0 8 W
  rw [tru_yes (by omega)] at hif
  have hmust := fun W => must_yes 1 W
  clear hok hk
  have hT := tm_new h #[.int .i64 m.a0, .int .i64 m.a1, .int .i64 m.a2, .int .i64 m.a3, .int .i64 m.a4, .int .i64 m.a5, .int .i64 m.a6, .slice bo m.log.length c]
  have hgw : w.heap.size ≠ g := hT.ne
  have hlow : Below w.heap.size w (w.alloc (.cells #[.int .i64 m.a0, .int .i64 m.a1, .int .i64 m.a2, .int .i64 m.a3, .int .i64 m.a4, .int .i64 m.a5, .int .i64 m.a6, .slice bo m.log.length c] 27)) := (Below.refl _ w).alloc (Nat.le_refl _) _
  have hK := Keep.of_below hlow h.base
  have hs := hs.keep hK
  have hB := h.base
  go_enter Tryz.func24, Tryz.ntmps24
  go_wp2_with fail
  clear h
  have hmlt : w.heap.size < (w.alloc (.cells #[.int .i64 m.a0, .int .i64 m.a1, .int .i64 m.a2, .int .i64 m.a3, .int .i64 m.a4, .int .i64 m.a5, .int .i64 m.a6, .slice bo m.log.length c] 27)).heap.size := by simp
  have hmb : (w.alloc (.cells #[.int .i64 m.a0, .int .i64 m.a1, .int .i64 m.a2, .int .i64 m.a3, .int .i64 m.a4, .int .i64 m.a5, .int .i64 m.a6, .slice bo m.log.length c] 27)).heap[w.heap.size]? = some (.cells #[.int .i64 m.a0, .int .i64 m.a1, .int .i64 m.a2, .int .i64 m.a3, .int .i64 m.a4, .int .i64 m.a5, .int .i64 m.a6, .slice bo m.log.length c] 27 (0, 0)) := hT.box
  obtain ⟨MB, hMB⟩ : ∃ M : Nat × Obj, M = (w.heap.size, .cells #[.int .i64 m.a0, .int .i64 m.a1, .int .i64 m.a2, .int .i64 m.a3, .int .i64 m.a4, .int .i64 m.a5, .int .i64 m.a6, .slice bo m.log.length c] 27 (0, 0)) := ⟨_, rfl⟩
  have HMX : Hid (∀ (w3 : World) (r' : Rep) (o' : Msgs), TM MB B w3 g r' o' → w3.heap[w.heap.size]? = some (.cells #[.int .i64 m.a0, .int .i64 m.a1, .int .i64 m.a2, .int .i64 m.a3, .int .i64 m.a4, .int .i64 m.a5, .int .i64 m.a6, .slice bo m.log.length c] 27 (0, 0))) := fun w3 r' o' h3 => by
    have := h3.box
    rw [hMB] at this
    exact this
  rw [← hMB] at hT
  clear hMB
  generalize (w.alloc (.cells #[.int .i64 m.a0, .int .i64 m.a1, .int .i64 m.a2, .int .i64 m.a3, .int .i64 m.a4, .int .i64 m.a5, .int .i64 m.a6, .slice bo m.log.length c] 27)) = W at *
  obtain ⟨sk, xok, xck, ⟨k0, k1, k2, k3, k4, k5, k6, k7, k8, k9, k10, k11, k12, k13⟩, kz, _, kH, _⟩ := hT.turn.cells
  obtain ⟨c0, c1, c2, c3, c4, c5, c6, c7⟩ := msg_cells hmb
  have hn := hT.base
  go_wp2_with (first
    | (go_at_call 38; refine (kinds_any g W).mono ?_; rintro e wn ⟨rfl, t, rfl⟩
       have hb2 : Below W.heap.size W (W.alloc (.cells (kindsV g) t (0, 0))) := (Below.refl _ W).alloc (Nat.le_refl _) _
       have hT2 := hT.below hb2
       have hbx := HMX.out _ _ _ hT2
       have hc2 := fun V h k v hv => kinds_cell (w := W) (W := V) (g := g) (t := t) rfl h k (v := v) hv
       have hs2 := hs.keep (Keep.of_below hb2 hT.base)
       clear k0 k1 k2 k3 k4 k5 k6 k7 k8 k9 k10 k11 k12 k13 kz kH c0 c1 c2 c3 c4 c5 c6 c7
       obtain ⟨c0, c1, c2, c3, c4, c5, c6, c7⟩ := msg_cells hbx
       generalize W.alloc (.cells (kindsV g) t (0, 0)) = V at *)
    | (go_at_call 39; refine (hif _).mono ?_; rintro e wn ⟨rfl, hq⟩; have hq' := hq.symm; clear hq; subst hq')
    | (go_at_call 36; refine (hmust _).mono ?_; rintro e wn ⟨rfl, hq⟩; have hq' := hq.symm; clear hq; subst hq')
    | (go_at_call 40; refine (mayCome_any B g r [] m bo c V hT2.turn hs2).mono ?_; rintro e w3 ⟨rfl, hb3⟩
       rw [tru_yes HO.out]
       have hT3 := hT2.below hb3
       have hc3 := hc2 _ hb3 2 _ rfl
       have hs3 := hs2.keep (Keep.of_below hb3 hT2.base)
       have hbx3 := HMX.out _ _ _ hT3
       clear c0 c1 c2 c3 c4 c5 c6 c7
       obtain ⟨c0, c1, c2, c3, c4, c5, c6, c7⟩ := msg_cells hbx3))
  have hgo := hdo w3.drew hT3.turn.drew (hs3.keep (Keep.refl B w3).drew)
  have HB : Hid (Below B w w3) := ((hK.trans (Keep.of_below hb2 hT.base)).trans (Keep.of_below hb3 hT2.base)).low
  clear hT hs hT2 hs2 hbx hdo hlow hK hc2 hb2
  go_region_with (go_at_call 61; refine hgo.mono ?_; rintro e w4 ⟨rfl, hT4, hb4⟩)
  all_goals
    go_wp2
    first
      | go_end0
      | refine bodyPost_ret (results_none rfl _ _ _) rfl ?_
    exact ⟨rfl, hT4, HB.out.trans ((Below.refl _ _).drew.trans hb4)⟩
set_option maxRecDepth 100000 in
set_option maxHeartbeats 1000000 in
theorem take_change (B g : Nat) (r r' : Rep) (o' : Msgs) (m : Msg) (bo : Option Addr) (c : Nat) (hk : m.a0 = 4) (hok : MsgOk r m) (w : World) (h : Turn B w g r []) (hs : SrcE B w bo c m.log)
    (hdo : ∀ W, Turn B W g r [] → SrcE B W bo c m.log → Calls Tryz.prog 62 #[.pointer (some ⟨g, 0, none⟩), msV m bo c] W fun e w' => e = .returned (.tuple #[]) ∧ Turn B w' g r' o' ∧ Below B W w') :
    Calls Tryz.prog 24 #[.pointer (some ⟨g, 0, none⟩), msV m bo c] w fun e w' => e = .returned (.tuple #[]) ∧ Turn B w' g r' o' ∧ Below B w w' := by
  have HO : Hid (MsgOk r m) := hok
  have i1 : IntKind.i64.wrap (m.a0 - 1) = 3 := by rw [hk]; rfl
  have hif := fun W => isFrom_any 1 m.a0 8 W
  rw [tru_yes (by omega)] at hif
  have hmust := fun W => must_yes 1 W
  clear hok hk
  have hT := tm_new h #[.int .i64 m.a0, .int .i64 m.a1, .int .i64 m.a2, .int .i64 m.a3, .int .i64 m.a4, .int .i64 m.a5, .int .i64 m.a6, .slice bo m.log.length c]
  have hgw : w.heap.size ≠ g := hT.ne
  have hlow : Below w.heap.size w (w.alloc (.cells #[.int .i64 m.a0, .int .i64 m.a1, .int .i64 m.a2, .int .i64 m.a3, .int .i64 m.a4, .int .i64 m.a5, .int .i64 m.a6, .slice bo m.log.length c] 27)) := (Below.refl _ w).alloc (Nat.le_refl _) _
  have hK := Keep.of_below hlow h.base
  have hs := hs.keep hK
  have hB := h.base
  go_enter Tryz.func24, Tryz.ntmps24
  go_wp2_with fail
  clear h
  have hmlt : w.heap.size < (w.alloc (.cells #[.int .i64 m.a0, .int .i64 m.a1, .int .i64 m.a2, .int .i64 m.a3, .int .i64 m.a4, .int .i64 m.a5, .int .i64 m.a6, .slice bo m.log.length c] 27)).heap.size := by simp
  have hmb : (w.alloc (.cells #[.int .i64 m.a0, .int .i64 m.a1, .int .i64 m.a2, .int .i64 m.a3, .int .i64 m.a4, .int .i64 m.a5, .int .i64 m.a6, .slice bo m.log.length c] 27)).heap[w.heap.size]? = some (.cells #[.int .i64 m.a0, .int .i64 m.a1, .int .i64 m.a2, .int .i64 m.a3, .int .i64 m.a4, .int .i64 m.a5, .int .i64 m.a6, .slice bo m.log.length c] 27 (0, 0)) := hT.box
  obtain ⟨MB, hMB⟩ : ∃ M : Nat × Obj, M = (w.heap.size, .cells #[.int .i64 m.a0, .int .i64 m.a1, .int .i64 m.a2, .int .i64 m.a3, .int .i64 m.a4, .int .i64 m.a5, .int .i64 m.a6, .slice bo m.log.length c] 27 (0, 0)) := ⟨_, rfl⟩
  have HMX : Hid (∀ (w3 : World) (r' : Rep) (o' : Msgs), TM MB B w3 g r' o' → w3.heap[w.heap.size]? = some (.cells #[.int .i64 m.a0, .int .i64 m.a1, .int .i64 m.a2, .int .i64 m.a3, .int .i64 m.a4, .int .i64 m.a5, .int .i64 m.a6, .slice bo m.log.length c] 27 (0, 0))) := fun w3 r' o' h3 => by
    have := h3.box
    rw [hMB] at this
    exact this
  rw [← hMB] at hT
  clear hMB
  generalize (w.alloc (.cells #[.int .i64 m.a0, .int .i64 m.a1, .int .i64 m.a2, .int .i64 m.a3, .int .i64 m.a4, .int .i64 m.a5, .int .i64 m.a6, .slice bo m.log.length c] 27)) = W at *
  obtain ⟨sk, xok, xck, ⟨k0, k1, k2, k3, k4, k5, k6, k7, k8, k9, k10, k11, k12, k13⟩, kz, _, kH, _⟩ := hT.turn.cells
  obtain ⟨c0, c1, c2, c3, c4, c5, c6, c7⟩ := msg_cells hmb
  have hn := hT.base
  go_wp2_with (first
    | (go_at_call 38; refine (kinds_any g W).mono ?_; rintro e wn ⟨rfl, t, rfl⟩
       have hb2 : Below W.heap.size W (W.alloc (.cells (kindsV g) t (0, 0))) := (Below.refl _ W).alloc (Nat.le_refl _) _
       have hT2 := hT.below hb2
       have hbx := HMX.out _ _ _ hT2
       have hc2 := fun V h k v hv => kinds_cell (w := W) (W := V) (g := g) (t := t) rfl h k (v := v) hv
       have hs2 := hs.keep (Keep.of_below hb2 hT.base)
       clear k0 k1 k2 k3 k4 k5 k6 k7 k8 k9 k10 k11 k12 k13 kz kH c0 c1 c2 c3 c4 c5 c6 c7
       obtain ⟨c0, c1, c2, c3, c4, c5, c6, c7⟩ := msg_cells hbx
       generalize W.alloc (.cells (kindsV g) t (0, 0)) = V at *)
    | (go_at_call 39; refine (hif _).mono ?_; rintro e wn ⟨rfl, hq⟩; have hq' := hq.symm; clear hq; subst hq')
    | (go_at_call 36; refine (hmust _).mono ?_; rintro e wn ⟨rfl, hq⟩; have hq' := hq.symm; clear hq; subst hq')
    | (go_at_call 40; refine (mayCome_any B g r [] m bo c V hT2.turn hs2).mono ?_; rintro e w3 ⟨rfl, hb3⟩
       rw [tru_yes HO.out]
       have hT3 := hT2.below hb3
       have hc3 := hc2 _ hb3 3 _ rfl
       have hs3 := hs2.keep (Keep.of_below hb3 hT2.base)
       have hbx3 := HMX.out _ _ _ hT3
       clear c0 c1 c2 c3 c4 c5 c6 c7
       obtain ⟨c0, c1, c2, c3, c4, c5, c6, c7⟩ := msg_cells hbx3))
  have hgo := hdo w3.drew hT3.turn.drew (hs3.keep (Keep.refl B w3).drew)
  have HB : Hid (Below B w w3) := ((hK.trans (Keep.of_below hb2 hT.base)).trans (Keep.of_below hb3 hT2.base)).low
  clear hT hs hT2 hs2 hbx hdo hlow hK hc2 hb2
  go_region_with (go_at_call 62; refine hgo.mono ?_; rintro e w4 ⟨rfl, hT4, hb4⟩)
  all_goals
    go_wp2
    first
      | go_end0
      | refine bodyPost_ret (results_none rfl _ _ _) rfl ?_
    exact ⟨rfl, hT4, HB.out.trans ((Below.refl _ _).drew.trans hb4)⟩
set_option maxRecDepth 100000 in
set_option maxHeartbeats 1000000 in
theorem take_state (B g : Nat) (r r' : Rep) (o' : Msgs) (m : Msg) (bo : Option Addr) (c : Nat) (hk : m.a0 = 5) (hok : MsgOk r m) (w : World) (h : Turn B w g r []) (hs : SrcE B w bo c m.log)
    (hdo : ∀ W, Turn B W g r [] → SrcE B W bo c m.log → Calls Tryz.prog 63 #[.pointer (some ⟨g, 0, none⟩), msV m bo c] W fun e w' => e = .returned (.tuple #[]) ∧ Turn B w' g r' o' ∧ Below B W w') :
    Calls Tryz.prog 24 #[.pointer (some ⟨g, 0, none⟩), msV m bo c] w fun e w' => e = .returned (.tuple #[]) ∧ Turn B w' g r' o' ∧ Below B w w' := by
  have HO : Hid (MsgOk r m) := hok
  have i1 : IntKind.i64.wrap (m.a0 - 1) = 4 := by rw [hk]; rfl
  have hif := fun W => isFrom_any 1 m.a0 8 W
  rw [tru_yes (by omega)] at hif
  have hmust := fun W => must_yes 1 W
  clear hok hk
  have hT := tm_new h #[.int .i64 m.a0, .int .i64 m.a1, .int .i64 m.a2, .int .i64 m.a3, .int .i64 m.a4, .int .i64 m.a5, .int .i64 m.a6, .slice bo m.log.length c]
  have hgw : w.heap.size ≠ g := hT.ne
  have hlow : Below w.heap.size w (w.alloc (.cells #[.int .i64 m.a0, .int .i64 m.a1, .int .i64 m.a2, .int .i64 m.a3, .int .i64 m.a4, .int .i64 m.a5, .int .i64 m.a6, .slice bo m.log.length c] 27)) := (Below.refl _ w).alloc (Nat.le_refl _) _
  have hK := Keep.of_below hlow h.base
  have hs := hs.keep hK
  have hB := h.base
  go_enter Tryz.func24, Tryz.ntmps24
  go_wp2_with fail
  clear h
  have hmlt : w.heap.size < (w.alloc (.cells #[.int .i64 m.a0, .int .i64 m.a1, .int .i64 m.a2, .int .i64 m.a3, .int .i64 m.a4, .int .i64 m.a5, .int .i64 m.a6, .slice bo m.log.length c] 27)).heap.size := by simp
  have hmb : (w.alloc (.cells #[.int .i64 m.a0, .int .i64 m.a1, .int .i64 m.a2, .int .i64 m.a3, .int .i64 m.a4, .int .i64 m.a5, .int .i64 m.a6, .slice bo m.log.length c] 27)).heap[w.heap.size]? = some (.cells #[.int .i64 m.a0, .int .i64 m.a1, .int .i64 m.a2, .int .i64 m.a3, .int .i64 m.a4, .int .i64 m.a5, .int .i64 m.a6, .slice bo m.log.length c] 27 (0, 0)) := hT.box
  obtain ⟨MB, hMB⟩ : ∃ M : Nat × Obj, M = (w.heap.size, .cells #[.int .i64 m.a0, .int .i64 m.a1, .int .i64 m.a2, .int .i64 m.a3, .int .i64 m.a4, .int .i64 m.a5, .int .i64 m.a6, .slice bo m.log.length c] 27 (0, 0)) := ⟨_, rfl⟩
  have HMX : Hid (∀ (w3 : World) (r' : Rep) (o' : Msgs), TM MB B w3 g r' o' → w3.heap[w.heap.size]? = some (.cells #[.int .i64 m.a0, .int .i64 m.a1, .int .i64 m.a2, .int .i64 m.a3, .int .i64 m.a4, .int .i64 m.a5, .int .i64 m.a6, .slice bo m.log.length c] 27 (0, 0))) := fun w3 r' o' h3 => by
    have := h3.box
    rw [hMB] at this
    exact this
  rw [← hMB] at hT
  clear hMB
  generalize (w.alloc (.cells #[.int .i64 m.a0, .int .i64 m.a1, .int .i64 m.a2, .int .i64 m.a3, .int .i64 m.a4, .int .i64 m.a5, .int .i64 m.a6, .slice bo m.log.length c] 27)) = W at *
  obtain ⟨sk, xok, xck, ⟨k0, k1, k2, k3, k4, k5, k6, k7, k8, k9, k10, k11, k12, k13⟩, kz, _, kH, _⟩ := hT.turn.cells
  obtain ⟨c0, c1, c2, c3, c4, c5, c6, c7⟩ := msg_cells hmb
  have hn := hT.base
  go_wp2_with (first
    | (go_at_call 38; refine (kinds_any g W).mono ?_; rintro e wn ⟨rfl, t, rfl⟩
       have hb2 : Below W.heap.size W (W.alloc (.cells (kindsV g) t (0, 0))) := (Below.refl _ W).alloc (Nat.le_refl _) _
       have hT2 := hT.below hb2
       have hbx := HMX.out _ _ _ hT2
       have hc2 := fun V h k v hv => kinds_cell (w := W) (W := V) (g := g) (t := t) rfl h k (v := v) hv
       have hs2 := hs.keep (Keep.of_below hb2 hT.base)
       clear k0 k1 k2 k3 k4 k5 k6 k7 k8 k9 k10 k11 k12 k13 kz kH c0 c1 c2 c3 c4 c5 c6 c7
       obtain ⟨c0, c1, c2, c3, c4, c5, c6, c7⟩ := msg_cells hbx
       generalize W.alloc (.cells (kindsV g) t (0, 0)) = V at *)
    | (go_at_call 39; refine (hif _).mono ?_; rintro e wn ⟨rfl, hq⟩; have hq' := hq.symm; clear hq; subst hq')
    | (go_at_call 36; refine (hmust _).mono ?_; rintro e wn ⟨rfl, hq⟩; have hq' := hq.symm; clear hq; subst hq')
    | (go_at_call 40; refine (mayCome_any B g r [] m bo c V hT2.turn hs2).mono ?_; rintro e w3 ⟨rfl, hb3⟩
       rw [tru_yes HO.out]
       have hT3 := hT2.below hb3
       have hc3 := hc2 _ hb3 4 _ rfl
       have hs3 := hs2.keep (Keep.of_below hb3 hT2.base)
       have hbx3 := HMX.out _ _ _ hT3
       clear c0 c1 c2 c3 c4 c5 c6 c7
       obtain ⟨c0, c1, c2, c3, c4, c5, c6, c7⟩ := msg_cells hbx3))
  have hgo := hdo w3.drew hT3.turn.drew (hs3.keep (Keep.refl B w3).drew)
  have HB : Hid (Below B w w3) := ((hK.trans (Keep.of_below hb2 hT.base)).trans (Keep.of_below hb3 hT2.base)).low
  clear hT hs hT2 hs2 hbx hdo hlow hK hc2 hb2
  go_region_with (go_at_call 63; refine hgo.mono ?_; rintro e w4 ⟨rfl, hT4, hb4⟩)
  all_goals
    go_wp2
    first
      | go_end0
      | refine bodyPost_ret (results_none rfl _ _ _) rfl ?_
    exact ⟨rfl, hT4, HB.out.trans ((Below.refl _ _).drew.trans hb4)⟩
set_option maxRecDepth 100000 in
set_option maxHeartbeats 1000000 in
theorem take_view (B g : Nat) (r r' : Rep) (o' : Msgs) (m : Msg) (bo : Option Addr) (c : Nat) (hk : m.a0 = 6) (hok : MsgOk r m) (w : World) (h : Turn B w g r []) (hs : SrcE B w bo c m.log)
    (hdo : ∀ W, Turn B W g r [] → SrcE B W bo c m.log → Calls Tryz.prog 64 #[.pointer (some ⟨g, 0, none⟩), msV m bo c] W fun e w' => e = .returned (.tuple #[]) ∧ Turn B w' g r' o' ∧ Below B W w') :
    Calls Tryz.prog 24 #[.pointer (some ⟨g, 0, none⟩), msV m bo c] w fun e w' => e = .returned (.tuple #[]) ∧ Turn B w' g r' o' ∧ Below B w w' := by
  have HO : Hid (MsgOk r m) := hok
  have i1 : IntKind.i64.wrap (m.a0 - 1) = 5 := by rw [hk]; rfl
  have hif := fun W => isFrom_any 1 m.a0 8 W
  rw [tru_yes (by omega)] at hif
  have hmust := fun W => must_yes 1 W
  clear hok hk
  have hT := tm_new h #[.int .i64 m.a0, .int .i64 m.a1, .int .i64 m.a2, .int .i64 m.a3, .int .i64 m.a4, .int .i64 m.a5, .int .i64 m.a6, .slice bo m.log.length c]
  have hgw : w.heap.size ≠ g := hT.ne
  have hlow : Below w.heap.size w (w.alloc (.cells #[.int .i64 m.a0, .int .i64 m.a1, .int .i64 m.a2, .int .i64 m.a3, .int .i64 m.a4, .int .i64 m.a5, .int .i64 m.a6, .slice bo m.log.length c] 27)) := (Below.refl _ w).alloc (Nat.le_refl _) _
  have hK := Keep.of_below hlow h.base
  have hs := hs.keep hK
  have hB := h.base
  go_enter Tryz.func24, Tryz.ntmps24
  go_wp2_with fail
  clear h
  have hmlt : w.heap.size < (w.alloc (.cells #[.int .i64 m.a0, .int .i64 m.a1, .int .i64 m.a2, .int .i64 m.a3, .int .i64 m.a4, .int .i64 m.a5, .int .i64 m.a6, .slice bo m.log.length c] 27)).heap.size := by simp
  have hmb : (w.alloc (.cells #[.int .i64 m.a0, .int .i64 m.a1, .int .i64 m.a2, .int .i64 m.a3, .int .i64 m.a4, .int .i64 m.a5, .int .i64 m.a6, .slice bo m.log.length c] 27)).heap[w.heap.size]? = some (.cells #[.int .i64 m.a0, .int .i64 m.a1, .int .i64 m.a2, .int .i64 m.a3, .int .i64 m.a4, .int .i64 m.a5, .int .i64 m.a6, .slice bo m.log.length c] 27 (0, 0)) := hT.box
  obtain ⟨MB, hMB⟩ : ∃ M : Nat × Obj, M = (w.heap.size, .cells #[.int .i64 m.a0, .int .i64 m.a1, .int .i64 m.a2, .int .i64 m.a3, .int .i64 m.a4, .int .i64 m.a5, .int .i64 m.a6, .slice bo m.log.length c] 27 (0, 0)) := ⟨_, rfl⟩
  have HMX : Hid (∀ (w3 : World) (r' : Rep) (o' : Msgs), TM MB B w3 g r' o' → w3.heap[w.heap.size]? = some (.cells #[.int .i64 m.a0, .int .i64 m.a1, .int .i64 m.a2, .int .i64 m.a3, .int .i64 m.a4, .int .i64 m.a5, .int .i64 m.a6, .slice bo m.log.length c] 27 (0, 0))) := fun w3 r' o' h3 => by
    have := h3.box
    rw [hMB] at this
    exact this
  rw [← hMB] at hT
  clear hMB
  generalize (w.alloc (.cells #[.int .i64 m.a0, .int .i64 m.a1, .int .i64 m.a2, .int .i64 m.a3, .int .i64 m.a4, .int .i64 m.a5, .int .i64 m.a6, .slice bo m.log.length c] 27)) = W at *
  obtain ⟨sk, xok, xck, ⟨k0, k1, k2, k3, k4, k5, k6, k7, k8, k9, k10, k11, k12, k13⟩, kz, _, kH, _⟩ := hT.turn.cells
  obtain ⟨c0, c1, c2, c3, c4, c5, c6, c7⟩ := msg_cells hmb
  have hn := hT.base
  go_wp2_with (first
    | (go_at_call 38; refine (kinds_any g W).mono ?_; rintro e wn ⟨rfl, t, rfl⟩
       have hb2 : Below W.heap.size W (W.alloc (.cells (kindsV g) t (0, 0))) := (Below.refl _ W).alloc (Nat.le_refl _) _
       have hT2 := hT.below hb2
       have hbx := HMX.out _ _ _ hT2
       have hc2 := fun V h k v hv => kinds_cell (w := W) (W := V) (g := g) (t := t) rfl h k (v := v) hv
       have hs2 := hs.keep (Keep.of_below hb2 hT.base)
       clear k0 k1 k2 k3 k4 k5 k6 k7 k8 k9 k10 k11 k12 k13 kz kH c0 c1 c2 c3 c4 c5 c6 c7
       obtain ⟨c0, c1, c2, c3, c4, c5, c6, c7⟩ := msg_cells hbx
       generalize W.alloc (.cells (kindsV g) t (0, 0)) = V at *)
    | (go_at_call 39; refine (hif _).mono ?_; rintro e wn ⟨rfl, hq⟩; have hq' := hq.symm; clear hq; subst hq')
    | (go_at_call 36; refine (hmust _).mono ?_; rintro e wn ⟨rfl, hq⟩; have hq' := hq.symm; clear hq; subst hq')
    | (go_at_call 40; refine (mayCome_any B g r [] m bo c V hT2.turn hs2).mono ?_; rintro e w3 ⟨rfl, hb3⟩
       rw [tru_yes HO.out]
       have hT3 := hT2.below hb3
       have hc3 := hc2 _ hb3 5 _ rfl
       have hs3 := hs2.keep (Keep.of_below hb3 hT2.base)
       have hbx3 := HMX.out _ _ _ hT3
       clear c0 c1 c2 c3 c4 c5 c6 c7
       obtain ⟨c0, c1, c2, c3, c4, c5, c6, c7⟩ := msg_cells hbx3))
  have hgo := hdo w3.drew hT3.turn.drew (hs3.keep (Keep.refl B w3).drew)
  have HB : Hid (Below B w w3) := ((hK.trans (Keep.of_below hb2 hT.base)).trans (Keep.of_below hb3 hT2.base)).low
  clear hT hs hT2 hs2 hbx hdo hlow hK hc2 hb2
  go_region_with (go_at_call 64; refine hgo.mono ?_; rintro e w4 ⟨rfl, hT4, hb4⟩)
  all_goals
    go_wp2
    first
      | go_end0
      | refine bodyPost_ret (results_none rfl _ _ _) rfl ?_
    exact ⟨rfl, hT4, HB.out.trans ((Below.refl _ _).drew.trans hb4)⟩
set_option maxRecDepth 100000 in
set_option maxHeartbeats 1000000 in
theorem take_ask (B g : Nat) (r r' : Rep) (o' : Msgs) (m : Msg) (bo : Option Addr) (c : Nat) (hk : m.a0 = 7) (hok : MsgOk r m) (w : World) (h : Turn B w g r []) (hs : SrcE B w bo c m.log)
    (hdo : ∀ W, Turn B W g r [] → SrcE B W bo c m.log → Calls Tryz.prog 65 #[.pointer (some ⟨g, 0, none⟩), msV m bo c] W fun e w' => e = .returned (.tuple #[]) ∧ Turn B w' g r' o' ∧ Below B W w') :
    Calls Tryz.prog 24 #[.pointer (some ⟨g, 0, none⟩), msV m bo c] w fun e w' => e = .returned (.tuple #[]) ∧ Turn B w' g r' o' ∧ Below B w w' := by
  have HO : Hid (MsgOk r m) := hok
  have i1 : IntKind.i64.wrap (m.a0 - 1) = 6 := by rw [hk]; rfl
  have hif := fun W => isFrom_any 1 m.a0 8 W
  rw [tru_yes (by omega)] at hif
  have hmust := fun W => must_yes 1 W
  clear hok hk
  have hT := tm_new h #[.int .i64 m.a0, .int .i64 m.a1, .int .i64 m.a2, .int .i64 m.a3, .int .i64 m.a4, .int .i64 m.a5, .int .i64 m.a6, .slice bo m.log.length c]
  have hgw : w.heap.size ≠ g := hT.ne
  have hlow : Below w.heap.size w (w.alloc (.cells #[.int .i64 m.a0, .int .i64 m.a1, .int .i64 m.a2, .int .i64 m.a3, .int .i64 m.a4, .int .i64 m.a5, .int .i64 m.a6, .slice bo m.log.length c] 27)) := (Below.refl _ w).alloc (Nat.le_refl _) _
  have hK := Keep.of_below hlow h.base
  have hs := hs.keep hK
  have hB := h.base
  go_enter Tryz.func24, Tryz.ntmps24
  go_wp2_with fail
  clear h
  have hmlt : w.heap.size < (w.alloc (.cells #[.int .i64 m.a0, .int .i64 m.a1, .int .i64 m.a2, .int .i64 m.a3, .int .i64 m.a4, .int .i64 m.a5, .int .i64 m.a6, .slice bo m.log.length c] 27)).heap.size := by simp
  have hmb : (w.alloc (.cells #[.int .i64 m.a0, .int .i64 m.a1, .int .i64 m.a2, .int .i64 m.a3, .int .i64 m.a4, .int .i64 m.a5, .int .i64 m.a6, .slice bo m.log.length c] 27)).heap[w.heap.size]? = some (.cells #[.int .i64 m.a0, .int .i64 m.a1, .int .i64 m.a2, .int .i64 m.a3, .int .i64 m.a4, .int .i64 m.a5, .int .i64 m.a6, .slice bo m.log.length c] 27 (0, 0)) := hT.box
  obtain ⟨MB, hMB⟩ : ∃ M : Nat × Obj, M = (w.heap.size, .cells #[.int .i64 m.a0, .int .i64 m.a1, .int .i64 m.a2, .int .i64 m.a3, .int .i64 m.a4, .int .i64 m.a5, .int .i64 m.a6, .slice bo m.log.length c] 27 (0, 0)) := ⟨_, rfl⟩
  have HMX : Hid (∀ (w3 : World) (r' : Rep) (o' : Msgs), TM MB B w3 g r' o' → w3.heap[w.heap.size]? = some (.cells #[.int .i64 m.a0, .int .i64 m.a1, .int .i64 m.a2, .int .i64 m.a3, .int .i64 m.a4, .int .i64 m.a5, .int .i64 m.a6, .slice bo m.log.length c] 27 (0, 0))) := fun w3 r' o' h3 => by
    have := h3.box
    rw [hMB] at this
    exact this
  rw [← hMB] at hT
  clear hMB
  generalize (w.alloc (.cells #[.int .i64 m.a0, .int .i64 m.a1, .int .i64 m.a2, .int .i64 m.a3, .int .i64 m.a4, .int .i64 m.a5, .int .i64 m.a6, .slice bo m.log.length c] 27)) = W at *
  obtain ⟨sk, xok, xck, ⟨k0, k1, k2, k3, k4, k5, k6, k7, k8, k9, k10, k11, k12, k13⟩, kz, _, kH, _⟩ := hT.turn.cells
  obtain ⟨c0, c1, c2, c3, c4, c5, c6, c7⟩ := msg_cells hmb
  have hn := hT.base
  go_wp2_with (first
    | (go_at_call 38; refine (kinds_any g W).mono ?_; rintro e wn ⟨rfl, t, rfl⟩
       have hb2 : Below W.heap.size W (W.alloc (.cells (kindsV g) t (0, 0))) := (Below.refl _ W).alloc (Nat.le_refl _) _
       have hT2 := hT.below hb2
       have hbx := HMX.out _ _ _ hT2
       have hc2 := fun V h k v hv => kinds_cell (w := W) (W := V) (g := g) (t := t) rfl h k (v := v) hv
       have hs2 := hs.keep (Keep.of_below hb2 hT.base)
       clear k0 k1 k2 k3 k4 k5 k6 k7 k8 k9 k10 k11 k12 k13 kz kH c0 c1 c2 c3 c4 c5 c6 c7
       obtain ⟨c0, c1, c2, c3, c4, c5, c6, c7⟩ := msg_cells hbx
       generalize W.alloc (.cells (kindsV g) t (0, 0)) = V at *)
    | (go_at_call 39; refine (hif _).mono ?_; rintro e wn ⟨rfl, hq⟩; have hq' := hq.symm; clear hq; subst hq')
    | (go_at_call 36; refine (hmust _).mono ?_; rintro e wn ⟨rfl, hq⟩; have hq' := hq.symm; clear hq; subst hq')
    | (go_at_call 40; refine (mayCome_any B g r [] m bo c V hT2.turn hs2).mono ?_; rintro e w3 ⟨rfl, hb3⟩
       rw [tru_yes HO.out]
       have hT3 := hT2.below hb3
       have hc3 := hc2 _ hb3 6 _ rfl
       have hs3 := hs2.keep (Keep.of_below hb3 hT2.base)
       have hbx3 := HMX.out _ _ _ hT3
       clear c0 c1 c2 c3 c4 c5 c6 c7
       obtain ⟨c0, c1, c2, c3, c4, c5, c6, c7⟩ := msg_cells hbx3))
  have hgo := hdo w3.drew hT3.turn.drew (hs3.keep (Keep.refl B w3).drew)
  have HB : Hid (Below B w w3) := ((hK.trans (Keep.of_below hb2 hT.base)).trans (Keep.of_below hb3 hT2.base)).low
  clear hT hs hT2 hs2 hbx hdo hlow hK hc2 hb2
  go_region_with (go_at_call 65; refine hgo.mono ?_; rintro e w4 ⟨rfl, hT4, hb4⟩)
  all_goals
    go_wp2
    first
      | go_end0
      | refine bodyPost_ret (results_none rfl _ _ _) rfl ?_
    exact ⟨rfl, hT4, HB.out.trans ((Below.refl _ _).drew.trans hb4)⟩
set_option maxRecDepth 100000 in
set_option maxHeartbeats 1000000 in
theorem take_log (B g : Nat) (r r' : Rep) (o' : Msgs) (m : Msg) (bo : Option Addr) (c : Nat) (hk : m.a0 = 8) (hok : MsgOk r m) (w : World) (h : Turn B w g r []) (hs : SrcE B w bo c m.log)
    (hdo : ∀ W, Turn B W g r [] → SrcE B W bo c m.log → Calls Tryz.prog 66 #[.pointer (some ⟨g, 0, none⟩), msV m bo c] W fun e w' => e = .returned (.tuple #[]) ∧ Turn B w' g r' o' ∧ Below B W w') :
    Calls Tryz.prog 24 #[.pointer (some ⟨g, 0, none⟩), msV m bo c] w fun e w' => e = .returned (.tuple #[]) ∧ Turn B w' g r' o' ∧ Below B w w' := by
  have HO : Hid (MsgOk r m) := hok
  have i1 : IntKind.i64.wrap (m.a0 - 1) = 7 := by rw [hk]; rfl
  have hif := fun W => isFrom_any 1 m.a0 8 W
  rw [tru_yes (by omega)] at hif
  have hmust := fun W => must_yes 1 W
  clear hok hk
  have hT := tm_new h #[.int .i64 m.a0, .int .i64 m.a1, .int .i64 m.a2, .int .i64 m.a3, .int .i64 m.a4, .int .i64 m.a5, .int .i64 m.a6, .slice bo m.log.length c]
  have hgw : w.heap.size ≠ g := hT.ne
  have hlow : Below w.heap.size w (w.alloc (.cells #[.int .i64 m.a0, .int .i64 m.a1, .int .i64 m.a2, .int .i64 m.a3, .int .i64 m.a4, .int .i64 m.a5, .int .i64 m.a6, .slice bo m.log.length c] 27)) := (Below.refl _ w).alloc (Nat.le_refl _) _
  have hK := Keep.of_below hlow h.base
  have hs := hs.keep hK
  have hB := h.base
  go_enter Tryz.func24, Tryz.ntmps24
  go_wp2_with fail
  clear h
  have hmlt : w.heap.size < (w.alloc (.cells #[.int .i64 m.a0, .int .i64 m.a1, .int .i64 m.a2, .int .i64 m.a3, .int .i64 m.a4, .int .i64 m.a5, .int .i64 m.a6, .slice bo m.log.length c] 27)).heap.size := by simp
  have hmb : (w.alloc (.cells #[.int .i64 m.a0, .int .i64 m.a1, .int .i64 m.a2, .int .i64 m.a3, .int .i64 m.a4, .int .i64 m.a5, .int .i64 m.a6, .slice bo m.log.length c] 27)).heap[w.heap.size]? = some (.cells #[.int .i64 m.a0, .int .i64 m.a1, .int .i64 m.a2, .int .i64 m.a3, .int .i64 m.a4, .int .i64 m.a5, .int .i64 m.a6, .slice bo m.log.length c] 27 (0, 0)) := hT.box
  obtain ⟨MB, hMB⟩ : ∃ M : Nat × Obj, M = (w.heap.size, .cells #[.int .i64 m.a0, .int .i64 m.a1, .int .i64 m.a2, .int .i64 m.a3, .int .i64 m.a4, .int .i64 m.a5, .int .i64 m.a6, .slice bo m.log.length c] 27 (0, 0)) := ⟨_, rfl⟩
  have HMX : Hid (∀ (w3 : World) (r' : Rep) (o' : Msgs), TM MB B w3 g r' o' → w3.heap[w.heap.size]? = some (.cells #[.int .i64 m.a0, .int .i64 m.a1, .int .i64 m.a2, .int .i64 m.a3, .int .i64 m.a4, .int .i64 m.a5, .int .i64 m.a6, .slice bo m.log.length c] 27 (0, 0))) := fun w3 r' o' h3 => by
    have := h3.box
    rw [hMB] at this
    exact this
  rw [← hMB] at hT
  clear hMB
  generalize (w.alloc (.cells #[.int .i64 m.a0, .int .i64 m.a1, .int .i64 m.a2, .int .i64 m.a3, .int .i64 m.a4, .int .i64 m.a5, .int .i64 m.a6, .slice bo m.log.length c] 27)) = W at *
  obtain ⟨sk, xok, xck, ⟨k0, k1, k2, k3, k4, k5, k6, k7, k8, k9, k10, k11, k12, k13⟩, kz, _, kH, _⟩ := hT.turn.cells
  obtain ⟨c0, c1, c2, c3, c4, c5, c6, c7⟩ := msg_cells hmb
  have hn := hT.base
  go_wp2_with (first
    | (go_at_call 38; refine (kinds_any g W).mono ?_; rintro e wn ⟨rfl, t, rfl⟩
       have hb2 : Below W.heap.size W (W.alloc (.cells (kindsV g) t (0, 0))) := (Below.refl _ W).alloc (Nat.le_refl _) _
       have hT2 := hT.below hb2
       have hbx := HMX.out _ _ _ hT2
       have hc2 := fun V h k v hv => kinds_cell (w := W) (W := V) (g := g) (t := t) rfl h k (v := v) hv
       have hs2 := hs.keep (Keep.of_below hb2 hT.base)
       clear k0 k1 k2 k3 k4 k5 k6 k7 k8 k9 k10 k11 k12 k13 kz kH c0 c1 c2 c3 c4 c5 c6 c7
       obtain ⟨c0, c1, c2, c3, c4, c5, c6, c7⟩ := msg_cells hbx
       generalize W.alloc (.cells (kindsV g) t (0, 0)) = V at *)
    | (go_at_call 39; refine (hif _).mono ?_; rintro e wn ⟨rfl, hq⟩; have hq' := hq.symm; clear hq; subst hq')
    | (go_at_call 36; refine (hmust _).mono ?_; rintro e wn ⟨rfl, hq⟩; have hq' := hq.symm; clear hq; subst hq')
    | (go_at_call 40; refine (mayCome_any B g r [] m bo c V hT2.turn hs2).mono ?_; rintro e w3 ⟨rfl, hb3⟩
       rw [tru_yes HO.out]
       have hT3 := hT2.below hb3
       have hc3 := hc2 _ hb3 7 _ rfl
       have hs3 := hs2.keep (Keep.of_below hb3 hT2.base)
       have hbx3 := HMX.out _ _ _ hT3
       clear c0 c1 c2 c3 c4 c5 c6 c7
       obtain ⟨c0, c1, c2, c3, c4, c5, c6, c7⟩ := msg_cells hbx3))
  have hgo := hdo w3.drew hT3.turn.drew (hs3.keep (Keep.refl B w3).drew)
  have HB : Hid (Below B w w3) := ((hK.trans (Keep.of_below hb2 hT.base)).trans (Keep.of_below hb3 hT2.base)).low
  clear hT hs hT2 hs2 hbx hdo hlow hK hc2 hb2
  go_region_with (go_at_call 66; refine hgo.mono ?_; rintro e w4 ⟨rfl, hT4, hb4⟩)
  all_goals
    go_wp2
    first
      | go_end0
      | refine bodyPost_ret (results_none rfl _ _ _) rfl ?_
    exact ⟨rfl, hT4, HB.out.trans ((Below.refl _ _).drew.trans hb4)⟩
end Go.Proofs.YtajbdffepfjegaaGreat
