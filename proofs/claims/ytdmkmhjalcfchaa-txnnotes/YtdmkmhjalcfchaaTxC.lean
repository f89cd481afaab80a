/-
  Contracts: what a transaction reads at a key: Get.
-/
import Derived.Test.YtdmkmhjalcfchaaTxB
import Derived.Deep.RegionHeldLaw
namespace Go.Proofs.Ytdmkmhjalcfchaa
open Go.RowKit Go.Maps Num
open scoped Classical
set_option linter.unusedVariables false
set_option maxRecDepth 100000

theorem amap_some (gl : Nat) (W : World) : (binOp BinOp.eql 74 (.map (some gl)) (.map none)).run Try.prog W = .ok (.bool false) W := by kernel_rfl
theorem amap_nil (W : World) : (binOp BinOp.eql 74 (.map none) (.map none)).run Try.prog W = .ok (.bool true) W := by kernel_rfl
abbrev Num.noW : Wrt := ⟨⟨#[]⟩, ⟨#[]⟩, false⟩
theorem getA_own {t : Tx} {k : ByteArray} {x : Wrt} (h : findW t.ws k = some x) : getA t k = (x.val, !x.del) := by unfold getA; rw [h]
theorem getA_none {t : Tx} {k : ByteArray} (h : findW t.ws k = none) : getA t k = (lookS (getV t.st.vs k t.snap), lookB (getV t.st.vs k t.snap)) := by unfold getA; rw [h]
theorem getN_own {t : Tx} {k : ByteArray} {x : Wrt} (h : findW t.ws k = some x) : getN t k = { t with lim := t.lim + 1 } := by unfold getN; rw [h]
theorem getN_none {t : Tx} {k : ByteArray} (h : findW t.ws k = none) : getN t k = { t with asked := insA t.asked k, lim := t.lim + 1 } := by unfold getN; rw [h]
set_option maxRecDepth 100000 in
set_option maxHeartbeats 1000000 in
theorem tget_own (B g : Nat) (t : Tx) (so : Option Nat) (k : ByteArray) (hk : k.size ≤ 900000) (hl : t.lim ≤ 999) (x : Wrt) (hx : findW t.ws k = some x) (F : Nat → Prop) (w : World) (h : HoldT B w g t so F) :
    Calls Try.prog 13 #[.pointer (some ⟨g, 0, none⟩), .string k] w fun e w' => e = .returned (.tuple #[.string x.val, .bool (!x.del)]) ∧ HoldT B w' g (getN t k) so (Grw F w w') ∧ Out F w w' := by
  obtain ⟨⟨am, wm, ao, cap, h, hf⟩, hF⟩ := h
  have hgB := h.gB
  have hgl := h.lt
  have hb : Below w.heap.size w (w.alloc (wrtBox x)).drew := below_next ((Below.refl _ w).alloc (Nat.le_refl _) _) (Nat.le_refl _) (Below.refl _ _).drew
  have hpost : HoldT B (w.alloc (wrtBox x)).drew g (getN t k) so (Grw F w (w.alloc (wrtBox x)).drew) := by
    have h2 := h.below hb
    rw [getN_own hx]
    have hok := h.ok.get hk hl
    rw [getN_own hx] at hok
    exact ⟨⟨am, wm, ao, cap, ⟨h2.box, h2.gB, h2.sto, h2.ask.mono (Nat.le_succ _), h2.row, h2.wrs.mono (Nat.le_succ _), h2.aB, h2.wB, h2.apart, hok⟩, fun i hi => .inl (hf i hi)⟩, Grw.lt (by omega) hF hb.size⟩
  have hout : Out F w (w.alloc (wrtBox x)).drew := .of_below hb
  have c4 := (tx_cells h).2.2.2.2
  have hrun := run_wrs h.wrs h.ok.ws (big_le hk)
  rw [hx, show ((some x).getD noW) = x from rfl, show (some x).isSome = true from rfl] at hrun
  unfold wrtV at hrun
  have o1 : (w.alloc (wrtBox x)).cell? ⟨w.heap.size, 1, none⟩ = some (.string x.val) := box_cell (heap_new w _) 1 _ rfl
  have o2 : (w.alloc (wrtBox x)).cell? ⟨w.heap.size, 2, none⟩ = some (.bool x.del) := box_cell (heap_new w _) 2 _ rfl
  clear h hb
  go_enter Try.func13, Try.ntmps13
  go_wp2
  go_region
  all_goals go_wp2
  all_goals go_ret2
  all_goals exact ⟨rfl, hpost, hout⟩
set_option maxRecDepth 100000 in
set_option maxHeartbeats 1000000 in
theorem tget_old (B g ga cap : Nat) (t : Tx) (so wm : Option Nat) (ao : Option Addr) (k : ByteArray) (hk : k.size ≤ 900000) (hl : t.lim ≤ 999) (hx : findW t.ws k = none) (F : Nat → Prop) (w : World) (h : TxAt B w g t so (some ga) wm ao cap) (hf : ∀ i, footT g (some ga) wm ao i → F i) (hF : ∀ i, F i → B ≤ i ∧ i < w.heap.size) :
    Calls Try.prog 13 #[.pointer (some ⟨g, 0, none⟩), .string k] w fun e w' => e = .returned (.tuple #[.string (lookS (getV t.st.vs k t.snap)), .bool (lookB (getV t.st.vs k t.snap))]) ∧ HoldT B w' g (getN t k) so (Grw F w w') ∧ Out F w w' := by
  have hgB := h.gB
  have hgl := h.lt
  have hb : Below w.heap.size w (w.alloc (wrtBox noW)) := (Below.refl _ w).alloc (Nat.le_refl _) _
  have hd : TxAt B (w.alloc (wrtBox noW)) g t so (some ga) wm ao cap := h.below hb
  have hnil := amap_some ga
  have c4 := (tx_cells h).2.2.2.2
  have hrun := run_wrs h.wrs h.ok.ws (big_le hk)
  rw [hx, show ((none : Option Wrt).getD noW) = noW from rfl, show (none : Option Wrt).isSome = false from rfl] at hrun
  unfold wrtV at hrun
  have d2 := (tx_cells hd).2.2.1
  obtain ⟨D, hG⟩ : ∃ D, AskG (w.alloc (wrtBox noW)) ga t.lim t.asked D := by
    rcases hd.ask with ⟨e, _⟩ | ⟨gl', D, e, hG⟩
    · cases e
    · cases e
      exact ⟨D, hG⟩
  obtain ⟨es, ec, hes, _⟩ := id hG.map
  obtain ⟨w5, hrun5, hm5, ht5⟩ := hG.map.store lawStr Try.underlying74 (by unfold maxLen; omega) (WideMaps.keyOf_string_mk Try.underlying9 (big_le hk)) (val := .agg #[]) (d := .held (.agg #[])) (ps := []) rfl
  have hg5 := ht5.grown
  have hFga : F ga := hf ga (.inr (.inl rfl))
  have hout : Out F w w5 := (Out.of_below hb).next (.of_grown hg5 hFga)
  have hbB : Below B w w5 := hout.below (fun i hi => (hF i hi).1) (by omega)
  have hkeep : ∀ i, i < w.heap.size → i ≠ ga → w5.heap[i]? = w.heap[i]? := fun i hi hne => (hg5.block i (Nat.lt_of_lt_of_le hi hb.size) (fun e => by cases e; exact hne rfl)).trans (hb.block i hi)
  have hend : TxAt B w5 g (getN t k) so (some ga) wm ao cap := by
    have hok := h.ok.get hk hl
    rw [getN_none hx] at hok ⊢
    exact ⟨(hkeep g hgl (box_ne hd.box hes)).trans h.box, hgB, h.sto.next hbB, .inr ⟨ga, _, rfl, askG_put hG.map.isMap hG.has hm5⟩, own_keep h.row (fun a ha => hkeep _ (row_lt h.row ha).2 (row_ne hd.row hes ha)), (h.wrs.mono (Nat.le_succ _)).same (fun i es' c' hi e => (hkeep i (h.wrs.lt hi) (fun e2 => h.apart ga rfl (by rw [← e2]; exact hi))).trans e), h.aB, h.wB, h.apart, hok⟩
  have hpost : ∀ w6, Below w5.heap.size w5 w6 → HoldT B w6 g (getN t k) so (Grw F w w6) ∧ Out F w w6 := fun w6 h6 => by
    have ho := hout.next (.of_below h6)
    exact ⟨⟨⟨some ga, wm, ao, cap, hend.below h6, fun i hi => .inl (hf i hi)⟩, Grw.lt (by omega) hF ho.size⟩, ho⟩
  have e0 := (tx_cells hend).1
  have e1 := (tx_cells hend).2.1
  rw [getN_none hx] at e1
  have hget : ∀ w1, Below w5.heap.size w5 w1 → Calls Try.prog 36 #[stoV so, .int .i64 t.snap, .string k] w1 fun e w' => e = .returned (.tuple #[.string (lookS (getV t.st.vs k t.snap)), .bool (lookB (getV t.st.vs k t.snap))]) ∧ Below w1.heap.size w1 w' := fun w1 hb1 => stoGet_any B so t.st t.snap k (big_le hk) h.ok.vs w1 ((h.sto.next hbB).next (hb1.mono (by have := hout.size; omega)))
  obtain ⟨po, hpo⟩ : ∃ po, stoV so = .pointer po := ⟨_, rfl⟩
  rw [hpo] at e0 hget
  have hbd : Below w5.heap.size w5 w5.drew := (Below.refl _ w5).drew
  have hkp : ∀ w1, Below w5.drew.heap.size w5.drew w1 → w1.cell? ⟨g, 0, none⟩ = some (.pointer po) ∧ w1.cell? ⟨g, 1, none⟩ = some (.int .i64 t.snap) ∧ Below w5.heap.size w5 w1 := fun w1 hb1 => by
    have h0 := hbd.trans hb1
    exact ⟨(h0.cell (cell_lt e0)).trans e0, (h0.cell (cell_lt e1)).trans e1, h0⟩
  generalize lookS (getV t.st.vs k t.snap) = rs at *
  generalize lookB (getV t.st.vs k t.snap) = rb at *
  clear h hd hG hes hm5 ht5 hg5 hb hbB hkeep hend hFga
  go_enter Try.func13, Try.ntmps13
  go_wp2_with fail
  go_region_held_law (fun w' => w'.cell? ⟨g, 0, none⟩ = some (.pointer po) ∧ w'.cell? ⟨g, 1, none⟩ = some (.int .i64 t.snap) ∧ Below w5.heap.size w5 w') (first | exact ⟨e0, e1, hbd⟩ | exact hkp _ hb6)
    (first
      | (go_at_call 36; refine (hget _ hbd).mono ?_; rintro e w6 ⟨rfl, hb6⟩))
  go_wp2
  go_ret2
  exact ⟨rfl, hpost _ (hbd.trans hb6)⟩
set_option maxRecDepth 100000 in
set_option maxHeartbeats 1000000 in
theorem tget_new (B g cap : Nat) (t : Tx) (so wm : Option Nat) (ao : Option Addr) (k : ByteArray) (hk : k.size ≤ 900000) (hl : t.lim ≤ 999) (hx : findW t.ws k = none) (F : Nat → Prop) (w : World) (h : TxAt B w g t so none wm ao cap) (hf : ∀ i, footT g none wm ao i → F i) (hF : ∀ i, F i → B ≤ i ∧ i < w.heap.size) :
    Calls Try.prog 13 #[.pointer (some ⟨g, 0, none⟩), .string k] w fun e w' => e = .returned (.tuple #[.string (lookS (getV t.st.vs k t.snap)), .bool (lookB (getV t.st.vs k t.snap))]) ∧ HoldT B w' g (getN t k) so (Grw F w w') ∧ Out F w w' := by
  have hmm := @run_makeMap Try.prog
  have hgB := h.gB
  have hgl := h.lt
  have hnil := amap_nil
  have has : t.asked = [] := by
    rcases h.ask with ⟨_, h0⟩ | ⟨gl', D, e, hG⟩
    · exact h0
    · cases e
  have c4 := (tx_cells h).2.2.2.2
  have hrun := run_wrs h.wrs h.ok.ws (big_le hk)
  rw [hx, show ((none : Option Wrt).getD noW) = noW from rfl, show (none : Option Wrt).isSome = false from rfl] at hrun
  unfold wrtV at hrun
  have hb : Below w.heap.size w (w.alloc (wrtBox noW)) := (Below.refl _ w).alloc (Nat.le_refl _) _
  have h1 := h.below hb
  have d2 := (tx_cells h1).2.2.1
  have hsz : (w.alloc (wrtBox noW)).heap.size = w.heap.size + 1 := by simp
  have hbx2 := alloc_box (.map #[] 0) h1.box
  have d2' := box_cell hbx2 2 _ rfl
  have f2' := box_open hbx2 2
  have hmade := World.ownsMap_made (H := Value) (w.alloc (wrtBox noW)) Try.prog 9 selfR
  have hne : (w.alloc (wrtBox noW)).heap.size ≠ g := by omega
  obtain ⟨X, hX⟩ : ∃ X, ((w.alloc (wrtBox noW)).alloc (.map #[] 0)).setCell ⟨g, 2, none⟩ (.map (some (w.heap.size + 1))) = X := ⟨_, rfl⟩
  have hmX : OwnM X (w.heap.size + 1) 0 (.map []) := by
    rw [← hX, ← hsz]
    exact hmade.setCell (by simpa using hne) _
  have hbX : X.heap[g]? = some (.cells #[stoV so, .int .i64 t.snap, .map (some (w.heap.size + 1)), .slice ao t.rngs.length cap, .map wm] 77 (0, 0)) := by
    rw [← hX]
    exact set_heap (i := 2) hbx2 _
  have x2 := box_cell hbX 2 _ rfl
  obtain ⟨w5, hrun5, hm5, ht5⟩ := hmX.store lawStr Try.underlying74 (by decide) (WideMaps.keyOf_string_mk Try.underlying9 (big_le hk)) (val := .agg #[]) (d := .held (.agg #[])) (ps := []) rfl
  have hg5 := ht5.grown
  have hFg : F g := hf g (.inl rfl)
  have hoX2 : Out F w X := by
    rw [← hX]
    exact Out.next (.of_below (below_next hb (Nat.le_refl _) ((Below.refl _ _).alloc (Nat.le_refl _) _))) (.of_grown (grown_set _ g 2 _) hFg)
  have hout : Out F w w5 := hoX2.new hg5 (by omega)
  have hbB : Below B w w5 := hout.below (fun i hi => (hF i hi).1) (by omega)
  have hkX : ∀ i, i < w.heap.size → i ≠ g → w5.heap[i]? = w.heap[i]? := fun i hi hne => by
    have e1 : X.heap[i]? = w.heap[i]? := by
      rw [← hX, Below.heap_setCell _ _ _ _ hne, Below.heap_alloc _ _ i (by simp; omega), Below.heap_alloc _ _ i hi]
    have hXs : w.heap.size ≤ X.heap.size := hoX2.size
    exact (hg5.block i (by omega) (fun e => by cases e; omega)).trans e1
  have hend : TxAt B w5 g (getN t k) so (some (w.heap.size + 1)) wm ao cap := by
    have hok := h.ok.get hk hl
    rw [getN_none hx] at hok ⊢
    exact ⟨(hg5.block g (Nat.lt_of_lt_of_le hgl hoX2.size) (fun e => by cases e; omega)).trans hbX, hgB, h.sto.next hbB, .inr ⟨w.heap.size + 1, _, rfl, by
        have hp := askG_put (K := []) (k := k) hmX.isMap (fun k => by simp [Maps.has]) (hm5.mono (Nat.succ_le_succ (Nat.zero_le t.lim)))
        show AskG w5 _ (t.lim + 1) (insA t.asked k) _
        rw [has]
        exact hp⟩, own_keep h.row (fun a ha => hkX _ (row_lt h.row ha).2 (row_far h.row h.box (by decide) ha)), (h.wrs.mono (Nat.le_succ _)).same (fun i es' c' hi e => (hkX i (h.wrs.lt hi) (fun e2 => by
        rw [e2, h.box] at e
        cases e)).trans e), fun i hi => (by cases hi; omega), h.wB, fun i hi e => (by
        have h2 := h.wrs.lt e
        cases hi
        omega), hok⟩
  have hlt5 := hm5.lt
  have hpost : ∀ w6, Below w5.heap.size w5 w6 → HoldT B w6 g (getN t k) so (Grw F w w6) ∧ Out F w w6 := fun w6 h6 => by
    have ho := hout.next (.of_below h6)
    have h6s := h6.size
    refine ⟨⟨⟨some (w.heap.size + 1), wm, ao, cap, hend.below h6, ?_⟩, Grw.lt (by omega) hF ho.size⟩, ho⟩
    rintro i (hi | hi | hi | hi)
    · exact .inl (hf i (.inl hi))
    · cases hi
      exact .inr ⟨by omega, by omega⟩
    · exact .inl (hf i (.inr (.inr (.inl hi))))
    · exact .inl (hf i (.inr (.inr (.inr hi))))
  have e0 := (tx_cells hend).1
  have e1 := (tx_cells hend).2.1
  rw [getN_none hx] at e1
  have hget : ∀ w1, Below w5.heap.size w5 w1 → Calls Try.prog 36 #[stoV so, .int .i64 t.snap, .string k] w1 fun e w' => e = .returned (.tuple #[.string (lookS (getV t.st.vs k t.snap)), .bool (lookB (getV t.st.vs k t.snap))]) ∧ Below w1.heap.size w1 w' := fun w1 hb1 => stoGet_any B so t.st t.snap k (big_le hk) h.ok.vs w1 ((h.sto.next hbB).next (hb1.mono (by have := hout.size; omega)))
  obtain ⟨po, hpo⟩ : ∃ po, stoV so = .pointer po := ⟨_, rfl⟩
  rw [hpo] at e0 hget
  have hbd : Below w5.heap.size w5 w5.drew := (Below.refl _ w5).drew
  have hkp : ∀ w1, Below w5.drew.heap.size w5.drew w1 → w1.cell? ⟨g, 0, none⟩ = some (.pointer po) ∧ w1.cell? ⟨g, 1, none⟩ = some (.int .i64 t.snap) ∧ Below w5.heap.size w5 w1 := fun w1 hb1 => by
    have h0 := hbd.trans hb1
    exact ⟨(h0.cell (cell_lt e0)).trans e0, (h0.cell (cell_lt e1)).trans e1, h0⟩
  generalize lookS (getV t.st.vs k t.snap) = rs at *
  generalize lookB (getV t.st.vs k t.snap) = rb at *
  clear h h1 hmX hm5 ht5 hg5 hb hbX hkX hbB hmade hbx2 hend hoX2 hFg has
  go_enter Try.func13, Try.ntmps13
  go_wp2_with fail
  try rw [hX]
  go_wp2_with fail
  go_region_held_law (fun w' => w'.cell? ⟨g, 0, none⟩ = some (.pointer po) ∧ w'.cell? ⟨g, 1, none⟩ = some (.int .i64 t.snap) ∧ Below w5.heap.size w5 w') (first | exact ⟨e0, e1, hbd⟩ | exact hkp _ hb6)
    (first
      | (go_at_call 36; refine (hget _ hbd).mono ?_; rintro e w6 ⟨rfl, hb6⟩))
  go_wp2
  go_ret2
  exact ⟨rfl, hpost _ (hbd.trans hb6)⟩
theorem tget_any (B g : Nat) (t : Tx) (so : Option Nat) (k : ByteArray) (hk : k.size ≤ 900000) (hl : t.lim ≤ 999) (F : Nat → Prop) (w : World) (h : HoldT B w g t so F) :
    Calls Try.prog 13 #[.pointer (some ⟨g, 0, none⟩), .string k] w fun e w' => e = .returned (.tuple #[.string (getA t k).1, .bool (getA t k).2]) ∧ HoldT B w' g (getN t k) so (Grw F w w') ∧ Out F w w' := by
  cases hx : findW t.ws k with
  | some x =>
    rw [getA_own hx]
    exact tget_own B g t so k hk hl x hx F w h
  | none =>
    rw [getA_none hx]
    obtain ⟨⟨am, wm, ao, cap, h, hf⟩, hF⟩ := h
    cases am with
    | none => exact tget_new B g cap t so wm ao k hk hl hx F w h hf hF
    | some ga => exact tget_old B g ga cap t so wm ao k hk hl hx F w h hf hF
end Go.Proofs.Ytdmkmhjalcfchaa
