/-
  Contracts: a transaction writes: write, Put, Del.
-/
import Derived.Test.YtdmkmhjalcfchaaTxA
namespace Go.Proofs.Ytdmkmhjalcfchaa
open Go.RowKit Go.Maps Num
open scoped Classical
set_option linter.unusedVariables false
set_option maxRecDepth 100000

theorem Num.Grw.lt {F : Nat → Prop} {B : Nat} {w w' : World} (hB : B ≤ w.heap.size) (hF : ∀ i, F i → B ≤ i ∧ i < w.heap.size) (hs : w.heap.size ≤ w'.heap.size) : ∀ i, Grw F w w' i → B ≤ i ∧ i < w'.heap.size := by
  rintro i (h | h)
  · have := hF i h
    omega
  · omega
set_option maxRecDepth 100000 in
set_option maxHeartbeats 1000000 in
theorem write_old (B g gl cap : Nat) (t : Tx) (so am : Option Nat) (ao : Option Addr) (x : Wrt) (hk : x.key.size ≤ 900000) (hl : t.lim ≤ 999) (F : Nat → Prop) (w : World) (h : TxAt B w g t so am (some gl) ao cap) (hf : ∀ i, footT g am (some gl) ao i → F i) (hF : ∀ i, F i → B ≤ i ∧ i < w.heap.size) :
    Calls Try.prog 43 #[.pointer (some ⟨g, 0, none⟩), .agg #[.string x.key, .string x.val, .bool x.del]] w fun e w' => e = .returned (.tuple #[]) ∧ HoldT B w' g (writeN t x) so (Grw F w w') ∧ Out F w w' := by
  have hgB := h.gB
  have hgl := h.lt
  obtain ⟨W, hW⟩ : ∃ W, w.alloc (wrtBox x) = W := ⟨_, rfl⟩
  have hb : Below w.heap.size w W := by rw [← hW]; exact (Below.refl _ w).alloc (Nat.le_refl _) _
  have hob : W.heap[w.heap.size]? = some (wrtBox x) := by rw [← hW]; exact heap_new w _
  have hbd : Below w.heap.size w W.drew := below_next hb (Nat.le_refl _) (Below.refl _ W).drew
  have hd : TxAt B W.drew g t so am (some gl) ao cap := h.below hbd
  have hnil := wmap_some gl
  have c4 : W.cell? ⟨g, 4, none⟩ = some (.map (some gl)) := (tx_cells (h.below hb)).2.2.2.2
  have o0 := box_cell hob 0 _ rfl
  have o1 := box_cell hob 1 _ rfl
  have o2 := box_cell hob 2 _ rfl
  obtain ⟨D, hG⟩ : ∃ D, WrsG W.drew gl t.lim t.ws D := by
    rcases hd.wrs with ⟨e, _⟩ | ⟨gl', D, e, hG⟩
    · cases e
    · cases e
      exact ⟨D, hG⟩
  obtain ⟨es, ec, hes, _⟩ := id hG.map
  obtain ⟨w5, hrun, hm5, ht5⟩ := hG.map.store lawStr Try.underlying75 (by unfold maxLen; omega) (WideMaps.keyOf_string_mk Try.underlying9 (big_le hk)) (val := .agg #[.string x.key, .string x.val, .bool x.del]) (d := .held (wrtV x)) (ps := []) rfl
  have hg5 := ht5.grown
  have hFgl : F gl := hf gl (.inr (.inr (.inl rfl)))
  have hout : Out F w w5 := (Out.of_below hbd).next (.of_grown hg5 hFgl)
  have hbB : Below B w w5 := hout.below (fun i hi => (hF i hi).1) (by omega)
  have hkeep : ∀ i, i < w.heap.size → i ≠ gl → w5.heap[i]? = w.heap[i]? := fun i hi hne => (hg5.block i (Nat.lt_of_lt_of_le hi hbd.size) (fun e => by cases e; exact hne rfl)).trans (hbd.block i hi)
  have hend : TxAt B w5 g (writeN t x) so am (some gl) ao cap :=
    ⟨(hkeep g hgl (box_ne hd.box hes)).trans h.box, hgB, h.sto.next hbB, (h.ask.mono (Nat.le_succ _)).same (fun i es' c' hi e => (hkeep i (h.ask.lt hi) (fun e2 => h.apart i hi (by rw [e2]))).trans e), own_keep h.row (fun a ha => hkeep _ (row_lt h.row ha).2 (row_ne hd.row hes ha)), .inr ⟨gl, _, rfl, wrsG_put h.ok.ws hG.map.isMap hG.has hG.at_ hm5⟩, h.aB, h.wB, h.apart, h.ok.write hk hl⟩
  have hpost : HoldT B w5 g (writeN t x) so (Grw F w w5) := ⟨⟨am, some gl, ao, cap, hend, fun i hi => .inl (hf i hi)⟩, Grw.lt (by omega) hF hout.size⟩
  clear h hd hob hG hes hm5 ht5 hg5 hb hbd hbB hkeep hend hFgl
  go_enter Try.func43, Try.ntmps43
  go_wp2
  try rw [hW]
  go_region
  all_goals go_wp2
  all_goals go_end0
  all_goals exact ⟨rfl, hpost, hout⟩
set_option maxRecDepth 100000 in
set_option maxHeartbeats 1000000 in
theorem write_new (B g cap : Nat) (t : Tx) (so am : Option Nat) (ao : Option Addr) (x : Wrt) (hk : x.key.size ≤ 900000) (hl : t.lim ≤ 999) (F : Nat → Prop) (w : World) (h : TxAt B w g t so am none ao cap) (hf : ∀ i, footT g am none ao i → F i) (hF : ∀ i, F i → B ≤ i ∧ i < w.heap.size) :
    Calls Try.prog 43 #[.pointer (some ⟨g, 0, none⟩), .agg #[.string x.key, .string x.val, .bool x.del]] w fun e w' => e = .returned (.tuple #[]) ∧ HoldT B w' g (writeN t x) so (Grw F w w') ∧ Out F w w' := by
  have hmm := @run_makeMap Try.prog
  have hgB := h.gB
  have hgl := h.lt
  have hnil := wmap_nil
  have hws : t.ws = [] := by
    rcases h.wrs with ⟨_, h0⟩ | ⟨gl', D, e, hG⟩
    · exact h0
    · cases e
  have hb : Below w.heap.size w (w.alloc (wrtBox x)) := (Below.refl _ w).alloc (Nat.le_refl _) _
  have hob := heap_new w (wrtBox x)
  have h1 := h.below hb
  have c4 := (tx_cells h1).2.2.2.2
  have hsz : (w.alloc (wrtBox x)).heap.size = w.heap.size + 1 := by simp
  have hbx2 := alloc_box (.map #[] 0) h1.box
  have c4' := box_cell hbx2 4 _ rfl
  have f4' := box_open hbx2 4
  have hob2 := alloc_box (.map #[] 0) hob
  have hmade := World.ownsMap_made (H := Value) (w.alloc (wrtBox x)) Try.prog 9 selfR
  have hne : (w.alloc (wrtBox x)).heap.size ≠ g := by omega
  obtain ⟨X, hX⟩ : ∃ X, ((w.alloc (wrtBox x)).alloc (.map #[] 0)).setCell ⟨g, 4, none⟩ (.map (some (w.heap.size + 1))) = X := ⟨_, rfl⟩
  have hmX : OwnM X.drew (w.heap.size + 1) 0 (.map []) := by
    rw [← hX, ← hsz]
    exact (hmade.setCell (by simpa using hne) _).drew
  have hbX : X.heap[g]? = some (.cells #[stoV so, .int .i64 t.snap, .map am, .slice ao t.rngs.length cap, .map (some (w.heap.size + 1))] 77 (0, 0)) := by
    rw [← hX]
    exact set_heap (i := 4) hbx2 _
  have hoX : X.heap[w.heap.size]? = some (wrtBox x) := by
    rw [← hX, Below.heap_setCell _ _ _ _ (by show w.heap.size ≠ g; omega)]
    exact hob2
  have x4 := box_cell hbX 4 _ rfl
  have x0 := box_cell hoX 0 _ rfl
  have x1 := box_cell hoX 1 _ rfl
  have x2 := box_cell hoX 2 _ rfl
  obtain ⟨w5, hrun, hm5, ht5⟩ := hmX.store lawStr Try.underlying75 (by decide) (WideMaps.keyOf_string_mk Try.underlying9 (big_le hk)) (val := .agg #[.string x.key, .string x.val, .bool x.del]) (d := .held (wrtV x)) (ps := []) rfl
  have hg5 := ht5.grown
  have hFg : F g := hf g (.inl rfl)
  have hoX2 : Out F w X.drew := by
    refine Out.next (b := X) ?_ (.of_below (Below.refl _ X).drew)
    rw [← hX]
    exact Out.next (.of_below (below_next hb (Nat.le_refl _) ((Below.refl _ _).alloc (Nat.le_refl _) _))) (.of_grown (grown_set _ g 4 _) hFg)
  have hout : Out F w w5 := hoX2.new hg5 (by omega)
  have hbB : Below B w w5 := hout.below (fun i hi => (hF i hi).1) (by omega)
  have hkX : ∀ i, i < w.heap.size → i ≠ g → w5.heap[i]? = w.heap[i]? := fun i hi hne => by
    have e1 : X.heap[i]? = w.heap[i]? := by
      rw [← hX, Below.heap_setCell _ _ _ _ hne, Below.heap_alloc _ _ i (by simp; omega), Below.heap_alloc _ _ i hi]
    have hXs : w.heap.size ≤ X.drew.heap.size := hoX2.size
    exact (hg5.block i (by omega) (fun e => by cases e; omega)).trans e1
  have hend : TxAt B w5 g (writeN t x) so am (some (w.heap.size + 1)) ao cap :=
    ⟨(hg5.block g (Nat.lt_of_lt_of_le hgl hoX2.size) (fun e => by cases e; omega)).trans hbX, hgB, h.sto.next hbB, (h.ask.mono (Nat.le_succ _)).same (fun i es' c' hi e => (hkX i (h.ask.lt hi) (fun e2 => by
        rw [e2, h.box] at e
        cases e)).trans e), own_keep h.row (fun a ha => hkX _ (row_lt h.row ha).2 (row_far h.row h.box (by decide) ha)), .inr ⟨w.heap.size + 1, _, rfl, by
        have hp := wrsG_put (ws := []) (x := x) (by simp [UpW]) hmX.isMap (fun k => by simp [Maps.has]) (fun y hy => by cases hy) (hm5.mono (Nat.succ_le_succ (Nat.zero_le t.lim)))
        show WrsG w5 _ (t.lim + 1) (putW t.ws x) _
        rw [hws]
        exact hp⟩, h.aB, fun i hi => (by cases hi; omega), fun i hi e => (by
        have h2 := h.ask.lt hi
        cases e
        omega), h.ok.write hk hl⟩
  have hpost : HoldT B w5 g (writeN t x) so (Grw F w w5) := ⟨⟨am, some (w.heap.size + 1), ao, cap, hend, by
      rintro i (hi | hi | hi | hi)
      · exact .inl (hf i (.inl hi))
      · exact .inl (hf i (.inr (.inl hi)))
      · cases hi
        have := hm5.lt
        exact .inr ⟨by omega, this⟩
      · exact .inl (hf i (.inr (.inr (.inr hi))))⟩, Grw.lt (by omega) hF hout.size⟩
  clear h h1 hob hob2 hmX hm5 ht5 hg5 hb hbX hoX hkX hbB hmade hbx2 hend hoX2 hFg hws
  go_enter Try.func43, Try.ntmps43
  go_wp2
  try rw [hX]
  go_region
  all_goals go_wp2
  all_goals go_end0
  all_goals exact ⟨rfl, hpost, hout⟩
theorem write_any (B g : Nat) (t : Tx) (so : Option Nat) (x : Wrt) (hk : x.key.size ≤ 900000) (hl : t.lim ≤ 999) (F : Nat → Prop) (w : World) (h : HoldT B w g t so F) :
    Calls Try.prog 43 #[.pointer (some ⟨g, 0, none⟩), .agg #[.string x.key, .string x.val, .bool x.del]] w fun e w' => e = .returned (.tuple #[]) ∧ HoldT B w' g (writeN t x) so (Grw F w w') ∧ Out F w w' := by
  obtain ⟨⟨am, wm, ao, cap, h, hf⟩, hF⟩ := h
  cases wm with
  | none => exact write_new B g cap t so am ao x hk hl F w h hf hF
  | some gl => exact write_old B g gl cap t so am ao x hk hl F w h hf hF
set_option maxRecDepth 100000 in
theorem tput_any (B g : Nat) (t : Tx) (so : Option Nat) (k v : ByteArray) (hk : k.size ≤ 900000) (hl : t.lim ≤ 999) (F : Nat → Prop) (w : World) (h : HoldT B w g t so F) :
    Calls Try.prog 18 #[.pointer (some ⟨g, 0, none⟩), .string k, .string v] w fun e w' => e = .returned (.tuple #[]) ∧ HoldT B w' g (writeN t ⟨k, v, false⟩) so (Grw F w w') ∧ Out F w w' := by
  have hc := write_any B g t so ⟨k, v, false⟩ hk hl F w h
  clear h
  go_enter Try.func18, Try.ntmps18
  go_wp2_with (first
    | (go_at_call 43; refine hc.mono ?_; rintro e w1 ⟨rfl, h1, h2⟩))
  go_end0
  exact ⟨rfl, h1, h2⟩
set_option maxRecDepth 100000 in
theorem tdel_any (B g : Nat) (t : Tx) (so : Option Nat) (k : ByteArray) (hk : k.size ≤ 900000) (hl : t.lim ≤ 999) (F : Nat → Prop) (w : World) (h : HoldT B w g t so F) :
    Calls Try.prog 20 #[.pointer (some ⟨g, 0, none⟩), .string k] w fun e w' => e = .returned (.tuple #[]) ∧ HoldT B w' g (writeN t ⟨k, ⟨#[]⟩, true⟩) so (Grw F w w') ∧ Out F w w' := by
  have hc := write_any B g t so ⟨k, ⟨#[]⟩, true⟩ hk hl F w h
  clear h
  go_enter Try.func20, Try.ntmps20
  go_wp2_with (first
    | (go_at_call 43; refine hc.mono ?_; rintro e w1 ⟨rfl, h1, h2⟩))
  go_end0
  exact ⟨rfl, h1, h2⟩
end Go.Proofs.Ytdmkmhjalcfchaa
