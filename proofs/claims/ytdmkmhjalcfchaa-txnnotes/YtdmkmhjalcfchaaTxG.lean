/-
  Contracts: what a transaction reads between two keys (Scan).
-/
import Derived.Test.YtdmkmhjalcfchaaTxF
import Derived.Deep.RegionHeldLaw
namespace Go.Proofs.Ytdmkmhjalcfchaa
open Go.RowKit Go.Maps Num
open scoped Classical
set_option linter.unusedVariables false
set_option maxRecDepth 100000

theorem row_cap {w : World} {B e sz n m cap : Nat} {ao : Option Addr} {xs : List Value} (h : w.ownsRow B e sz (.slice ao m cap) n xs) : n ≤ cap := by
  rcases h.2 with ⟨hv, h0⟩ | ⟨g, cap', cur, hv, _, _, hc, _⟩
  · cases hv
    omega
  · cases hv
    exact hc
theorem mrg_mem : ∀ (n : Nat) (ps : List Pr) (xs : List Wrt), ps.length + xs.length ≤ n → ∀ y ∈ mrg ps xs, y ∈ ps ∨ ∃ x ∈ xs, x.key = y.key
  | n, [], [], _, y, hy => by rw [mrg_nil] at hy; cases hy
  | n, p :: ps, [], _, y, hy => by rw [mrg_own] at hy; exact .inl hy
  | 0, [], x :: xs, h, _, _ => by simp at h
  | n + 1, [], x :: xs, h, y, hy => by
    rw [mrg_left] at hy
    rcases List.mem_append.1 hy with hy | hy
    · unfold tellW at hy
      split at hy
      · cases hy
      · rw [List.mem_singleton.1 hy]
        exact .inr ⟨x, by simp, rfl⟩
    · rcases mrg_mem n [] xs (by simp at h ⊢; omega) y hy with h1 | ⟨z, hz, e⟩
      · cases h1
      · exact .inr ⟨z, by simp [hz], e⟩
  | 0, p :: ps, x :: xs, h, _, _ => by simp at h
  | n + 1, p :: ps, x :: xs, h, y, hy => by
    rcases kl_tri x.key p.key with hk | hk | hk
    · rw [mrg_lt hk] at hy
      rcases List.mem_append.1 hy with hy | hy
      · unfold tellW at hy
        split at hy
        · cases hy
        · rw [List.mem_singleton.1 hy]
          exact .inr ⟨x, by simp, rfl⟩
      · rcases mrg_mem n (p :: ps) xs (by simp at h ⊢; omega) y hy with h1 | ⟨z, hz, e⟩
        · exact .inl h1
        · exact .inr ⟨z, by simp [hz], e⟩
    · rw [mrg_same hk] at hy
      rcases mrg_mem n ps (x :: xs) (by simp at h ⊢; omega) y hy with h1 | h1
      · exact .inl (by simp [h1])
      · exact .inr h1
    · rw [mrg_gt hk] at hy
      rcases List.mem_cons.1 hy with h1 | hy
      · exact .inl (by simp [h1])
      · rcases mrg_mem n ps (x :: xs) (by simp at h ⊢; omega) y hy with h1 | h1
        · exact .inl (by simp [h1])
        · exact .inr h1
theorem scanX_small {t : Tx} (h : TxOk t) {lo hi : ByteArray} {n : Int} {r : List Pr} (hr : ScanIs t.st.vs t.snap lo hi r) : (∀ x ∈ scanX t lo hi n r, x.key.size ≤ 900000) ∧ (scanX t lo hi n r).length ≤ 1500 := by
  have hf := scan_few hr
  have hv := h.vs
  have hw1 := h.limW
  have hw2 := h.lim
  have ho : (ownW t.ws lo hi).length ≤ t.ws.length := List.length_filter_le _ _
  constructor
  · intro x hx
    rcases mrg_mem _ _ _ (Nat.le_refl _) x (List.mem_of_mem_take hx) with h1 | ⟨y, hy, e⟩
    · have hne := getV_key ((hr.2 x).1 h1).2
      obtain ⟨v, hv⟩ := List.exists_mem_of_ne_nil _ hne
      obtain ⟨h2, h3⟩ := keyV_mem.1 hv
      rw [← h3]
      exact h.smallV v h2
    · rw [← e]
      exact h.small y (List.mem_filter.1 hy).1
  · have := mrg_len _ r (ownW t.ws lo hi) (Nat.le_refl _)
    unfold scanX
    rw [List.length_take]
    omega
set_option maxRecDepth 100000 in
theorem tscan_no (g : Nat) (lo hi : ByteArray) (n : Int) (hn : n < 1) (w : World) :
    Calls Try.prog 16 #[.pointer (some ⟨g, 0, none⟩), .string lo, .string hi, .int .i64 n] w fun e w' => e = .returned (.slice none 0 0) ∧ w' = w := by
  have hn1 : decide (n < 1) = true := decide_eq_true hn
  go_enter Try.func16, Try.ntmps16
  go_wp2
  go_ret
  exact ⟨rfl, rfl⟩
set_option maxRecDepth 100000 in
set_option maxHeartbeats 2000000 in
theorem tscan_yes (B g : Nat) (t : Tx) (so : Option Nat) (lo hi : ByteArray) (n : Int) (hn1 : 1 ≤ n) (hl : t.lim ≤ 999) (r : List Pr) (hr : ScanIs t.st.vs t.snap lo hi r) (F : Nat → Prop) (w : World) (h : HoldT B w g t so F) :
    Calls Try.prog 16 #[.pointer (some ⟨g, 0, none⟩), .string lo, .string hi, .int .i64 n] w fun e w' => ∃ ao cap, e = .returned (.slice ao (scanX t lo hi n r).length cap) ∧ w'.ownsRow w.heap.size 52 2 (.slice ao (scanX t lo hi n r).length cap) (scanX t lo hi n r).length (prCells (scanX t lo hi n r)) ∧ HoldT B w' g (scanN t lo hi n r) so (Grw F w w') ∧ Out F w w' := by
  have hok := h.ok
  obtain ⟨hks, hlen⟩ := scanX_small (n := n) hok hr
  have hfew := scan_few hr
  have hvs := hok.vs
  have howl : (ownW t.ws lo hi).length ≤ 1000 := by
    have h1 : (ownW t.ws lo hi).length ≤ t.ws.length := List.length_filter_le _ _
    have h2 := hok.limW
    have h3 := hok.lim
    omega
  have hgB := h.gB.1
  have hgl := h.gB.2
  have hsize : ∀ w1, Below w.heap.size w w1 → Calls Try.prog 26 #[stoV so] w1 fun e w' => e = .returned (.int .i64 (t.st.vs.length : Int)) ∧ w' = w1 := fun w1 hb => stoSize_any B so t.st w1 (h.below hb).sto
  have hscan : ∀ w1, Below w.heap.size w w1 → Calls Try.prog 25 #[stoV so, .int .i64 t.snap, .string lo, .string hi, .int .i64 (t.st.vs.length : Int)] w1 fun e w' => ∃ ao cap, e = .returned (.slice ao r.length cap) ∧ w'.ownsRow w1.heap.size 52 2 (.slice ao r.length cap) r.length (prCells r) ∧ Below w1.heap.size w1 w' := fun w1 hb => stoScan_any B so t.st t.snap lo hi hvs w1 (h.below hb).sto r hr
  have hown : ∀ w1, Below w.heap.size w w1 → _ := fun w1 hb => town_any B g t so lo hi F w1 (h.below hb)
  obtain ⟨⟨am, wm, ao, cap, hT, hf⟩, hF⟩ := h
  obtain ⟨c0, c1, _, c3, _⟩ := tx_cells hT
  have hmrg : ∀ w1 po pc xo xc, LiesPr w1 w1.heap.size po r → LiesW w1 w1.heap.size xo (ownW t.ws lo hi) → r.length ≤ pc → (ownW t.ws lo hi).length ≤ xc → Calls Try.prog 40 #[.slice po r.length pc, .slice xo (ownW t.ws lo hi).length xc, .int .i64 n] w1 fun e w' => ∃ ao cap, e = .returned (.slice ao (scanX t lo hi n r).length cap) ∧ w'.ownsRow w1.heap.size 52 2 (.slice ao (scanX t lo hi n r).length cap) (scanX t lo hi n r).length (prCells (scanX t lo hi n r)) ∧ Below w1.heap.size w1 w' := fun w1 po pc xo xc h1 h2 h3 h4 => merged_any r (ownW t.ws lo hi) po xo pc xc n (by omega) howl h3 h4 w1 h1 h2
  have hN : scanN t lo hi n r = { t with rngs := t.rngs ++ [seenR lo hi (scanX t lo hi n r) n], lim := t.lim + 1 } := rfl
  rw [hN]
  clear hN
  generalize scanX t lo hi n r = told at *
  have hseen : ∀ w1 ao2 cap2, LiesPr w1 w1.heap.size ao2 told → _ := fun w1 ao2 cap2 hl2 => seen_any lo hi told n hn1 ao2 cap2 (by omega) hks w1 hl2
  obtain ⟨sr, hsr⟩ : ∃ sr, seenR lo hi told n = sr := ⟨_, rfl⟩
  rw [hsr] at hseen ⊢
  generalize ownW t.ws lo hi = xs at *
  obtain ⟨po, hpo⟩ : ∃ po, stoV so = .pointer po := ⟨_, rfl⟩
  rw [hpo] at c0 hsize hscan
  have hbd : Below w.heap.size w w.drew := (Below.refl _ w).drew
  have hkp : ∀ w1, Below w.drew.heap.size w.drew w1 → w1.cell? ⟨g, 0, none⟩ = some (.pointer po) ∧ w1.cell? ⟨g, 1, none⟩ = some (.int .i64 t.snap) ∧ Below w.heap.size w w1 := fun w1 hb1 => by
    have h0 := hbd.trans hb1
    exact ⟨(h0.cell (cell_lt c0)).trans c0, (h0.cell (cell_lt c1)).trans c1, h0⟩
  have hpost : ∀ w5, Below w.heap.size w w5 → TxAt B (w5.alloc (rngBox sr)) g t so am wm ao cap := fun w5 h5 => hT.below (h5.alloc h5.size _)
  have hn2 : decide (n < 1) = false := decide_eq_false (by omega)
  generalize t.st.vs.length = vl at *
  clear hr hks hfew hT hpo hsr
  go_enter Try.func16, Try.ntmps16
  go_wp2_with fail
  go_region_held_law (fun w' => w'.cell? ⟨g, 0, none⟩ = some (.pointer po) ∧ w'.cell? ⟨g, 1, none⟩ = some (.int .i64 t.snap) ∧ Below w.heap.size w w') (first | exact ⟨c0, c1, hbd⟩ | exact hkp _ hb2)
    (first
      | (go_at_call 26; refine (hsize _ hbd).mono ?_; rintro e w1 ⟨rfl, hq⟩; subst hq)
      | (go_at_call 25; refine (hscan _ hbd).mono ?_; rintro e w2 ⟨ao1, cap1, rfl, hrow2, hb2⟩))
  have hbw2 : Below w.heap.size w w2 := hbd.trans hb2
  go_wp2_with (first
    | (go_at_call 41; refine (hown _ hbw2).mono ?_; rintro e w3 ⟨xo, xc, rfl, hrow3, hb3⟩
       have hbw3 := below_next hbw2 (Nat.le_refl _) hb3
       have hrow2' := own_below hrow2 hb3)
    | (go_at_call 40; refine (hmrg w3 ao1 cap1 xo xc (by
         obtain ⟨_, _, e, hl, _⟩ := own_lies hrow2'
         cases e
         exact hl) (by
         obtain ⟨_, _, e, hl⟩ := own_liesW hrow3
         cases e
         exact hl) (row_cap hrow2') (row_cap hrow3)).mono ?_; rintro e w4 ⟨ao4, cap4, rfl, hrow4, hb4⟩))
  have hbw4 : Below w.heap.size w w4 := below_next hbw3 (Nat.le_refl _) hb4
  have hbw4d : Below w.heap.size w w4.drew := below_next hbw4 (Nat.le_refl _) (Below.refl _ w4).drew
  have c34 : w4.cell? ⟨g, 3, none⟩ = some (.slice ao t.rngs.length cap) := (hbw4.cell (cell_lt c3)).trans c3
  have hrow4w := own_mono hrow4 hbw3.size
  have hsc := hseen w4.drew ao4 cap4 (by
    obtain ⟨_, _, e, hl4, _⟩ := own_lies (own_below hrow4 (Below.refl _ w4).drew)
    cases e
    exact hl4)
  clear hseen hmrg hown hscan hsize hkp hrow2 hrow3 hrow2' hb2 hb3 hb4 hbw2 hbw3 hrow4 c0 c1
  go_wp2_with fail
  go_region_law (first
    | (go_simp; go_at_call 42; refine hsc.mono ?_; rintro e w5 ⟨rfl, hb5⟩
       have hbw5 : Below w.heap.size w w5 := below_next hbw4d (Nat.le_refl _) hb5
       have hb45 : Below w4.heap.size w4 w5 := (Below.refl _ w4).drew.trans hb5
       have c35 : w5.cell? ⟨g, 3, none⟩ = some (.slice ao t.rngs.length cap) := (hbw5.cell (cell_lt c3)).trans c3
       have c35a := alloc_cell (rngBox sr) c35
       obtain ⟨ao6, cap6, w6, hr6, e6, f6, hT6, hnew6, hout6⟩ := hold_rng (hpost w5 hbw5) sr hl w5.heap.size (heap_new w5 _))
    | (refine step_app_run rfl (.tmp 44) (.tmp 50) 44 rfl (.slice ao t.rngs.length cap) (.slice (some ⟨w5.heap.size, 0, none⟩) 1 1) (by simp [Act.eval]) (by simp [Act.eval]) hr6 ?_))
  all_goals
    have hs5 := hbw5.size
    have hs6 : (w5.alloc (rngBox sr)).heap.size ≤ w6.heap.size := by
      have := hout6.size
      simpa using this
    have hout : Out F w (w6.setCell ⟨g, 3, none⟩ (.slice ao6 (t.rngs.length + 1) cap6)) := (Out.of_below (hbw5.alloc hbw5.size _)).next (hout6.wide hf)
    have hrowE : (w6.setCell ⟨g, 3, none⟩ (.slice ao6 (t.rngs.length + 1) cap6)).ownsRow w.heap.size 52 2 (.slice ao4 told.length cap4) told.length (prCells told) := by
      refine own_keep ((own_below hrow4w hb45).alloc (rngBox sr)) (fun a ha => ?_)
      have hrl := row_lt hrow4w ha
      refine hout6.keep _ (by have := hb45.size; simp; omega) (fun hfoot => ?_)
      have := (hF _ (hf _ hfoot)).2
      omega
    have hpostE : HoldT B (w6.setCell ⟨g, 3, none⟩ (.slice ao6 (t.rngs.length + 1) cap6)) g { t with rngs := t.rngs ++ [sr], lim := t.lim + 1 } so (Grw F w (w6.setCell ⟨g, 3, none⟩ (.slice ao6 (t.rngs.length + 1) cap6))) := by
      refine ⟨⟨am, wm, ao6, cap6, hT6, ?_⟩, Grw.lt (by omega) hF hout.size⟩
      rintro i (hi | hi | hi | ⟨a, ha, rfl⟩)
      · exact .inl (hf i (.inl hi))
      · exact .inl (hf i (.inr (.inl hi)))
      · exact .inl (hf i (.inr (.inr (.inl hi))))
      · rcases hnew6 a ha with ⟨a0, ha0, hab⟩ | ⟨h1, h2⟩
        · exact .inl (hf _ (.inr (.inr (.inr ⟨a0, ha0, hab⟩))))
        · refine .inr ⟨?_, ?_⟩
          · simp at h1
            omega
          · simpa using h2
    clear hT6 hnew6 hout6 hrow4w
    go_wp2
    go_ret
    exact ⟨ao4, cap4, rfl, hrowE, hpostE, hout⟩
end Go.Proofs.Ytdmkmhjalcfchaa
