/-
  Contracts: what is to be committed (Command).
-/
import Derived.Test.YtdmkmhjalcfchaaTxG
namespace Go.Proofs.Ytdmkmhjalcfchaa
open Go.RowKit Go.Maps Num
open scoped Classical
set_option linter.unusedVariables false
set_option maxRecDepth 100000

/-! slices.Clone of ranges. -/
theorem own_emptyR (w : World) : (w.alloc (.cells #[] 64)).ownsRow w.heap.size 64 2 (.slice (some ⟨w.heap.size, 0, none⟩) 0 0) 0 [] := World.ownsRow_made w #[] 0 (Nat.le_refl _) (Nat.zero_le _) (by simp)
set_option maxHeartbeats 1000000 in
theorem cloneR_any (ao : Option Addr) (cap : Nat) (l : List Rng) (B : Nat) (hlen : l.length ≤ 1000) (w : World) (hr : w.ownsRow B 64 2 (.slice ao l.length cap) l.length (rngCells l)) :
    Calls Try.prog 51 #[.slice ao l.length cap] w fun e w' => ∃ ao1 cap1, e = .returned (.slice ao1 l.length cap1) ∧ w'.ownsRow w.heap.size 64 2 (.slice ao1 l.length cap1) l.length (rngCells l) ∧ Below w.heap.size w w' := by
  have q22 : ∀ (w : World) (a : Option Addr) (n c n' c' : Nat), (binOp .eql 44 (.slice a n c) (.slice none n' c')).run Try.prog w = .ok (.bool a.isNone) w := fun w a n c n' c' => Lib.run_eql_slice_nil w _ _ a n c n' c' Try.underlying44
  rcases hr.2 with ⟨hv, h0⟩ | ⟨g, cap', cur, hv, hB, hg, hc⟩
  · have hl : l = [] := List.eq_nil_of_length_eq_zero h0
    subst hl
    cases hv
    go_enter Try.func51, Try.ntmps51
    go_wp2
    go_ret
    exact ⟨none, 0, rfl, World.ownsRow_nil _ _ _ _, Below.refl _ _⟩
  · cases hv
    obtain ⟨i0, hi, hz0, hz1, hz2⟩ := info_parts Try.infoRng
    have hcells : ∀ j u, (rngCells l)[j]? = some u → (w.alloc (.cells #[] 64)).cell? ((⟨g, 0, none⟩ : Addr).add j) = some u := fun j u hj => alloc_cell _ (hr.cells (g := g) rfl j u hj)
    have hcl := rngCells_len l
    have hc1 := rngCells_one l
    clear hr hg hc
    generalize rngCells l = cs at *
    generalize l.length = n at *
    go_enter Try.func51, Try.ntmps51
    go_wp2_with (first
      | (at_builtin; refine wpList_append_own _ rfl _ _ 44 rfl w.heap.size 64 i0 _ 2 32 Try.underlying44 hi hz0 hz1 hz2 rfl (by decide) _ 0 [] rfl (own_emptyR w) ⟨g, 0, none⟩ n _ cs rfl hcl hcells hc1 (by unfold maxLen; omega) (by omega) (by simp) ?_; intro v1 w1 hown1 hgrow1 _))
    rw [Nat.zero_add, List.nil_append] at hown1
    obtain ⟨ao1, m1, cap1, hv1⟩ := own_shape hown1
    subst hv1
    obtain rfl : m1 = n := by
      rcases hown1.2 with ⟨hv, h0⟩ | ⟨_, _, _, hv, _⟩
      · cases hv
        exact h0.symm
      · cases hv
        rfl
    go_ret
    exact ⟨_, _, rfl, hown1, below_made hgrow1⟩
/-! Several stores into one box. -/
def Num.setsC (w : World) (b : Nat) : List (Nat × Value) → World
  | [] => w
  | p :: l => setsC (w.setCell ⟨b, p.1, none⟩ p.2) b l
theorem setsC_box {b : Nat} {t : TypeId} : ∀ (l : List (Nat × Value)) {w : World} {cs : Array Value}, w.heap[b]? = some (.cells cs t (0, 0)) → (setsC w b l).heap[b]? = some (.cells (l.foldl (fun c p => c.setIfInBounds p.1 p.2) cs) t (0, 0))
  | [], _, _, h => h
  | p :: l, w, cs, h => setsC_box l (set_heap (i := p.1) h p.2)
theorem setsC_keep {b i : Nat} (hi : i ≠ b) : ∀ (l : List (Nat × Value)) (w : World), (setsC w b l).heap[i]? = w.heap[i]?
  | [], _ => rfl
  | p :: l, w => (setsC_keep hi l _).trans (Below.heap_setCell _ _ _ _ hi)
theorem setsC_grown (b : Nat) : ∀ (l : List (Nat × Value)) (w : World), w.grownBy (setsC w b l) (some b)
  | [], w => ⟨rfl, rfl, rfl, Nat.le_refl _, fun _ _ _ => rfl⟩
  | p :: l, w => by
    have h1 := grown_set w b p.1 p.2
    have h2 := setsC_grown b l (w.setCell ⟨b, p.1, none⟩ p.2)
    exact ⟨h2.os.trans h1.os, h2.tape.trans h1.tape, h2.output.trans h1.output, Nat.le_trans h1.size h2.size, fun k hk hne => (h2.block k (Nat.lt_of_lt_of_le hk h1.size) hne).trans (h1.block k hk hne)⟩
abbrev Num.cmdBox (snap : Int) (k r x : Value) : Obj := .cells #[.int .i64 0, .int .i64 0, .int .i64 0, .int .i64 snap, k, r, x, .int .i64 0, .int .i64 0, .int .i64 0, .string ⟨#[]⟩, .int .i64 0, .slice none 0 0] 48
abbrev Num.cmdV (snap : Int) (k r x : Value) : Value := .agg #[.int .i64 0, .int .i64 0, .int .i64 0, .int .i64 snap, k, r, x, .int .i64 0, .int .i64 0, .int .i64 0, .string ⟨#[]⟩, .int .i64 0, .slice none 0 0]
theorem own_liesS {w : World} {B : Nat} {v : Value} {l : List ByteArray} (h : w.ownsRow B 9 1 v l.length (strCells l)) : ∃ ao cap, v = .slice ao l.length cap ∧ LiesS w w.heap.size ao l := by
  rcases h.2 with ⟨hv, h0⟩ | ⟨g, cap, cur, hv, _, hg, hcap, _⟩
  · subst hv
    have : l = [] := List.eq_nil_of_length_eq_zero h0
    subst this
    exact ⟨none, 0, rfl, fun i x hx => by simp at hx⟩
  · subst hv
    refine ⟨_, cap, rfl, fun i x hx => ⟨_, rfl, (Array.getElem?_eq_some_iff.1 hg).1, ?_⟩⟩
    have g1 := h.cells (g := g) rfl _ _ (strCells_get hx)
    rw [Nat.mul_one]
    exact g1
/-- What Command leaves. -/
structure Num.CmdEnd (w : World) (t : Tx) (ko ro wo : Option Addr) (kc rc wc : Nat) (X : World) : Prop where
  box : X.heap[w.heap.size]? = some (cmdBox t.snap (.slice ko t.asked.length kc) (.slice ro t.rngs.length rc) (.slice wo t.ws.length wc))
  keys : LiesS X X.heap.size ko t.asked
  rngs : LiesQ X X.heap.size ro t.rngs
  wrts : LiesW X X.heap.size wo t.ws
  below : Below w.heap.size w X
  nk : ∀ a, ko = some a → w.heap.size ≤ a.block
  nr : ∀ a, ro = some a → w.heap.size ≤ a.block
  nw : ∀ a, wo = some a → w.heap.size ≤ a.block
  rowK : X.ownsRow w.heap.size 9 1 (.slice ko t.asked.length kc) t.asked.length (strCells t.asked)
  rowR : X.ownsRow w.heap.size 64 2 (.slice ro t.rngs.length rc) t.rngs.length (rngCells t.rngs)
theorem row_base {n : Nat} {a b : World} (h : Below n a b) : a.heap.size ≤ b.heap.size := h.size
theorem cmd_box {w4 : World} {b : Nat} {t : Tx} {ko ro wo : Option Addr} {kc rc wc : Nat} (bx : w4.heap[b]? = some (cmdBox 0 (.slice none 0 0) (.slice none 0 0) (.slice none 0 0))) : (setsC w4 b [(0, .int .i64 0), (1, .int .i64 0), (2, .int .i64 0), (3, .int .i64 t.snap), (4, .slice ko t.asked.length kc), (5, .slice ro t.rngs.length rc), (6, .slice wo t.ws.length wc), (7, .int .i64 0), (8, .int .i64 0), (9, .int .i64 0), (10, .string ⟨#[]⟩), (11, .int .i64 0), (12, .slice none 0 0)]).heap[b]? = some (cmdBox t.snap (.slice ko t.asked.length kc) (.slice ro t.rngs.length rc) (.slice wo t.ws.length wc)) := by
  obtain ⟨vk, hk⟩ : ∃ v : Value, v = .slice ko t.asked.length kc := ⟨_, rfl⟩
  obtain ⟨vr, hr⟩ : ∃ v : Value, v = .slice ro t.rngs.length rc := ⟨_, rfl⟩
  obtain ⟨vw, hw⟩ : ∃ v : Value, v = .slice wo t.ws.length wc := ⟨_, rfl⟩
  rw [← hk, ← hr, ← hw, setsC_box _ bx]
  simp only [List.foldl_cons, List.foldl_nil, List.setIfInBounds_toArray, List.set_cons_zero, List.set_cons_succ]
theorem cmd_end {l : List (Nat × Value)} {w w2 w3 w4 : World} {t : Tx} {ko ro wo : Option Addr} {kc rc wc N : Nat} (hN : w.heap.size < N) (hN2 : N ≤ w2.heap.size) (bx : (setsC w4 w.heap.size l).heap[w.heap.size]? = some (cmdBox t.snap (.slice ko t.asked.length kc) (.slice ro t.rngs.length rc) (.slice wo t.ws.length wc)))
    (h2 : w2.ownsRow N 9 1 (.slice ko t.asked.length kc) t.asked.length (strCells t.asked)) (h3 : w3.ownsRow w2.heap.size 64 2 (.slice ro t.rngs.length rc) t.rngs.length (rngCells t.rngs)) (h4 : w4.ownsRow w3.heap.size 54 3 (.slice wo t.ws.length wc) t.ws.length (wrtCells t.ws)) (hb3 : Below w2.heap.size w2 w3) (hb4 : Below w3.heap.size w3 w4) (hw : Below w.heap.size w w4) :
    CmdEnd w t ko ro wo kc rc wc (setsC w4 w.heap.size l) := by
  have hs3 := hb3.size
  have r2 := own_keep (own_below (own_below h2 hb3) hb4) (w' := setsC w4 w.heap.size l) (fun a ha => setsC_keep (by have := (row_lt h2 ha).1; omega) _ _)
  have r3 := own_keep (own_below h3 hb4) (w' := setsC w4 w.heap.size l) (fun a ha => setsC_keep (by have := (row_lt h3 ha).1; omega) _ _)
  have r4 := own_keep h4 (w' := setsC w4 w.heap.size l) (fun a ha => setsC_keep (by have := (row_lt h4 ha).1; omega) _ _)
  have hX := setsC_grown w.heap.size l w4
  have hb := bx
  generalize setsC w4 w.heap.size l = X at *
  refine ⟨hb, ?_, ?_, ?_, ?_, fun a ha => by have := (row_lt h2 ha).1; omega, fun a ha => by have := (row_lt h3 ha).1; omega, fun a ha => by have := (row_lt h4 ha).1; omega, own_mono r2 (by omega), own_mono r3 (by omega)⟩
  · obtain ⟨_, _, e, hl⟩ := own_liesS r2
    cases e
    exact hl
  · obtain ⟨_, _, e, hl⟩ := own_liesQ r3
    cases e
    exact hl
  · obtain ⟨_, _, e, hl⟩ := own_liesW r4
    cases e
    exact hl
  · exact hw.trans ⟨hX.os, hX.tape, hX.output, hX.size, fun k hk => hX.block k (by have := hw.size; omega) (fun e => by cases e; omega)⟩
set_option maxRecDepth 100000 in
set_option maxHeartbeats 4000000 in
theorem tcmd_own (B g : Nat) (t : Tx) (so : Option Nat) (F : Nat → Prop) (w : World) (h : HoldT B w g t so F) :
    Calls Try.prog 23 #[.pointer (some ⟨g, 0, none⟩)] w fun e w' => ∃ ko kc ro rc wo wc, e = .returned (cmdV t.snap (.slice ko t.asked.length kc) (.slice ro t.rngs.length rc) (.slice wo t.ws.length wc)) ∧ CmdEnd w t ko ro wo kc rc wc w' := by
  have hH := h
  have hok := h.ok
  obtain ⟨⟨am, wm, ao, cap, hT, hf⟩, hF⟩ := h
  obtain ⟨W, hW⟩ : ∃ W, w.alloc (cmdBox 0 (.slice none 0 0) (.slice none 0 0) (.slice none 0 0)) = W := ⟨_, rfl⟩
  have hbW : Below w.heap.size w W := by rw [← hW]; exact (Below.refl _ w).alloc (Nat.le_refl _) _
  have hbx : W.heap[w.heap.size]? = some (cmdBox 0 (.slice none 0 0) (.slice none 0 0) (.slice none 0 0)) := by rw [← hW]; exact heap_new w _
  have hbWd : Below w.heap.size w W.drew := below_next hbW (Nat.le_refl _) (Below.refl _ W).drew
  obtain ⟨c0x, c1, c2, c3, c4x⟩ := tx_cells hT
  have hcell : ∀ w1, Below w.heap.size w w1 → w1.cell? ⟨g, 1, none⟩ = some (.int .i64 t.snap) ∧ w1.cell? ⟨g, 2, none⟩ = some (.map am) ∧ w1.cell? ⟨g, 3, none⟩ = some (.slice ao t.rngs.length cap) := fun w1 hb => ⟨(hb.cell (cell_lt c1)).trans c1, (hb.cell (cell_lt c2)).trans c2, (hb.cell (cell_lt c3)).trans c3⟩
  obtain ⟨k1, k2, k3⟩ := hcell W hbW
  have hl1 := hok.limA
  have hl2 := hok.limR
  have hl3 := hok.lim
  have hsort := sortedA_any am t.lim t.asked (by omega) hok.asked W.drew (by
    rcases (hT.below hbWd).ask with e | ⟨gm, D, e, hG⟩
    · exact .inl e
    · exact .inr ⟨gm, D, e, hG.map, hG.has⟩)
  have hsort' : ∀ w1, w1 = W.drew.alloc (.cells #[.map am] 74) → _ := fun w1 hq => hq ▸ hsort
  have hclone : ∀ w1, Below w.heap.size w w1 → _ := fun w1 hb => cloneR_any ao cap t.rngs B (by omega) w1 (hT.below hb).row
  have hown : ∀ w1, Below w.heap.size w w1 → _ := fun w1 hb => town_any B g t so ⟨#[]⟩ ⟨#[]⟩ F w1 (hH.below hb)
  rw [ownW_all] at hown
  clear hsort hok hT hH hl1 hl2 hl3 c0x c1 c2 c3 c4x
  go_enter Try.func23, Try.ntmps23
  go_wp2_with fail
  try rw [hW]
  rename_i Q0 K0 hK0
  have HWS : Hid (W.drew.heap.size = w.heap.size + 1) := by
    show W.heap.size = _
    rw [← hW]
    simp
  suffices key : ∀ (X : World) (ko ro wo : Option Addr) (kc rc wc : Nat), CmdEnd w t ko ro wo kc rc wc X →
      Exit.then K0 Q0 Exit.normal { tmps := #[.pointer (some ⟨g, 0, none⟩), undef, .pointer (some ⟨w.heap.size, 0, none⟩), .pointer (some ⟨g, 0, none⟩), .bool false, undef, .pointer (some ⟨g, 0, none⟩), .pointer (some ⟨g, 0, none⟩), .pointer (some ⟨g, 1, none⟩), .int .i64 t.snap, .pointer (some ⟨g, 0, none⟩), .pointer (some ⟨g, 0, none⟩), .pointer (some ⟨g, 2, none⟩), .map am, .func (.func 64) #[] #[.pointer (some ⟨W.heap.size, 0, none⟩)], .slice ko t.asked.length kc, .pointer (some ⟨g, 0, none⟩), .pointer (some ⟨g, 0, none⟩), .pointer (some ⟨g, 3, none⟩), .slice ao t.rngs.length cap, .slice ro t.rngs.length rc, .pointer (some ⟨g, 0, none⟩), .slice wo t.ws.length wc, cmdV t.snap (.slice ko t.asked.length kc) (.slice ro t.rngs.length rc) (.slice wo t.ws.length wc)], defers := [] } X by
   go_region_law (first
     | (go_simp; go_at_call 41; have tk := hb3; refine (hown _ hw3).mono ?_; rintro e w4 ⟨wo, wc, rfl, hrow4, hb4⟩
        have hw4 := below_next hw3 (Nat.le_refl _) hb4
        obtain ⟨o1, o2, o3⟩ := hcell w4 hw4
        have bx4 := below_box hb4 bx3
        have fz4 : ∀ i, w4.frozen? ⟨w.heap.size, i, none⟩ = false := fun i => box_open bx4 i
        have z0 := box_cell bx4 0 _ rfl
        have z1 := box_cell bx4 1 _ rfl
        have z2 := box_cell bx4 2 _ rfl
        have z3 := box_cell bx4 3 _ rfl
        have z4 := box_cell bx4 4 _ rfl
        have z5 := box_cell bx4 5 _ rfl
        have z6 := box_cell bx4 6 _ rfl
        have z7 := box_cell bx4 7 _ rfl
        have z8 := box_cell bx4 8 _ rfl
        have z9 := box_cell bx4 9 _ rfl
        have z10 := box_cell bx4 10 _ rfl
        have z11 := box_cell bx4 11 _ rfl
        have z12 := box_cell bx4 12 _ rfl)
     | (go_simp; go_at_call 51; have tk := hb2; refine (hclone _ hw2).mono ?_; rintro e w3 ⟨ro, rc, rfl, hrow3, hb3⟩
        have hw3 := below_next hw2 (Nat.le_refl _) hb3
        obtain ⟨n1, n2, n3⟩ := hcell w3 hw3
        have bx3 := below_box hb3 bx2)
     | (go_simp; go_at_call 49; have tk := HQ; refine (hsort' _ HQ.out).mono ?_; rintro e w2 ⟨ko, kc, rfl, hrow2, hb2⟩
        have hw2 := below_next hbWd (Nat.le_refl _) hb2
        obtain ⟨m1, m2, m3⟩ := hcell w2 hw2
        have bx2 := below_box hb2 (heap_drew hbx))
     | (go_simp; go_at_call 50; refine (mapsKeysA am _).mono ?_; rintro e w1 ⟨rfl, hq1⟩
        have hw1 : Below w.heap.size w w1 := by rw [hq1]; exact hbWd.alloc hbWd.size _
        obtain ⟨l1, l2, l3⟩ := hcell w1 hw1
        have HQ : Hid (w1 = W.drew.alloc (.cells #[.map am] 74)) := hq1
        clear hq1))
   all_goals exact key (setsC w4 w.heap.size [(0, .int .i64 0), (1, .int .i64 0), (2, .int .i64 0), (3, .int .i64 t.snap), (4, .slice ko t.asked.length kc), (5, .slice ro t.rngs.length rc), (6, .slice wo t.ws.length wc), (7, .int .i64 0), (8, .int .i64 0), (9, .int .i64 0), (10, .string ⟨#[]⟩), (11, .int .i64 0), (12, .slice none 0 0)]) ko ro wo kc rc wc (cmd_end (N := W.drew.heap.size) (by have := HWS.out; omega) (row_base hb2) (cmd_box bx4) hrow2 hrow3 hrow4 hb3 hb4 hw4)
  clear hsort' hclone hown hbx hbWd hbW hcell k1 k2 k3 hf hF
  intro X ko ro wo kc rc wc hE
  have q0 := box_cell hE.box 0 _ rfl
  have q1 := box_cell hE.box 1 _ rfl
  have q2 := box_cell hE.box 2 _ rfl
  have q3 := box_cell hE.box 3 _ rfl
  have q4 := box_cell hE.box 4 _ rfl
  have q5 := box_cell hE.box 5 _ rfl
  have q6 := box_cell hE.box 6 _ rfl
  have q7 := box_cell hE.box 7 _ rfl
  have q8 := box_cell hE.box 8 _ rfl
  have q9 := box_cell hE.box 9 _ rfl
  have q10 := box_cell hE.box 10 _ rfl
  have q11 := box_cell hE.box 11 _ rfl
  have q12 := box_cell hE.box 12 _ rfl
  go_wp2
  exact bodyPost_ret (v := cmdV t.snap (.slice ko t.asked.length kc) (.slice ro t.rngs.length rc) (.slice wo t.ws.length wc)) (by simp [results, Try.results23, go_sem, q0, q1, q2, q3, q4, q5, q6, q7, q8, q9, q10, q11, q12]) rfl ⟨ko, kc, ro, rc, wo, wc, rfl, hE⟩
theorem tcmd_any (B g : Nat) (t : Tx) (so : Option Nat) (F : Nat → Prop) (w : World) (h : HoldT B w g t so F) :
    Calls Try.prog 23 #[.pointer (some ⟨g, 0, none⟩)] w fun e w' => ∃ ko kc ro rc wo wc, e = .returned (cmdV t.snap (.slice ko t.asked.length kc) (.slice ro t.rngs.length rc) (.slice wo t.ws.length wc)) ∧ LiesS w' w'.heap.size ko t.asked ∧ LiesQ w' w'.heap.size ro t.rngs ∧ LiesW w' w'.heap.size wo t.ws ∧ Below w.heap.size w w' ∧ ∀ a, wo = some a → w.heap.size ≤ a.block := by
  refine (tcmd_own B g t so F w h).mono ?_
  rintro e w' ⟨ko, kc, ro, rc, wo, wc, rfl, hE⟩
  exact ⟨ko, kc, ro, rc, wo, wc, rfl, hE.keys, hE.rngs, hE.wrts, hE.below, hE.nw⟩
end Go.Proofs.Ytdmkmhjalcfchaa
