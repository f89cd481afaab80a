/-
  Joined:
  Contracts: slices.Delete, at pairs and at pages: in a row of the call's own.
  Pages of the call's own of which one is turned, put in or let go.
-/
import Derived.Test.YtdmkmhjalcfchaaPRow
import Derived.Test.YtdmkmhjalcfchaaPA
namespace Go.Proofs.Ytdmkmhjalcfchaa
open Go.RowKit Num
set_option linter.unusedVariables false
set_option maxRecDepth 100000

set_option maxRecDepth 100000 in
set_option maxHeartbeats 2000000 in
theorem cut_pr (base g C n i j L : Nat) (A M D : List Value) (hAl : A.length = i * 2) (hMl : M.length = (j - i) * 2) (hDl : D.length = (n - j) * 2) (hD1 : ∀ v ∈ D, v.oneCell' = true) (hij : i < j) (hj : j ≤ n) (hn : n ≤ 50000) (hL : L = i + (n - j)) (w : World)
    (hown : w.ownsRow base 52 2 (.slice (some ⟨g, 0, none⟩) n C) n (A ++ M ++ D)) :
    Calls Try.prog 94 #[.slice (some ⟨g, 0, none⟩) n C, .int .i64 (i : Int), .int .i64 (j : Int)] w fun e w' => e = .returned (.slice (some ⟨g, 0, none⟩) L C) ∧ w'.ownsRow base 52 2 (.slice (some ⟨g, 0, none⟩) L C) L (A ++ D) ∧ w.grownBy w' (some g) := by
  obtain ⟨k0, hi0, hz0, hz1, hz2⟩ := info_parts Try.infoPr
  obtain ⟨cur, Z, hg, hb, hnc, hCm, hs, e⟩ := row_open hown
  have hcl : cur.toList.length = C * 2 := by rw [Array.length_toList, hs]
  have hZ : Z.length = (C - n) * 2 := by
    have := hcl
    rw [e] at this
    simp only [List.length_append] at this
    omega
  have hzv : ∀ w, (zeroValue 52).run Try.prog w = .ok (Value.agg #[.string ⟨#[]⟩, .string ⟨#[]⟩]) w := fun w => by simp [zeroValue, typeInfo, hi0, hz0]
  obtain ⟨cur1, hc1⟩ : ∃ cur1 : Array Value, (cur.toList.take (i * 2) ++ D ++ cur.toList.drop (i * 2 + D.length)).toArray = cur1 := ⟨_, rfl⟩
  have hc1l : cur1.toList = A ++ D ++ cur.toList.drop (i * 2 + D.length) := by
    rw [← hc1, List.toList_toArray]
    congr 2
    rw [e, List.append_assoc, List.append_assoc, ← hAl, List.take_left]
  have hc1s : cur1.size = C * 2 := by
    rw [← Array.length_toList, hc1l]
    simp only [List.length_append, List.length_drop]
    omega
  obtain ⟨cur2, hc2⟩ : ∃ cur2 : Array Value, (cur1.toList.take (L * 2) ++ (Builtin.zeroCells (Value.agg #[.string ⟨#[]⟩, .string ⟨#[]⟩]).cells (n - L)).toList ++ cur1.toList.drop (L * 2 + (n - L) * 2)).toArray = cur2 := ⟨_, rfl⟩
  have hc2l : cur2.toList = (A ++ D) ++ ((Builtin.zeroCells (Value.agg #[.string ⟨#[]⟩, .string ⟨#[]⟩]).cells (n - L)).toList ++ cur1.toList.drop (L * 2 + (n - L) * 2)) := by
    rw [← hc2, List.toList_toArray, List.append_assoc]
    congr 1
    rw [hc1l, show L * 2 = (A ++ D).length by rw [List.length_append]; omega, List.take_left]
  have hc2s : cur2.size = C * 2 := by
    rw [← Array.length_toList, hc2l]
    simp only [List.length_append, List.length_drop, Array.length_toList, size_zeroCells, show (Value.agg #[.string ⟨#[]⟩, .string ⟨#[]⟩]).cells.size = 2 from rfl]
    omega
  have happ : ∀ (ad : Addr), (ad = ⟨g, j * 2, none⟩ ∨ D = []) → ∀ ty c, (Builtin.append_ #[22, 22] ty #[.slice (some ⟨g, 0, none⟩) i C, .slice (some ad) (n - j) c]).run Try.prog w.drew = .ok (.slice (some ⟨g, 0, none⟩) L C) (w.drew.setRow g cur1) := fun ad had ty c => by
    have h := run_append_room (P := Try.prog) w.drew 22 ty 52 k0 Try.underlying22 hi0 g i C cur hg ad (n - j) c D (by rw [hz1]; exact hDl) (fun t u hu => by
      rcases had with rfl | rfl
      · rw [Addr.add_lit, cell_of_heap (w := w.drew) hg, e, List.append_assoc, List.append_assoc, ← List.append_assoc, List.getElem?_append_right (by rw [List.length_append]; omega), List.length_append, show j * 2 + t - (A.length + M.length) = t by omega, List.getElem?_append_left (List.getElem?_eq_some_iff.1 hu).1]
        exact hu
      · simp at hu) hD1 (by omega) (by rw [hz1, hDl, hs]; omega)
    rw [hz1, hc1, ← hL] at h
    exact h
  have hclr : ∀ ty c, (Builtin.clear_ #[22] ty #[.slice (some ⟨g, L * 2, none⟩) (n - L) c]).run Try.prog (w.drew.setRow g cur1) = .ok (.tuple #[]) ((w.drew.setRow g cur1).setRow g cur2) := fun ty c => by
    have h := run_clear_sized (w.drew.setRow g cur1) 22 ty 52 (Value.agg #[.string ⟨#[]⟩, .string ⟨#[]⟩]) g (L * 2) (n - L) c cur1 52 Try.underlying22 hzv (by omega) (setRow_heap _ _ _ _ _ _ hg) (by rw [hc1s, show (Value.agg #[.string ⟨#[]⟩, .string ⟨#[]⟩]).cells.size = 2 from rfl]; omega) (zero_one (by decide) (by intro v hv; simp [Value.cells] at hv; rcases hv with rfl | rfl <;> rfl) _)
    rw [show (Value.agg #[.string ⟨#[]⟩, .string ⟨#[]⟩]).cells.size = 2 from rfl] at h
    rw [hc2] at h
    exact h
  have hfin : ((w.drew.setRow g cur1).setRow g cur2).ownsRow base 52 2 (.slice (some ⟨g, 0, none⟩) L C) L (A ++ D) := row_shut (by rw [List.length_append]; omega) (setRow_heap _ _ _ _ _ _ (setRow_heap _ _ _ _ _ _ hg)) hb hCm (by omega) hc2s hc2l
  have hgr : w.grownBy ((w.drew.setRow g cur1).setRow g cur2) (some g) := (grown_drew (grown_setRow (w := w.drew) cur1)).trans (grown_setRow cur2)
  have hD0 : C = j → D = [] := fun h => List.eq_nil_of_length_eq_zero (by omega)
  unfold maxLen at hCm
  have f1 : (i : Int) ≤ (j : Int) := by omega
  have f2 : (j : Int) ≤ (n : Int) := by omega
  have f3 : (n : Int) ≤ (C : Int) := by omega
  have f4 : ¬ (n = i) := by omega
  have f5 : ¬ ((i : Int) = (j : Int)) := by omega
  have f6 : (i : Int) ≤ (C : Int) := by omega
  have f7 : (L : Int) ≤ (n : Int) := by omega
  have f8 : ¬ (C = L) := by omega
  have f9 : i ≤ j := by omega
  have f10 : i ≤ C := by omega
  clear hown hg e hc1 hc2 hc1l hc2l hi0 hz0 hzv hs
  by_cases hCj : C = j
  · have happ1 := happ ⟨g, 0, none⟩ (.inr (hD0 hCj))
    clear happ hD0 hL
    subst hCj
    rw [show n - C = 0 by omega] at happ1
    go_enter Try.func94, Try.ntmps94
    go_wp2_with fail
    go_region_law (refine step_app_run rfl (.tmp 22) (.tmp 25) 22 rfl (.slice (some ⟨g, 0, none⟩) i C) (.slice (some ⟨g, 0, none⟩) 0 0) (by simp [Act.eval, Act.put]) (by simp [Act.eval, Act.put]) (happ1 _ _) ?_)
    go_wp2
    go_ret
    exact ⟨rfl, hfin, hgr⟩
  · have happ1 := happ ⟨g, j * 2, none⟩ (.inl rfl)
    clear happ hL
    go_enter Try.func94, Try.ntmps94
    go_wp2_with fail
    go_region_law (refine step_app_run rfl (.tmp 22) (.tmp 25) 22 rfl (.slice (some ⟨g, 0, none⟩) i C) (.slice (some ⟨g, j * 2, none⟩) (n - j) (C - j)) (by simp [Act.eval, Act.put]) (by simp [Act.eval, Act.put]) (happ1 _ _) ?_)
    go_wp2
    go_ret
    exact ⟨rfl, hfin, hgr⟩

end Go.Proofs.Ytdmkmhjalcfchaa
namespace Go.Proofs.Ytdmkmhjalcfchaa
open Go.RowKit Num
set_option linter.unusedVariables false
set_option maxRecDepth 100000

theorem own_some {w : World} {B e sz n : Nat} {v : Value} {xs : List Value} (h : w.ownsRow B e sz v n xs) (hn : n ≠ 0) : ∃ g C, v = .slice (some ⟨g, 0, none⟩) n C := by
  rcases h.2 with ⟨_, h0⟩ | ⟨g, cap, cur, hv, _⟩
  · exact absurd h0 hn
  · exact ⟨g, cap, hv⟩
/-- Rows of unlike elements lie apart. -/
theorem own_unlike {w : World} {B B' e e' sz sz' n n' : Nat} {v v' : Value} {xs xs' : List Value} (h : w.ownsRow B e sz v n xs) (h' : w.ownsRow B' e' sz' v' n' xs') (hne : e ≠ e') : ∀ g, v.ownBlock = some g → v'.ownBlock ≠ some g := by
  intro g hg hg'
  rcases h.2 with ⟨rfl, _⟩ | ⟨b, cap, cur, rfl, _, hb, _⟩
  · simp [Value.ownBlock] at hg
  · rcases h'.2 with ⟨rfl, _⟩ | ⟨b', cap', cur', rfl, _, hb', _⟩
    · simp [Value.ownBlock] at hg'
    · simp [Value.ownBlock] at hg hg'
      subst hg hg'
      rw [hb] at hb'
      simp at hb'
      exact hne hb'.2
theorem ne_or {a b : Option Nat} (h : ∀ g, a = some g → b ≠ some g) : a = none ∨ a ≠ b := by
  cases a with
  | none => exact .inl rfl
  | some g => exact .inr fun e => h g rfl e.symm
theorem row_cell {w : World} {B e g n C : Nat} {cs : List Value} (h : w.ownsRow B e 1 (.slice (some ⟨g, 0, none⟩) n C) n cs) {i : Nat} {c : Value} (hc : cs[i]? = some c) : w.cell? ⟨g, i, none⟩ = some c := by
  have := h.cells (g := g) rfl i c hc
  rwa [Addr.add_lit, Nat.zero_add] at this
theorem pagesV_append {B : Nat} {w : World} {cs1 cs2 : List Value} {ps1 ps2 : Pages} (hl : cs1.length = ps1.length) (h1 : PagesV B w cs1 ps1) (h2 : PagesV B w cs2 ps2) : PagesV B w (cs1 ++ cs2) (ps1 ++ ps2) := by
  intro i c p hc hp
  rcases Nat.lt_or_ge i cs1.length with h | h
  · rw [List.getElem?_append_left h] at hc
    rw [List.getElem?_append_left (by omega)] at hp
    exact h1 i c p hc hp
  · rw [List.getElem?_append_right h] at hc
    rw [List.getElem?_append_right (by omega), ← hl] at hp
    exact h2 _ c p hc hp
theorem pagesV_take {B : Nat} {w : World} {cs : List Value} {ps : Pages} (h : PagesV B w cs ps) (k : Nat) : PagesV B w (cs.take k) (ps.take k) := by
  intro i c p hc hp
  rw [List.getElem?_take] at hc hp
  split at hc
  · rename_i hi
    rw [if_pos hi] at hp
    exact h i c p hc hp
  · cases hc
theorem pagesV_drop {B : Nat} {w : World} {cs : List Value} {ps : Pages} (h : PagesV B w cs ps) (k : Nat) : PagesV B w (cs.drop k) (ps.drop k) := by
  intro i c p hc hp
  rw [List.getElem?_drop] at hc hp
  exact h _ c p hc hp
theorem pagesV_one {B : Nat} {w : World} {c : Value} {p : List Pr} (h : w.ownsRow B 52 2 c p.length (prCells p)) : PagesV B w [c] [p] := by
  intro i d q hd hq
  cases i with
  | zero =>
    simp at hd hq
    subst hd hq
    exact h
  | succ i => simp at hd
theorem pagesV_kept {B : Nat} {w w' : World} {cs : List Value} {ps : Pages} (h : PagesV B w cs ps) {row : Option Nat} (hg : w.grownBy w' row) (hne : ∀ (i : Nat) c p, cs[i]? = some c → ps[i]? = some p → ∀ g, c.ownBlock = some g → row ≠ some g) : PagesV B w' cs ps :=
  fun i c p hc hp => (h i c p hc hp).kept hg (ne_or (hne i c p hc hp))
theorem ownPs_mk {B : Nat} {w : World} {v : Value} {cs : List Value} {ps : Pages} (hl : cs.length = ps.length) (hrow : w.ownsRow B 22 1 v ps.length cs) (hV : PagesV B w cs ps) : OwnPs B w v ps := by
  refine ⟨cs.map (fun c => [c]), by rw [List.length_map, hl], ?_, by rw [flat_one]; exact hrow, ?_⟩
  · intro x hx
    obtain ⟨c, hc, rfl⟩ := List.mem_map.1 hx
    obtain ⟨i, hi⟩ := List.mem_iff_getElem?.1 hc
    have hil := (List.getElem?_eq_some_iff.1 hi).1
    refine ⟨rfl, fun u hu => ?_⟩
    rw [List.mem_singleton.1 hu]
    exact own_one (hV i c _ hi (List.getElem?_eq_getElem (by rw [← hl]; exact hil)))
  · intro i x p hx hp
    rw [List.getElem?_map] at hx
    cases hc : cs[i]? with
    | none => rw [hc] at hx; cases hx
    | some c =>
      rw [hc] at hx
      cases hx
      exact ⟨c, rfl, hV i c p hc hp⟩
/-- The cells of a row of pages are of one place each. -/
theorem pages_one {B : Nat} {w : World} {cs : List Value} {ps : Pages} (hl : cs.length = ps.length) (h : PagesV B w cs ps) : ∀ v ∈ cs, v.oneCell' = true := by
  intro v hv
  obtain ⟨i, hi⟩ := List.mem_iff_getElem?.1 hv
  have hil := (List.getElem?_eq_some_iff.1 hi).1
  exact own_one (h i v _ hi (List.getElem?_eq_getElem (by rw [← hl]; exact hil)))
/-- One page is turned, and its cell with it. -/
theorem ownPg_turn {B gq C i : Nat} {w w1 : World} {cs : List Value} {ps : Pages} {c c' : Value} {p p' : List Pr} (h : OwnPg B w (.slice (some ⟨gq, 0, none⟩) ps.length C) cs ps) (hc : cs[i]? = some c) (hp : ps[i]? = some p)
    (hown' : w1.ownsRow B 52 2 c' p'.length (prCells p')) (hgr : w.grownBy w1 c.ownBlock) (hnear : Near w c c') :
    OwnPg B (w1.setCell ⟨gq, i, none⟩ c') (.slice (some ⟨gq, 0, none⟩) ps.length C) (cs.set i c') (ps.set i p') ∧ Below B w (w1.setCell ⟨gq, i, none⟩ c') := by
  obtain ⟨hl, hrow, hV, hap⟩ := h
  have hcw := hV i c p hc hp
  have hrow1 : w1.ownsRow B 22 1 (.slice (some ⟨gq, 0, none⟩) ps.length C) ps.length cs := hrow.kept hgr (ne_or (own_unlike hrow hcw (by decide)))
  have hst := hrow1.stored i c'
  have hgq := hrow.lt gq rfl
  have hothers : ∀ (j : Nat) d q, j ≠ i → cs[j]? = some d → ps[j]? = some q → w1.ownsRow B 52 2 d q.length (prCells q) := fun j d q hji hd hq => (hV j d q hd hq).kept hgr (ne_or (hap j i d c hd hc hji))
  refine ⟨⟨by simp [hl], by rw [List.length_set]; exact hst.1, ?_, ?_⟩, ?_⟩
  · intro j d q hd hq
    by_cases hji : j = i
    · subst hji
      have hjl := (List.getElem?_eq_some_iff.1 hc).1
      rw [List.getElem?_set_self hjl] at hd
      rw [List.getElem?_set_self (by omega)] at hq
      cases hd
      cases hq
      exact hown'.kept hst.2 (ne_or (fun g hg hx => own_unlike hrow1 hown' (by decide) g hx hg))
    · rw [List.getElem?_set_ne (Ne.symm hji)] at hd hq
      have h1 := hothers j d q hji hd hq
      exact h1.kept hst.2 (ne_or (fun g hg hx => own_unlike hrow1 h1 (by decide) g hx hg))
  · have hfar : ∀ (j : Nat) d, j ≠ i → cs[j]? = some d → ∀ g, d.ownBlock = some g → c'.ownBlock ≠ some g := by
      intro j d hji hd g hg hx
      have hjl := (List.getElem?_eq_some_iff.1 hd).1
      have hq : ps[j]? = some (ps[j]'(by omega)) := List.getElem?_eq_getElem _
      rcases hnear with hn | ⟨g', hn, hge⟩
      · rw [hn] at hx
        exact hap j i d c hd hc hji g hg hx
      · rw [hn] at hx
        cases hx
        have := ((hV j d _ hd hq).lt _ hg).2
        omega
    intro j k d e hd he hjk g hg
    by_cases hji : j = i
    · subst hji
      have hjl := (List.getElem?_eq_some_iff.1 hc).1
      rw [List.getElem?_set_self hjl] at hd
      cases hd
      rw [List.getElem?_set_ne hjk] at he
      exact fun hx => hfar k e (Ne.symm hjk) he g hx hg
    · rw [List.getElem?_set_ne (Ne.symm hji)] at hd
      by_cases hki : k = i
      · subst hki
        have hjl := (List.getElem?_eq_some_iff.1 hc).1
        rw [List.getElem?_set_self hjl] at he
        cases he
        exact hfar j d hji hd g hg
      · rw [List.getElem?_set_ne (Ne.symm hki)] at he
        exact hap j k d e hd he hjk g hg
  · have hb1 : Below B w w1 := ⟨hgr.os, hgr.tape, hgr.output, hgr.size, fun k hk => by
      have hkw : k < w.heap.size := by omega
      exact hgr.block k hkw (by
        intro e
        have := (hcw.lt k e.symm).1
        omega)⟩
    have hg2 := hst.2
    exact hb1.trans ⟨hg2.os, hg2.tape, hg2.output, hg2.size, fun k hk => hg2.block k (by have := hgr.size; omega) (by intro e; cases e; omega)⟩
/-- One page is turned in its place. -/
theorem ownPg_place {B i : Nat} {v : Value} {w w1 : World} {cs : List Value} {ps : Pages} {c : Value} {p p' : List Pr} (h : OwnPg B w v cs ps) (hc : cs[i]? = some c) (hp : ps[i]? = some p)
    (hown' : w1.ownsRow B 52 2 c p'.length (prCells p')) (hgr : w.grownBy w1 c.ownBlock) (hB : B ≤ w.heap.size) :
    OwnPg B w1 v cs (ps.set i p') ∧ Below B w w1 := by
  obtain ⟨hl, hrow, hV, hap⟩ := h
  have hcw := hV i c p hc hp
  refine ⟨⟨by simp [hl], by rw [List.length_set]; exact hrow.kept hgr (ne_or (own_unlike hrow hcw (by decide))), ?_, hap⟩, hgr.os, hgr.tape, hgr.output, hgr.size, fun k hk => hgr.block k (by omega) (by
    intro e
    have := (hcw.lt k e.symm).1
    omega)⟩
  intro j d q hd hq
  by_cases hji : j = i
  · subst hji
    have hjl := (List.getElem?_eq_some_iff.1 hc).1
    rw [List.getElem?_set_self (by omega)] at hq
    rw [hc] at hd
    cases hd
    cases hq
    exact hown'
  · rw [List.getElem?_set_ne (Ne.symm hji)] at hq
    exact (hV j d q hd hq).kept hgr (ne_or (hap j i d c hd hc hji))
end Go.Proofs.Ytdmkmhjalcfchaa
