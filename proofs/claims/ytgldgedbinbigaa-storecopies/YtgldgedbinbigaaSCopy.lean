/-
  Joined:
  What a copy of a store is made of: a key's row anew; the map's walk; pages anew.
  Contract: another store that has the same.
-/
import Derived.Test.YtgldgedbinbigaaSAdd
import Derived.Test.YtgldgedbinbigaaPCop
import Derived.Maps.RangeWalk
import Derived.Test.YtgldgedbinbigaaSNew
import Derived.Deep.RegionHeldLaw
import Derived.Deep.RegionLaw
namespace Go.Proofs.Ytgldgedbinbigaa
open Go.RowKit Go.Maps Go.ChangeShapes Go.WideShapes Num
open Go.WideElems (Fit rd rg pl rd_key rd_val rg_of)
open scoped Classical
set_option linter.unusedVariables false

theorem grown_low0 {w w' : World} (h : Below w.heap.size w w') : w.grownBy w' none := ⟨h.os, h.tape, h.output, h.size, fun k hk _ => h.block k hk⟩
theorem keyOf_inv {key : Value} {kl : Lit} (h : keyOf Try.prog 9 key = some kl) : ∃ x : ByteArray, key = .string x ∧ kl = litK x ∧ x.size ≤ maxLen := by
  cases key <;> simp [keyOf, Try.underlying9, mapKey] at h
  rename_i s
  obtain ⟨hs, rfl⟩ := h
  exact ⟨s, rfl, rfl, hs⟩
/-- The keys of a store's map: no key twice, each a text. -/
theorem ownM_entries {w : World} {gm n : Nat} {D : DataW Value} (h : OwnM w gm n D) : ∃ es, D = .map es ∧ es.Pairwise (fun p q => p.1 ≠ q.1) ∧ ∀ p ∈ es, ∃ x, p.1 = litK x := by
  obtain ⟨es, clock, _, F, _, rfl⟩ := h
  refine ⟨_, rfl, ((sorted_perm _).pairwise_iff (fun {_ _} hne => Ne.symm hne)).2 (Maps.fit_apart lawStr F), fun p hp => ?_⟩
  obtain ⟨x, hx, rfl⟩ := List.mem_map.1 (mem_sorted.1 hp)
  obtain ⟨y, hy⟩ := F.reads x hx
  rw [rg_of hy]
  obtain ⟨k, _, e, _⟩ := keyOf_inv (rd_key hy)
  exact ⟨k, e⟩
theorem has_entries {es : List (Lit × DataW Value)} {l : Lit} (hl : WideAt.IsKeyLit l) : Maps.has (.map es) l = true ↔ l ∈ es.map Prod.fst := by
  unfold Maps.has
  rw [List.any_eq_true]
  constructor
  · rintro ⟨p, hp, h⟩
    exact List.mem_map.2 ⟨p, hp, WideAt.sameKey_eq h⟩
  · intro h
    obtain ⟨p, hp, rfl⟩ := List.mem_map.1 h
    exact ⟨p, hp, WideAt.sameKey_self hl⟩
theorem size_has {w w' : World} {gm gm' n n' : Nat} {D D' : DataW Value} (h : OwnM w gm n D) (h' : OwnM w' gm' n' D') (hh : ∀ k, Maps.has D (litK k) = Maps.has D' (litK k)) : Maps.size D = Maps.size D' := by
  obtain ⟨es, rfl, h1, h2⟩ := ownM_entries h
  obtain ⟨es', rfl, h1', h2'⟩ := ownM_entries h'
  have p : (es.map Prod.fst).Perm (es'.map Prod.fst) := by
    refine (List.perm_ext_iff_of_nodup ?_ ?_).2 (fun l => ?_)
    · exact List.pairwise_map.2 h1
    · exact List.pairwise_map.2 h1'
    · constructor
      · intro hl
        obtain ⟨p, hp, rfl⟩ := List.mem_map.1 hl
        obtain ⟨x, hx⟩ := h2 p hp
        rw [hx] at hl ⊢
        rw [← has_entries (litK_key x), ← hh x, has_entries (litK_key x)]
        exact hl
      · intro hl
        obtain ⟨p, hp, rfl⟩ := List.mem_map.1 hl
        obtain ⟨x, hx⟩ := h2' p hp
        rw [hx] at hl ⊢
        rw [← has_entries (litK_key x), hh x, has_entries (litK_key x)]
        exact hl
  have := p.length_eq
  simpa [Maps.size] using this
theorem litK_inj {a b : ByteArray} (h : litK a = litK b) : a = b := Classical.byContradiction fun hn => litK_ne hn h
theorem sameK_iff (a b : ByteArray) : (litK a).sameKey (litK b) = decide (a = b) := by
  by_cases h : a = b
  · rw [h, decide_eq_true rfl]
    exact WideAt.sameKey_self (litK_key b)
  · rw [decide_eq_false h]
    cases hs : (litK a).sameKey (litK b)
    · rfl
    · exact absurd (litK_inj (WideAt.sameKey_eq hs)) h
/-- The walk's step over a store's map. -/
theorem wpList_next_sto {ops : Array Oper} {rest : List Oper} {o : Oper} {a : Act} {Q : Exit → Act → World → Prop} (w : World) (hg : o.guard = none) (it : Operand) (hop : o.op = Op.next it false)
    {B : Nat} (gm r n : Nat) (D : DataW Value) (K : ByteArray → List Ver) (blk capf : ByteArray → Nat) (hrow : RowsV B w D K blk capf) (left : Lit → Bool) (cnt : Nat)
    (hit : a.eval it = .pointer (some ⟨r, 0, none⟩)) (h : w.ranges Try.prog 9 selfR gm r n D left cnt)
    (hDone : cnt = 0 → (∀ kl, left kl = false) → wpList Try.prog ops Q rest (a.put o.dst (.tuple #[.bool false])) w)
    (hMore : ∀ (k : ByteArray) (w' : World) (cnt' : Nat), k.size ≤ maxLen → left (litK k) = true → K k ≠ [] → w'.ranges Try.prog 9 selfR gm r n D (fun z => left z && !z.sameKey (litK k)) cnt' → cnt' < cnt →
      w.grownBy w' (some r) → w'.heap.size = w.heap.size → (Instr.entry (.pointer (some ⟨r, 0, none⟩))).run Try.prog w' = .ok (.tuple #[.string k, .slice (some ⟨blk k, 0, none⟩) (K k).length (capf k)]) w' → wpList Try.prog ops Q rest (a.put o.dst (.tuple #[.bool true, .string k, .slice (some ⟨blk k, 0, none⟩) (K k).length (capf k)])) w') :
    wpList Try.prog ops Q (o :: rest) a w := by
  refine wpList_next_ranges w hg it hop 9 lawStr selfR Value.string id (fun key kl hk => by obtain ⟨x, hx, _⟩ := keyOf_inv hk; exact ⟨x, hx⟩) (fun v _ _ => ⟨v, rfl⟩) gm r n D left cnt hit h hDone ?_
  intro k c kl y w' cnt' hkey hlk hv hat hrg hlt hgr hsz hen
  obtain ⟨x, ex, rfl, hks⟩ := keyOf_inv hkey
  cases ex
  have hhas := has_true_of_atKey hat
  have hne : K k ≠ [] := fun e => by
    rw [hrow.no k e] at hhas
    cases hhas
  have e1 : y = (.held c, []) := (Option.some.inj hv).symm
  have e2 := hat (.held c)
  rw [hrow.at_ k hne, e1] at e2
  injection e2 with e2
  have hc : id c = .slice (some ⟨blk k, 0, none⟩) (K k).length (capf k) := e2.symm
  rw [hc] at hen ⊢
  exact hMore k w' cnt' hks hlk hne hrg hlt hgr hsz hen
theorem own_cells {w : World} {B e sz n b cap : Nat} {xs : List Value} (h : w.ownsRow B e sz (.slice (some ⟨b, 0, none⟩) n cap) n xs) : ∀ j u, xs[j]? = some u → w.cell? ((⟨b, 0, none⟩ : Addr).add j) = some u := by
  intro j u hj
  rcases h.2 with ⟨e, _⟩ | ⟨g, c, cur, e, _, hg, _, _, _, ht⟩
  · cases e
  · cases e
    rw [Addr.add_lit, Nat.zero_add]
    refine box_cell hg j u ?_
    rw [← ht, List.getElem?_take] at hj
    by_cases hlt : j < n * sz
    · rw [if_pos hlt] at hj
      rw [← Array.getElem?_toList]
      exact hj
    · rw [if_neg hlt] at hj
      cases hj
set_option maxHeartbeats 1000000 in
theorem cloneV_any (q : List Ver) (hne : q ≠ []) (hlen : q.length ≤ 1000) (b cap B : Nat) (w : World) (h : w.ownsRow B 66 3 (.slice (some ⟨b, 0, none⟩) q.length cap) q.length (verCells q)) :
    Calls Try.prog 37 #[.slice (some ⟨b, 0, none⟩) q.length cap] w fun e w' => ∃ g' C', e = .returned (.slice (some ⟨g', 0, none⟩) q.length C') ∧ w'.ownsRow w.heap.size 66 3 (.slice (some ⟨g', 0, none⟩) q.length C') q.length (verCells q) ∧ Below w.heap.size w w' := by
  have q22 : ∀ (w : World) (a : Option Addr) (n c n' c' : Nat), (binOp .eql 70 (.slice a n c) (.slice none n' c')).run Try.prog w = .ok (.bool a.isNone) w := fun w a n c n' c' => Lib.run_eql_slice_nil w _ _ a n c n' c' Try.underlying70
  obtain ⟨i0, hi, hz0, hz1, hz2⟩ := info_parts Try.infoVer
  have hoA : (w.alloc (.cells #[] 66)).ownsRow w.heap.size 66 3 (.slice (some ⟨w.heap.size, 0, none⟩) 0 0) 0 [] := World.ownsRow_made w #[] 0 (Nat.le_refl _) (Nat.zero_le _) (by simp)
  have hcl := own_cells (h.alloc (.cells #[] 66))
  have hone := verCells_one q
  have hcn := verCells_len q
  have hq0 : q.length ≠ 0 := fun e => hne (List.eq_nil_of_length_eq_zero e)
  clear h
  go_enter Try.func37, Try.ntmps37
  go_wp2_with (first
    | (at_builtin; refine wpList_append_own _ rfl _ _ 70 rfl w.heap.size 66 i0 _ 3 32 Try.underlying70 hi hz0 hz1 hz2 rfl (by decide) _ 0 [] rfl hoA ⟨b, 0, none⟩ q.length cap (verCells q) rfl hcn hcl hone (by unfold maxLen; omega) (by omega) (by simp) ?_; intro v1 w1 hown1 hgrow1 hnear1))
  rw [List.nil_append, Nat.zero_add] at hown1
  obtain ⟨g', C', rfl⟩ := own_some hown1 hq0
  go_ret
  exact ⟨g', C', rfl, hown1, below_made hgrow1⟩
end Go.Proofs.Ytgldgedbinbigaa
namespace Go.Proofs.Ytgldgedbinbigaa
open Go.RowKit Go.Maps Num
open scoped Classical
set_option linter.unusedVariables false

theorem low_grown {w w' : World} (h : w.grownBy w' none) : Below w.heap.size w w' := ⟨h.os, h.tape, h.output, h.size, fun k hk => h.block k hk (by simp)⟩
theorem own_base {w : World} {B e sz n g cap : Nat} {xs : List Value} (h : w.ownsRow B e sz (.slice (some ⟨g, 0, none⟩) n cap) n xs) : B ≤ g := by
  rcases h.2 with ⟨e, _⟩ | ⟨g2, c, cur, e, hb, _⟩
  · cases e
  · cases e
    exact hb
theorem has_key {B : Nat} {w : World} {D : DataW Value} {K : ByteArray → List Ver} {blk capf : ByteArray → Nat} (h : RowsV B w D K blk capf) (k : ByteArray) : Maps.has D (litK k) = true ↔ K k ≠ [] := by
  constructor
  · intro h1 h2
    rw [h.no k h2] at h1
    cases h1
  · intro h1
    exact has_true_of_atKey (h.at_ k h1)
theorem put_row {B : Nat} {W : World} {W1 : World} {g : Nat} {gm : Nat} {room : Int} {size : Int} {top : Int} {K : ByteArray → List Ver} {D : DataW Value} {blk : ByteArray → Nat} {capf : ByteArray → Nat} {N : Nat} {pv : Value} {ps : Pages} (h : StoG B W g gm room size top K D blk capf N pv ps) (k : ByteArray) (hk : k.size ≤ maxLen) (hN : N ≤ 1000) (hK : K k = []) {q : List Ver} (hq : q ≠ []) (hb : Below W.heap.size W W1) {g' C' : Nat}
    (hown : W1.ownsRow W.heap.size 66 3 (.slice (some ⟨g', 0, none⟩) q.length C') q.length (verCells q)) :
    ∃ w2, (Instr.mapUpdate 54 (.map (some gm)) (.string k) (.slice (some ⟨g', 0, none⟩) q.length C')).run Try.prog W1 = .ok () w2 ∧
      StoG B w2 g gm room size top (fun x => if x = k then q else K x) (D.put (litK k) (.held (.slice (some ⟨g', 0, none⟩) q.length C'))) (fun x => if x = k then g' else blk x) (fun x => if x = k then C' else capf x) (N + 1) pv ps ∧ W1.grownBy w2 (some gm) := by
  have hBs : B ≤ W.heap.size := Nat.le_trans h.gB (Nat.le_of_lt (Array.getElem?_eq_some_iff.1 h.box).1)
  have hm1 : OwnM W1 gm N D := ownM_same h.map (fun es c e => below_box hb e)
  obtain ⟨w2, hr, hm2, hg2⟩ := hm1.update lawStr Try.underlying54 (by unfold maxLen; omega) (WideMaps.keyOf_string_mk Try.underlying9 hk) (val := .slice (some ⟨g', 0, none⟩) q.length C') (d := .held (.slice (some ⟨g', 0, none⟩) q.length C')) (ps := []) rfl
  refine ⟨w2, hr, (stoG_put h hq (w1 := W1) ?_ (own_mono hown hBs) (.inr (own_base hown)) hm2 hg2).1, hg2⟩
  rw [hK, rowV_none]
  exact grown_low0 hb
theorem app_page {B : Nat} {W : World} {W1 : World} {g : Nat} {gm : Nat} {room : Int} {size : Int} {top : Int} {K : ByteArray → List Ver} {D : DataW Value} {blk : ByteArray → Nat} {capf : ByteArray → Nat} {N : Nat} {pv : Value} {ps : Pages} (h : StoG B W g gm room size top K D blk capf N pv ps) (hlen : ps.length ≤ 1000) (hb : Below W.heap.size W W1) (p : List Pr) {v1 : Value} (hown1 : W1.ownsRow W.heap.size 69 2 v1 p.length (prCells p)) (ty : TypeId) (b : Nat) (hbq : W1.heap.size = b) :
    ∃ ao5 cap5 w5, (Builtin.append_ #[55, 55] ty #[pv, .slice (some ⟨b, 0, none⟩) 1 1]).run Try.prog (W1.alloc (.cells #[v1] 38)) = .ok (.slice ao5 (ps.length + 1) cap5) w5 ∧
      w5.cell? ⟨g, 4, none⟩ = some pv ∧ w5.frozen? ⟨g, 4, none⟩ = false ∧
      StoG B (w5.setCell ⟨g, 4, none⟩ (.slice ao5 (ps.length + 1) cap5)) g gm room size top K D blk capf N (.slice ao5 (ps.length + 1) cap5) (ps ++ [p]) ∧ Below B W (w5.setCell ⟨g, 4, none⟩ (.slice ao5 (ps.length + 1) cap5)) := by
  subst hbq
  have hBs : B ≤ W.heap.size := Nat.le_trans h.gB (Nat.le_of_lt (Array.getElem?_eq_some_iff.1 h.box).1)
  have hbA : Below W1.heap.size W1 (W1.alloc (.cells #[v1] 38)) := (Below.refl _ W1).alloc (Nat.le_refl _) _
  have hbWA := below_next hb (Nat.le_refl _) hbA
  have hA := h.below hbWA
  have hc1 := one_cell W1 38 v1
  have hown1A := own_below hown1 hbA
  generalize W1.alloc (.cells #[v1] 38) = WA at *
  obtain ⟨css, hcl, hcc, hrow, hV⟩ := hA.pages
  have hBA : B ≤ WA.heap.size := Nat.le_trans hBs hbWA.size
  obtain ⟨i0, hi, hz0, hz1, hz2⟩ := info_parts Try.infoPg
  obtain ⟨v5, w5, hr, h2, h3, _, h5⟩ := run_append_own_at (P := Try.prog) WA B 55 ty 38 i0 _ 1 24 Try.underlying55 hi hz0 hz1 hz2 rfl (by decide) _ _ _ hrow ⟨W1.heap.size, 0, none⟩ 1 1 [v1] rfl hc1 (by intro u hu; rw [List.mem_singleton.1 hu]; exact own_one hown1) (by unfold maxLen; omega) (by omega) hBA
  have hst : Stay (fun _ => False) 38 WA w5 := Stay.grown hrow h3
  have hps : OwnPs B w5 v5 (ps ++ [p]) := by
    refine own_snoc hcl hcc rfl (by intro u hu; rw [List.mem_singleton.1 hu]; exact own_one hown1) h2 (fun i cs x hi hx => ?_) ?_
    · exact pgV_hold (HoldX.of_stay hst) (hV i cs x hi hx)
    · exact ⟨_, rfl, own_mono (own_stay hown1A hst (by decide) (fun _ h => h)) hBs⟩
  obtain ⟨ao5, cap5, e5, _⟩ := ownPs_lies hps
  rw [List.length_append, List.length_singleton] at e5
  subst e5
  have hkp : ∀ (i : Nat) (o : Obj), WA.heap[i]? = some o → (∀ cs fr, o ≠ .cells cs 38 fr) → w5.heap[i]? = some o := fun i o e ho => by
    rw [hst.keep i (Array.getElem?_eq_some_iff.1 e).1 (fun h => h) (fun cs fr e2 => by
      rw [e] at e2
      exact ho _ _ (Option.some.inj e2))]
    exact e
  have hb5 := hkp g _ hA.box (by simp)
  have hk6 : ∀ (i : Nat) (o : Obj), w5.heap[i]? = some o → (∀ cs fr, o ≠ .cells cs 57 fr) → (w5.setCell ⟨g, 4, none⟩ (.slice ao5 (ps.length + 1) cap5)).heap[i]? = some o := fun i o e ho => grown_keep (grown_set w5 g 4 _) e (by
    intro e2
    cases e2
    rw [hb5] at e
    cases e
    exact ho _ _ rfl)
  refine ⟨ao5, cap5, w5, hr, box_cell hb5 4 _ rfl, box_open hb5 4, ⟨set_heap hb5 _, h.gB, h.mB, ownM_same hA.map (fun es c e => hk6 gm _ (hkp gm _ e (by simp)) (by simp)), rows_same hA.rows (fun i cur _ e => hk6 i _ (hkp i _ e (by simp)) (by simp)), ownPs_same hps (fun i cur _ e => hk6 i _ e (by simp)) (fun i cur _ e => hk6 i _ e (by simp))⟩, ?_⟩
  have b1 : Below B W w5 := (hbWA.mono hBs).grown h3 hBA (fun j hj => (hrow.lt j hj).1)
  exact b1.setCell h.gB _
theorem range_obj {w : World} {b r n : Nat} {D : DataW Value} {left : Lit → Bool} {cnt : Nat} (h : w.ranges Try.prog 9 selfR b r n D left cnt) : ∃ x1 x2 x3 x4, w.heap[r]? = some (.mapIter x1 x2 x3 x4) := by
  obtain ⟨es, clock, since, seen, c0, _, _, _, _, hr, _⟩ := h
  exact ⟨_, _, _, _, hr⟩
set_option maxRecDepth 100000 in
set_option maxHeartbeats 4000000 in
theorem copy_any (B g : Nat) (st : Sto) (hn : st.vs.length ≤ 700) (w : World) (h : HoldP B w g st) :
    Calls Try.prog 24 #[.pointer (some ⟨g, 0, none⟩)] w fun e w' => ∃ g', e = .returned (.pointer (some ⟨g', 0, none⟩)) ∧ HoldP w.heap.size w' g' st ∧ Below w.heap.size w w' := by
  obtain ⟨gm, D, blk, capf, ao, cap, ps, h⟩ := h
  have hfew := keys_few h.keys
  obtain ⟨F, hF⟩ : ∃ F, ps.flatten.length = F := ⟨_, rfl⟩
  have HF : Hid (ps.flatten.length = F) := hF
  clear hF
  have hmm := @run_makeMap Try.prog
  have hgm : gm < w.heap.size := h.map.lt
  obtain ⟨W1, hW1⟩ : ∃ W1, W1 = ((w.alloc (.map #[] 0)).alloc (.cells #[.int .i64 st.room, .int .i64 (st.vs.length : Int), .int .i64 st.top, .map (some w.heap.size), .slice none 0 0] 57)).drew := ⟨_, rfl⟩
  have hbW : Below w.heap.size w W1 := by rw [hW1]; exact (boxes_below w _ _).drew
  have hsW : W1.heap.size = w.heap.size + 2 := by rw [hW1]; simp
  have hG1 : StoG w.heap.size W1 (w.heap.size + 1) w.heap.size st.room (st.vs.length : Int) st.top (fun _ => []) (.map []) (fun _ => 0) (fun _ => 0) 0 (.slice none 0 0) [] := by
    rw [hW1]
    have hm := World.ownsMap_made (H := Value) w Try.prog 9 selfR
    exact ⟨heap_newB _ _ _ (by simp), by omega, Nat.le_refl _, ownM_same (hm.alloc _) (fun es c e => e), ⟨fun k _ => rfl, fun k hk => absurd rfl hk, fun k hk => absurd rfl hk, fun k k' hk => absurd rfl hk⟩, OwnS.nil _ _ _ _ _⟩
  obtain ⟨c0, c1, c2, c3, c4⟩ := sto_cells h
  have hS0 : w.drew.cell? ⟨g, 0, none⟩ = some (.int .i64 st.room) ∧ w.drew.cell? ⟨g, 1, none⟩ = some (.int .i64 (st.vs.length : Int)) ∧ w.drew.cell? ⟨g, 2, none⟩ = some (.int .i64 st.top) := ⟨c0, c1, c2⟩
  have hS1 : (w.alloc (.map #[] 0)).drew.cell? ⟨g, 0, none⟩ = some (.int .i64 st.room) ∧ (w.alloc (.map #[] 0)).drew.cell? ⟨g, 1, none⟩ = some (.int .i64 (st.vs.length : Int)) ∧ (w.alloc (.map #[] 0)).drew.cell? ⟨g, 2, none⟩ = some (.int .i64 st.top) := ⟨alloc_cell _ c0, alloc_cell _ c1, alloc_cell _ c2⟩
  have hS2 : W1.cell? ⟨g, 0, none⟩ = some (.int .i64 st.room) ∧ W1.cell? ⟨g, 1, none⟩ = some (.int .i64 (st.vs.length : Int)) ∧ W1.cell? ⟨g, 2, none⟩ = some (.int .i64 st.top) := by
    obtain ⟨d0, d1, d2, _, _⟩ := sto_cells (h.below hbW)
    exact ⟨d0, d1, d2⟩
  go_enter Try.func24, Try.ntmps24
  go_wp2_with fail
  go_region_held_law (fun w' => w'.cell? ⟨g, 0, none⟩ = some (.int .i64 st.room) ∧ w'.cell? ⟨g, 1, none⟩ = some (.int .i64 (st.vs.length : Int)) ∧ w'.cell? ⟨g, 2, none⟩ = some (.int .i64 st.top)) (first | exact hS0 | exact hS1 | (rw [← hW1]; exact hS2)) (first | fail)
  rw [← hW1]
  have hownW : OwnM W1 gm F D := by rw [← HF.out]; exact (h.below hbW).map
  have d3 := (sto_cells (h.below hbW)).2.2.2.1
  clear hS0 hS1 hS2 hmm c0 c1 c2 c3 c4 hW1
  go_wp2_with (first
    | (at_range; refine wpList_range_own _ rfl _ 54 rfl 9 70 lawStr Try.underlying54 selfR gm F D rfl hownW ?_; intro w0 hrg0 hg0 hs0))
  go_frame
  have hb0 : Below w.heap.size w w0 := below_next hbW (Nat.le_refl _) (low_grown hg0)
  have hG0 := hG1.below (low_grown hg0)
  have HK0 : Hid (∀ k, ([] : List Ver) = if Maps.has D (litK k) = true then [] else keyV st.vs k) := fun k => by
    by_cases e : Maps.has D (litK k) = true
    · rw [if_pos e]
    · rw [if_neg e]
      exact (Classical.byContradiction fun hne => e ((has_key h.rows k).2 (fun e2 => hne e2.symm)))
  rw [hsW] at hrg0 ⊢
  clear hG1 hownW d3 hg0 hbW
  go_loopw [4] (fun _ wr => ∃ (left : Lit → Bool) (cnt : Nat) (K' : ByteArray → List Ver) (D' : DataW Value) (blk' capf' : ByteArray → Nat) (N' : Nat), wr.ranges Try.prog 9 selfR gm (w.heap.size + 2) F D left cnt ∧ StoG w.heap.size wr (w.heap.size + 1) w.heap.size st.room (st.vs.length : Int) st.top K' D' blk' capf' N' (.slice none 0 0) [] ∧ N' + cnt ≤ Maps.size D ∧ Below w.heap.size w wr ∧ Hid (∀ k, K' k = if left (litK k) = true then [] else keyV st.vs k)) (fun _ wr => wr.rangeLeft gm (w.heap.size + 2))
  case atStart => exact ⟨_, _, _, _, _, _, _, hrg0, hG0, by omega, hb0, HK0⟩
  case round =>
    obtain ⟨left, cnt, K', D', blk', capf', N', hrg, hG, hN, hb, HK⟩ := hrel
    clear hrg0 hG0 hb0 HK0 hs0
    have hst := h.below hb
    go_wp2_with (first
      | (at_next; refine wpList_next_sto _ rfl _ rfl gm (w.heap.size + 2) F D (keyV st.vs) blk capf hst.rows left cnt rfl hrg ?_ ?_))
    · intro hc0 hl0
      have hKK : K' = keyV st.vs := by
        funext k
        rw [HK.out k, hl0 (litK k)]
        rfl
      subst hKK
      obtain ⟨_, _, _, _, c4⟩ := sto_cells hst
      clear hrg hN HK hl0 hc0 hst
      go_wp2
      rename World => W2
      go_loopw [47] (fun i wr => ∃ (k : Nat) (pv : Value), k ≤ ps.length ∧ i = .int .i64 (k : Int) ∧ StoG w.heap.size wr (w.heap.size + 1) w.heap.size st.room (st.vs.length : Int) st.top (keyV st.vs) D' blk' capf' N' pv (ps.take k) ∧ Below w.heap.size w wr) (fun i _ => ps.length - (intOf i).toNat)
      case atStart => exact ⟨0, _, by omega, rfl, hG, hb⟩
      case round =>
        obtain ⟨k, pv, hk, rfl, hGx, hbx⟩ := hrel
        clear hG hb c4
        have hsx := h.below hbx
        obtain ⟨ao4, cap4, rfl, _⟩ := ownPs_lies hGx.pages
        have htl : (ps.take k).length = k := by rw [List.length_take]; omega
        by_cases hkl : k < ps.length
        · have HP : Hid (ps[k]? = some ps[k]) := List.getElem?_eq_getElem hkl
          have hpm := List.getElem_mem hkl
          have hp8 := h.keys.1.1 ps[k] hpm
          have hpne : ps[k] ≠ [] := fun e => by
            rw [e] at hp8
            exact absurd hp8.1 (by decide)
          obtain ⟨ao2, cap2, e2, hl⟩ := ownPs_lies hsx.pages
          cases e2
          obtain ⟨a, rfl, hblk, bo, c, c0, hl2, hcap⟩ := hl k ps[k] HP.out
          rw [Nat.mul_one] at c0
          generalize ps[k] = p at *
          have hclone := clone_any bo c p hpne (by omega) wr.drew (liesPr_next hl2 below_drew (Nat.le_refl _))
          have g4 := box_cell hGx.box 4 _ rfl
          rw [htl] at g4
          have hkl2 : (k : Int) < (ps.length : Int) := by omega
          clear hl hsx hl2 hpm hp8 hpne
          go_wp2_with fail
          go_region_law (first
            | (go_simp; go_at_call 38; refine hclone.mono ?_; rintro e w3 ⟨ao1, cap1, rfl, hown3, hb3⟩
               have hb3' : Below wr.heap.size wr w3 := below_drew.trans hb3
               have g43 := (hb3'.cell (cell_lt g4)).trans g4
               have g43a := alloc_cell (.cells #[.slice ao1 p.length cap1] 38) g43
               obtain ⟨ao5, cap5, w5, hr5, e5, f5, hG5, hb5⟩ := app_page hGx (by omega) hb3' p hown3 0 w3.heap.size rfl
               rw [htl] at hr5 e5 hG5 hb5)
            | (refine step_app_run rfl (.tmp 55) (.tmp 58) 55 rfl (.slice ao4 k cap4) (.slice (some ⟨w3.heap.size, 0, none⟩) 1 1) (by simp [Act.eval]) (by simp [Act.eval]) hr5 ?_))
          all_goals
            go_wp2
            go_roundw
            case rel =>
              refine ⟨k + 1, .slice ao5 (k + 1) cap5, by omega, by go_num, ?_, hbx.trans hb5⟩
              rw [take_succ_at HP.out]
              exact hG5
            case measure => simp [intOf]; omega
        · obtain rfl : k = ps.length := by omega
          rw [List.take_length] at hGx
          have hkl2 : decide ((ps.length : Int) < (ps.length : Int)) = false := decide_eq_false (by omega)
          have hsz : Maps.size D' = ps.flatten.length := by
            rw [← h.size]
            refine size_has hGx.map h.map (fun k => ?_)
            rw [Bool.eq_iff_iff, has_key hGx.rows k, has_key h.rows k]
          have hend : HoldP w.heap.size wr (w.heap.size + 1) st := by
            have hm := own_tight hGx.map
            rw [hsz] at hm
            exact ⟨_, _, _, _, _, _, ps, ⟨hGx.box, hGx.gB, hGx.mB, hm, hGx.rows, hGx.pages⟩, h.keys, hsz, h.inv, h.small⟩
          clear hsx hGx hsz htl
          go_wp2
          go_ret
          exact ⟨_, rfl, hend, hbx⟩
    · intro k w1 cnt1 hks hlk hne hrg1 hlt hg1 hs1 hen
      have hK0 : K' k = [] := by rw [HK.out k, if_pos hlk]
      obtain ⟨x1, x2, x3, x4, hit⟩ := range_obj hrg
      have hG2 : StoG w.heap.size w1 (w.heap.size + 1) w.heap.size st.room (st.vs.length : Int) st.top K' D' blk' capf' N' (.slice none 0 0) [] := hG.kept (fun i o _ e ho => grown_keep hg1 e (by
        intro e2
        cases e2
        rw [hit] at e
        cases e
        exact ho))
      have hb1 : Below w.heap.size w w1 := hb.grown hg1 hb.size (fun j hj => by cases hj; omega)
      have hq1 : (keyV st.vs k).length ≤ st.vs.length := List.length_filter_le _ _
      have hrow := own_below ((h.below hb1).rows.row k hne) below_drew
      have hcl := cloneV_any (keyV st.vs k) hne (by omega) (blk k) (capf k) B w1.drew hrow
      have g3 := box_cell hG2.box 3 _ rfl
      have hS0 : w1.drew.cell? ⟨w.heap.size + 1, 3, none⟩ = some (.map (some w.heap.size)) := g3
      have HK2 : Hid (∀ x, (if x = k then keyV st.vs k else K' x) = if (left (litK x) && !(litK x).sameKey (litK k)) = true then [] else keyV st.vs x) := fun x => by
        rw [sameK_iff, HK.out x]
        by_cases e : x = k
        · rw [if_pos e, e]
          simp
        · rw [if_neg e]
          simp [e]
      have hsD : Maps.size D ≤ 700 := by rw [h.size]; omega
      have hgr : (w.heap.size + 2) ≤ w1.heap.size := Nat.le_of_lt hrg1.lt
      have hpr := fun W3 (hb3 : Below w1.heap.size w1 W3) g' C' hown => put_row (g' := g') (C' := C') hG2 k hks (by omega) hK0 hne hb3 hown
      generalize keyV st.vs k = q at *
      clear hG hit hst hrow hK0
      go_wp2_with fail
      go_region_held_law (fun w' => w'.cell? ⟨w.heap.size + 1, 3, none⟩ = some (.map (some w.heap.size))) (first | exact hS0 | exact hS3 | exact hS4)
        (first
          | (go_at_call 37; refine hcl.mono ?_; rintro e w3 ⟨g', C', rfl, hown3, hb3⟩
             have hb3' : Below w1.heap.size w1 w3 := below_drew.trans hb3
             have hS3 := (hb3'.cell (cell_lt g3)).trans g3
             obtain ⟨w4, hr4, hG4, hg4⟩ := hpr w3 hb3' g' C' hown3
             have hS4 := box_cell hG4.box 3 _ rfl))
      have hrg3 := hrg1.kept (grown_low0 hb3') (by simp) (by simp)
      have hrg4 := hrg3.kept hg4 (fun e => by have := Option.some.inj e; omega) (fun e => by have := Option.some.inj e; omega)
      go_wp2
      go_roundw
      case rel =>
        refine ⟨_, cnt1, _, _, _, _, _, hrg4, hG4, by omega, ?_, HK2⟩
        have b3 := below_next hb1 (Nat.le_refl _) hb3'
        exact b3.grown hg4 b3.size (fun j hj => by cases hj; exact Nat.le_refl _)
      case measure => rw [hrg4.left_eq, hrg.left_eq]; exact hlt
end Go.Proofs.Ytgldgedbinbigaa
