/-
  Joined:
  Contracts: a version more (8.2): add, Put, Del.
  'append' to a key's row, and the map's store, in one; a store with a version more.
  Contracts: add (8.2): a store that is full; a key that is new; a key that has versions.
  Contracts: Put and Del of a store (8.2).
-/
import Derived.Test.YtdmkmhjalcfchaaSGen
namespace Go.Proofs.Ytdmkmhjalcfchaa
open Go.RowKit Go.Maps Num
open scoped Classical
set_option linter.unusedVariables false
set_option maxRecDepth 100000

abbrev Num.boxV (v : Ver) : Obj := .cells #[.int .i64 v.time, .string v.val, .bool v.gone] 112
theorem verCells_last (r : List Ver) (x v : Ver) : (((verCells (r ++ [x])).set (r.length * 3) (.int .i64 v.time)).set (r.length * 3 + 1) (.string v.val)).set (r.length * 3 + 2) (.bool v.gone) = verCells (r ++ [v]) := by
  rw [verCells_append, verCells_append]
  have e : r.length * 3 = (verCells r).length := (verCells_len r).symm
  rw [e, List.set_append_right _ _ (Nat.le_refl _), Nat.sub_self, List.set_append_right _ _ (by omega), show (verCells r).length + 1 - (verCells r).length = 1 by omega, List.set_append_right _ _ (by omega), show (verCells r).length + 2 - (verCells r).length = 2 by omega]
  rfl
set_option maxRecDepth 100000 in
set_option maxHeartbeats 2000000 in
theorem add_turn (B g : Nat) (st : Sto) (v x : Ver) (hx : lastA st.vs v.key = some x) (ht : x.time = v.time) (h1 : 1 ≤ v.time) (h2 : v.time < 1099511627776) (h3 : st.top ≤ v.time) (hk : v.key.size ≤ maxLen) (hn : st.vs.length ≤ 4100) (w : World) (h : HoldP B w g st) :
    Calls Try.prog 56 #[.pointer (some ⟨g, 0, none⟩), .string v.key, .agg #[.int .i64 v.time, .string v.val, .bool v.gone]] w fun e w' => e = .returned (.int .i64 0) ∧ HoldP B w' g ⟨st.room, v.time, turnV st.vs v.key v⟩ ∧ TurnP B w w' := by
  obtain ⟨gm, D, blk, capf, ao, cap, ps, h⟩ := h
  have hB : B ≤ w.heap.size := Nat.le_trans h.gB (Nat.le_of_lt (Array.getElem?_eq_some_iff.1 h.box).1)
  have hbA : Below w.heap.size w (w.alloc (boxV v)) := (Below.refl _ w).alloc (Nat.le_refl _) _
  have hA := h.below hbA
  obtain ⟨_, _, _, c3, _⟩ := sto_cells hA
  have hrun := run_lookV hA.map hA.rows hk
  obtain ⟨r, hr⟩ : ∃ r, keyV st.vs v.key = r ++ [x] := by
    rw [lastA_key] at hx
    exact List.getLast?_eq_some_iff.1 hx
  have hne : keyV st.vs v.key ≠ [] := by rw [hr]; simp
  have hrl : r.length + 1 ≤ 4100 := by
    have : (keyV st.vs v.key).length ≤ st.vs.length := List.length_filter_le _ _
    rw [hr] at this
    simp at this
    omega
  have hlen : (keyV st.vs v.key).length = r.length + 1 := by rw [hr]; simp
  rw [rowV_some hne, hlen] at hrun
  have hrow := hA.rows.row v.key hne
  have hdone : ∀ z : Low (w.alloc (boxV v)), HoldP B (((z.wd.setCell ⟨blk v.key, r.length * 3, none⟩ (.int .i64 v.time)).setCell ⟨blk v.key, r.length * 3 + 1, none⟩ (.string v.val)).setCell ⟨blk v.key, r.length * 3 + 2, none⟩ (.bool v.gone)) g ⟨st.room, v.time, turnV st.vs v.key v⟩ ∧ TurnP B w (((z.wd.setCell ⟨blk v.key, r.length * 3, none⟩ (.int .i64 v.time)).setCell ⟨blk v.key, r.length * 3 + 1, none⟩ (.string v.val)).setCell ⟨blk v.key, r.length * 3 + 2, none⟩ (.bool v.gone)) := by
    intro z
    have hZ := hA.below z.low
    have hrz := hZ.rows.row v.key hne
    obtain ⟨s1, g1⟩ := hrz.stored (r.length * 3) (.int .i64 v.time)
    obtain ⟨s2, g2⟩ := s1.stored (r.length * 3 + 1) (.string v.val)
    obtain ⟨s3, g3⟩ := s2.stored (r.length * 3 + 2) (.bool v.gone)
    have hkt := keyV_turn hx
    have hq : keyV (turnV st.vs v.key v) v.key = r ++ [v] := by
      rw [hkt, if_pos rfl, hr, List.dropLast_concat]
    have hK : (fun y => if y = v.key then r ++ [v] else keyV st.vs y) = keyV (turnV st.vs v.key v) := by
      funext y
      by_cases e : y = v.key
      · rw [if_pos e, e, hq]
      · rw [if_neg e, hkt, if_neg (fun e2 => e e2.symm)]
    obtain ⟨hG, hT⟩ := stoG_row (q' := r ++ [v]) hZ.toStoG hne (by rw [hlen]; simp) ((g1.trans g2).trans g3) (by
      rw [hr, verCells_last r x v] at s3
      have el : (r ++ [v]).length = (r ++ [x]).length := by simp
      rw [el]
      exact s3)
    rw [hK] at hG
    have htop : st.top = v.time := by
      have := hA.inv.2.1 x (lastA_mem hx).1
      omega
    have hinv : InvS ⟨st.room, v.time, turnV st.vs v.key v⟩ := by
      obtain ⟨i1, i2, i3, i4, i5⟩ := hA.inv
      refine ⟨ups_turn i1 hx ht, fun y hy => ?_, by rw [turnV_len]; exact i3, by show 0 ≤ v.time; omega, by show v.time < _; omega⟩
      show 1 ≤ y.time ∧ y.time ≤ v.time
      rcases turn_mem hx hy with rfl | hy
      · omega
      · have := i2 y hy
        omega
    refine ⟨⟨gm, D, blk, capf, ao, cap, ps, ⟨?_, ?_, hA.size, hinv, ?_⟩⟩, ?_⟩
    · show StoG B _ g gm st.room ((turnV st.vs v.key v).length : Int) v.time (keyV (turnV st.vs v.key v)) D blk capf ps.flatten.length (.slice ao ps.length cap) ps
      rw [turnV_len]
      rw [htop] at hG
      exact hG
    · refine keys_same hA.keys (fun y => ?_)
      show keyV (turnV st.vs v.key v) y = [] ↔ _
      rw [hkt]
      by_cases e : v.key = y
      · rw [if_pos e, ← e]
        exact ⟨fun h => absurd h (by simp), fun h => absurd h hne⟩
      · rw [if_neg e]
    · intro y hy
      rcases turn_mem hx hy with rfl | hy
      · exact hk
      · exact hA.small y hy
    · exact (Turns.of_below (below_next hbA (Nat.le_refl _) z.low) hB).trans hT
  have hcell := verCells_get (keyV st.vs v.key) r.length x (by rw [hr]; simp)
  have e0 := hrow.cells (g := blk v.key) rfl _ _ hcell.1
  have e1 := hrow.cells (g := blk v.key) rfl _ _ hcell.2.1
  have e2 := hrow.cells (g := blk v.key) rfl _ _ hcell.2.2
  rw [Addr.add_lit, Nat.zero_add] at e0 e1 e2
  have f0 := hrow.frozenAt
  have hbl : blk v.key < w.heap.size := by
    obtain ⟨cur0, hc0, _⟩ := row_heap h.rows hne
    exact (Array.getElem?_eq_some_iff.1 hc0).1
  rw [ht] at e0
  have p0 : (w.alloc (boxV v)).cell? ⟨w.heap.size, 0, none⟩ = some (.int .i64 v.time) := box_cell (heap_new w _) 0 _ rfl
  have p1 : (w.alloc (boxV v)).cell? ⟨w.heap.size, 1, none⟩ = some (.string v.val) := box_cell (heap_new w _) 1 _ rfl
  have p2 : (w.alloc (boxV v)).cell? ⟨w.heap.size, 2, none⟩ = some (.bool v.gone) := box_cell (heap_new w _) 2 _ rfl
  have d0 : ∀ z : Low (w.alloc (boxV v)), z.wd.cell? ⟨blk v.key, r.length * 3, none⟩ = some (.int .i64 v.time) := fun z => (z.cell (cell_lt e0)).trans e0
  have d1 : ∀ z : Low (w.alloc (boxV v)), z.wd.cell? ⟨blk v.key, r.length * 3 + 1, none⟩ = some (.string x.val) := fun z => (z.cell (cell_lt e1)).trans e1
  have d2 : ∀ z : Low (w.alloc (boxV v)), z.wd.cell? ⟨blk v.key, r.length * 3 + 2, none⟩ = some (.bool x.gone) := fun z => (z.cell (cell_lt e2)).trans e2
  have q0 : ∀ z : Low (w.alloc (boxV v)), z.wd.cell? ⟨w.heap.size, 0, none⟩ = some (.int .i64 v.time) := fun z => (z.cell (cell_lt p0)).trans p0
  have q1 : ∀ z : Low (w.alloc (boxV v)), z.wd.cell? ⟨w.heap.size, 1, none⟩ = some (.string v.val) := fun z => (z.cell (cell_lt p1)).trans p1
  have q2 : ∀ z : Low (w.alloc (boxV v)), z.wd.cell? ⟨w.heap.size, 2, none⟩ = some (.bool v.gone) := fun z => (z.cell (cell_lt p2)).trans p2
  have fz : ∀ (z : Low (w.alloc (boxV v))) (j : Nat), z.wd.frozen? ⟨blk v.key, j, none⟩ = false := fun z j => ((hA.below z.low).rows.row v.key hne).frozenAt j
  clear hA h hrow e0 e1 e2 p0 p1 p2 f0 hcell hlen hne hr hx hn hbA hB h1 h2 h3 ht
  generalize blk v.key = b at *
  generalize capf v.key = C at *
  generalize r.length = m at *
  have g1 : (0 : Int) < (m : Int) + 1 := by omega
  go_enter Try.func56, Try.ntmps56
  go_wp2_with fail
  refine wp_region_low (by kernel_rfl) (by kernel_rfl) fun hsome => ?_
  repeat (go_big_quiet_step (fail))
  refine wpQuiet_nil ?_
  rintro _ ⟨z, rfl⟩
  have hz := hdone z
  go_wp2
  go_ret
  exact ⟨rfl, hz⟩
end Go.Proofs.Ytdmkmhjalcfchaa
namespace Go.Proofs.Ytdmkmhjalcfchaa
open Go.RowKit Go.Maps Num
open scoped Classical
set_option linter.unusedVariables false
set_option maxRecDepth 100000

theorem box3 {w : World} {b : Nat} {v : Ver} (hb : w.heap[b]? = some (boxV v)) : ∀ j u, (verC v)[j]? = some u → w.cell? ((⟨b, 0, none⟩ : Addr).add j) = some u := by
  intro j u hj
  rw [Addr.add_lit, Nat.zero_add]
  exact box_cell hb j u (by simpa [verC] using hj)
theorem row_own {B : Nat} {w : World} {D : DataW Value} {K : ByteArray → List Ver} {blk capf : ByteArray → Nat} (h : RowsV B w D K blk capf) (k : ByteArray) : w.ownsRow B 112 3 (rowV (K k) (blk k) (capf k)) (K k).length (verCells (K k)) := by
  by_cases hk : K k = []
  · rw [hk, rowV_none]
    exact World.ownsRow_nil _ _ _ _
  · rw [rowV_some hk]
    exact h.row k hk
theorem app_put {B : Nat} {W : World} {g gm : Nat} {room size top : Int} {K : ByteArray → List Ver} {D : DataW Value} {blk capf : ByteArray → Nat} {N : Nat} {pv : Value} {ps : Pages} (h : StoG B W g gm room size top K D blk capf N pv ps) (k : ByteArray) (hk : k.size ≤ maxLen) (v : Ver) (hN : N ≤ 5000) (hq : (K k).length ≤ 4100) (b : Nat) (hb : W.heap[b]? = some (boxV v)) (ty : TypeId) (u : Value) (hu : rowV (K k) (blk k) (capf k) = u) (n : Nat) (hn : (K k).length = n) :
    ∃ g' C' w5 w6, (Builtin.append_ #[110, 110] ty #[u, .slice (some ⟨b, 0, none⟩) 1 1]).run Try.prog W = .ok (.slice (some ⟨g', 0, none⟩) (n + 1) C') w5 ∧
      (Instr.mapUpdate 103 (.map (some gm)) (.string k) (.slice (some ⟨g', 0, none⟩) (n + 1) C')).run Try.prog w5 = .ok () w6 ∧
      StoG B w6 g gm room size top (fun x => if x = k then K k ++ [v] else K x) (D.put (litK k) (.held (.slice (some ⟨g', 0, none⟩) (K k ++ [v]).length C'))) (fun x => if x = k then g' else blk x) (fun x => if x = k then C' else capf x) (N + 1) pv ps ∧ TurnP B W w6 ∧
      (∀ (i : Nat) (o : Obj), W.heap[i]? = some o → (K k ≠ [] → i ≠ blk k) → w5.heap[i]? = some o ∧ (i ≠ gm → w6.heap[i]? = some o)) ∧ W.heap.size ≤ w6.heap.size := by
  obtain ⟨i0, hi, hz0, hz1, hz2⟩ := info_parts Try.infoVer
  have hown := row_own h.rows k
  have hlt := (Array.getElem?_eq_some_iff.1 h.box).1
  have hBs : B ≤ W.heap.size := Nat.le_trans h.gB (Nat.le_of_lt hlt)
  obtain ⟨v', w5, hr, h2, h3, _, h5⟩ := run_append_own_at (P := Try.prog) W B 110 ty 112 i0 _ 3 32 Try.underlying110 hi hz0 hz1 hz2 rfl (by decide) _ _ _ hown ⟨b, 0, none⟩ 1 1 (verC v) rfl (box3 hb) (one3 v) (by unfold maxLen; omega) (by omega) hBs
  have hl : (K k ++ [v]).length = (K k).length + 1 := by simp
  have hown' : w5.ownsRow B 112 3 v' (K k ++ [v]).length (verCells (K k ++ [v])) := by
    rw [hl, verCells_append]
    exact h2
  obtain ⟨g', C', rfl⟩ := own_some hown' (by rw [hl]; omega)
  have hnear : (K k ≠ [] ∧ g' = blk k) ∨ W.heap.size ≤ g' := by
    rcases h5 with h5 | h5
    · by_cases hk0 : K k = []
      · rw [hk0, rowV_none] at h5
        simp [Value.ownBlock] at h5
      · rw [rowV_some hk0] at h5
        simp [Value.ownBlock] at h5
        exact .inl ⟨hk0, h5⟩
    · simp [Value.ownBlock] at h5
      exact .inr (by omega)
  have hm5 : OwnM w5 gm N D := ownM_same h.map (fun es c e => by
    refine grown_keep h3 e ?_
    by_cases hk0 : K k = []
    · rw [hk0, rowV_none]
      simp [Value.ownBlock]
    · rw [rowV_some hk0]
      obtain ⟨cur0, hc0, _⟩ := row_heap h.rows hk0
      intro e2
      simp [Value.ownBlock] at e2
      rw [e2, hc0] at e
      cases e)
  obtain ⟨w6, hr6, hm6, hg6⟩ := hm5.update lawStr Try.underlying103 (by unfold maxLen; omega) (WideMaps.keyOf_string_mk Try.underlying9 hk) (val := .slice (some ⟨g', 0, none⟩) (K k ++ [v]).length C') (d := .held (.slice (some ⟨g', 0, none⟩) (K k ++ [v]).length C')) (ps := []) rfl
  obtain ⟨hG, hT⟩ := stoG_put h (by simp) h3 hown' hnear hm6 hg6
  rw [← hu, ← hn, ← hl]
  refine ⟨g', C', w5, w6, hr, hr6, hG, hT, fun i o e h0 => ?_, Nat.le_trans h3.size hg6.size⟩
  suffices h9 : w5.heap[i]? = some o from ⟨h9, fun h1 => grown_keep hg6 h9 (by
    intro e2
    cases e2
    exact h1 rfl)⟩
  refine grown_keep h3 e ?_
  by_cases hk0 : K k = []
  · rw [hk0, rowV_none]
    simp [Value.ownBlock]
  · rw [rowV_some hk0]
    intro e2
    simp [Value.ownBlock] at e2
    exact h0 hk0 e2
/-- A store with a version more. -/
theorem more_end {B : Nat} {W : World} {g gm : Nat} {st : Sto} {v : Ver} {D : DataW Value} {blk capf : ByteArray → Nat} {ao : Option Addr} {cap N : Nat} {ps : Pages} (h : StoG B W g gm st.room (st.vs.length : Int) st.top (fun x => if x = v.key then keyV st.vs v.key ++ [v] else keyV st.vs x) D blk capf N (.slice ao ps.length cap) ps)
    (hkeys : KeysOk ps (st.vs ++ [v])) (hsize : Maps.size D = ps.flatten.length) (hinv : InvS st) (hsmall : ∀ x ∈ st.vs, x.key.size ≤ maxLen) (hk : v.key.size ≤ maxLen) (h1 : 1 ≤ v.time) (h2 : v.time < 1099511627776) (h3 : st.top ≤ v.time) (hroom : (st.vs.length : Int) < st.room) :
    HoldP B ((W.setCell ⟨g, 1, none⟩ (.int .i64 ((st.vs.length : Int) + 1))).setCell ⟨g, 2, none⟩ (.int .i64 v.time)) g ⟨st.room, v.time, st.vs ++ [v]⟩ ∧ TurnP B W ((W.setCell ⟨g, 1, none⟩ (.int .i64 ((st.vs.length : Int) + 1))).setCell ⟨g, 2, none⟩ (.int .i64 v.time)) := by
  obtain ⟨hA, tA⟩ := stoG_size h ((st.vs.length : Int) + 1)
  obtain ⟨hC, tC⟩ := stoG_top hA v.time
  have hK : (fun x => if x = v.key then keyV st.vs v.key ++ [v] else keyV st.vs x) = keyV (st.vs ++ [v]) := by
    funext y
    rw [keyV_snoc]
    by_cases e : y = v.key
    · rw [if_pos e, e, if_pos rfl]
    · rw [if_neg e, if_neg (fun e2 => e e2.symm)]
  rw [hK] at hC
  have hinv' : InvS ⟨st.room, v.time, st.vs ++ [v]⟩ := by
    obtain ⟨i1, i2, i3, i4, i5⟩ := hinv
    refine ⟨?_, fun y hy => ?_, ?_, by show 0 ≤ v.time; omega, by show v.time < _; omega⟩
    · show Ups (st.vs ++ [v])
      unfold Ups at i1 ⊢
      rw [List.pairwise_append]
      refine ⟨i1, by simp, fun a ha b hb => ?_⟩
      rw [List.mem_singleton.1 hb]
      have := i2 a ha
      omega
    · show 1 ≤ y.time ∧ y.time ≤ v.time
      rcases List.mem_append.1 hy with hy | hy
      · have := i2 y hy
        omega
      · rw [List.mem_singleton.1 hy]
        omega
    · show ((st.vs ++ [v]).length : Int) ≤ st.room
      simp only [List.length_append, List.length_singleton]
      omega
  refine ⟨⟨gm, D, blk, capf, ao, cap, ps, ⟨?_, hkeys, hsize, hinv', fun y hy => ?_⟩⟩, tA.trans tC⟩
  · have hm := own_tight hC.map
    rw [hsize] at hm
    show StoG B _ g gm st.room ((st.vs ++ [v]).length : Int) v.time (keyV (st.vs ++ [v])) D blk capf ps.flatten.length (.slice ao ps.length cap) ps
    rw [show ((st.vs ++ [v]).length : Int) = (st.vs.length : Int) + 1 by simp]
    exact ⟨hC.box, hC.gB, hC.mB, hm, hC.rows, hC.pages⟩
  · rcases List.mem_append.1 hy with hy | hy
    · exact hsmall y hy
    · rw [List.mem_singleton.1 hy]
      exact hk
end Go.Proofs.Ytdmkmhjalcfchaa
namespace Go.Proofs.Ytdmkmhjalcfchaa
open Go.RowKit Go.Maps Num
open scoped Classical
set_option linter.unusedVariables false
set_option maxRecDepth 100000

theorem below_drew {w : World} : Below w.heap.size w w.drew := (Below.refl _ w).drew
set_option maxRecDepth 100000 in
set_option maxHeartbeats 4000000 in
theorem add_fullNew (B g : Nat) (st : Sto) (v : Ver) (hx : keyV st.vs v.key = []) (hroom : st.room ≤ (st.vs.length : Int)) (h1 : 1 ≤ v.time) (h2 : v.time < 1099511627776) (h3 : st.top ≤ v.time) (hk : v.key.size ≤ maxLen) (hn : st.vs.length ≤ 4100) (w : World) (h : HoldP B w g st) :
    Calls Try.prog 56 #[.pointer (some ⟨g, 0, none⟩), .string v.key, .agg #[.int .i64 v.time, .string v.val, .bool v.gone]] w fun e w' => e = .returned (.int .i64 4) ∧ HoldP B w' g st ∧ TurnP B w w' := by
  obtain ⟨gm, D, blk, capf, ao, cap, ps, h⟩ := h
  have hgl := (Array.getElem?_eq_some_iff.1 h.box).1
  have hB : B ≤ w.heap.size := Nat.le_trans h.gB (Nat.le_of_lt hgl)
  have hbA : Below w.heap.size w (w.alloc (boxV v)) := (Below.refl _ w).alloc (Nat.le_refl _) _
  have hA := h.below hbA
  obtain ⟨_, _, _, c3, _⟩ := sto_cells hA
  have hrun := run_lookV hA.map hA.rows hk
  have hrv : rowV (keyV st.vs v.key) (blk v.key) (capf v.key) = .slice none 0 0 := by rw [hx, rowV_none]
  rw [hrv] at hrun
  have p0 := heap_new w (boxV v)
  have q0 : ∀ z : Low (w.alloc (boxV v)), z.wd.cell? ⟨w.heap.size, 0, none⟩ = some (.int .i64 v.time) := fun z => box_cell (below_box z.low p0) 0 _ rfl
  have k0 : ∀ (z : Low (w.alloc (boxV v))) (y : Low z.wd), y.wd.cell? ⟨g, 0, none⟩ = some (.int .i64 st.room) := fun z y => (sto_cells ((hA.below z.low).below y.low)).1
  have k1 : ∀ (z : Low (w.alloc (boxV v))) (y : Low z.wd), y.wd.cell? ⟨g, 1, none⟩ = some (.int .i64 (st.vs.length : Int)) := fun z y => (sto_cells ((hA.below z.low).below y.low)).2.1
  have hdone : ∀ (z : Low (w.alloc (boxV v))) (y : Low z.wd), HoldP B y.wd g st ∧ TurnP B w y.wd := fun z y => ⟨⟨gm, D, blk, capf, ao, cap, ps, (hA.below z.low).below y.low⟩, Turns.of_below (below_next (below_next hbA (Nat.le_refl _) z.low) (Nat.le_refl _) y.low) hB⟩
  have hgw : ¬ w.heap.size = g := by omega
  clear h hA hbA hB h1 h2 h3 p0 hx hrv
  generalize st.vs.length = L at *
  go_enter Try.func56, Try.ntmps56
  go_wp2_with fail
  refine wp_region_low (by kernel_rfl) (by kernel_rfl) fun hsome => ?_
  repeat (go_big_quiet_step (fail))
  refine wpQuiet_nil ?_
  rintro _ ⟨z, rfl⟩
  have k0z := k0 z
  have k1z := k1 z
  clear k0 k1 hsome
  go_wp2_with fail
  refine wp_region_low (by kernel_rfl) (by kernel_rfl) fun hsome => ?_
  repeat (go_big_quiet_step (fail))
  refine wpQuiet_nil ?_
  rintro _ ⟨y, rfl⟩
  have hz := hdone z y
  go_wp2
  go_ret
  exact ⟨rfl, hz⟩
set_option maxRecDepth 100000 in
set_option maxHeartbeats 4000000 in
theorem add_fullOld (B g : Nat) (st : Sto) (v : Ver) (x : Ver) (hx : lastA st.vs v.key = some x) (hxt : ¬ x.time = v.time) (hroom : st.room ≤ (st.vs.length : Int)) (h1 : 1 ≤ v.time) (h2 : v.time < 1099511627776) (h3 : st.top ≤ v.time) (hk : v.key.size ≤ maxLen) (hn : st.vs.length ≤ 4100) (w : World) (h : HoldP B w g st) :
    Calls Try.prog 56 #[.pointer (some ⟨g, 0, none⟩), .string v.key, .agg #[.int .i64 v.time, .string v.val, .bool v.gone]] w fun e w' => e = .returned (.int .i64 4) ∧ HoldP B w' g st ∧ TurnP B w w' := by
  obtain ⟨gm, D, blk, capf, ao, cap, ps, h⟩ := h
  have hgl := (Array.getElem?_eq_some_iff.1 h.box).1
  have hB : B ≤ w.heap.size := Nat.le_trans h.gB (Nat.le_of_lt hgl)
  have hbA : Below w.heap.size w (w.alloc (boxV v)) := (Below.refl _ w).alloc (Nat.le_refl _) _
  have hA := h.below hbA
  obtain ⟨_, _, _, c3, _⟩ := sto_cells hA
  have hrun := run_lookV hA.map hA.rows hk
  obtain ⟨r, hr⟩ : ∃ r, keyV st.vs v.key = r ++ [x] := by
    rw [lastA_key] at hx
    exact List.getLast?_eq_some_iff.1 hx
  have hne : keyV st.vs v.key ≠ [] := by rw [hr]; simp
  have hlen : (keyV st.vs v.key).length = r.length + 1 := by rw [hr]; simp
  have hrl : r.length + 1 ≤ 4100 := by
    have : (keyV st.vs v.key).length ≤ st.vs.length := List.length_filter_le _ _
    omega
  have hrv : rowV (keyV st.vs v.key) (blk v.key) (capf v.key) = .slice (some ⟨blk v.key, 0, none⟩) (r.length + 1) (capf v.key) := by rw [rowV_some hne, hlen]
  rw [hrv] at hrun
  have hcell := verCells_get (keyV st.vs v.key) r.length x (by rw [hr]; simp)
  have e0 := (hA.rows.row v.key hne).cells (g := blk v.key) rfl _ _ hcell.1
  rw [Addr.add_lit, Nat.zero_add] at e0
  have d0 : ∀ z : Low (w.alloc (boxV v)), z.wd.cell? ⟨blk v.key, r.length * 3, none⟩ = some (.int .i64 x.time) := fun z => (z.cell (cell_lt e0)).trans e0
  have hbl : blk v.key < w.heap.size := by
    obtain ⟨cur0, hc0, _⟩ := row_heap h.rows hne
    exact (Array.getElem?_eq_some_iff.1 hc0).1
  have p0 := heap_new w (boxV v)
  have q0 : ∀ z : Low (w.alloc (boxV v)), z.wd.cell? ⟨w.heap.size, 0, none⟩ = some (.int .i64 v.time) := fun z => box_cell (below_box z.low p0) 0 _ rfl
  have k0 : ∀ (z : Low (w.alloc (boxV v))) (y : Low z.wd), y.wd.cell? ⟨g, 0, none⟩ = some (.int .i64 st.room) := fun z y => (sto_cells ((hA.below z.low).below y.low)).1
  have k1 : ∀ (z : Low (w.alloc (boxV v))) (y : Low z.wd), y.wd.cell? ⟨g, 1, none⟩ = some (.int .i64 (st.vs.length : Int)) := fun z y => (sto_cells ((hA.below z.low).below y.low)).2.1
  have hdone : ∀ (z : Low (w.alloc (boxV v))) (y : Low z.wd), HoldP B y.wd g st ∧ TurnP B w y.wd := fun z y => ⟨⟨gm, D, blk, capf, ao, cap, ps, (hA.below z.low).below y.low⟩, Turns.of_below (below_next (below_next hbA (Nat.le_refl _) z.low) (Nat.le_refl _) y.low) hB⟩
  have hgw : ¬ w.heap.size = g := by omega
  clear h hA hbA hB h1 h2 h3 p0 hcell e0 hx hr hlen hne hrv
  generalize blk v.key = b at *
  generalize capf v.key = C at *
  generalize r.length = m at *
  have g1 : (0 : Int) < (m : Int) + 1 := by omega
  generalize st.vs.length = L at *
  go_enter Try.func56, Try.ntmps56
  go_wp2_with fail
  refine wp_region_low (by kernel_rfl) (by kernel_rfl) fun hsome => ?_
  repeat (go_big_quiet_step (fail))
  refine wpQuiet_nil ?_
  rintro _ ⟨z, rfl⟩
  have k0z := k0 z
  have k1z := k1 z
  clear k0 k1 hsome
  go_wp2_with fail
  refine wp_region_low (by kernel_rfl) (by kernel_rfl) fun hsome => ?_
  repeat (go_big_quiet_step (fail))
  refine wpQuiet_nil ?_
  rintro _ ⟨y, rfl⟩
  have hz := hdone z y
  go_wp2
  go_ret
  exact ⟨rfl, hz⟩
set_option maxRecDepth 100000 in
set_option maxHeartbeats 4000000 in
theorem add_moreNew (B g : Nat) (st : Sto) (v : Ver) (hx : keyV st.vs v.key = []) (hroom : (st.vs.length : Int) < st.room) (h1 : 1 ≤ v.time) (h2 : v.time < 1099511627776) (h3 : st.top ≤ v.time) (hk : v.key.size ≤ maxLen) (hn : st.vs.length ≤ 4100) (w : World) (h : HoldP B w g st) :
    Calls Try.prog 56 #[.pointer (some ⟨g, 0, none⟩), .string v.key, .agg #[.int .i64 v.time, .string v.val, .bool v.gone]] w fun e w' => e = .returned (.int .i64 0) ∧ HoldP B w' g ⟨st.room, v.time, st.vs ++ [v]⟩ ∧ TurnP B w w' := by
  obtain ⟨gm, D, blk, capf, ao, cap, ps, h⟩ := h
  have hgl := (Array.getElem?_eq_some_iff.1 h.box).1
  have hB : B ≤ w.heap.size := Nat.le_trans h.gB (Nat.le_of_lt hgl)
  have hbA : Below w.heap.size w (w.alloc (boxV v)) := (Below.refl _ w).alloc (Nat.le_refl _) _
  have hA := h.below hbA
  obtain ⟨_, _, _, c3, _⟩ := sto_cells hA
  have hrun := run_lookV hA.map hA.rows hk
  have hrv : rowV (keyV st.vs v.key) (blk v.key) (capf v.key) = .slice none 0 0 := by rw [hx, rowV_none]
  rw [hrv] at hrun
  have p0 := heap_new w (boxV v)
  have q0 : ∀ z : Low (w.alloc (boxV v)), z.wd.cell? ⟨w.heap.size, 0, none⟩ = some (.int .i64 v.time) := fun z => box_cell (below_box z.low p0) 0 _ rfl
  have k0 : ∀ (z : Low (w.alloc (boxV v))) (y : Low z.wd), y.wd.cell? ⟨g, 0, none⟩ = some (.int .i64 st.room) := fun z y => (sto_cells ((hA.below z.low).below y.low)).1
  have k1 : ∀ (z : Low (w.alloc (boxV v))) (y : Low z.wd), y.wd.cell? ⟨g, 1, none⟩ = some (.int .i64 (st.vs.length : Int)) := fun z y => (sto_cells ((hA.below z.low).below y.low)).2.1
  have hfew := keys_few hA.keys
  have hput : ∀ (z : Low (w.alloc (boxV v))) (y : Low z.wd), Calls Try.prog 66 #[.slice ao ps.length cap, .string v.key, .string ⟨#[]⟩] y.wd fun e w' => ∃ ao' cap', e = .returned (.slice ao' (putP ps v.key ⟨#[]⟩).length cap') ∧ OwnPs y.wd.heap.size w' (.slice ao' (putP ps v.key ⟨#[]⟩).length cap') (putP ps v.key ⟨#[]⟩) ∧ Below y.wd.heap.size y.wd w' := by
    intro z y
    have hY := (hA.below z.low).below y.low
    obtain ⟨ao2, cap2, e2, hl2⟩ := ownPs_lies hY.pages
    cases e2
    exact put_own ps hA.keys.1 ao cap v.key ⟨#[]⟩ (by omega) y.wd hl2
  have hst3 : ∀ (z : Low (w.alloc (boxV v))) (y : Low z.wd) (w3 : World), Below y.wd.heap.size y.wd w3 → w3.cell? ⟨g, 4, none⟩ = some (.slice ao ps.length cap) ∧ w3.frozen? ⟨g, 4, none⟩ = false := fun z y w3 hb => ⟨(sto_cells (((hA.below z.low).below y.low).below hb)).2.2.2.2, box_open (((hA.below z.low).below y.low).below hb).box 4⟩
  have k4 : ∀ (z : Low (w.alloc (boxV v))) (y : Low z.wd), y.wd.cell? ⟨g, 4, none⟩ = some (.slice ao ps.length cap) := fun z y => (sto_cells ((hA.below z.low).below y.low)).2.2.2.2
  have hmore : ∀ (z : Low (w.alloc (boxV v))) (y : Low z.wd) (w3 : World) ao3 cap3, Below y.wd.heap.size y.wd w3 → OwnPs y.wd.heap.size w3 (.slice ao3 (putP ps v.key ⟨#[]⟩).length cap3) (putP ps v.key ⟨#[]⟩) → ∀ W4 (b : Nat), W4 = w3.setCell ⟨g, 4, none⟩ (.slice ao3 (putP ps v.key ⟨#[]⟩).length cap3) → W4.heap.size = b →
      W4.cell? ⟨g, 3, none⟩ = some (.map (some gm)) ∧ W4.cell? ⟨w.heap.size, 0, none⟩ = some (.int .i64 v.time) ∧ W4.cell? ⟨w.heap.size, 1, none⟩ = some (.string v.val) ∧ W4.cell? ⟨w.heap.size, 2, none⟩ = some (.bool v.gone) ∧
      ∃ g' C' w5 w6, (∀ ty, (Builtin.append_ #[110, 110] ty #[.slice none 0 0, .slice (some ⟨b, 0, none⟩) 1 1]).run Try.prog ((W4.alloc (boxV v)).drew) = .ok (.slice (some ⟨g', 0, none⟩) (0 + 1) C') w5) ∧
      (Instr.mapUpdate 103 (.map (some gm)) (.string v.key) (.slice (some ⟨g', 0, none⟩) (0 + 1) C')).run Try.prog w5 = .ok () w6 ∧
      w5.cell? ⟨g, 3, none⟩ = some (.map (some gm)) ∧ w5.cell? ⟨w.heap.size, 0, none⟩ = some (.int .i64 v.time) ∧ w5.cell? ⟨w.heap.size, 1, none⟩ = some (.string v.val) ∧ w5.cell? ⟨w.heap.size, 2, none⟩ = some (.bool v.gone) ∧ w6.cell? ⟨g, 3, none⟩ = some (.map (some gm)) ∧ w6.cell? ⟨w.heap.size, 1, none⟩ = some (.string v.val) ∧ w6.cell? ⟨w.heap.size, 2, none⟩ = some (.bool v.gone) ∧ w6.cell? ⟨g, 1, none⟩ = some (.int .i64 (st.vs.length : Int)) ∧ w6.cell? ⟨g, 2, none⟩ = some (.int .i64 st.top) ∧ (∀ i, w6.frozen? ⟨g, i, none⟩ = false) ∧ w6.cell? ⟨w.heap.size, 0, none⟩ = some (.int .i64 v.time) ∧
      HoldP B ((w6.setCell ⟨g, 1, none⟩ (.int .i64 ((st.vs.length : Int) + 1))).setCell ⟨g, 2, none⟩ (.int .i64 v.time)) g ⟨st.room, v.time, st.vs ++ [v]⟩ ∧ TurnP B w ((w6.setCell ⟨g, 1, none⟩ (.int .i64 ((st.vs.length : Int) + 1))).setCell ⟨g, 2, none⟩ (.int .i64 v.time)) := by
    rintro z y w3 ao3 cap3 hb3 hp3 W4 b rfl rfl
    have hbY : Below w.heap.size w w3 := below_next (below_next (below_next hbA (Nat.le_refl _) z.low) (Nat.le_refl _) y.low) (Nat.le_refl _) hb3
    have hYs : B ≤ y.wd.heap.size := Nat.le_trans hB (Nat.le_trans (below_next (below_next hbA (Nat.le_refl _) z.low) (Nat.le_refl _) y.low).size (Nat.le_refl _))
    have hY := ((hA.below z.low).below y.low).below hb3
    obtain ⟨h4, t4⟩ := stoG_pages hY.toStoG (ownPs_mono hp3 hYs)
    have hbx3 : w3.heap[w.heap.size]? = some (boxV v) := below_box hb3 (below_box y.low (below_box z.low p0))
    have hbx4 : (w3.setCell ⟨g, 4, none⟩ (.slice ao3 (putP ps v.key ⟨#[]⟩).length cap3)).heap[w.heap.size]? = some (boxV v) := grown_box (grown_set w3 g 4 _) hbx3 (by omega)
    generalize hW4 : w3.setCell ⟨g, 4, none⟩ (.slice ao3 (putP ps v.key ⟨#[]⟩).length cap3) = W4 at *
    have hbD : Below W4.heap.size W4 ((W4.alloc (boxV v)).drew) := ((Below.refl _ _).alloc (Nat.le_refl _) _).drew
    have h5 := h4.below hbD
    have hbx5 := below_box hbD hbx4
    have hnn := heap_drew (heap_newB W4 (boxV v) W4.heap.size rfl)
    have hlen : (keyV st.vs v.key).length = 0 := by rw [hx]; rfl
    have hap := fun ty => app_put h5 v.key hk v (by omega) (by omega) W4.heap.size hnn ty _ hrv _ hlen
    obtain ⟨g', C', w5, w6, a1, a2, a3, a4, a5, a6⟩ := hap 0
    have hty : ∀ ty, (Builtin.append_ #[110, 110] ty #[.slice none 0 0, .slice (some ⟨W4.heap.size, 0, none⟩) 1 1]).run Try.prog ((W4.alloc (boxV v)).drew) = .ok (.slice (some ⟨g', 0, none⟩) (0 + 1) C') w5 := fun ty => a1
    have hgm := (Array.getElem?_eq_some_iff.1 (ownM_heap h.map).choose_spec.choose_spec).1
    obtain ⟨hbx5', hbx6'⟩ := a5 _ _ hbx5 (fun hc => absurd hx hc)
    have hbx6 := hbx6' (by omega)
    have hg5 := (a5 _ _ h5.box (fun hc => absurd hx hc)).1
    obtain ⟨kk1, kk2⟩ := keys_new (l' := st.vs ++ [v]) (k := v.key) hY.keys hx (by rw [keyV_snoc, if_pos rfl]; simp) (fun q hq => by rw [keyV_snoc, if_neg (fun e => hq e.symm)])
    have hsz : Maps.size (D.put (litK v.key) (.held (.slice (some ⟨g', 0, none⟩) (keyV st.vs v.key ++ [v]).length C'))) = (putP ps v.key ⟨#[]⟩).flatten.length := by
      rw [size_put (hY.map.tidy lawStr), hY.rows.no v.key hx, kk2, ← hY.size]
      rfl
    obtain ⟨b1, b2⟩ := more_end a3 kk1 hsz hY.inv hY.small hk h1 h2 h3 hroom
    exact ⟨box_cell h4.box 3 _ rfl, box_cell hbx4 0 _ rfl, box_cell hbx4 1 _ rfl, box_cell hbx4 2 _ rfl, g', C', w5, w6, hty, a2, box_cell hg5 3 _ rfl, box_cell hbx5' 0 _ rfl, box_cell hbx5' 1 _ rfl, box_cell hbx5' 2 _ rfl, box_cell a3.box 3 _ rfl, box_cell hbx6 1 _ rfl, box_cell hbx6 2 _ rfl, box_cell a3.box 1 _ rfl, box_cell a3.box 2 _ rfl, fun i => box_open a3.box i, box_cell hbx6 0 _ rfl, b1, (((Turns.of_below hbY hB).trans t4).trans ((Turns.of_below hbD (Nat.le_trans hYs (Nat.le_trans hb3.size t4.below.size))).trans a4)).trans b2⟩
  have hgw : ¬ w.heap.size = g := by omega
  clear h hA hbA hB h1 h2 h3 p0 hx hrv hfew
  generalize st.vs.length = L at *
  go_enter Try.func56, Try.ntmps56
  go_wp2_with fail
  refine wp_region_low (by kernel_rfl) (by kernel_rfl) fun hsome => ?_
  repeat (go_big_quiet_step (fail))
  refine wpQuiet_nil ?_
  rintro _ ⟨z, rfl⟩
  have k0z := k0 z
  have k1z := k1 z
  clear k0 k1 hsome
  go_wp2_with fail
  refine wp_region_low (by kernel_rfl) (by kernel_rfl) fun hsome => ?_
  repeat (go_big_quiet_step (fail))
  refine wpQuiet_nil ?_
  rintro _ ⟨y, rfl⟩
  have hputz := hput z y
  have hst3z := hst3 z y
  have hmorez := hmore z y
  have k4z := k4 z y
  clear hput hst3 hmore k4 k0z k1z q0 hsome
  generalize y.wd = W at *
  go_wp2_with (first
    | (go_at_call 66; refine hputz.mono ?_; rintro e w3 ⟨ao3, cap3, rfl, hp3, hb3⟩
       obtain ⟨s1, s2⟩ := hst3z w3 hb3))
  obtain ⟨W4, hW4⟩ : ∃ W4, W4 = w3.setCell ⟨g, 4, none⟩ (.slice ao3 (putP ps v.key ⟨#[]⟩).length cap3) := ⟨_, rfl⟩
  obtain ⟨u3, u0, u1, u2, g', C', w5, w6, a1, a2, t3, t0, t1, t2, v3, v1, v2, a3, a4, a5, a6, a7⟩ := hmorez w3 ao3 cap3 hb3 hp3 W4 W4.heap.size hW4 rfl
  have a5' := a5 1
  have a5'' := a5 2
  rw [← hW4]
  clear hmorez hputz hst3z k4z hW4 s1 s2 hp3 hb3 a5
  have hS0 : W4.drew.cell? ⟨g, 3, none⟩ = some (.map (some gm)) ∧ W4.drew.cell? ⟨w.heap.size, 0, none⟩ = some (.int .i64 v.time) ∧ W4.drew.cell? ⟨w.heap.size, 1, none⟩ = some (.string v.val) ∧ W4.drew.cell? ⟨w.heap.size, 2, none⟩ = some (.bool v.gone) := ⟨u3, u0, u1, u2⟩
  have hS1 : (W4.alloc (boxV v)).drew.cell? ⟨g, 3, none⟩ = some (.map (some gm)) ∧ (W4.alloc (boxV v)).drew.cell? ⟨w.heap.size, 0, none⟩ = some (.int .i64 v.time) ∧ (W4.alloc (boxV v)).drew.cell? ⟨w.heap.size, 1, none⟩ = some (.string v.val) ∧ (W4.alloc (boxV v)).drew.cell? ⟨w.heap.size, 2, none⟩ = some (.bool v.gone) := ⟨alloc_cell _ u3, alloc_cell _ u0, alloc_cell _ u1, alloc_cell _ u2⟩
  go_region_held_law (fun w' => w'.cell? ⟨g, 3, none⟩ = some (.map (some gm)) ∧ w'.cell? ⟨w.heap.size, 0, none⟩ = some (.int .i64 v.time) ∧ w'.cell? ⟨w.heap.size, 1, none⟩ = some (.string v.val) ∧ w'.cell? ⟨w.heap.size, 2, none⟩ = some (.bool v.gone)) (first | exact hS0 | exact hS1 | exact ⟨t3, t0, t1, t2⟩ | exact ⟨v3, a6, v1, v2⟩)
    (refine step_app_run rfl (.tmp 61) (.tmp 63) 110 rfl (.slice none 0 0) (.slice (some ⟨W4.heap.size, 0, none⟩) 1 1) (by simp [Act.eval]) (by simp [Act.eval]) (a1 _) ?_)
  clear hS0 hS1 t3 t0 t1 t2 u0 u1 u2 u3 a1 a2
  go_wp2
  go_ret
  exact ⟨rfl, a7⟩
set_option maxRecDepth 100000 in
set_option maxHeartbeats 4000000 in
theorem add_moreOld (B g : Nat) (st : Sto) (v : Ver) (x : Ver) (hx : lastA st.vs v.key = some x) (hxt : ¬ x.time = v.time) (hroom : (st.vs.length : Int) < st.room) (h1 : 1 ≤ v.time) (h2 : v.time < 1099511627776) (h3 : st.top ≤ v.time) (hk : v.key.size ≤ maxLen) (hn : st.vs.length ≤ 4100) (w : World) (h : HoldP B w g st) :
    Calls Try.prog 56 #[.pointer (some ⟨g, 0, none⟩), .string v.key, .agg #[.int .i64 v.time, .string v.val, .bool v.gone]] w fun e w' => e = .returned (.int .i64 0) ∧ HoldP B w' g ⟨st.room, v.time, st.vs ++ [v]⟩ ∧ TurnP B w w' := by
  obtain ⟨gm, D, blk, capf, ao, cap, ps, h⟩ := h
  have hgl := (Array.getElem?_eq_some_iff.1 h.box).1
  have hB : B ≤ w.heap.size := Nat.le_trans h.gB (Nat.le_of_lt hgl)
  have hbA : Below w.heap.size w (w.alloc (boxV v)) := (Below.refl _ w).alloc (Nat.le_refl _) _
  have hA := h.below hbA
  obtain ⟨_, _, _, c3, _⟩ := sto_cells hA
  have hrun := run_lookV hA.map hA.rows hk
  obtain ⟨r, hr⟩ : ∃ r, keyV st.vs v.key = r ++ [x] := by
    rw [lastA_key] at hx
    exact List.getLast?_eq_some_iff.1 hx
  have hne : keyV st.vs v.key ≠ [] := by rw [hr]; simp
  have hlen : (keyV st.vs v.key).length = r.length + 1 := by rw [hr]; simp
  have hrl : r.length + 1 ≤ 4100 := by
    have : (keyV st.vs v.key).length ≤ st.vs.length := List.length_filter_le _ _
    omega
  have hrv : rowV (keyV st.vs v.key) (blk v.key) (capf v.key) = .slice (some ⟨blk v.key, 0, none⟩) (r.length + 1) (capf v.key) := by rw [rowV_some hne, hlen]
  rw [hrv] at hrun
  have hcell := verCells_get (keyV st.vs v.key) r.length x (by rw [hr]; simp)
  have e0 := (hA.rows.row v.key hne).cells (g := blk v.key) rfl _ _ hcell.1
  rw [Addr.add_lit, Nat.zero_add] at e0
  have d0 : ∀ z : Low (w.alloc (boxV v)), z.wd.cell? ⟨blk v.key, r.length * 3, none⟩ = some (.int .i64 x.time) := fun z => (z.cell (cell_lt e0)).trans e0
  have hbl : blk v.key < w.heap.size := by
    obtain ⟨cur0, hc0, _⟩ := row_heap h.rows hne
    exact (Array.getElem?_eq_some_iff.1 hc0).1
  have p0 := heap_new w (boxV v)
  have q0 : ∀ z : Low (w.alloc (boxV v)), z.wd.cell? ⟨w.heap.size, 0, none⟩ = some (.int .i64 v.time) := fun z => box_cell (below_box z.low p0) 0 _ rfl
  have k0 : ∀ (z : Low (w.alloc (boxV v))) (y : Low z.wd), y.wd.cell? ⟨g, 0, none⟩ = some (.int .i64 st.room) := fun z y => (sto_cells ((hA.below z.low).below y.low)).1
  have k1 : ∀ (z : Low (w.alloc (boxV v))) (y : Low z.wd), y.wd.cell? ⟨g, 1, none⟩ = some (.int .i64 (st.vs.length : Int)) := fun z y => (sto_cells ((hA.below z.low).below y.low)).2.1
  have hL := hA.keys
  have hmore : ∀ (z : Low (w.alloc (boxV v))) (y : Low z.wd) (b : Nat), y.wd.heap.size = b → ∃ g' C' w5 w6, (∀ ty, (Builtin.append_ #[110, 110] ty #[.slice (some ⟨blk v.key, 0, none⟩) (r.length + 1) (capf v.key), .slice (some ⟨b, 0, none⟩) 1 1]).run Try.prog ((y.wd.alloc (boxV v)).drew) = .ok (.slice (some ⟨g', 0, none⟩) (r.length + 1 + 1) C') w5) ∧
      (Instr.mapUpdate 103 (.map (some gm)) (.string v.key) (.slice (some ⟨g', 0, none⟩) (r.length + 1 + 1) C')).run Try.prog w5 = .ok () w6 ∧
      w5.cell? ⟨g, 3, none⟩ = some (.map (some gm)) ∧ w5.cell? ⟨w.heap.size, 0, none⟩ = some (.int .i64 v.time) ∧ w5.cell? ⟨w.heap.size, 1, none⟩ = some (.string v.val) ∧ w5.cell? ⟨w.heap.size, 2, none⟩ = some (.bool v.gone) ∧ w6.cell? ⟨g, 3, none⟩ = some (.map (some gm)) ∧ w6.cell? ⟨w.heap.size, 1, none⟩ = some (.string v.val) ∧ w6.cell? ⟨w.heap.size, 2, none⟩ = some (.bool v.gone) ∧ w6.cell? ⟨g, 1, none⟩ = some (.int .i64 (st.vs.length : Int)) ∧ w6.cell? ⟨g, 2, none⟩ = some (.int .i64 st.top) ∧ (∀ i, w6.frozen? ⟨g, i, none⟩ = false) ∧ w6.cell? ⟨w.heap.size, 0, none⟩ = some (.int .i64 v.time) ∧
      HoldP B ((w6.setCell ⟨g, 1, none⟩ (.int .i64 ((st.vs.length : Int) + 1))).setCell ⟨g, 2, none⟩ (.int .i64 v.time)) g ⟨st.room, v.time, st.vs ++ [v]⟩ ∧ TurnP B w ((w6.setCell ⟨g, 1, none⟩ (.int .i64 ((st.vs.length : Int) + 1))).setCell ⟨g, 2, none⟩ (.int .i64 v.time)) := by
    rintro z y b rfl
    have hbY : Below w.heap.size w y.wd := below_next (below_next hbA (Nat.le_refl _) z.low) (Nat.le_refl _) y.low
    have hbD : Below y.wd.heap.size y.wd ((y.wd.alloc (boxV v)).drew) := ((Below.refl _ _).alloc (Nat.le_refl _) _).drew
    have hY := ((hA.below z.low).below y.low).below hbD
    have hbx : ((y.wd.alloc (boxV v)).drew).heap[w.heap.size]? = some (boxV v) := below_box hbD (below_box y.low (below_box z.low p0))
    have hfew := (keys_few hY.keys).1
    have hnn := heap_drew (heap_newB y.wd (boxV v) y.wd.heap.size rfl)
    have hap := fun ty => app_put hY.toStoG v.key hk v (by omega) (by omega) y.wd.heap.size hnn ty _ hrv _ hlen
    obtain ⟨g', C', w5, w6, a1, a2, a3, a4, a5, a6⟩ := hap 0
    have hty : ∀ ty, (Builtin.append_ #[110, 110] ty #[.slice (some ⟨blk v.key, 0, none⟩) (r.length + 1) (capf v.key), .slice (some ⟨y.wd.heap.size, 0, none⟩) 1 1]).run Try.prog ((y.wd.alloc (boxV v)).drew) = .ok (.slice (some ⟨g', 0, none⟩) (r.length + 1 + 1) C') w5 := fun ty => a1
    have hgm := (Array.getElem?_eq_some_iff.1 (ownM_heap h.map).choose_spec.choose_spec).1
    obtain ⟨hbx5', hbx6'⟩ := a5 _ _ hbx (fun _ => by omega)
    have hbx6 := hbx6' (by omega)
    have hbl' := row_heap hY.rows hne
    have hg5 := (a5 _ _ hY.box (fun _ => obj_ne hY.box hbl'.choose_spec.1 (by simp))).1
    have hsz : Maps.size (D.put (litK v.key) (.held (.slice (some ⟨g', 0, none⟩) (keyV st.vs v.key ++ [v]).length C'))) = ps.flatten.length := by
      rw [size_put (hY.map.tidy lawStr), has_true_of_atKey (hY.rows.at_ v.key hne), if_pos rfl]
      exact hY.size
    obtain ⟨b1, b2⟩ := more_end a3 (keys_same hY.keys (fun q => by
      rw [keyV_snoc]
      by_cases e : v.key = q
      · rw [if_pos e, ← e]
        exact ⟨fun h => absurd h (by simp), fun h => absurd h hne⟩
      · rw [if_neg e])) hsz hY.inv hY.small hk h1 h2 h3 hroom
    exact ⟨g', C', w5, w6, hty, a2, box_cell hg5 3 _ rfl, box_cell hbx5' 0 _ rfl, box_cell hbx5' 1 _ rfl, box_cell hbx5' 2 _ rfl, box_cell a3.box 3 _ rfl, box_cell hbx6 1 _ rfl, box_cell hbx6 2 _ rfl, box_cell a3.box 1 _ rfl, box_cell a3.box 2 _ rfl, fun i => box_open a3.box i, box_cell hbx6 0 _ rfl, b1, ((Turns.of_below (below_next hbY (Nat.le_refl _) hbD) hB).trans a4).trans b2⟩
  have q1 : ∀ (z : Low (w.alloc (boxV v))) (y : Low z.wd), y.wd.cell? ⟨w.heap.size, 0, none⟩ = some (.int .i64 v.time) ∧ y.wd.cell? ⟨w.heap.size, 1, none⟩ = some (.string v.val) ∧ y.wd.cell? ⟨w.heap.size, 2, none⟩ = some (.bool v.gone) ∧ y.wd.cell? ⟨g, 3, none⟩ = some (.map (some gm)) := fun z y => ⟨box_cell (below_box y.low (below_box z.low p0)) 0 _ rfl, box_cell (below_box y.low (below_box z.low p0)) 1 _ rfl, box_cell (below_box y.low (below_box z.low p0)) 2 _ rfl, (sto_cells ((hA.below z.low).below y.low)).2.2.2.1⟩
  have hgw : ¬ w.heap.size = g := by omega
  clear h hA hbA hB h1 h2 h3 p0 hcell e0 hx hr hlen hne hrv hL
  generalize blk v.key = b at *
  generalize capf v.key = C at *
  generalize r.length = m at *
  have g1 : (0 : Int) < (m : Int) + 1 := by omega
  generalize st.vs.length = L at *
  go_enter Try.func56, Try.ntmps56
  go_wp2_with fail
  refine wp_region_low (by kernel_rfl) (by kernel_rfl) fun hsome => ?_
  repeat (go_big_quiet_step (fail))
  refine wpQuiet_nil ?_
  rintro _ ⟨z, rfl⟩
  have k0z := k0 z
  have k1z := k1 z
  clear k0 k1 hsome
  go_wp2_with fail
  refine wp_region_low (by kernel_rfl) (by kernel_rfl) fun hsome => ?_
  repeat (go_big_quiet_step (fail))
  refine wpQuiet_nil ?_
  rintro _ ⟨y, rfl⟩
  obtain ⟨u0, u1, u2, u3⟩ := q1 z y
  obtain ⟨g', C', w5, w6, a1, a2, t3, t0, t1, t2, v3, v1, v2, a3, a4, a5, a6, a7⟩ := hmore z y y.wd.heap.size rfl
  have a5' := a5 1
  have a5'' := a5 2
  clear hmore q1 q0 k0z k1z d0 a5 hsome
  generalize y.wd = W at *
  have hS0 : W.drew.cell? ⟨g, 3, none⟩ = some (.map (some gm)) ∧ W.drew.cell? ⟨w.heap.size, 0, none⟩ = some (.int .i64 v.time) ∧ W.drew.cell? ⟨w.heap.size, 1, none⟩ = some (.string v.val) ∧ W.drew.cell? ⟨w.heap.size, 2, none⟩ = some (.bool v.gone) := ⟨u3, u0, u1, u2⟩
  have hS1 : (W.alloc (boxV v)).drew.cell? ⟨g, 3, none⟩ = some (.map (some gm)) ∧ (W.alloc (boxV v)).drew.cell? ⟨w.heap.size, 0, none⟩ = some (.int .i64 v.time) ∧ (W.alloc (boxV v)).drew.cell? ⟨w.heap.size, 1, none⟩ = some (.string v.val) ∧ (W.alloc (boxV v)).drew.cell? ⟨w.heap.size, 2, none⟩ = some (.bool v.gone) := ⟨alloc_cell _ u3, alloc_cell _ u0, alloc_cell _ u1, alloc_cell _ u2⟩
  go_wp2_with fail
  go_region_held_law (fun w' => w'.cell? ⟨g, 3, none⟩ = some (.map (some gm)) ∧ w'.cell? ⟨w.heap.size, 0, none⟩ = some (.int .i64 v.time) ∧ w'.cell? ⟨w.heap.size, 1, none⟩ = some (.string v.val) ∧ w'.cell? ⟨w.heap.size, 2, none⟩ = some (.bool v.gone)) (first | exact hS0 | exact hS1 | exact ⟨t3, t0, t1, t2⟩ | exact ⟨v3, a6.1, v1, v2⟩ | exact ⟨v3, a6, v1, v2⟩)
    (refine step_app_run rfl (.tmp 61) (.tmp 63) 110 rfl (.slice (some ⟨b, 0, none⟩) (m + 1) C) (.slice (some ⟨W.heap.size, 0, none⟩) 1 1) (by simp [Act.eval]) (by simp [Act.eval]) (a1 _) ?_)
  clear hS0 hS1 t3 t0 t1 t2 u0 u1 u2 u3 a1 a2
  go_wp2
  go_ret
  exact ⟨rfl, a7⟩
end Go.Proofs.Ytdmkmhjalcfchaa
namespace Go.Proofs.Ytdmkmhjalcfchaa
open Go.RowKit Go.Maps Num
open scoped Classical
set_option linter.unusedVariables false
set_option maxRecDepth 100000

/-- A version more, whose time may come. -/
def Num.addS (st : Sto) (v : Ver) : Int × Sto := if lastAt (lastA st.vs v.key) v.time = true then (0, ⟨st.room, v.time, turnV st.vs v.key v⟩) else if st.room ≤ (st.vs.length : Int) then (4, st) else (0, ⟨st.room, v.time, st.vs ++ [v]⟩)
theorem add_any (B g : Nat) (st : Sto) (v : Ver) (h1 : 1 ≤ v.time) (h2 : v.time < 1099511627776) (h3 : st.top ≤ v.time) (hk : v.key.size ≤ maxLen) (hn : st.vs.length ≤ 4100) (w : World) (h : HoldP B w g st) :
    Calls Try.prog 56 #[.pointer (some ⟨g, 0, none⟩), .string v.key, .agg #[.int .i64 v.time, .string v.val, .bool v.gone]] w fun e w' => e = .returned (.int .i64 (addS st v).1) ∧ HoldP B w' g (addS st v).2 ∧ TurnP B w w' := by
  unfold addS
  cases hl : lastA st.vs v.key with
  | none =>
    have hx : keyV st.vs v.key = [] := by
      rw [lastA_key, List.getLast?_eq_none_iff] at hl
      exact hl
    rw [if_neg (by simp [lastAt])]
    by_cases hr : st.room ≤ (st.vs.length : Int)
    · rw [if_pos hr]
      exact add_fullNew B g st v hx hr h1 h2 h3 hk hn w h
    · rw [if_neg hr]
      exact add_moreNew B g st v hx (by omega) h1 h2 h3 hk hn w h
  | some x =>
    by_cases ht : x.time = v.time
    · rw [if_pos (show lastAt (some x) v.time = true from decide_eq_true ht)]
      exact add_turn B g st v x hl ht h1 h2 h3 hk hn w h
    · rw [if_neg (by simpa [lastAt] using ht)]
      by_cases hr : st.room ≤ (st.vs.length : Int)
      · rw [if_pos hr]
        exact add_fullOld B g st v x hl ht hr h1 h2 h3 hk hn w h
      · rw [if_neg hr]
        exact add_moreOld B g st v x hl ht (by omega) h1 h2 h3 hk hn w h
theorem put_bad {st : Sto} {v : Ver} (h : v.time < 1 ∨ 1099511627776 ≤ v.time ∨ v.time < st.top) : putS st v = (1, st) := if_pos h
theorem put_none {st : Sto} {v : Ver} (h : ¬ (v.time < 1 ∨ 1099511627776 ≤ v.time ∨ v.time < st.top)) (hg : v.gone = true) (hl : noneLeft (lastA st.vs v.key) = true) : putS st v = (0, st) := by
  unfold putS
  rw [if_neg h, if_pos ⟨hg, hl⟩]
theorem put_add {st : Sto} {v : Ver} (h : ¬ (v.time < 1 ∨ 1099511627776 ≤ v.time ∨ v.time < st.top)) (hg : v.gone = false ∨ noneLeft (lastA st.vs v.key) = false) : putS st v = addS st v := by
  unfold putS
  rw [if_neg h, if_neg (by
    rintro ⟨a, b⟩
    rcases hg with hg | hg
    · rw [hg] at a
      cases a
    · rw [hg] at b
      cases b)]
  rfl
set_option maxRecDepth 100000 in
set_option maxHeartbeats 1000000 in
theorem sput_any (B g : Nat) (st : Sto) (t : Int) (k x : ByteArray) (hk : k.size ≤ maxLen) (hn : st.vs.length ≤ 4100) (w : World) (h : HoldP B w g st) :
    Calls Try.prog 35 #[.pointer (some ⟨g, 0, none⟩), .int .i64 t, .string k, .string x] w fun e w' => e = .returned (.int .i64 (putS st ⟨k, t, x, false⟩).1) ∧ HoldP B w' g (putS st ⟨k, t, x, false⟩).2 ∧ TurnP B w w' := by
  have hB : B ≤ w.heap.size := Nat.le_trans h.lt.1 (Nat.le_of_lt h.lt.2)
  by_cases hb : t < 1 ∨ 1099511627776 ≤ t ∨ t < st.top
  · have hm := may_no B g st t hb w h
    rw [put_bad (v := ⟨k, t, x, false⟩) hb]
    have hT : TurnP B w w := Turns.of_below (Below.refl _ _) hB
    clear hb
    go_enter Try.func35, Try.ntmps35
    go_wp2_with (first
      | (go_at_call 55; refine hm.mono ?_; rintro e w1 ⟨rfl, hq⟩; have hq' := hq.symm; clear hq; subst hq'))
    go_ret
    exact ⟨rfl, h, hT⟩
  · have hm := may_yes B g st t (by omega) (by omega) (by omega) w h
    have ha := add_any B g st ⟨k, t, x, false⟩ (by show 1 ≤ t; omega) (by show t < _; omega) (by show _ ≤ t; omega) hk hn w h
    rw [put_add (v := ⟨k, t, x, false⟩) hb (.inl rfl)]
    generalize addS st ⟨k, t, x, false⟩ = out at *
    clear hb h
    go_enter Try.func35, Try.ntmps35
    go_wp2_with (first
      | (go_at_call 55; refine hm.mono ?_; rintro e w1 ⟨rfl, hq⟩; have hq' := hq.symm; clear hq; subst hq')
      | (go_at_call 56; refine ha.mono ?_; rintro e w2 ⟨rfl, hh, hT⟩))
    go_ret
    exact ⟨rfl, hh, hT⟩
set_option maxRecDepth 100000 in
set_option maxHeartbeats 1000000 in
theorem sdel_any (B g : Nat) (st : Sto) (t : Int) (k : ByteArray) (hk : k.size ≤ maxLen) (hn : st.vs.length ≤ 4100) (w : World) (h : HoldP B w g st) :
    Calls Try.prog 33 #[.pointer (some ⟨g, 0, none⟩), .int .i64 t, .string k] w fun e w' => e = .returned (.int .i64 (putS st ⟨k, t, ⟨#[]⟩, true⟩).1) ∧ HoldP B w' g (putS st ⟨k, t, ⟨#[]⟩, true⟩).2 ∧ TurnP B w w' := by
  have hB : B ≤ w.heap.size := Nat.le_trans h.lt.1 (Nat.le_of_lt h.lt.2)
  have hT0 : TurnP B w w := Turns.of_below (Below.refl _ _) hB
  by_cases hb : t < 1 ∨ 1099511627776 ≤ t ∨ t < st.top
  · have hm := may_no B g st t hb w h
    rw [put_bad (v := ⟨k, t, ⟨#[]⟩, true⟩) hb]
    clear hb
    go_enter Try.func33, Try.ntmps33
    go_wp2_with (first
      | (go_at_call 55; refine hm.mono ?_; rintro e w1 ⟨rfl, hq⟩; have hq' := hq.symm; clear hq; subst hq'))
    go_ret
    exact ⟨rfl, h, hT0⟩
  · have hm := may_yes B g st t (by omega) (by omega) (by omega) w h
    have ha := add_any B g st ⟨k, t, ⟨#[]⟩, true⟩ (by show 1 ≤ t; omega) (by show t < _; omega) (by show _ ≤ t; omega) hk hn w h
    have hh := h
    obtain ⟨gm, D, blk, capf, ao, cap, ps, h⟩ := h
    obtain ⟨_, _, _, c3, _⟩ := sto_cells h
    obtain ⟨ao1, cap1, hrv, hlies⟩ := rows_lies h.rows k
    have hrun := run_lookV h.map h.rows hk
    rw [hrv] at hrun
    have hql : (keyV st.vs k).length ≤ 4100 := Nat.le_trans (List.length_filter_le _ _) hn
    cases hl : lastA st.vs k with
    | none =>
      have hx : keyV st.vs k = [] := by
        rw [lastA_key, List.getLast?_eq_none_iff] at hl
        exact hl
      rw [put_none (v := ⟨k, t, ⟨#[]⟩, true⟩) hb rfl (by show noneLeft (lastA st.vs k) = true; rw [hl]; rfl)]
      rw [hx] at hrun
      clear hb h ha hlies hrv hl hx hql
      simp only [List.length_nil] at hrun
      go_enter Try.func33, Try.ntmps33
      go_wp2_with (first
        | (go_at_call 55; refine hm.mono ?_; rintro e w1 ⟨rfl, hq⟩; have hq' := hq.symm; clear hq; subst hq'))
      go_ret
      exact ⟨rfl, hh, hT0⟩
    | some y =>
      obtain ⟨r, hr⟩ : ∃ r, keyV st.vs k = r ++ [y] := by
        rw [lastA_key] at hl
        exact List.getLast?_eq_some_iff.1 hl
      obtain ⟨a, e, hblk, e0, e1, e2⟩ := hlies r.length y (by rw [hr]; simp)
      subst e
      have hlen : (keyV st.vs k).length = r.length + 1 := by rw [hr]; simp
      rw [hlen] at hrun hql
      cases hg : y.gone with
      | true =>
        rw [put_none (v := ⟨k, t, ⟨#[]⟩, true⟩) hb rfl (by show noneLeft (lastA st.vs k) = true; rw [hl]; exact hg)]
        rw [hg] at e2
        clear hb h ha hlies hrv hl hr hlen e0 e1
        generalize r.length = m at *
        have hm1 : ¬ ((m : Int) + 1 = 0) := by omega
        go_enter Try.func33, Try.ntmps33
        go_wp2_with (first
          | (go_at_call 55; refine hm.mono ?_; rintro e w1 ⟨rfl, hq⟩; have hq' := hq.symm; clear hq; subst hq'))
        go_ret
        exact ⟨rfl, hh, hT0⟩
      | false =>
        rw [put_add (v := ⟨k, t, ⟨#[]⟩, true⟩) hb (.inr (by show noneLeft (lastA st.vs k) = false; rw [hl]; exact hg))]
        rw [hg] at e2
        generalize addS st ⟨k, t, ⟨#[]⟩, true⟩ = out at *
        clear hb h hlies hrv hl hr hlen e0 e1 hh hT0
        generalize r.length = m at *
        have hm1 : ¬ ((m : Int) + 1 = 0) := by omega
        go_enter Try.func33, Try.ntmps33
        go_wp2_with (first
          | (go_at_call 55; refine hm.mono ?_; rintro e w1 ⟨rfl, hq⟩; have hq' := hq.symm; clear hq; subst hq')
          | (go_at_call 56; refine ha.mono ?_; rintro e w2 ⟨rfl, hh, hT⟩))
        go_ret
        exact ⟨rfl, hh, hT⟩
end Go.Proofs.Ytdmkmhjalcfchaa
