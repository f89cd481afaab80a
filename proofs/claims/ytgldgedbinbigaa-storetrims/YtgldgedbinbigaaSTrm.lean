/-
  Joined:
  Contracts: Trim of a store (8.4).
  Contracts: the versions of one key that Trim lets go, and Trim (8.4).
  Contracts: Trim (8.4).
-/
import Derived.Test.YtgldgedbinbigaaSCut
namespace Go.Proofs.Ytgldgedbinbigaa
open Go.RowKit Go.Maps Num
open scoped Classical
set_option linter.unusedVariables false

set_option maxHeartbeats 1000000 in
theorem cut_none (g C n : Nat) (hn : n ≤ 10000) (hC : n ≤ C) (w : World) :
    Calls Try.prog 45 #[.slice (some ⟨g, 0, none⟩) n C, .int .i64 0, .int .i64 0] w fun e w' => e = .returned (.slice (some ⟨g, 0, none⟩) n C) ∧ w' = w := by
  have f1 : (n : Int) ≤ (C : Int) := by omega
  go_enter Try.func45, Try.ntmps45
  go_wp2
  go_ret
  exact ⟨rfl, rfl⟩
/-- A key's first versions go, and the map has what is left. -/
theorem cut_put {B : Nat} {W : World} {g gm : Nat} {room size top : Int} {K : ByteArray → List Ver} {D : DataW Value} {blk capf : ByteArray → Nat} {N : Nat} {pv : Value} {ps : Pages} (h : StoG B W g gm room size top K D blk capf N pv ps) (k : ByteArray) (hk : k.size ≤ maxLen) (hN : N ≤ 1000) (hq : (K k).length ≤ 900) (m : Nat) (hm : m < (K k).length) (n : Nat) (hn : (K k).length = n) :
    Calls Try.prog 45 #[.slice (some ⟨blk k, 0, none⟩) n (capf k), .int .i64 0, .int .i64 (m : Int)] W fun e w5 => e = .returned (.slice (some ⟨blk k, 0, none⟩) (n - m) (capf k)) ∧ ∃ w6, (Instr.mapUpdate 54 (.map (some gm)) (.string k) (.slice (some ⟨blk k, 0, none⟩) (n - m) (capf k))).run Try.prog w5 = .ok () w6 ∧
      StoG B w6 g gm room size top (fun x => if x = k then (K k).drop m else K x) (D.put (litK k) (.held (.slice (some ⟨blk k, 0, none⟩) ((K k).drop m).length (capf k)))) (fun x => if x = k then blk k else blk x) (fun x => if x = k then capf k else capf x) (N + 1) pv ps ∧ TurnP B W w6 ∧ w5.cell? ⟨g, 3, none⟩ = some (.map (some gm)) := by
  have hne : K k ≠ [] := by
    intro e
    rw [e] at hm
    simp at hm
  have hrow := h.rows.row k hne
  have hdl : ((K k).drop m).length = n - m := by rw [List.length_drop, hn]
  suffices hC : Calls Try.prog 45 #[.slice (some ⟨blk k, 0, none⟩) n (capf k), .int .i64 0, .int .i64 (m : Int)] W fun e w5 => e = .returned (.slice (some ⟨blk k, 0, none⟩) (n - m) (capf k)) ∧ w5.ownsRow B 66 3 (.slice (some ⟨blk k, 0, none⟩) (n - m) (capf k)) (n - m) (verCells ((K k).drop m)) ∧ W.grownBy w5 (some (blk k)) by
    refine hC.mono ?_
    rintro e w5 ⟨rfl, hown, hg⟩
    refine ⟨rfl, ?_⟩
    have hgr : W.grownBy w5 (rowV (K k) (blk k) (capf k)).ownBlock := by
      rw [rowV_some hne]
      exact hg
    obtain ⟨cur0, hc0, _⟩ := row_heap h.rows hne
    have hm5 : OwnM w5 gm N D := ownM_same h.map (fun es c e => grown_keep hg e (by
      intro e2
      cases e2
      rw [hc0] at e
      cases e))
    rw [← hdl]
    obtain ⟨w6, hr6, hm6, hg6⟩ := hm5.update lawStr Try.underlying54 (by unfold maxLen; omega) (WideMaps.keyOf_string_mk Try.underlying9 hk) (val := .slice (some ⟨blk k, 0, none⟩) ((K k).drop m).length (capf k)) (d := .held (.slice (some ⟨blk k, 0, none⟩) ((K k).drop m).length (capf k))) (ps := []) rfl
    obtain ⟨hG, hT⟩ := stoG_put h (k := k) (q' := (K k).drop m) (by
      intro e
      have := congrArg List.length e
      rw [hdl] at this
      simp at this
      omega) hgr (by rw [hdl]; exact hown) (.inl ⟨hne, rfl⟩) hm6 hg6
    refine ⟨w6, hr6, hG, hT, ?_⟩
    have hb5 := grown_keep hg h.box (by
      intro e2
      have := obj_ne h.box hc0 (by simp)
      cases e2
      exact this rfl)
    exact box_cell hb5 3 _ rfl
  have hcap : (K k).length ≤ capf k := by
    rcases hrow.2 with ⟨e, _⟩ | ⟨g', cap', cur, e, _, _, hc, _⟩
    · cases e
    · cases e
      exact hc
  subst hn
  by_cases h0 : m = 0
  · subst h0
    refine (cut_none (blk k) (capf k) (K k).length (by omega) hcap W).mono ?_
    rintro e w5 ⟨rfl, rfl⟩
    exact ⟨rfl, hrow, ⟨rfl, rfl, rfl, Nat.le_refl _, fun _ _ _ => rfl⟩⟩
  · have hs : verCells (K k) = [] ++ verCells ((K k).take m) ++ verCells ((K k).drop m) := by rw [List.nil_append]; exact verCells_drop _ _ (by omega)
    have h5 := cut_ver B (blk k) (capf k) (K k).length 0 m ((K k).length - m) [] (verCells ((K k).take m)) (verCells ((K k).drop m)) (by simp) (by rw [verCells_len, List.length_take]; omega) (by rw [verCells_len, List.length_drop]) (verCells_one _) (by omega) (by omega) (by omega) (by omega) W (by rw [← hs]; exact hrow)
    exact h5
/-- What Trim leaves of one key. -/
theorem trim_inv {st : Sto} (h : InvS st) (S : ByteArray → Bool) (t : Int) : InvS ⟨st.room, st.top, trimSet S t st.vs⟩ := by
  obtain ⟨i1, i2, i3, i4, i5⟩ := h
  refine ⟨trimSet_ups i1, fun v hv => i2 v (trimSet_sub S t st.vs v hv), ?_, i4, i5⟩
  show ((trimSet S t st.vs).length : Int) ≤ st.room
  have : (trimSet S t st.vs).length ≤ st.vs.length := by
    clear i1 i2 i3 i4 i5
    induction st.vs with
    | nil => exact Nat.le_refl _
    | cons x l ih =>
      rw [trimSet]
      split
      · simp only [List.length_cons]
        omega
      · simp only [List.length_cons]
        omega
  omega
theorem trim_keys {l : List Ver} (h : Ups l) (k : ByteArray) (t : Int) : (fun x => if x = k then (keyV l k).drop (trimN (keyV l k) t) else keyV l x) = keyV (trimSet (onlyK k) t l) := by
  funext x
  by_cases e : x = k
  · rw [if_pos e, e, trim_one h]
  · rw [if_neg e, trimSet_other (onlyK_no e)]
theorem trim_some {B : Nat} {W : World} {g gm : Nat} {st : Sto} {k : ByteArray} {t : Int} {D D0 : DataW Value} {blk capf : ByteArray → Nat} {ao : Option Addr} {cap N m : Nat} {ps : Pages} (hm : trimN (keyV st.vs k) t = m) (h : StoG B W g gm st.room ((st.vs.length : Int) - (m : Int)) st.top (fun x => if x = k then (keyV st.vs k).drop m else keyV st.vs x) D blk capf N (.slice ao ps.length cap) ps)
    (hlt : m < (keyV st.vs k).length) (hkeys : KeysOk ps st.vs) (hsize : Maps.size D = ps.flatten.length) (hinv : InvS st) (hsmall : ∀ x ∈ st.vs, x.key.size ≤ maxLen) : HoldP B W g ⟨st.room, st.top, trimSet (onlyK k) t st.vs⟩ := by
  subst hm
  rw [trim_keys hinv.1] at h
  have hsz := trim_size hinv.1 k t
  refine ⟨gm, D, blk, capf, ao, cap, ps, ⟨?_, ?_, hsize, trim_inv hinv _ _, fun v hv => hsmall v (trimSet_sub _ _ _ v hv)⟩⟩
  · have hm := own_tight h.map
    rw [hsize] at hm
    show StoG B W g gm st.room ((trimSet (onlyK k) t st.vs).length : Int) st.top (keyV (trimSet (onlyK k) t st.vs)) D blk capf ps.flatten.length (.slice ao ps.length cap) ps
    rw [show ((trimSet (onlyK k) t st.vs).length : Int) = (st.vs.length : Int) - (trimN (keyV st.vs k) t : Int) by omega]
    exact ⟨h.box, h.gB, h.mB, hm, h.rows, h.pages⟩
  · refine keys_same hkeys (fun x => ?_)
    by_cases e : x = k
    · rw [e]
      show keyV (trimSet (onlyK k) t st.vs) k = [] ↔ _
      rw [trim_one hinv.1]
      constructor
      · intro h0
        have := congrArg List.length h0
        rw [List.length_drop] at this
        simp at this
        omega
      · intro h0
        rw [h0] at hlt
        simp at hlt
    · show keyV (trimSet (onlyK k) t st.vs) x = [] ↔ _
      rw [trimSet_other (onlyK_no e)]
theorem trim_none {B : Nat} {W : World} {g gm : Nat} {st : Sto} {k : ByteArray} {t : Int} {D : DataW Value} {blk capf : ByteArray → Nat} {ao : Option Addr} {cap N m : Nat} {ps : Pages} (hm : trimN (keyV st.vs k) t = m) (h : StoG B W g gm st.room ((st.vs.length : Int) - (m : Int)) st.top (fun x => if x = k then [] else keyV st.vs x) D blk capf N (.slice ao (delP ps k).length cap) (delP ps k))
    (hlt : m = (keyV st.vs k).length) (hne : keyV st.vs k ≠ []) (hkeys : KeysOk ps st.vs) (hsize : Maps.size D + 1 = ps.flatten.length) (hinv : InvS st) (hsmall : ∀ x ∈ st.vs, x.key.size ≤ maxLen) : HoldP B W g ⟨st.room, st.top, trimSet (onlyK k) t st.vs⟩ := by
  subst hm
  have hd : (keyV st.vs k).drop (trimN (keyV st.vs k) t) = [] := by rw [hlt]; exact List.drop_length
  have hk2 := trim_keys hinv.1 k t
  rw [hd] at hk2
  rw [hk2] at h
  have hsz := trim_size hinv.1 k t
  have hkt : keyV (trimSet (onlyK k) t st.vs) k = [] := by rw [trim_one hinv.1, hd]
  obtain ⟨kk1, kk2⟩ := keys_gone (l' := trimSet (onlyK k) t st.vs) hkeys hne hkt (fun x hx => trimSet_other (onlyK_no hx) _ _)
  have hsize' : Maps.size D = (delP ps k).flatten.length := by omega
  refine ⟨gm, D, blk, capf, ao, cap, delP ps k, ⟨?_, kk1, hsize', trim_inv hinv _ _, fun v hv => hsmall v (trimSet_sub _ _ _ v hv)⟩⟩
  have hm := own_tight h.map
  rw [hsize'] at hm
  show StoG B W g gm st.room ((trimSet (onlyK k) t st.vs).length : Int) st.top (keyV (trimSet (onlyK k) t st.vs)) D blk capf (delP ps k).flatten.length (.slice ao (delP ps k).length cap) (delP ps k)
  rw [show ((trimSet (onlyK k) t st.vs).length : Int) = (st.vs.length : Int) - (trimN (keyV st.vs k) t : Int) by omega]
  exact ⟨h.box, h.gB, h.mB, hm, h.rows, h.pages⟩
end Go.Proofs.Ytgldgedbinbigaa
namespace Go.Proofs.Ytgldgedbinbigaa
open Go.RowKit Go.Maps Num
open scoped Classical
set_option linter.unusedVariables false

set_option maxRecDepth 100000 in
set_option maxHeartbeats 4000000 in
theorem trimZS (B g : Nat) (st : Sto) (t : Int) (k : ByteArray) (hk : k.size ≤ maxLen) (hne : keyV st.vs k ≠ []) (hU : upN (keyV st.vs k) t = 0) (hn : st.vs.length ≤ 800) (w : World) (h : HoldP B w g st) :
    Calls Try.prog 35 #[.pointer (some ⟨g, 0, none⟩), .string k, .int .i64 t] w fun e w' => e = .returned (.tuple #[]) ∧ HoldP B w' g ⟨st.room, st.top, trimSet (onlyK k) t st.vs⟩ ∧ TurnP B w w' := by
  obtain ⟨gm, D, blk, capf, ao, cap, ps, h⟩ := h
  have hgl := (Array.getElem?_eq_some_iff.1 h.box).1
  have hB : B ≤ w.heap.size := Nat.le_trans h.gB (Nat.le_of_lt hgl)
  obtain ⟨_, _, _, c3, _⟩ := sto_cells h
  have hrun := run_lookV h.map h.rows hk
  rw [rowV_some hne] at hrun
  have hql : (keyV st.vs k).length ≤ 800 := Nat.le_trans (List.length_filter_le _ _) hn
  obtain ⟨ao1, cap1, hrv, hlies⟩ := rows_lies h.rows k
  rw [rowV_some hne] at hrv
  have hup := upTo_any (keyV st.vs k) (keyV_ups h.inv.1 k) (some ⟨blk k, 0, none⟩) (capf k) t (by omega) w (by
    cases hrv
    exact hlies)
  have hpos := List.length_pos_iff.2 hne
  have hule := upN_le (keyV st.vs k) t
  rw [hU] at hup
  have hT : trimN (keyV st.vs k) t = 0 := by
    unfold trimN
    rw [hU]
  have hend : 0 < (keyV st.vs k).length := hpos
  have k1 : ∀ w1, Below w.heap.size w w1 → w1.cell? ⟨g, 1, none⟩ = some (.int .i64 (st.vs.length : Int)) ∧ w1.frozen? ⟨g, 1, none⟩ = false := fun w1 hb => ⟨(sto_cells (h.below hb)).2.1, box_open (h.below hb).box 1⟩
  have hfew := keys_few h.keys
  have hcut : ∀ w1, Below w.heap.size w w1 → ∀ NEW X : Int, NEW = (st.vs.length : Int) - ((0 : Nat) : Int) → X = ((0 : Nat) : Int) → ∀ W, W = (w1.setCell ⟨g, 1, none⟩ (.int .i64 NEW)).drew → W.cell? ⟨g, 3, none⟩ = some (.map (some gm)) ∧ Calls Try.prog 45 #[.slice (some ⟨blk k, 0, none⟩) (keyV st.vs k).length (capf k), .int .i64 0, .int .i64 X] W fun e w5 => e = .returned (.slice (some ⟨blk k, 0, none⟩) ((keyV st.vs k).length - 0) (capf k)) ∧ ∃ w6, (Instr.mapUpdate 54 (.map (some gm)) (.string k) (.slice (some ⟨blk k, 0, none⟩) ((keyV st.vs k).length - 0) (capf k))).run Try.prog w5 = .ok () w6 ∧ w5.cell? ⟨g, 3, none⟩ = some (.map (some gm)) ∧ w6.cell? ⟨g, 3, none⟩ = some (.map (some gm)) ∧ HoldP B w6 g ⟨st.room, st.top, trimSet (onlyK k) t st.vs⟩ ∧ TurnP B w w6 := by
    rintro w1 hb NEW X rfl rfl W rfl
    have h1 := h.below hb
    obtain ⟨h2, t2⟩ := stoG_size h1.toStoG ((st.vs.length : Int) - ((0 : Nat) : Int))
    have h3 := h2.below below_drew
    refine ⟨box_cell h3.box 3 _ rfl, ?_⟩
    refine (cut_put h3 k hk (by omega) (by omega) 0 hend _ rfl).mono ?_
    rintro e w5 ⟨rfl, w6, hr6, hG, hT6, c5⟩
    have hsz : Maps.size (D.put (litK k) (.held (.slice (some ⟨blk k, 0, none⟩) ((keyV st.vs k).drop 0).length (capf k)))) = ps.flatten.length := by
      rw [size_put (h.map.tidy lawStr), has_true_of_atKey (h.rows.at_ k hne), if_pos rfl]
      exact h.size
    exact ⟨rfl, w6, hr6, c5, box_cell hG.box 3 _ rfl, trim_some (D0 := D) hT hG hend h.keys hsz h.inv h.small, ((Turns.of_below hb hB).trans t2).trans ((Turns.of_below below_drew (Nat.le_trans hB (Nat.le_trans hb.size t2.below.size))).trans hT6)⟩
  clear h hne hU hT hule hB hgl hrv hlies hfew
  generalize blk k = b at *
  generalize capf k = C at *
  generalize (keyV st.vs k).length = Q at *
  generalize st.vs.length = L at *
  have g0 : (0 : Int) < (Q : Int) := by omega
  go_enter Try.func35, Try.ntmps35
  go_wp2_with (first
    | (go_at_call 36; refine hup.mono ?_; rintro e w1 ⟨rfl, hb1⟩
       obtain ⟨s1, s2⟩ := k1 w1 hb1))
  obtain ⟨W, hW⟩ : ∃ W, W = w1.setCell ⟨g, 1, none⟩ (.int .i64 (L : Int)) := ⟨_, rfl⟩
  obtain ⟨u3, hc⟩ := hcut w1 hb1 (L : Int) 0 (by omega) (by omega) W.drew (by rw [hW])
  generalize Q - 0 = R at *
  rw [← hW]
  clear hcut hW s1 s2 hup hb1 k1
  go_region_held_law (fun w' => w'.cell? ⟨g, 3, none⟩ = some (.map (some gm))) (first | exact u3 | exact c5 | exact c6)
    (first
      | (go_at_call 45; refine hc.mono ?_; rintro e w5 ⟨rfl, w6, hr6, c5, c6, hh, hTT⟩))
  go_wp2
  try simp only [Exit.inBlock, Exit.then]
  refine bodyPost_ret (results_none rfl _ _ _) rfl ?_
  exact ⟨rfl, hh, hTT⟩
set_option maxRecDepth 100000 in
set_option maxHeartbeats 4000000 in
theorem trimGS (B g : Nat) (st : Sto) (t : Int) (k : ByteArray) (hk : k.size ≤ maxLen) (hne : keyV st.vs k ≠ []) (m : Nat) (hU : upN (keyV st.vs k) t = m + 1) (x : Ver) (hx : (keyV st.vs k)[m]? = some x) (hg : x.gone = true) (hend : m + 1 < (keyV st.vs k).length) (hn : st.vs.length ≤ 800) (w : World) (h : HoldP B w g st) :
    Calls Try.prog 35 #[.pointer (some ⟨g, 0, none⟩), .string k, .int .i64 t] w fun e w' => e = .returned (.tuple #[]) ∧ HoldP B w' g ⟨st.room, st.top, trimSet (onlyK k) t st.vs⟩ ∧ TurnP B w w' := by
  obtain ⟨gm, D, blk, capf, ao, cap, ps, h⟩ := h
  have hgl := (Array.getElem?_eq_some_iff.1 h.box).1
  have hB : B ≤ w.heap.size := Nat.le_trans h.gB (Nat.le_of_lt hgl)
  obtain ⟨_, _, _, c3, _⟩ := sto_cells h
  have hrun := run_lookV h.map h.rows hk
  rw [rowV_some hne] at hrun
  have hql : (keyV st.vs k).length ≤ 800 := Nat.le_trans (List.length_filter_le _ _) hn
  obtain ⟨ao1, cap1, hrv, hlies⟩ := rows_lies h.rows k
  rw [rowV_some hne] at hrv
  have hup := upTo_any (keyV st.vs k) (keyV_ups h.inv.1 k) (some ⟨blk k, 0, none⟩) (capf k) t (by omega) w (by
    cases hrv
    exact hlies)
  have hpos := List.length_pos_iff.2 hne
  have hule := upN_le (keyV st.vs k) t
  rw [hU] at hup
  have hT : trimN (keyV st.vs k) t = m + 1 := by
    unfold trimN
    rw [hU]
    show (match (keyV st.vs k)[m]? with | none => m + 1 | some v => if v.gone = true then m + 1 else m) = m + 1
    rw [hx]
    exact if_pos hg
  have hgo : ∀ w1, Below w.heap.size w w1 → w1.cell? ⟨blk k, m * 3 + 2, none⟩ = some (.bool true) := fun w1 hb => by
    have h1 := ((h.below hb).rows.row k hne).cells (g := blk k) rfl _ _ (verCells_get (keyV st.vs k) m x hx).2.2
    rw [Addr.add_lit, Nat.zero_add, hg] at h1
    exact h1
  have k1 : ∀ w1, Below w.heap.size w w1 → w1.cell? ⟨g, 1, none⟩ = some (.int .i64 (st.vs.length : Int)) ∧ w1.frozen? ⟨g, 1, none⟩ = false := fun w1 hb => ⟨(sto_cells (h.below hb)).2.1, box_open (h.below hb).box 1⟩
  have hfew := keys_few h.keys
  have hcut : ∀ w1, Below w.heap.size w w1 → ∀ NEW X : Int, NEW = (st.vs.length : Int) - (((m + 1) : Nat) : Int) → X = (((m + 1) : Nat) : Int) → ∀ W, W = (w1.setCell ⟨g, 1, none⟩ (.int .i64 NEW)).drew → W.cell? ⟨g, 3, none⟩ = some (.map (some gm)) ∧ Calls Try.prog 45 #[.slice (some ⟨blk k, 0, none⟩) (keyV st.vs k).length (capf k), .int .i64 0, .int .i64 X] W fun e w5 => e = .returned (.slice (some ⟨blk k, 0, none⟩) ((keyV st.vs k).length - (m + 1)) (capf k)) ∧ ∃ w6, (Instr.mapUpdate 54 (.map (some gm)) (.string k) (.slice (some ⟨blk k, 0, none⟩) ((keyV st.vs k).length - (m + 1)) (capf k))).run Try.prog w5 = .ok () w6 ∧ w5.cell? ⟨g, 3, none⟩ = some (.map (some gm)) ∧ w6.cell? ⟨g, 3, none⟩ = some (.map (some gm)) ∧ HoldP B w6 g ⟨st.room, st.top, trimSet (onlyK k) t st.vs⟩ ∧ TurnP B w w6 := by
    rintro w1 hb NEW X rfl rfl W rfl
    have h1 := h.below hb
    obtain ⟨h2, t2⟩ := stoG_size h1.toStoG ((st.vs.length : Int) - (((m + 1) : Nat) : Int))
    have h3 := h2.below below_drew
    refine ⟨box_cell h3.box 3 _ rfl, ?_⟩
    refine (cut_put h3 k hk (by omega) (by omega) (m + 1) hend _ rfl).mono ?_
    rintro e w5 ⟨rfl, w6, hr6, hG, hT6, c5⟩
    have hsz : Maps.size (D.put (litK k) (.held (.slice (some ⟨blk k, 0, none⟩) ((keyV st.vs k).drop (m + 1)).length (capf k)))) = ps.flatten.length := by
      rw [size_put (h.map.tidy lawStr), has_true_of_atKey (h.rows.at_ k hne), if_pos rfl]
      exact h.size
    exact ⟨rfl, w6, hr6, c5, box_cell hG.box 3 _ rfl, trim_some (D0 := D) hT hG hend h.keys hsz h.inv h.small, ((Turns.of_below hb hB).trans t2).trans ((Turns.of_below below_drew (Nat.le_trans hB (Nat.le_trans hb.size t2.below.size))).trans hT6)⟩
  clear h hne hx hU hT hule hB hgl hrv hlies hfew
  generalize blk k = b at *
  generalize capf k = C at *
  generalize (keyV st.vs k).length = Q at *
  generalize st.vs.length = L at *
  have g0 : (m : Int) < (Q : Int) := by omega
  have g3 : (0 : Int) < (m : Int) + 1 := by omega
  have g2 : (m : Int) + 1 < (Q : Int) := by omega
  go_enter Try.func35, Try.ntmps35
  go_wp2_with (first
    | (go_at_call 36; refine hup.mono ?_; rintro e w1 ⟨rfl, hb1⟩
       obtain ⟨s1, s2⟩ := k1 w1 hb1
       have s3 := hgo w1 hb1))
  obtain ⟨W, hW⟩ : ∃ W, W = w1.setCell ⟨g, 1, none⟩ (.int .i64 ((L : Int) - ((m : Int) + 1))) := ⟨_, rfl⟩
  obtain ⟨u3, hc⟩ := hcut w1 hb1 ((L : Int) - ((m : Int) + 1)) ((m : Int) + 1) (by omega) (by omega) W.drew (by rw [hW])
  generalize Q - (m + 1) = R at *
  rw [← hW]
  clear hcut hW s1 s2 hup hb1 k1 s3 hgo
  go_region_held_law (fun w' => w'.cell? ⟨g, 3, none⟩ = some (.map (some gm))) (first | exact u3 | exact c5 | exact c6)
    (first
      | (go_at_call 45; refine hc.mono ?_; rintro e w5 ⟨rfl, w6, hr6, c5, c6, hh, hTT⟩))
  go_wp2
  try simp only [Exit.inBlock, Exit.then]
  refine bodyPost_ret (results_none rfl _ _ _) rfl ?_
  exact ⟨rfl, hh, hTT⟩
set_option maxRecDepth 100000 in
set_option maxHeartbeats 4000000 in
theorem trimGN (B g : Nat) (st : Sto) (t : Int) (k : ByteArray) (hk : k.size ≤ maxLen) (hne : keyV st.vs k ≠ []) (m : Nat) (hU : upN (keyV st.vs k) t = m + 1) (x : Ver) (hx : (keyV st.vs k)[m]? = some x) (hg : x.gone = true) (hend : m + 1 = (keyV st.vs k).length) (hn : st.vs.length ≤ 800) (w : World) (h : HoldP B w g st) :
    Calls Try.prog 35 #[.pointer (some ⟨g, 0, none⟩), .string k, .int .i64 t] w fun e w' => e = .returned (.tuple #[]) ∧ HoldP B w' g ⟨st.room, st.top, trimSet (onlyK k) t st.vs⟩ ∧ TurnP B w w' := by
  obtain ⟨gm, D, blk, capf, ao, cap, ps, h⟩ := h
  have hgl := (Array.getElem?_eq_some_iff.1 h.box).1
  have hB : B ≤ w.heap.size := Nat.le_trans h.gB (Nat.le_of_lt hgl)
  obtain ⟨_, _, _, c3, _⟩ := sto_cells h
  have hrun := run_lookV h.map h.rows hk
  rw [rowV_some hne] at hrun
  have hql : (keyV st.vs k).length ≤ 800 := Nat.le_trans (List.length_filter_le _ _) hn
  obtain ⟨ao1, cap1, hrv, hlies⟩ := rows_lies h.rows k
  rw [rowV_some hne] at hrv
  have hup := upTo_any (keyV st.vs k) (keyV_ups h.inv.1 k) (some ⟨blk k, 0, none⟩) (capf k) t (by omega) w (by
    cases hrv
    exact hlies)
  have hpos := List.length_pos_iff.2 hne
  have hule := upN_le (keyV st.vs k) t
  rw [hU] at hup
  have hT : trimN (keyV st.vs k) t = m + 1 := by
    unfold trimN
    rw [hU]
    show (match (keyV st.vs k)[m]? with | none => m + 1 | some v => if v.gone = true then m + 1 else m) = m + 1
    rw [hx]
    exact if_pos hg
  have hgo : ∀ w1, Below w.heap.size w w1 → w1.cell? ⟨blk k, m * 3 + 2, none⟩ = some (.bool true) := fun w1 hb => by
    have h1 := ((h.below hb).rows.row k hne).cells (g := blk k) rfl _ _ (verCells_get (keyV st.vs k) m x hx).2.2
    rw [Addr.add_lit, Nat.zero_add, hg] at h1
    exact h1
  have k1 : ∀ w1, Below w.heap.size w w1 → w1.cell? ⟨g, 1, none⟩ = some (.int .i64 (st.vs.length : Int)) ∧ w1.frozen? ⟨g, 1, none⟩ = false := fun w1 hb => ⟨(sto_cells (h.below hb)).2.1, box_open (h.below hb).box 1⟩
  have hfew := keys_few h.keys
  have hdel : ∀ w1, Below w.heap.size w w1 → ∀ NEW : Int, NEW = (st.vs.length : Int) - (((m + 1) : Nat) : Int) → ∀ W, W = w1.setCell ⟨g, 1, none⟩ (.int .i64 NEW) → W.cell? ⟨g, 3, none⟩ = some (.map (some gm)) ∧ OwnM W gm ps.flatten.length D ∧ ∀ w3, OwnM w3 gm ps.flatten.length (D.del (litK k)) → W.mapTurned w3 gm → w3.cell? ⟨g, 4, none⟩ = some (.slice ao ps.length cap) ∧ Calls Try.prog 46 #[.slice ao ps.length cap, .string k] w3 fun e w4 => ∃ ao' cap', e = .returned (.slice ao' (delP ps k).length cap') ∧ w4.cell? ⟨g, 4, none⟩ = some (.slice ao ps.length cap) ∧ w4.frozen? ⟨g, 4, none⟩ = false ∧ HoldP B (w4.setCell ⟨g, 4, none⟩ (.slice ao' (delP ps k).length cap')) g ⟨st.room, st.top, trimSet (onlyK k) t st.vs⟩ ∧ TurnP B w (w4.setCell ⟨g, 4, none⟩ (.slice ao' (delP ps k).length cap')) := by
    rintro w1 hb NEW rfl W rfl
    have h1 := h.below hb
    obtain ⟨h2, t2⟩ := stoG_size h1.toStoG ((st.vs.length : Int) - (((m + 1) : Nat) : Int))
    refine ⟨box_cell h2.box 3 _ rfl, h2.map, fun w3 hm3 hg3 => ?_⟩
    obtain ⟨h3, t3⟩ := stoG_del h2 hm3 hg3.grown
    refine ⟨box_cell h3.box 4 _ rfl, ?_⟩
    obtain ⟨ao2, cap2, e2, hl2⟩ := ownPs_lies h3.pages
    cases e2
    refine (del_own ps h.keys.1 ao cap k (by omega) w3 hl2).mono ?_
    rintro e w4 ⟨ao', cap', rfl, hp4, hb4⟩
    have h4 := h3.below hb4
    have hs3 : B ≤ w3.heap.size := Nat.le_trans hB (Nat.le_trans hb.size (Nat.le_trans t2.below.size t3.below.size))
    obtain ⟨h5, t5⟩ := stoG_pages h4 (ownPs_mono hp4 hs3)
    have hsz : Maps.size (D.del (litK k)) + 1 = ps.flatten.length := by
      have := size_del (k := litK k) (h.map.tidy lawStr)
      rw [has_true_of_atKey (h.rows.at_ k hne), if_pos rfl, h.size] at this
      exact this
    exact ⟨ao', cap', rfl, box_cell h4.box 4 _ rfl, box_open h4.box 4, trim_none hT h5 hend hne h.keys hsz h.inv h.small, ((((Turns.of_below hb hB).trans t2).trans t3).trans (Turns.of_below hb4 hs3)).trans t5⟩
  clear h hne hx hU hT hule hB hgl hrv hlies hfew
  generalize blk k = b at *
  generalize capf k = C at *
  generalize (keyV st.vs k).length = Q at *
  generalize st.vs.length = L at *
  subst hend
  have g0 : (m : Int) < ((m + 1 : Nat) : Int) := by omega
  have g3 : (0 : Int) < (m : Int) + 1 := by omega
  have g2 : ¬ ((m : Int) + 1 < (m : Int) + 1) := by omega
  go_enter Try.func35, Try.ntmps35
  go_wp2_with (first
    | (go_at_call 36; refine hup.mono ?_; rintro e w1 ⟨rfl, hb1⟩
       obtain ⟨s1, s2⟩ := k1 w1 hb1
       have s3 := hgo w1 hb1
       obtain ⟨s4, hom, hd⟩ := hdel w1 hb1 ((L : Int) - ((m : Int) + 1)) (by omega) _ rfl)
    | (at_delete; refine wpList_delete_own _ rfl _ _ 54 9 rfl 70 lawStr Try.underlying54 _ gm ps.flatten.length D rfl hom (.string k) _ rfl (WideMaps.keyOf_string_mk Try.underlying9 hk) ?_; intro w3 hom3 htu3
       obtain ⟨s5, hd3⟩ := hd w3 hom3 htu3)
    | (go_at_call 46; refine hd3.mono ?_; rintro e w4 ⟨ao4, cap4, rfl, s6, s7, hh, hTT⟩))
  go_end0
  exact ⟨rfl, hh, hTT⟩
set_option maxRecDepth 100000 in
set_option maxHeartbeats 4000000 in
theorem trimKS (B g : Nat) (st : Sto) (t : Int) (k : ByteArray) (hk : k.size ≤ maxLen) (hne : keyV st.vs k ≠ []) (m : Nat) (hU : upN (keyV st.vs k) t = m + 1) (x : Ver) (hx : (keyV st.vs k)[m]? = some x) (hg : x.gone = false) (hn : st.vs.length ≤ 800) (w : World) (h : HoldP B w g st) :
    Calls Try.prog 35 #[.pointer (some ⟨g, 0, none⟩), .string k, .int .i64 t] w fun e w' => e = .returned (.tuple #[]) ∧ HoldP B w' g ⟨st.room, st.top, trimSet (onlyK k) t st.vs⟩ ∧ TurnP B w w' := by
  obtain ⟨gm, D, blk, capf, ao, cap, ps, h⟩ := h
  have hgl := (Array.getElem?_eq_some_iff.1 h.box).1
  have hB : B ≤ w.heap.size := Nat.le_trans h.gB (Nat.le_of_lt hgl)
  obtain ⟨_, _, _, c3, _⟩ := sto_cells h
  have hrun := run_lookV h.map h.rows hk
  rw [rowV_some hne] at hrun
  have hql : (keyV st.vs k).length ≤ 800 := Nat.le_trans (List.length_filter_le _ _) hn
  obtain ⟨ao1, cap1, hrv, hlies⟩ := rows_lies h.rows k
  rw [rowV_some hne] at hrv
  have hup := upTo_any (keyV st.vs k) (keyV_ups h.inv.1 k) (some ⟨blk k, 0, none⟩) (capf k) t (by omega) w (by
    cases hrv
    exact hlies)
  have hpos := List.length_pos_iff.2 hne
  have hule := upN_le (keyV st.vs k) t
  rw [hU] at hup
  have hT : trimN (keyV st.vs k) t = m := by
    unfold trimN
    rw [hU]
    show (match (keyV st.vs k)[m]? with | none => m + 1 | some v => if v.gone = true then m + 1 else m) = m
    rw [hx]
    exact if_neg (by rw [hg]; simp)
  have hend : m < (keyV st.vs k).length := by omega
  have hgo : ∀ w1, Below w.heap.size w w1 → w1.cell? ⟨blk k, m * 3 + 2, none⟩ = some (.bool false) := fun w1 hb => by
    have h1 := ((h.below hb).rows.row k hne).cells (g := blk k) rfl _ _ (verCells_get (keyV st.vs k) m x hx).2.2
    rw [Addr.add_lit, Nat.zero_add, hg] at h1
    exact h1
  have k1 : ∀ w1, Below w.heap.size w w1 → w1.cell? ⟨g, 1, none⟩ = some (.int .i64 (st.vs.length : Int)) ∧ w1.frozen? ⟨g, 1, none⟩ = false := fun w1 hb => ⟨(sto_cells (h.below hb)).2.1, box_open (h.below hb).box 1⟩
  have hfew := keys_few h.keys
  have hcut : ∀ w1, Below w.heap.size w w1 → ∀ NEW X : Int, NEW = (st.vs.length : Int) - ((m : Nat) : Int) → X = ((m : Nat) : Int) → ∀ W, W = (w1.setCell ⟨g, 1, none⟩ (.int .i64 NEW)).drew → W.cell? ⟨g, 3, none⟩ = some (.map (some gm)) ∧ Calls Try.prog 45 #[.slice (some ⟨blk k, 0, none⟩) (keyV st.vs k).length (capf k), .int .i64 0, .int .i64 X] W fun e w5 => e = .returned (.slice (some ⟨blk k, 0, none⟩) ((keyV st.vs k).length - m) (capf k)) ∧ ∃ w6, (Instr.mapUpdate 54 (.map (some gm)) (.string k) (.slice (some ⟨blk k, 0, none⟩) ((keyV st.vs k).length - m) (capf k))).run Try.prog w5 = .ok () w6 ∧ w5.cell? ⟨g, 3, none⟩ = some (.map (some gm)) ∧ w6.cell? ⟨g, 3, none⟩ = some (.map (some gm)) ∧ HoldP B w6 g ⟨st.room, st.top, trimSet (onlyK k) t st.vs⟩ ∧ TurnP B w w6 := by
    rintro w1 hb NEW X rfl rfl W rfl
    have h1 := h.below hb
    obtain ⟨h2, t2⟩ := stoG_size h1.toStoG ((st.vs.length : Int) - ((m : Nat) : Int))
    have h3 := h2.below below_drew
    refine ⟨box_cell h3.box 3 _ rfl, ?_⟩
    refine (cut_put h3 k hk (by omega) (by omega) m hend _ rfl).mono ?_
    rintro e w5 ⟨rfl, w6, hr6, hG, hT6, c5⟩
    have hsz : Maps.size (D.put (litK k) (.held (.slice (some ⟨blk k, 0, none⟩) ((keyV st.vs k).drop m).length (capf k)))) = ps.flatten.length := by
      rw [size_put (h.map.tidy lawStr), has_true_of_atKey (h.rows.at_ k hne), if_pos rfl]
      exact h.size
    exact ⟨rfl, w6, hr6, c5, box_cell hG.box 3 _ rfl, trim_some (D0 := D) hT hG hend h.keys hsz h.inv h.small, ((Turns.of_below hb hB).trans t2).trans ((Turns.of_below below_drew (Nat.le_trans hB (Nat.le_trans hb.size t2.below.size))).trans hT6)⟩
  clear h hne hx hU hT hule hB hgl hrv hlies hfew
  generalize blk k = b at *
  generalize capf k = C at *
  generalize (keyV st.vs k).length = Q at *
  generalize st.vs.length = L at *
  have g0 : (m : Int) < (Q : Int) := by omega
  have g3 : (0 : Int) < (m : Int) + 1 := by omega
  go_enter Try.func35, Try.ntmps35
  go_wp2_with (first
    | (go_at_call 36; refine hup.mono ?_; rintro e w1 ⟨rfl, hb1⟩
       obtain ⟨s1, s2⟩ := k1 w1 hb1
       have s3 := hgo w1 hb1))
  obtain ⟨W, hW⟩ : ∃ W, W = w1.setCell ⟨g, 1, none⟩ (.int .i64 ((L : Int) - (m : Int))) := ⟨_, rfl⟩
  obtain ⟨u3, hc⟩ := hcut w1 hb1 ((L : Int) - (m : Int)) (m : Int) (by omega) (by omega) W.drew (by rw [hW])
  generalize Q - m = R at *
  rw [← hW]
  clear hcut hW s1 s2 hup hb1 k1 s3 hgo
  go_region_held_law (fun w' => w'.cell? ⟨g, 3, none⟩ = some (.map (some gm))) (first | exact u3 | exact c5 | exact c6)
    (first
      | (go_at_call 45; refine hc.mono ?_; rintro e w5 ⟨rfl, w6, hr6, c5, c6, hh, hTT⟩))
  go_wp2
  try simp only [Exit.inBlock, Exit.then]
  refine bodyPost_ret (results_none rfl _ _ _) rfl ?_
  exact ⟨rfl, hh, hTT⟩
end Go.Proofs.Ytgldgedbinbigaa
namespace Go.Proofs.Ytgldgedbinbigaa
open Go.RowKit Go.Maps Num
open scoped Classical
set_option linter.unusedVariables false

theorem trimKey_any (B g : Nat) (st : Sto) (t : Int) (k : ByteArray) (hk : k.size ≤ maxLen) (hne : keyV st.vs k ≠ []) (hn : st.vs.length ≤ 800) (w : World) (h : HoldP B w g st) :
    Calls Try.prog 35 #[.pointer (some ⟨g, 0, none⟩), .string k, .int .i64 t] w fun e w' => e = .returned (.tuple #[]) ∧ HoldP B w' g ⟨st.room, st.top, trimSet (onlyK k) t st.vs⟩ ∧ TurnP B w w' := by
  have hle := upN_le (keyV st.vs k) t
  cases hU : upN (keyV st.vs k) t with
  | zero => exact trimZS B g st t k hk hne hU hn w h
  | succ m =>
    have hx : (keyV st.vs k)[m]? = some ((keyV st.vs k)[m]'(by omega)) := List.getElem?_eq_getElem _
    cases hg : ((keyV st.vs k)[m]'(by omega)).gone with
    | false => exact trimKS B g st t k hk hne m hU _ hx hg hn w h
    | true =>
      by_cases hend : m + 1 < (keyV st.vs k).length
      · exact trimGS B g st t k hk hne m hU _ hx hg hend hn w h
      · exact trimGN B g st t k hk hne m hU _ hx hg (by omega) hn w h
/-- Is a key among the first ones? -/
def Num.amongK (xs : List Pr) (i : Nat) (k : ByteArray) : Bool := (xs.take i).any (fun x => onlyK k x.key)
theorem among_next {xs : List Pr} {i : Nat} {x : Pr} (hx : xs[i]? = some x) : amongK xs (i + 1) = fun k => amongK xs i k || onlyK x.key k := by
  funext k
  unfold amongK
  rw [take_succ_at hx, List.any_append]
  congr 1
  show (onlyK k x.key || false) = onlyK x.key k
  rw [Bool.or_false, Bool.eq_iff_iff, onlyK_iff, onlyK_iff]
  exact eq_comm
theorem among_not {xs : List Pr} (hr : Rises xs) {i : Nat} {x : Pr} (hx : xs[i]? = some x) : amongK xs i x.key = false := by
  unfold amongK
  rw [List.any_eq_false]
  intro y hy e
  obtain ⟨j, hj⟩ := List.mem_iff_getElem?.1 hy
  rw [List.getElem?_take] at hj
  split at hj
  · rename_i hji
    have h1 := List.pairwise_iff_getElem.1 hr j i (List.getElem?_eq_some_iff.1 hj).1 (List.getElem?_eq_some_iff.1 hx).1 hji
    rw [(List.getElem?_eq_some_iff.1 hj).2, (List.getElem?_eq_some_iff.1 hx).2] at h1
    exact kl_ne h1 (onlyK_iff.1 e)
  · cases hj
theorem pr_turn {B B' : Nat} {w w' : World} (h : TurnP B w w') {v : Value} {n : Nat} {xs : List Value} (ho : w.ownsRow B' 69 2 v n xs) : w'.ownsRow B' 69 2 v n xs := own_same ho (fun i cur _ e => turnP_box h e (by decide) (by decide))
theorem sto_ext {st : Sto} {l : List Ver} (h : l = st.vs) : (⟨st.room, st.top, l⟩ : Sto) = st := by rw [h]
set_option maxRecDepth 100000 in
set_option maxHeartbeats 2000000 in
theorem strim_any (B g : Nat) (st : Sto) (t : Int) (hn : st.vs.length ≤ 800) (w : World) (h : HoldP B w g st) :
    Calls Try.prog 21 #[.pointer (some ⟨g, 0, none⟩), .int .i64 t] w fun e w' => e = .returned (.int .i64 (trimS st t).1) ∧ HoldP B w' g (trimS st t).2 ∧ TurnP B w w' := by
  have hh := h
  have hB : B ≤ w.heap.size := Nat.le_trans h.lt.1 (Nat.le_of_lt h.lt.2)
  obtain ⟨gm, D, blk, capf, ao, cap, ps, h⟩ := h
  obtain ⟨_, c1, _, _, _⟩ := sto_cells h
  have hbet := between_own B g gm st D blk capf ao cap ps ⟨#[]⟩ ⟨#[]⟩ (by omega) w h
  have hall : betw ps ⟨#[]⟩ ⟨#[]⟩ = ps.flatten := by
    rw [← betw_scan ps ⟨#[]⟩ ⟨#[]⟩ _ (Int.le_refl _), scan_all _ _ (Int.le_refl _)]
  rw [hall] at hbet
  have hfew := (keys_few h.keys).1
  have HR : Hid (Rises ps.flatten) := h.keys.1.2
  have HS : Hid (∀ x ∈ ps.flatten, x.key.size ≤ maxLen ∧ keyV st.vs x.key ≠ []) := fun x hx => ⟨keys_small h.keys h.small x hx, ((h.keys.2 x).1 hx).2⟩
  have HA : Hid (∀ v ∈ st.vs, amongK ps.flatten ps.flatten.length v.key = true) := fun v hv => by
    unfold amongK
    rw [List.take_length, List.any_eq_true]
    refine ⟨⟨v.key, ⟨#[]⟩⟩, (h.keys.2 _).2 ⟨rfl, ?_⟩, onlyK_iff.2 rfl⟩
    intro e
    have := keyV_mem.2 ⟨hv, rfl⟩
    rw [e] at this
    cases this
  clear h hall
  generalize ps.flatten = xs at *
  obtain ⟨out, hout⟩ : ∃ out, trimS st t = out := ⟨_, rfl⟩
  have HO : Hid (trimS st t = out) := hout
  rw [hout]
  clear hout
  go_enter Try.func21, Try.ntmps21
  go_wp2_with (first
    | (go_at_call 34; refine hbet.mono ?_; rintro e w1 ⟨ao1, cap1, rfl, ho1, hb1⟩))
  go_loopw [17] (fun i wr => ∃ k : Nat, k ≤ xs.length ∧ i = .int .i64 (k : Int) ∧ HoldP B wr g ⟨st.room, st.top, trimSet (amongK xs k) t st.vs⟩ ∧ wr.ownsRow w.heap.size 69 2 (.slice ao1 xs.length cap1) xs.length (prCells xs) ∧ TurnP B w wr) (fun i _ => xs.length - (intOf i).toNat)
  case atStart => exact ⟨0, by omega, rfl, by
    rw [show amongK xs 0 = fun _ => false from rfl, trimSet_none]
    exact hh.below hb1, ho1, Turns.of_below hb1 hB⟩
  case round =>
    obtain ⟨k, hk, rfl, hhr, hor, hT⟩ := hrel
    have hsr := hT.below.size
    obtain ⟨ao2, cap2, e2, hl1, _⟩ := own_lies hor
    cases e2
    by_cases hkl : k < xs.length
    · have HX : Hid (xs[k]? = some xs[k]) := List.getElem?_eq_getElem hkl
      obtain ⟨a, rfl, hblk, e0, e1⟩ := hl1 k xs[k] HX.out
      obtain ⟨hxs, hxn⟩ := HS.out xs[k] (List.getElem_mem hkl)
      generalize xs[k] = x at *
      have hnot := among_not HR.out HX.out
      have hlen : (trimSet (amongK xs k) t st.vs).length ≤ 800 := by
        have := (trim_inv (st := ⟨st.vs.length, st.top, st.vs⟩) ⟨hh.inv.1, hh.inv.2.1, Int.le_refl _, hh.inv.2.2.2⟩ (amongK xs k) t).2.2.1
        have h2 : ((trimSet (amongK xs k) t st.vs).length : Int) ≤ (st.vs.length : Int) := this
        omega
      have hbA : Below wr.heap.size wr (wr.alloc (.cells #[.string x.key, .string x.val] 69)) := (Below.refl _ wr).alloc (Nat.le_refl _) _
      have hc := trimKey_any B g ⟨st.room, st.top, trimSet (amongK xs k) t st.vs⟩ t x.key hxs (by
        show keyV (trimSet (amongK xs k) t st.vs) x.key ≠ []
        rw [trimSet_other hnot]
        exact hxn) hlen (wr.alloc (.cells #[.string x.key, .string x.val] 69)) (hhr.below hbA)
      have hnext : trimSet (onlyK x.key) t (trimSet (amongK xs k) t st.vs) = trimSet (amongK xs (k + 1)) t st.vs := by
        rw [trimSet_comp hnot, among_next HX.out]
      have hc2 : Calls Try.prog 35 #[.pointer (some ⟨g, 0, none⟩), .string x.key, .int .i64 t] (wr.alloc (.cells #[.string x.key, .string x.val] 69)) fun e w' => e = .returned (.tuple #[]) ∧ HoldP B w' g ⟨st.room, st.top, trimSet (amongK xs (k + 1)) t st.vs⟩ ∧ w'.ownsRow w.heap.size 69 2 (.slice (some a) xs.length cap1) xs.length (prCells xs) ∧ TurnP B w w' := by
        refine hc.mono ?_
        rintro e w' ⟨rfl, h1, h2⟩
        refine ⟨rfl, ?_, pr_turn h2 (hor.alloc _), hT.trans ((Turns.of_below hbA (Nat.le_trans hB hsr)).trans h2)⟩
        rw [← hnext]
        exact h1
      clear hc hnext hlen hnot HX hhr
      go_wp2_with (first
        | (go_at_call 35; refine hc2.mono ?_; rintro e w2 ⟨rfl, hh2, ho2, hT2⟩))
      go_roundw
      case rel => exact ⟨k + 1, by omega, by go_num, hh2, ho2, hT2⟩
      case measure => simp [intOf]; omega
    · obtain rfl : k = xs.length := by omega
      have e1 : trimSet (amongK xs xs.length) t st.vs = trimAux st.vs t := trimSet_all HA.out
      rw [e1] at hhr
      have e2 : (⟨st.room, st.top, trimAux st.vs t⟩ : Sto) = out.2 := congrArg Prod.snd HO.out
      have e3 : (st.vs.length : Int) - ((trimAux st.vs t).length : Int) = out.1 := congrArg Prod.fst HO.out
      have htl := trim_len st.vs t
      obtain ⟨gm2, D2, blk2, capf2, ao2, cap2, ps2, h2⟩ := id hhr
      obtain ⟨_, d1, _, _, _⟩ := sto_cells h2
      rw [e2] at hhr
      simp only at d1
      have HE : Hid ((st.vs.length : Int) - ((trimAux st.vs t).length : Int) = out.1) := e3
      clear e3
      generalize (trimAux st.vs t).length = L2 at *
      generalize st.vs.length = L1 at *
      clear h2 e1 e2 HO HA HS HR
      go_wp2
      go_ret
      refine ⟨?_, hhr, hT⟩
      rw [← HE.out]
      rfl
end Go.Proofs.Ytgldgedbinbigaa
