/-
  A store in memory: its box, its map from keys to rows of versions, its pages of keys; what it is as a plain list of versions; what keeps it.
-/
import Derived.Test.YtdmkmhjalcfchaaPl
import Derived.Test.YtdmkmhjalcfchaaPPutO
import Derived.Test.YtdmkmhjalcfchaaPScn
import Derived.Maps.OwnSet
import Derived.Maps.RangeWalk
import Derived.Deep.RegionHeld3
namespace Go.Proofs.Ytdmkmhjalcfchaa
open Go.RowKit Go.Maps Num
open scoped Classical
set_option linter.unusedVariables false
set_option maxRecDepth 100000

/-! Versions in memory. -/
def Num.VerAt (w : World) (p : Addr) (v : Ver) : Prop := w.cell? p = some (.int .i64 v.time) ∧ w.cell? ⟨p.block, p.off + 1, none⟩ = some (.string v.val) ∧ w.cell? ⟨p.block, p.off + 2, none⟩ = some (.bool v.gone)
abbrev Num.LiesV (w : World) (B : Nat) (ao : Option Addr) (l : List Ver) : Prop := LiesG VerAt 3 w B ao l
theorem Num.VerAt.fast {B : Nat} : Fast B VerAt := fun w w' p x hp h hb => ⟨(hb.cell hp).trans h.1, (hb.cell (p := ⟨p.block, p.off + 1, none⟩) hp).trans h.2.1, (hb.cell (p := ⟨p.block, p.off + 2, none⟩) hp).trans h.2.2⟩
theorem liesV_next {w w' : World} {B : Nat} {ao : Option Addr} {l : List Ver} (h : LiesV w B ao l) (hb : Below B w w') {B' : Nat} (hB : B ≤ B') : LiesV w' B' ao l := (h.below VerAt.fast hb).mono hB fun _ _ h => h
def Num.verC (v : Ver) : List Value := [.int .i64 v.time, .string v.val, .bool v.gone]
def Num.verCells (l : List Ver) : List Value := l.flatMap verC
theorem verCells_cons (x : Ver) (l : List Ver) : verCells (x :: l) = verC x ++ verCells l := rfl
theorem verCells_append (l r : List Ver) : verCells (l ++ r) = verCells l ++ verCells r := by simp [verCells]
theorem verCells_len (l : List Ver) : (verCells l).length = l.length * 3 := by
  induction l with
  | nil => rfl
  | cons x l ih =>
    rw [verCells_cons, List.length_append, ih, List.length_cons]
    simp [verC]
    omega
theorem one3 (x : Ver) : ∀ v ∈ verC x, v.oneCell' = true := by
  intro v hv
  simp [verC] at hv
  rcases hv with rfl | rfl | rfl <;> rfl
theorem verCells_one (l : List Ver) : ∀ v ∈ verCells l, v.oneCell' = true := by
  intro v hv
  simp only [verCells, List.mem_flatMap] at hv
  obtain ⟨y, _, hy⟩ := hv
  exact one3 y v hy
theorem verCells_get (l : List Ver) : ∀ (i : Nat) x, l[i]? = some x → (verCells l)[i * 3]? = some (.int .i64 x.time) ∧ (verCells l)[i * 3 + 1]? = some (.string x.val) ∧ (verCells l)[i * 3 + 2]? = some (.bool x.gone) := by
  induction l with
  | nil => intro i x h; simp at h
  | cons y l ih =>
    intro i x h
    rw [verCells_cons]
    cases i with
    | zero =>
      simp at h
      subst h
      exact ⟨rfl, rfl, rfl⟩
    | succ i =>
      have h' : l[i]? = some x := by simpa using h
      obtain ⟨h1, h2, h3⟩ := ih i x h'
      have e : ∀ j, (verC y ++ verCells l)[j + 3]? = (verCells l)[j]? := fun j => by
        rw [List.getElem?_append_right (by simp [verC])]
        simp [verC]
      rw [show (i + 1) * 3 = i * 3 + 3 by omega, e, show i * 3 + 3 + 1 = (i * 3 + 1) + 3 by omega, e, show i * 3 + 3 + 2 = (i * 3 + 2) + 3 by omega, e]
      exact ⟨h1, h2, h3⟩
theorem verCells_drop (l : List Ver) (i : Nat) (hi : i ≤ l.length) : verCells l = verCells (l.take i) ++ verCells (l.drop i) := by rw [← verCells_append, List.take_append_drop]
/-- A row of versions of the call's own lies there. -/
theorem own_liesV {w : World} {B : Nat} {v : Value} {l : List Ver} (h : w.ownsRow B 112 3 v l.length (verCells l)) : ∃ ao cap, v = .slice ao l.length cap ∧ LiesV w w.heap.size ao l := by
  rcases h.2 with ⟨hv, h0⟩ | ⟨g, cap, cur, hv, _, hg, hcap, _⟩
  · subst hv
    have : l = [] := List.eq_nil_of_length_eq_zero h0
    subst this
    exact ⟨none, 0, rfl, fun i x hx => by simp at hx⟩
  · subst hv
    refine ⟨_, cap, rfl, fun i x hx => ⟨_, rfl, (Array.getElem?_eq_some_iff.1 hg).1, ?_⟩⟩
    obtain ⟨h1, h2, h3⟩ := verCells_get l i x hx
    have g1 := h.cells (g := g) rfl _ _ h1
    have g2 := h.cells (g := g) rfl _ _ h2
    have g3 := h.cells (g := g) rfl _ _ h3
    rw [Addr.add_lit] at g1 g2 g3
    rw [Addr.add_lit]
    exact ⟨g1, g2, g3⟩
theorem Try.infoVer : (Try.prog.info? 112).map (fun i => (i.zero, i.size, i.bytes)) = some (some (.agg #[.int .i64 0, .string ⟨#[]⟩, .bool false]), 3, 32) := by kernel_rfl
/-! The map. -/
/-- An element of the map reads as itself. -/
def Num.selfR (v : Value) : Option (DataW Value × List MemPlace) := some (.held v, [])
theorem lawStr : Keyed Try.prog 9 := string_keyed Try.underlying9
theorem zeroVs (w : World) : (zeroValue 110).run Try.prog w = .ok (.slice none 0 0) w := by kernel_rfl
def Num.litK (k : ByteArray) : Lit := .string k.data.toList
theorem litK_ne {a b : ByteArray} (h : a ≠ b) : litK a ≠ litK b := fun e => h (by
  injection e with e
  exact ByteArray.ext (Array.ext' e))
theorem litK_key (k : ByteArray) : WideAt.IsKeyLit (litK k) := trivial
abbrev Num.OwnM (w : World) (gm n : Nat) (D : DataW Value) : Prop := w.ownsMap Try.prog 9 selfR gm n D
theorem own_tight {w : World} {gm n : Nat} {D : DataW Value} (h : OwnM w gm n D) : OwnM w gm (Maps.size D) D := by
  obtain ⟨es, clock, hb, F, hs, hD⟩ := h
  refine ⟨es, clock, hb, F, ?_, hD⟩
  rw [hD]
  simp [Maps.size, length_sorted]
/-- Each key's versions lie in a row by itself. -/
structure Num.RowsV (B : Nat) (w : World) (D : DataW Value) (K : ByteArray → List Ver) (blk capf : ByteArray → Nat) : Prop where
  no : ∀ k, K k = [] → Maps.has D (litK k) = false
  at_ : ∀ k, K k ≠ [] → ∀ z, D.atKey (litK k) z = .held (.slice (some ⟨blk k, 0, none⟩) (K k).length (capf k))
  row : ∀ k, K k ≠ [] → w.ownsRow B 112 3 (.slice (some ⟨blk k, 0, none⟩) (K k).length (capf k)) (K k).length (verCells (K k))
  apart : ∀ k k', K k ≠ [] → K k' ≠ [] → k ≠ k' → blk k ≠ blk k'
/-- What the map has at a key. -/
def Num.rowV (q : List Ver) (b c : Nat) [Decidable (q = [])] : Value := if q = [] then .slice none 0 0 else .slice (some ⟨b, 0, none⟩) q.length c
theorem rowV_none (b c : Nat) : rowV [] b c = .slice none 0 0 := if_pos rfl
theorem rowV_some {q : List Ver} (h : q ≠ []) (b c : Nat) : rowV q b c = .slice (some ⟨b, 0, none⟩) q.length c := if_neg h
theorem rows_lies {B : Nat} {w : World} {D : DataW Value} {K : ByteArray → List Ver} {blk capf : ByteArray → Nat} (h : RowsV B w D K blk capf) (k : ByteArray) : ∃ ao cap, rowV (K k) (blk k) (capf k) = .slice ao (K k).length cap ∧ LiesV w w.heap.size ao (K k) := by
  by_cases hk : K k = []
  · rw [hk, rowV_none]
    exact ⟨none, 0, rfl, fun i x hx => by simp at hx⟩
  · rw [rowV_some hk]
    obtain ⟨ao, cap, e, hl⟩ := own_liesV (h.row k hk)
    cases e
    exact ⟨_, _, rfl, hl⟩
theorem run_lookV {B gm n : Nat} {w : World} {D : DataW Value} {K : ByteArray → List Ver} {blk capf : ByteArray → Nat} (hm : OwnM w gm n D) (hr : RowsV B w D K blk capf) {k : ByteArray} (hk : k.size ≤ maxLen) :
    (Instr.lookup 103 (.map (some gm)) (.string k) false).run Try.prog w = .ok (rowV (K k) (blk k) (capf k)) w := by
  obtain ⟨v, ps, hrun, hv⟩ := hm.lookup lawStr Try.underlying103 (zeroVs w) (zd := .held (.slice none 0 0)) (zp := []) rfl (WideMaps.keyOf_string_mk Try.underlying9 hk)
  rw [hrun]
  unfold selfR at hv
  have e : DataW.held v = D.atKey (litK k) (.held (.slice none 0 0)) := by
    have := Option.some.inj hv
    exact congrArg Prod.fst this
  by_cases h0 : K k = []
  · rw [atKey_of_not_has (hr.no k h0)] at e
    rw [h0, rowV_none]
    injection e with e
    rw [e]
  · rw [hr.at_ k h0] at e
    rw [rowV_some h0]
    injection e with e
    rw [e]
theorem wpList_lookV {ops : Array Oper} {rest : List Oper} {o : Oper} {a : Act} {Q : Exit → Act → World → Prop} (w : World) (hg : o.guard = none) (m x : Operand) (hop : o.op = Op.lookup 103 m x false)
    {B : Nat} (gm n : Nat) (D : DataW Value) (K : ByteArray → List Ver) (blk capf : ByteArray → Nat) (hm : a.eval m = .map (some gm)) (hown : OwnM w gm n D) (hr : RowsV B w D K blk capf) (k : ByteArray) (hk : k.size ≤ maxLen) (hx : a.eval x = .string k) (v : Value) (hv : rowV (K k) (blk k) (capf k) = v)
    (hK : wpList Try.prog ops Q rest (a.put o.dst v) w) : wpList Try.prog ops Q (o :: rest) a w := by
  refine wpList_plain hg fun K' hK' => ?_
  have hrun := run_lookV hown hr hk
  rw [hv] at hrun
  unfold Oper.wp
  simp [execOp, hop, hm, hx, hrun, Result.andThen]
  exact hK' _ _ hK
/-! The whole. -/
/-- A box with a map of rows and pages, whatever the numbers. -/
structure Num.StoG (B : Nat) (w : World) (g gm : Nat) (room size top : Int) (K : ByteArray → List Ver) (D : DataW Value) (blk capf : ByteArray → Nat) (N : Nat) (pv : Value) (ps : Pages) : Prop where
  box : w.heap[g]? = some (.cells #[.int .i64 room, .int .i64 size, .int .i64 top, .map (some gm), pv] 106 (0, 0))
  gB : B ≤ g
  mB : B ≤ gm
  map : OwnM w gm N D
  rows : RowsV B w D K blk capf
  pages : OwnPs B w pv ps
/-- A pointer to a store that is so. -/
structure Num.StoAt (B : Nat) (w : World) (g gm : Nat) (st : Sto) (D : DataW Value) (blk capf : ByteArray → Nat) (ao : Option Addr) (cap : Nat) (ps : Pages) : Prop extends StoG B w g gm st.room (st.vs.length : Int) st.top (keyV st.vs) D blk capf ps.flatten.length (.slice ao ps.length cap) ps where
  keys : KeysOk ps st.vs
  size : Maps.size D = ps.flatten.length
  inv : InvS st
  small : ∀ v ∈ st.vs, v.key.size ≤ maxLen
def Num.HoldP (B : Nat) (w : World) (g : Nat) (st : Sto) : Prop := ∃ gm D blk capf ao cap ps, StoAt B w g gm st D blk capf ao cap ps
theorem few_keys : ∀ (xs : List Pr) (l : List Ver), Rises xs → (∀ x ∈ xs, ∃ v ∈ l, v.key = x.key) → xs.length ≤ l.length
  | [], _, _, _ => Nat.zero_le _
  | x :: xs, l, hr, h => by
    unfold Rises at hr
    rw [List.pairwise_cons] at hr
    have h1 := len_parts l x.key
    have h2 : keyV l x.key ≠ [] := by
      obtain ⟨v, hv, hk⟩ := h x (by simp)
      intro e
      have := keyV_mem.2 ⟨hv, hk⟩
      rw [e] at this
      cases this
    have h3 := few_keys xs (l.filter (fun v => !isKey x.key v)) hr.2 (fun y hy => by
      obtain ⟨v, hv, hk⟩ := h y (by simp [hy])
      refine ⟨v, List.mem_filter.2 ⟨hv, ?_⟩, hk⟩
      rw [isKey_no]
      · rfl
      · rw [hk]
        exact fun e => kl_ne (hr.1 y hy) e.symm)
    have h4 := List.length_pos_iff.2 h2
    rw [List.length_cons]
    omega
theorem keys_few {ps : Pages} {l : List Ver} (h : KeysOk ps l) : ps.flatten.length ≤ l.length ∧ ps.length ≤ l.length := by
  have h1 := few_keys ps.flatten l h.1.2 (fun x hx => by
    have hne := ((h.2 x).1 hx).2
    obtain ⟨v, hv⟩ := List.exists_mem_of_ne_nil _ hne
    obtain ⟨h1, h2⟩ := keyV_mem.1 hv
    exact ⟨v, h1, h2⟩)
  have h2 : ps.length ≤ ps.flatten.length := by
    have h0 := h.1.1
    clear h h1
    induction ps with
    | nil => simp
    | cons p ps ih =>
      rw [List.flatten_cons, List.length_append, List.length_cons]
      have := ih (fun q hq => h0 q (by simp [hq]))
      have := (h0 p (by simp)).1
      omega
  exact ⟨h1, Nat.le_trans h2 h1⟩
theorem keys_small {ps : Pages} {l : List Ver} (h : KeysOk ps l) (hs : ∀ v ∈ l, v.key.size ≤ maxLen) : ∀ x ∈ ps.flatten, x.key.size ≤ maxLen := by
  intro x hx
  have hne := ((h.2 x).1 hx).2
  obtain ⟨v, hv⟩ := List.exists_mem_of_ne_nil _ hne
  obtain ⟨h1, h2⟩ := keyV_mem.1 hv
  rw [← h2]
  exact hs v h1
/-! What keeps it. -/
/-- What a store is made of. -/
def Num.SK (o : Obj) : Prop := match o with
  | .cells _ t _ => t = 106 ∨ t = 112 ∨ t = 52 ∨ t = 22
  | .map _ _ => True
  | _ => False
theorem own_same {w w' : World} {B e sz n : Nat} {v : Value} {xs : List Value} (h : w.ownsRow B e sz v n xs) (hk : ∀ i cur, B ≤ i → w.heap[i]? = some (.cells cur e (0, 0)) → w'.heap[i]? = some (.cells cur e (0, 0))) : w'.ownsRow B e sz v n xs := by
  refine ⟨h.1, ?_⟩
  rcases h.2 with h0 | ⟨g, cap, cur, hv, hb, hg, r⟩
  · exact .inl h0
  · exact .inr ⟨g, cap, cur, hv, hb, hk g cur hb hg, r⟩
theorem ownPs_same {B : Nat} {w w' : World} {v : Value} {ps : Pages} (h : OwnPs B w v ps) (h1 : ∀ i cur, B ≤ i → w.heap[i]? = some (.cells cur 22 (0, 0)) → w'.heap[i]? = some (.cells cur 22 (0, 0))) (h2 : ∀ i cur, B ≤ i → w.heap[i]? = some (.cells cur 52 (0, 0)) → w'.heap[i]? = some (.cells cur 52 (0, 0))) : OwnPs B w' v ps := by
  obtain ⟨css, e1, e2, e3, e4⟩ := h
  refine ⟨css, e1, e2, own_same e3 h1, fun i cs x a b => ?_⟩
  obtain ⟨c, ec, hc⟩ := e4 i cs x a b
  exact ⟨c, ec, own_same hc h2⟩
theorem rows_same {B : Nat} {w w' : World} {D : DataW Value} {K : ByteArray → List Ver} {blk capf : ByteArray → Nat} (h : RowsV B w D K blk capf) (hk : ∀ i cur, B ≤ i → w.heap[i]? = some (.cells cur 112 (0, 0)) → w'.heap[i]? = some (.cells cur 112 (0, 0))) : RowsV B w' D K blk capf :=
  ⟨h.no, h.at_, fun k hk' => own_same (h.row k hk') hk, h.apart⟩
theorem ownM_same {w w' : World} {gm n : Nat} {D : DataW Value} (h : OwnM w gm n D) (hk : ∀ es c, w.heap[gm]? = some (.map es c) → w'.heap[gm]? = some (.map es c)) : OwnM w' gm n D := by
  obtain ⟨es, clock, hb, r⟩ := h
  exact ⟨es, clock, hk es clock hb, r⟩
theorem Num.StoG.kept {B : Nat} {w w' : World} {g gm : Nat} {room size top : Int} {K : ByteArray → List Ver} {D : DataW Value} {blk capf : ByteArray → Nat} {N : Nat} {pv : Value} {ps : Pages} (h : StoG B w g gm room size top K D blk capf N pv ps) (hk : ∀ i o, B ≤ i → w.heap[i]? = some o → SK o → w'.heap[i]? = some o) : StoG B w' g gm room size top K D blk capf N pv ps :=
  ⟨hk g _ h.gB h.box (.inl rfl), h.gB, h.mB, ownM_same h.map (fun es c e => hk gm _ h.mB e trivial), rows_same h.rows (fun i cur hi e => hk i _ hi e (.inr (.inl rfl))), ownPs_same h.pages (fun i cur hi e => hk i _ hi e (.inr (.inr (.inr rfl)))) (fun i cur hi e => hk i _ hi e (.inr (.inr (.inl rfl))))⟩
theorem Num.StoG.below {B : Nat} {w w' : World} {g gm : Nat} {room size top : Int} {K : ByteArray → List Ver} {D : DataW Value} {blk capf : ByteArray → Nat} {N : Nat} {pv : Value} {ps : Pages} (h : StoG B w g gm room size top K D blk capf N pv ps) (hb : Below w.heap.size w w') : StoG B w' g gm room size top K D blk capf N pv ps := h.kept fun i o _ e _ => below_box hb e
theorem Num.StoAt.kept {B : Nat} {w w' : World} {g gm : Nat} {st : Sto} {D : DataW Value} {blk capf : ByteArray → Nat} {ao : Option Addr} {cap : Nat} {ps : Pages} (h : StoAt B w g gm st D blk capf ao cap ps) (hk : ∀ i o, B ≤ i → w.heap[i]? = some o → SK o → w'.heap[i]? = some o) : StoAt B w' g gm st D blk capf ao cap ps :=
  ⟨h.toStoG.kept hk, h.keys, h.size, h.inv, h.small⟩
theorem Num.StoAt.below {B : Nat} {w w' : World} {g gm : Nat} {st : Sto} {D : DataW Value} {blk capf : ByteArray → Nat} {ao : Option Addr} {cap : Nat} {ps : Pages} (h : StoAt B w g gm st D blk capf ao cap ps) (hb : Below w.heap.size w w') : StoAt B w' g gm st D blk capf ao cap ps :=
  h.kept fun i o _ e _ => below_box hb e
theorem Num.HoldP.kept {B : Nat} {w w' : World} {g : Nat} {st : Sto} (h : HoldP B w g st) (hk : ∀ i o, B ≤ i → w.heap[i]? = some o → SK o → w'.heap[i]? = some o) : HoldP B w' g st := by
  obtain ⟨gm, D, blk, capf, ao, cap, ps, h⟩ := h
  exact ⟨gm, D, blk, capf, ao, cap, ps, h.kept hk⟩
theorem Num.HoldP.below {B : Nat} {w w' : World} {g : Nat} {st : Sto} (h : HoldP B w g st) (hb : Below w.heap.size w w') : HoldP B w' g st := h.kept fun i o _ e _ => below_box hb e
theorem Num.HoldP.inv {B : Nat} {w : World} {g : Nat} {st : Sto} (h : HoldP B w g st) : InvS st := by
  obtain ⟨gm, D, blk, capf, ao, cap, ps, h⟩ := h
  exact h.inv
theorem Num.HoldP.lt {B : Nat} {w : World} {g : Nat} {st : Sto} (h : HoldP B w g st) : B ≤ g ∧ g < w.heap.size := by
  obtain ⟨gm, D, blk, capf, ao, cap, ps, h⟩ := h
  exact ⟨h.gB, (Array.getElem?_eq_some_iff.1 h.box).1⟩
/-- Blocks of other kinds stay; what lies below a mark stays. -/
structure Num.Turns (K : Obj → Prop) (B : Nat) (w w' : World) : Prop where
  below : Below B w w'
  keep : ∀ (i : Nat) (o : Obj), w.heap[i]? = some o → K o → w'.heap[i]? = some o
theorem Num.Turns.trans {K : Obj → Prop} {B : Nat} {a b c : World} (h : Turns K B a b) (k : Turns K B b c) : Turns K B a c := ⟨h.below.trans k.below, fun i o e ho => k.keep i o (h.keep i o e ho) ho⟩
theorem Num.Turns.of_below {K : Obj → Prop} {B : Nat} {w w' : World} (h : Below w.heap.size w w') (hB : B ≤ w.heap.size) : Turns K B w w' := ⟨h.mono hB, fun i o e _ => below_box h e⟩
theorem Num.Turns.of_grown {K : Obj → Prop} {B : Nat} {w w' : World} {p : Nat} (h : w.grownBy w' (some p)) (hp : B ≤ p) (hB : B ≤ w.heap.size) (hn : ∀ o, w.heap[p]? = some o → ¬ K o) : Turns K B w w' :=
  ⟨below_grown h hp hB, fun i o e ho => by
    rw [h.block i (Array.getElem?_eq_some_iff.1 e).1 (by
      intro e2
      cases e2
      exact hn o e ho)]
    exact e⟩
/-- What a store's methods leave as it was. -/
def Num.PK (o : Obj) : Prop := match o with
  | .cells _ t _ => t ≠ 106 ∧ t ≠ 112
  | .map es _ => ∃ x ∈ es.toList, keyOf Try.prog 9 x.key = none
  | _ => False
theorem ownM_not {w : World} {gm n : Nat} {D : DataW Value} (h : OwnM w gm n D) {es : Array MapEntry} {c : Nat} (he : w.heap[gm]? = some (.map es c)) : ¬ PK (.map es c) := by
  obtain ⟨es', c', e, F, _⟩ := h
  rw [e] at he
  cases he
  rintro ⟨x, hx, h0⟩
  obtain ⟨y, hy⟩ := F.reads x hx
  have := WideElems.rd_key hy
  rw [h0] at this
  cases this
abbrev Num.TurnP (B : Nat) (w w' : World) : Prop := Turns PK B w w'
theorem turnP_box {B : Nat} {w w' : World} (h : TurnP B w w') {b : Nat} {cs : Array Value} {t : TypeId} {fr : Nat × Nat} (hb : w.heap[b]? = some (.cells cs t fr)) (h1 : t ≠ 106) (h2 : t ≠ 112) : w'.heap[b]? = some (.cells cs t fr) := h.keep b _ hb ⟨h1, h2⟩
end Go.Proofs.Ytdmkmhjalcfchaa
