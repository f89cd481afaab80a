/-
  A transaction in memory: its box, the store that it reads, its two maps, its row of ranges; what keeps it.
-/
import Derived.Test.YtdmkmhjalcfchaaTxM
import Derived.Test.YtdmkmhjalcfchaaSNew
import Derived.Test.YtdmkmhjalcfchaaSScn
import Derived.Test.YtdmkmhjalcfchaaCMem
namespace Go.Proofs.Ytdmkmhjalcfchaa
open Go.RowKit Go.Maps Num
open scoped Classical
set_option linter.unusedVariables false
set_option maxRecDepth 100000

/-! Ranges and writes in rows of the call's own. -/
def Num.rngC (x : Rng) : List Value := [.string x.lo, .string x.hi]
def Num.rngCells (l : List Rng) : List Value := l.flatMap rngC
theorem rngCells_cons (x : Rng) (l : List Rng) : rngCells (x :: l) = rngC x ++ rngCells l := rfl
theorem rngCells_append (l r : List Rng) : rngCells (l ++ r) = rngCells l ++ rngCells r := by simp [rngCells]
theorem rngCells_len (l : List Rng) : (rngCells l).length = l.length * 2 := by
  induction l with
  | nil => rfl
  | cons x l ih =>
    rw [rngCells_cons, List.length_append, ih, List.length_cons]
    simp [rngC]
    omega
theorem rngC_one (x : Rng) : ∀ v ∈ rngC x, v.oneCell' = true := by
  intro v hv
  simp [rngC] at hv
  rcases hv with rfl | rfl <;> rfl
theorem rngCells_one (l : List Rng) : ∀ v ∈ rngCells l, v.oneCell' = true := by
  intro v hv
  simp only [rngCells, List.mem_flatMap] at hv
  obtain ⟨y, _, hy⟩ := hv
  exact rngC_one y v hy
theorem rngCells_get (l : List Rng) : ∀ (i : Nat) x, l[i]? = some x → (rngCells l)[i * 2]? = some (.string x.lo) ∧ (rngCells l)[i * 2 + 1]? = some (.string x.hi) := by
  induction l with
  | nil => intro i x h; simp at h
  | cons y l ih =>
    intro i x h
    rw [rngCells_cons]
    cases i with
    | zero =>
      simp at h
      subst h
      exact ⟨rfl, rfl⟩
    | succ i =>
      have h' : l[i]? = some x := by simpa using h
      obtain ⟨h1, h2⟩ := ih i x h'
      have e : ∀ j, (rngC y ++ rngCells l)[j + 2]? = (rngCells l)[j]? := fun j => by
        rw [List.getElem?_append_right (by simp [rngC])]
        simp [rngC]
      rw [show (i + 1) * 2 = i * 2 + 2 by omega, e, show i * 2 + 2 + 1 = (i * 2 + 1) + 2 by omega, e]
      exact ⟨h1, h2⟩
theorem own_liesQ {w : World} {B : Nat} {v : Value} {l : List Rng} (h : w.ownsRow B 64 2 v l.length (rngCells l)) : ∃ ao cap, v = .slice ao l.length cap ∧ LiesQ w w.heap.size ao l := by
  rcases h.2 with ⟨hv, h0⟩ | ⟨g, cap, cur, hv, _, hg, hcap, _⟩
  · subst hv
    have : l = [] := List.eq_nil_of_length_eq_zero h0
    subst this
    exact ⟨none, 0, rfl, fun i x hx => by simp at hx⟩
  · subst hv
    refine ⟨_, cap, rfl, fun i x hx => ⟨_, rfl, (Array.getElem?_eq_some_iff.1 hg).1, ?_⟩⟩
    obtain ⟨h1, h2⟩ := rngCells_get l i x hx
    have g1 := h.cells (g := g) rfl _ _ h1
    have g2 := h.cells (g := g) rfl _ _ h2
    rw [Addr.add_lit] at g1 g2
    rw [Addr.add_lit]
    exact ⟨g1, g2⟩
theorem Try.infoRng : (Try.prog.info? 64).map (fun i => (i.zero, i.size, i.bytes)) = some (some (.agg #[.string ⟨#[]⟩, .string ⟨#[]⟩]), 2, 32) := by kernel_rfl
def Num.wrtC (x : Wrt) : List Value := [.string x.key, .string x.val, .bool x.del]
def Num.wrtCells (l : List Wrt) : List Value := l.flatMap wrtC
theorem wrtCells_cons (x : Wrt) (l : List Wrt) : wrtCells (x :: l) = wrtC x ++ wrtCells l := rfl
theorem wrtCells_append (l r : List Wrt) : wrtCells (l ++ r) = wrtCells l ++ wrtCells r := by simp [wrtCells]
theorem wrtCells_len (l : List Wrt) : (wrtCells l).length = l.length * 3 := by
  induction l with
  | nil => rfl
  | cons x l ih =>
    rw [wrtCells_cons, List.length_append, ih, List.length_cons]
    simp [wrtC]
    omega
theorem wrtC_one (x : Wrt) : ∀ v ∈ wrtC x, v.oneCell' = true := by
  intro v hv
  simp [wrtC] at hv
  rcases hv with rfl | rfl | rfl <;> rfl
theorem wrtCells_one (l : List Wrt) : ∀ v ∈ wrtCells l, v.oneCell' = true := by
  intro v hv
  simp only [wrtCells, List.mem_flatMap] at hv
  obtain ⟨y, _, hy⟩ := hv
  exact wrtC_one y v hy
theorem wrtCells_get (l : List Wrt) : ∀ (i : Nat) x, l[i]? = some x → (wrtCells l)[i * 3]? = some (.string x.key) ∧ (wrtCells l)[i * 3 + 1]? = some (.string x.val) ∧ (wrtCells l)[i * 3 + 2]? = some (.bool x.del) := by
  induction l with
  | nil => intro i x h; simp at h
  | cons y l ih =>
    intro i x h
    rw [wrtCells_cons]
    cases i with
    | zero =>
      simp at h
      subst h
      exact ⟨rfl, rfl, rfl⟩
    | succ i =>
      have h' : l[i]? = some x := by simpa using h
      obtain ⟨h1, h2, h3⟩ := ih i x h'
      have e : ∀ j, (wrtC y ++ wrtCells l)[j + 3]? = (wrtCells l)[j]? := fun j => by
        rw [List.getElem?_append_right (by simp [wrtC])]
        simp [wrtC]
      rw [show (i + 1) * 3 = i * 3 + 3 by omega, e, show i * 3 + 3 + 1 = (i * 3 + 1) + 3 by omega, e, show i * 3 + 3 + 2 = (i * 3 + 2) + 3 by omega, e]
      exact ⟨h1, h2, h3⟩
theorem own_liesW {w : World} {B : Nat} {v : Value} {l : List Wrt} (h : w.ownsRow B 54 3 v l.length (wrtCells l)) : ∃ ao cap, v = .slice ao l.length cap ∧ LiesW w w.heap.size ao l := by
  rcases h.2 with ⟨hv, h0⟩ | ⟨g, cap, cur, hv, _, hg, hcap, _⟩
  · subst hv
    have : l = [] := List.eq_nil_of_length_eq_zero h0
    subst this
    exact ⟨none, 0, rfl, fun i x hx => by simp at hx⟩
  · subst hv
    refine ⟨_, cap, rfl, fun i x hx => ⟨_, rfl, (Array.getElem?_eq_some_iff.1 hg).1, ?_⟩⟩
    obtain ⟨h1, h2, h3⟩ := wrtCells_get l i x hx
    have g1 := h.cells (g := g) rfl _ _ h1
    have g2 := h.cells (g := g) rfl _ _ h2
    have g3 := h.cells (g := g) rfl _ _ h3
    rw [Addr.add_lit] at g1 g2 g3
    rw [Addr.add_lit]
    exact ⟨g1, g2, g3⟩
theorem Try.infoWrt : (Try.prog.info? 54).map (fun i => (i.zero, i.size, i.bytes)) = some (some (.agg #[.string ⟨#[]⟩, .string ⟨#[]⟩, .bool false]), 3, 40) := by kernel_rfl
/-! The two maps. -/
def Num.wrtV (x : Wrt) : Value := .agg #[.string x.key, .string x.val, .bool x.del]
theorem zeroWrt (w : World) : (zeroValue 54).run Try.prog w = .ok (.agg #[.string ⟨#[]⟩, .string ⟨#[]⟩, .bool false]) w := by kernel_rfl
structure Num.AskG (w : World) (gm n : Nat) (K : List ByteArray) (D : DataW Value) : Prop where
  map : OwnM w gm n D
  has : ∀ k : ByteArray, Maps.has D (litK k) = true ↔ k ∈ K
structure Num.WrsG (w : World) (gm n : Nat) (ws : List Wrt) (D : DataW Value) : Prop where
  map : OwnM w gm n D
  has : ∀ k : ByteArray, Maps.has D (litK k) = true ↔ ∃ x ∈ ws, x.key = k
  at_ : ∀ x ∈ ws, ∀ z, D.atKey (litK x.key) z = .held (wrtV x)
def Num.AskAt (w : World) (am : Option Nat) (n : Nat) (K : List ByteArray) : Prop := (am = none ∧ K = []) ∨ ∃ gm D, am = some gm ∧ AskG w gm n K D
def Num.WrsAt (w : World) (wm : Option Nat) (n : Nat) (ws : List Wrt) : Prop := (wm = none ∧ ws = []) ∨ ∃ gm D, wm = some gm ∧ WrsG w gm n ws D
theorem Num.AskAt.same {w w' : World} {am : Option Nat} {n : Nat} {K : List ByteArray} (h : AskAt w am n K) (hk : ∀ i es c, am = some i → w.heap[i]? = some (.map es c) → w'.heap[i]? = some (.map es c)) : AskAt w' am n K := by
  rcases h with h | ⟨gm, D, rfl, h⟩
  · exact .inl h
  · exact .inr ⟨gm, D, rfl, ownM_same h.map (fun es c => hk gm es c rfl), h.has⟩
theorem Num.WrsAt.same {w w' : World} {am : Option Nat} {n : Nat} {K : List Wrt} (h : WrsAt w am n K) (hk : ∀ i es c, am = some i → w.heap[i]? = some (.map es c) → w'.heap[i]? = some (.map es c)) : WrsAt w' am n K := by
  rcases h with h | ⟨gm, D, rfl, h⟩
  · exact .inl h
  · exact .inr ⟨gm, D, rfl, ownM_same h.map (fun es c => hk gm es c rfl), h.has, h.at_⟩
theorem Num.AskAt.mono {w : World} {am : Option Nat} {n n' : Nat} {K : List ByteArray} (h : AskAt w am n K) (hn : n ≤ n') : AskAt w am n' K := by
  rcases h with h | ⟨gm, D, rfl, h⟩
  · exact .inl h
  · exact .inr ⟨gm, D, rfl, h.map.mono hn, h.has⟩
theorem Num.WrsAt.mono {w : World} {am : Option Nat} {n n' : Nat} {K : List Wrt} (h : WrsAt w am n K) (hn : n ≤ n') : WrsAt w am n' K := by
  rcases h with h | ⟨gm, D, rfl, h⟩
  · exact .inl h
  · exact .inr ⟨gm, D, rfl, h.map.mono hn, h.has, h.at_⟩
theorem Num.AskAt.lt {w : World} {am : Option Nat} {n : Nat} {K : List ByteArray} (h : AskAt w am n K) {i : Nat} (hi : am = some i) : i < w.heap.size := by
  rcases h with ⟨h, _⟩ | ⟨gm, D, h, hg⟩
  · rw [h] at hi; cases hi
  · rw [h] at hi; cases hi
    exact hg.map.lt
theorem Num.WrsAt.lt {w : World} {am : Option Nat} {n : Nat} {K : List Wrt} (h : WrsAt w am n K) {i : Nat} (hi : am = some i) : i < w.heap.size := by
  rcases h with ⟨h, _⟩ | ⟨gm, D, h, hg⟩
  · rw [h] at hi; cases hi
  · rw [h] at hi; cases hi
    exact hg.map.lt
/-- 'w, own := t.writes[k]'. -/
theorem run_wrs {w : World} {wm : Option Nat} {n : Nat} {ws : List Wrt} (h : WrsAt w wm n ws) (hu : UpW ws) {k : ByteArray} (hk : k.size ≤ maxLen) :
    (Instr.lookup 75 (.map wm) (.string k) true).run Try.prog w = .ok (.tuple #[wrtV ((findW ws k).getD ⟨⟨#[]⟩, ⟨#[]⟩, false⟩), .bool (findW ws k).isSome]) w := by
  have hkey := WideMaps.keyOf_string_mk (P := Try.prog) Try.underlying9 hk
  rcases h with ⟨rfl, rfl⟩ | ⟨gm, D, rfl, hg⟩
  · exact Maps.look_nil true lawStr Try.underlying75 (zeroWrt w) hkey
  · obtain ⟨v, ps, hrun, hv⟩ := hg.map.look_ok lawStr Try.underlying75 (zeroWrt w) (zd := .held (.agg #[.string ⟨#[]⟩, .string ⟨#[]⟩, .bool false])) (zp := []) rfl hkey
    rw [hrun]
    unfold selfR at hv
    have e : DataW.held v = D.atKey (litK k) (.held (.agg #[.string ⟨#[]⟩, .string ⟨#[]⟩, .bool false])) := congrArg Prod.fst (Option.some.inj hv)
    cases hf : findW ws k with
    | none =>
      have hno : Maps.has D (litK k) = false := by
        rw [Bool.eq_false_iff]
        intro h1
        obtain ⟨x, hx, hxk⟩ := (hg.has k).1 h1
        exact findW_none.1 hf x hx hxk
      have hno' : Maps.has D (.string k.data.toList) = false := hno
      rw [hno']
      rw [atKey_of_not_has hno] at e
      injection e with e
      rw [e]
      rfl
    | some x =>
      obtain ⟨hx, hxk⟩ := findW_some hf
      have hyes : Maps.has D (.string k.data.toList) = true := (hg.has k).2 ⟨x, hx, hxk⟩
      rw [hyes]
      rw [← hxk, hg.at_ x hx] at e
      injection e with e
      rw [e]
      rfl
/-- 't.writes[k]'. -/
theorem run_wrt {w : World} {wm : Option Nat} {n : Nat} {ws : List Wrt} (h : WrsAt w wm n ws) {x : Wrt} (hx : x ∈ ws) (hk : x.key.size ≤ maxLen) :
    (Instr.lookup 75 (.map wm) (.string x.key) false).run Try.prog w = .ok (wrtV x) w := by
  have hkey := WideMaps.keyOf_string_mk (P := Try.prog) Try.underlying9 hk
  rcases h with ⟨rfl, rfl⟩ | ⟨gm, D, rfl, hg⟩
  · cases hx
  · obtain ⟨v, ps, hrun, hv⟩ := hg.map.lookup lawStr Try.underlying75 (zeroWrt w) (zd := .held (.agg #[.string ⟨#[]⟩, .string ⟨#[]⟩, .bool false])) (zp := []) rfl hkey
    rw [hrun]
    unfold selfR at hv
    have e : DataW.held v = D.atKey (litK x.key) (.held (.agg #[.string ⟨#[]⟩, .string ⟨#[]⟩, .bool false])) := congrArg Prod.fst (Option.some.inj hv)
    rw [hg.at_ x hx] at e
    injection e with e
    rw [e]
/-! What a call leaves. -/
/-- But for the blocks F all is as it was. -/
structure Num.Out (F : Nat → Prop) (w w' : World) : Prop where
  low : Below 0 w w'
  keep : ∀ i, i < w.heap.size → ¬ F i → w'.heap[i]? = w.heap[i]?
theorem Num.Out.refl (F : Nat → Prop) (w : World) : Out F w w := ⟨Below.refl _ _, fun _ _ _ => rfl⟩
theorem Num.Out.size {F : Nat → Prop} {w w' : World} (h : Out F w w') : w.heap.size ≤ w'.heap.size := h.low.size
theorem Num.Out.below {F : Nat → Prop} {w w' : World} (h : Out F w w') {B : Nat} (hF : ∀ i, F i → B ≤ i) (hB : B ≤ w.heap.size) : Below B w w' :=
  ⟨h.low.os, h.low.tape, h.low.output, h.low.size, fun k hk => h.keep k (by omega) (fun hf => by have := hF k hf; omega)⟩
theorem Num.Out.of_below {F : Nat → Prop} {w w' : World} (h : Below w.heap.size w w') : Out F w w' := ⟨h.mono (Nat.zero_le _), fun i hi _ => h.block i hi⟩
theorem Num.Out.of_grown {F : Nat → Prop} {w w' : World} {p : Nat} (h : w.grownBy w' (some p)) (hp : F p) : Out F w w' :=
  ⟨⟨h.os, h.tape, h.output, h.size, fun k hk => absurd hk (Nat.not_lt_zero _)⟩, fun i hi hf => h.block i hi (fun e => by cases e; exact hf hp)⟩
theorem Num.Out.new {F : Nat → Prop} {a b c : World} (h : Out F a b) {p : Nat} (k : b.grownBy c (some p)) (hp : a.heap.size ≤ p) : Out F a c :=
  ⟨⟨k.os.trans h.low.os, k.tape.trans h.low.tape, k.output.trans h.low.output, Nat.le_trans h.size k.size, fun i hi => absurd hi (Nat.not_lt_zero _)⟩, fun i hi hf => (k.block i (Nat.lt_of_lt_of_le hi h.size) (fun e => by cases e; omega)).trans (h.keep i hi hf)⟩
/-- The blocks F, and what is new. -/
def Num.Grw (F : Nat → Prop) (w w' : World) (i : Nat) : Prop := F i ∨ (w.heap.size ≤ i ∧ i < w'.heap.size)
theorem Num.Out.trans {F : Nat → Prop} {a b c : World} (h : Out F a b) (k : Out (Grw F a b) b c) : Out F a c :=
  ⟨h.low.trans k.low, fun i hi hf => (k.keep i (Nat.lt_of_lt_of_le hi h.size) (fun hg => by
    rcases hg with hg | hg
    · exact hf hg
    · omega)).trans (h.keep i hi hf)⟩
theorem Num.Out.next {F : Nat → Prop} {a b c : World} (h : Out F a b) (k : Out F b c) : Out F a c :=
  ⟨h.low.trans k.low, fun i hi hf => (k.keep i (Nat.lt_of_lt_of_le hi h.size) hf).trans (h.keep i hi hf)⟩
theorem Num.Grw.step {F : Nat → Prop} {a b c : World} (hab : a.heap.size ≤ b.heap.size) (hbc : b.heap.size ≤ c.heap.size) {i : Nat} (h : Grw (Grw F a b) b c i) : Grw F a c i := by
  rcases h with (h | h) | h
  · exact .inl h
  · exact .inr ⟨h.1, by omega⟩
  · exact .inr ⟨by omega, h.2⟩
/-! The whole. -/
/-- The store that is read: none, or one that lies below all that is the transaction's. -/
def Num.StoB (B : Nat) (w : World) (so : Option Nat) (st : Sto) : Prop := (so = none ∧ st.vs = []) ∨ ∃ s B0 w0, so = some s ∧ HoldP B0 w0 s st ∧ w0.heap.size ≤ B ∧ Below w0.heap.size w0 w
theorem Num.StoB.next {B : Nat} {w w' : World} {so : Option Nat} {st : Sto} (h : StoB B w so st) (hb : Below B w w') : StoB B w' so st := by
  rcases h with h | ⟨s, B0, w0, e, h, hs, hbw⟩
  · exact .inl h
  · exact .inr ⟨s, B0, w0, e, h, hs, hbw.trans (hb.mono hs)⟩
theorem Num.StoB.hold {B : Nat} {w : World} {s : Nat} {st : Sto} (h : StoB B w (some s) st) : ∃ B0, HoldP B0 w s st := by
  rcases h with ⟨h, _⟩ | ⟨s, B0, w0, e, h, hs, hbw⟩
  · cases h
  · cases e
    exact ⟨B0, h.below hbw⟩
def Num.stoV (so : Option Nat) : Value := .pointer (so.map (fun s => ⟨s, 0, none⟩))
structure Num.TxAt (B : Nat) (w : World) (g : Nat) (t : Tx) (so am wm : Option Nat) (ao : Option Addr) (cap : Nat) : Prop where
  box : w.heap[g]? = some (.cells #[stoV so, .int .i64 t.snap, .map am, .slice ao t.rngs.length cap, .map wm] 77 (0, 0))
  gB : B ≤ g
  sto : StoB B w so t.st
  ask : AskAt w am t.lim t.asked
  row : w.ownsRow B 64 2 (.slice ao t.rngs.length cap) t.rngs.length (rngCells t.rngs)
  wrs : WrsAt w wm t.lim t.ws
  aB : ∀ i, am = some i → B ≤ i
  wB : ∀ i, wm = some i → B ≤ i
  apart : ∀ i, am = some i → wm ≠ some i
  ok : TxOk t
/-- Its blocks. -/
def Num.footT (g : Nat) (am wm : Option Nat) (ao : Option Addr) (i : Nat) : Prop := i = g ∨ am = some i ∨ wm = some i ∨ ∃ a, ao = some a ∧ a.block = i
def Num.HoldT (B : Nat) (w : World) (g : Nat) (t : Tx) (so : Option Nat) (F : Nat → Prop) : Prop := (∃ am wm ao cap, TxAt B w g t so am wm ao cap ∧ ∀ i, footT g am wm ao i → F i) ∧ ∀ i, F i → B ≤ i ∧ i < w.heap.size
theorem Num.TxAt.lt {B : Nat} {w : World} {g : Nat} {t : Tx} {so am wm : Option Nat} {ao : Option Addr} {cap : Nat} (h : TxAt B w g t so am wm ao cap) : g < w.heap.size := (Array.getElem?_eq_some_iff.1 h.box).1
theorem row_lt {w : World} {B e sz n : Nat} {ao : Option Addr} {m cap : Nat} {xs : List Value} (h : w.ownsRow B e sz (.slice ao m cap) n xs) {a : Addr} (ha : ao = some a) : B ≤ a.block ∧ a.block < w.heap.size := by
  rcases h.2 with ⟨hv, _⟩ | ⟨g, cap', cur, hv, hB, hg, _⟩
  · cases hv
    cases ha
  · cases hv
    cases ha
    exact ⟨hB, (Array.getElem?_eq_some_iff.1 hg).1⟩
theorem Num.TxAt.foot {B : Nat} {w : World} {g : Nat} {t : Tx} {so am wm : Option Nat} {ao : Option Addr} {cap : Nat} (h : TxAt B w g t so am wm ao cap) {i : Nat} (hi : footT g am wm ao i) : B ≤ i ∧ i < w.heap.size := by
  rcases hi with rfl | hi | hi | ⟨a, ha, rfl⟩
  · exact ⟨h.gB, h.lt⟩
  · exact ⟨h.aB i hi, h.ask.lt hi⟩
  · exact ⟨h.wB i hi, h.wrs.lt hi⟩
  · exact row_lt h.row ha
theorem own_keep {w w' : World} {B e sz n : Nat} {ao : Option Addr} {m cap : Nat} {xs : List Value} (h : w.ownsRow B e sz (.slice ao m cap) n xs) (hk : ∀ a, ao = some a → w'.heap[a.block]? = w.heap[a.block]?) : w'.ownsRow B e sz (.slice ao m cap) n xs := by
  refine ⟨h.1, ?_⟩
  rcases h.2 with h0 | ⟨g, cap', cur, hv, hB, hg, r⟩
  · exact .inl h0
  · cases hv
    exact .inr ⟨g, _, cur, rfl, hB, (hk _ rfl).trans hg, r⟩
/-- It stays where its blocks stay. -/
theorem Num.TxAt.kept {B : Nat} {w w' : World} {g : Nat} {t : Tx} {so am wm : Option Nat} {ao : Option Addr} {cap : Nat} (h : TxAt B w g t so am wm ao cap) (hb : Below B w w') (hk : ∀ i, footT g am wm ao i → w'.heap[i]? = w.heap[i]?) : TxAt B w' g t so am wm ao cap :=
  ⟨(hk g (.inl rfl)).trans h.box, h.gB, h.sto.next hb, h.ask.same (fun i es c hi e => (hk i (.inr (.inl hi))).trans e), own_keep h.row (fun a ha => hk _ (.inr (.inr (.inr ⟨a, ha, rfl⟩)))), h.wrs.same (fun i es c hi e => (hk i (.inr (.inr (.inl hi)))).trans e), h.aB, h.wB, h.apart, h.ok⟩
theorem Num.TxAt.below {B : Nat} {w w' : World} {g : Nat} {t : Tx} {so am wm : Option Nat} {ao : Option Addr} {cap : Nat} (h : TxAt B w g t so am wm ao cap) (hb : Below w.heap.size w w') : TxAt B w' g t so am wm ao cap :=
  h.kept (hb.mono (by have := h.gB; have := h.lt; omega)) (fun i hi => hb.block i (h.foot hi).2)
theorem Num.HoldT.gB {B : Nat} {w : World} {g : Nat} {t : Tx} {so : Option Nat} {F : Nat → Prop} (h : HoldT B w g t so F) : B ≤ g ∧ g < w.heap.size := by
  obtain ⟨⟨am, wm, ao, cap, h, _⟩, _⟩ := h
  exact ⟨h.gB, h.lt⟩
theorem Num.HoldT.ok {B : Nat} {w : World} {g : Nat} {t : Tx} {so : Option Nat} {F : Nat → Prop} (h : HoldT B w g t so F) : TxOk t := by
  obtain ⟨⟨am, wm, ao, cap, h, _⟩, _⟩ := h
  exact h.ok
theorem Num.HoldT.sto {B : Nat} {w : World} {g : Nat} {t : Tx} {so : Option Nat} {F : Nat → Prop} (h : HoldT B w g t so F) : StoB B w so t.st := by
  obtain ⟨⟨am, wm, ao, cap, h, _⟩, _⟩ := h
  exact h.sto
theorem Num.HoldT.below {B : Nat} {w w' : World} {g : Nat} {t : Tx} {so : Option Nat} {F : Nat → Prop} (h : HoldT B w g t so F) (hb : Below w.heap.size w w') : HoldT B w' g t so F := by
  obtain ⟨⟨am, wm, ao, cap, h, hf⟩, hF⟩ := h
  exact ⟨⟨am, wm, ao, cap, h.below hb, hf⟩, fun i hi => ⟨(hF i hi).1, Nat.lt_of_lt_of_le (hF i hi).2 hb.size⟩⟩
/-- It stays while another one is at work. -/
theorem Num.HoldT.other {B : Nat} {w w' : World} {g : Nat} {t : Tx} {so : Option Nat} {F G : Nat → Prop} (h : HoldT B w g t so G) (ho : Out F w w') (hF : ∀ i, F i → B ≤ i) (hFG : ∀ i, F i → ¬ G i) : HoldT B w' g t so G := by
  obtain ⟨⟨am, wm, ao, cap, h, hf⟩, hG⟩ := h
  refine ⟨⟨am, wm, ao, cap, h.kept (ho.below hF (by have := h.gB; have := h.lt; omega)) (fun i hi => ho.keep i (h.foot hi).2 (fun hFi => hFG i hFi (hf i hi))), hf⟩, fun i hi => ⟨(hG i hi).1, Nat.lt_of_lt_of_le (hG i hi).2 ho.size⟩⟩
theorem Num.HoldT.wider {B : Nat} {w : World} {g : Nat} {t : Tx} {so : Option Nat} {F G : Nat → Prop} (h : HoldT B w g t so F) (hFG : ∀ i, F i → G i) (hG : ∀ i, G i → B ≤ i ∧ i < w.heap.size) : HoldT B w g t so G := by
  obtain ⟨⟨am, wm, ao, cap, h, hf⟩, _⟩ := h
  exact ⟨⟨am, wm, ao, cap, h, fun i hi => hFG i (hf i hi)⟩, hG⟩
theorem tx_cells {B : Nat} {w : World} {g : Nat} {t : Tx} {so am wm : Option Nat} {ao : Option Addr} {cap : Nat} (h : TxAt B w g t so am wm ao cap) : w.cell? ⟨g, 0, none⟩ = some (stoV so) ∧ w.cell? ⟨g, 1, none⟩ = some (.int .i64 t.snap) ∧ w.cell? ⟨g, 2, none⟩ = some (.map am) ∧ w.cell? ⟨g, 3, none⟩ = some (.slice ao t.rngs.length cap) ∧ w.cell? ⟨g, 4, none⟩ = some (.map wm) :=
  ⟨box_cell h.box 0 _ rfl, box_cell h.box 1 _ rfl, box_cell h.box 2 _ rfl, box_cell h.box 3 _ rfl, box_cell h.box 4 _ rfl⟩
end Go.Proofs.Ytdmkmhjalcfchaa
