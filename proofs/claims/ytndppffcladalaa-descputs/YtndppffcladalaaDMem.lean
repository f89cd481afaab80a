/-
  Schemas in memory: numbers and texts in one place each, columns in nine, indexes and tables in five (a slice is one place). A schema that came in, opened.
-/
import Derived.Test.YtndppffcladalaaDSchM
import Derived.Test.YtndppffcladalaaVLow
import Derived.Test.YtndppffcladalaaVWord
import Derived.Lib.AppendStr
import Derived.Lib.SmallJoins
import Derived.Deep.Slices
import Derived.Carry
namespace Go.Proofs.Ytndppffcladalaa
open Go.RowKit Go.ChangeShapes Go.WideShapes Go.Joins Num
set_option linter.unusedVariables false

theorem Addr.block_add (a : Addr) (i : Nat) : (a.add i).block = a.block := by
  unfold Addr.add
  split <;> rfl
theorem cell_lt {w : World} {a : Addr} {v : Value} (h : w.cell? a = some v) : a.block < w.heap.size := by
  rcases Nat.lt_or_ge a.block w.heap.size with h' | h'
  · exact h'
  · simp [World.cell?, Array.getElem?_eq_none h'] at h
theorem own_below {w w' : World} {B e size n : Nat} {v : Value} {xs : List Value} (h : w.ownsRow B e size v n xs) (hb : Below w.heap.size w w') : w'.ownsRow B e size v n xs :=
  h.kept (row := none) ⟨hb.os, hb.tape, hb.output, hb.size, fun k hk _ => hb.block k hk⟩ (by cases v.ownBlock <;> simp)
theorem below_box0 {w w' : World} {o : Obj} (h : Below (w.alloc o).heap.size (w.alloc o) w') : Below w.heap.size w w' :=
  ((Below.refl _ _).alloc (Nat.le_refl _) o).trans (h.mono (by simp))
theorem below_two {w w1 w2 : World} {o : Obj} (h : Below (w.alloc o).heap.size (w.alloc o) w1) (h2 : Below w1.heap.size w1 w2) : Below w.heap.size w w2 :=
  (below_box0 h).trans (h2.mono (Nat.le_trans (by simp) h.size))

/-! What lies where. -/
/-- Things lie in memory, from an address on, so many places each, in blocks below B. -/
def Num.LiesG {α : Type} (At : World → Addr → α → Prop) (sz : Nat) (w : World) (B : Nat) (ao : Option Addr) (l : List α) : Prop := ∀ i x, l[i]? = some x → ∃ a, ao = some a ∧ a.block < B ∧ At w (a.add (i * sz)) x
/-- What is said of a place stays where its block stays. -/
def Num.Fast {α : Type} (B : Nat) (At : World → Addr → α → Prop) : Prop := ∀ w w' p x, p.block < B → At w p x → Below B w w' → At w' p x
theorem Num.LiesG.below {α : Type} {At : World → Addr → α → Prop} {sz : Nat} {w w' : World} {B : Nat} {ao : Option Addr} {l : List α} (h : LiesG At sz w B ao l) (hf : Fast B At) (hb : Below B w w') : LiesG At sz w' B ao l := by
  intro i x hx
  obtain ⟨a, e, ha, h0⟩ := h i x hx
  exact ⟨a, e, ha, hf _ _ _ _ (by rw [Addr.block_add]; exact ha) h0 hb⟩
theorem Num.LiesG.mono {α : Type} {At At' : World → Addr → α → Prop} {sz : Nat} {w : World} {B B' : Nat} {ao : Option Addr} {l : List α} (h : LiesG At sz w B ao l) (hB : B ≤ B') (hA : ∀ p x, At w p x → At' w p x) : LiesG At' sz w B' ao l := by
  intro i x hx
  obtain ⟨a, e, ha, h4⟩ := h i x hx
  exact ⟨a, e, Nat.lt_of_lt_of_le ha hB, hA _ _ h4⟩
def Num.NumAt (w : World) (p : Addr) (n : Int) : Prop := w.cell? p = some (.int .i64 n)
def Num.TxtAt (w : World) (p : Addr) (s : ByteArray) : Prop := w.cell? p = some (.string s)
abbrev Num.LiesN (w : World) (B : Nat) (ao : Option Addr) (l : List Int) : Prop := LiesG NumAt 1 w B ao l
abbrev Num.LiesS (w : World) (B : Nat) (ao : Option Addr) (l : List ByteArray) : Prop := LiesG TxtAt 1 w B ao l
/-- A column lies at an address. -/
def Num.ColAt (w : World) (p : Addr) (c : Colm) : Prop := w.cell? p = some (.int .i64 c.id) ∧ w.cell? ⟨p.block, p.off + 1, none⟩ = some (.string c.name) ∧ w.cell? ⟨p.block, p.off + 2, none⟩ = some (.int .i64 c.kind) ∧ w.cell? ⟨p.block, p.off + 3, none⟩ = some (.int .i64 c.state) ∧ w.cell? ⟨p.block, p.off + 4, none⟩ = some (.int .i64 c.null) ∧
  w.cell? ⟨p.block, p.off + 5, none⟩ = some (.int .i64 c.d.k) ∧ w.cell? ⟨p.block, p.off + 6, none⟩ = some (.int .i64 c.d.n) ∧ w.cell? ⟨p.block, p.off + 7, none⟩ = some (.int .u64 (c.d.f : Int)) ∧ w.cell? ⟨p.block, p.off + 8, none⟩ = some (.string c.d.s)
abbrev Num.LiesK (w : World) (B : Nat) (ao : Option Addr) (l : List Colm) : Prop := LiesG ColAt 9 w B ao l
def Num.IdxAt (B : Nat) (w : World) (p : Addr) (x : Idx) : Prop := w.cell? p = some (.int .i64 x.id) ∧ w.cell? ⟨p.block, p.off + 1, none⟩ = some (.string x.name) ∧ (∃ ao cap, w.cell? ⟨p.block, p.off + 2, none⟩ = some (.slice ao x.cols.length cap) ∧ LiesN w B ao x.cols ∧ x.cols.length ≤ cap) ∧ w.cell? ⟨p.block, p.off + 3, none⟩ = some (.bool x.uniq) ∧ w.cell? ⟨p.block, p.off + 4, none⟩ = some (.int .i64 x.state)
abbrev Num.LiesI (w : World) (B : Nat) (ao : Option Addr) (l : List Idx) : Prop := LiesG (IdxAt B) 5 w B ao l
def Num.TabAt (B : Nat) (w : World) (p : Addr) (t : Tab) : Prop := w.cell? p = some (.int .i64 t.id) ∧ w.cell? ⟨p.block, p.off + 1, none⟩ = some (.string t.name) ∧ (∃ ao cap, w.cell? ⟨p.block, p.off + 2, none⟩ = some (.slice ao t.cols.length cap) ∧ LiesK w B ao t.cols) ∧ (∃ ao cap, w.cell? ⟨p.block, p.off + 3, none⟩ = some (.slice ao t.idxs.length cap) ∧ LiesI w B ao t.idxs) ∧ w.cell? ⟨p.block, p.off + 4, none⟩ = some (.int .i64 t.next)
abbrev Num.LiesT (w : World) (B : Nat) (ao : Option Addr) (l : List Tab) : Prop := LiesG (TabAt B) 5 w B ao l
theorem Num.NumAt.fast {B : Nat} : Fast B NumAt := fun w w' p x hp h hb => (hb.cell hp).trans h
theorem Num.TxtAt.fast {B : Nat} : Fast B TxtAt := fun w w' p x hp h hb => (hb.cell hp).trans h
theorem Num.ColAt.fast {B : Nat} : Fast B ColAt := fun w w' p c hp h hb =>
  ⟨(hb.cell hp).trans h.1, (hb.cell (p := ⟨_, _, none⟩) hp).trans h.2.1, (hb.cell (p := ⟨_, _, none⟩) hp).trans h.2.2.1, (hb.cell (p := ⟨_, _, none⟩) hp).trans h.2.2.2.1, (hb.cell (p := ⟨_, _, none⟩) hp).trans h.2.2.2.2.1, (hb.cell (p := ⟨_, _, none⟩) hp).trans h.2.2.2.2.2.1, (hb.cell (p := ⟨_, _, none⟩) hp).trans h.2.2.2.2.2.2.1, (hb.cell (p := ⟨_, _, none⟩) hp).trans h.2.2.2.2.2.2.2.1, (hb.cell (p := ⟨_, _, none⟩) hp).trans h.2.2.2.2.2.2.2.2⟩
theorem Num.IdxAt.fast {B : Nat} : Fast B (IdxAt B) := fun w w' p c hp h hb => by
  obtain ⟨h0, h1, ⟨ao, cap, h2, hl, hca⟩, h3, h4⟩ := h
  exact ⟨(hb.cell hp).trans h0, (hb.cell (p := ⟨_, _, none⟩) hp).trans h1, ⟨ao, cap, (hb.cell (p := ⟨_, _, none⟩) hp).trans h2, hl.below NumAt.fast hb, hca⟩, (hb.cell (p := ⟨_, _, none⟩) hp).trans h3, (hb.cell (p := ⟨_, _, none⟩) hp).trans h4⟩
theorem Num.TabAt.fast {B : Nat} : Fast B (TabAt B) := fun w w' p c hp h hb => by
  obtain ⟨h0, h1, ⟨ao, cap, h2, hl⟩, ⟨ao3, cap3, h3, hl3⟩, h4⟩ := h
  exact ⟨(hb.cell hp).trans h0, (hb.cell (p := ⟨_, _, none⟩) hp).trans h1, ⟨ao, cap, (hb.cell (p := ⟨_, _, none⟩) hp).trans h2, hl.below ColAt.fast hb⟩, ⟨ao3, cap3, (hb.cell (p := ⟨_, _, none⟩) hp).trans h3, hl3.below IdxAt.fast hb⟩, (hb.cell (p := ⟨_, _, none⟩) hp).trans h4⟩
theorem idxAt_mono {B B' : Nat} (hB : B ≤ B') {w : World} {p : Addr} {x : Idx} (h : IdxAt B w p x) : IdxAt B' w p x := by
  obtain ⟨h0, h1, ⟨ao, cap, h2, hl, hca⟩, h3, h4⟩ := h
  exact ⟨h0, h1, ⟨ao, cap, h2, hl.mono hB fun _ _ h => h, hca⟩, h3, h4⟩
theorem tabAt_mono {B B' : Nat} (hB : B ≤ B') {w : World} {p : Addr} {x : Tab} (h : TabAt B w p x) : TabAt B' w p x := by
  obtain ⟨h0, h1, ⟨ao, cap, h2, hl⟩, ⟨ao3, cap3, h3, hl3⟩, h4⟩ := h
  exact ⟨h0, h1, ⟨ao, cap, h2, hl.mono hB fun _ _ h => h⟩, ⟨ao3, cap3, h3, hl3.mono hB fun _ _ h => idxAt_mono hB h⟩, h4⟩
theorem liesN_next {w w' : World} {ao : Option Addr} {l : List Int} (h : LiesN w w.heap.size ao l) (hb : Below w.heap.size w w') : LiesN w' w'.heap.size ao l := (h.below NumAt.fast hb).mono hb.size fun _ _ h => h
theorem liesS_next {w w' : World} {ao : Option Addr} {l : List ByteArray} (h : LiesS w w.heap.size ao l) (hb : Below w.heap.size w w') : LiesS w' w'.heap.size ao l := (h.below TxtAt.fast hb).mono hb.size fun _ _ h => h
theorem liesK_next {w w' : World} {ao : Option Addr} {l : List Colm} (h : LiesK w w.heap.size ao l) (hb : Below w.heap.size w w') : LiesK w' w'.heap.size ao l := (h.below ColAt.fast hb).mono hb.size fun _ _ h => h
theorem liesI_next {w w' : World} {ao : Option Addr} {l : List Idx} (h : LiesI w w.heap.size ao l) (hb : Below w.heap.size w w') : LiesI w' w'.heap.size ao l := (h.below IdxAt.fast hb).mono hb.size fun _ _ h => idxAt_mono hb.size h
theorem liesT_next {w w' : World} {ao : Option Addr} {l : List Tab} (h : LiesT w w.heap.size ao l) (hb : Below w.heap.size w w') : LiesT w' w'.heap.size ao l := (h.below TabAt.fast hb).mono hb.size fun _ _ h => tabAt_mono hb.size h

/-! What came in, opened. -/
theorem Try.laidOut : laidOutB Try.prog = true := by kernel_rfl
theorem Try.cellsVal : Try.prog.cellsOf 43 = 4 := by kernel_rfl
theorem Try.cellsCol : Try.prog.cellsOf 45 = 9 := by kernel_rfl
theorem Try.cellsIdx : Try.prog.cellsOf 52 = 5 := by kernel_rfl
theorem Try.cellsTab : Try.prog.cellsOf 40 = 5 := by kernel_rfl
theorem Try.cellsSch : Try.prog.cellsOf 26 = 3 := by kernel_rfl
theorem Try.cellsInt : Try.prog.cellsOf 3 = 1 := by kernel_rfl
theorem Try.cellsStr : Try.prog.cellsOf 9 = 1 := by kernel_rfl
theorem Try.cellsBool : Try.prog.cellsOf 4 = 1 := by kernel_rfl
theorem Try.cellsInts : Try.prog.cellsOf 50 = 1 := by kernel_rfl
theorem Try.cellsCols : Try.prog.cellsOf 37 = 1 := by kernel_rfl
theorem Try.cellsIdxs : Try.prog.cellsOf 38 = 1 := by kernel_rfl
/-- A slice of things, each opened by itself. -/
theorem open_list {α : Type} [Inhabited α] {H : Type} {enc : TypeId × Value → H} {w : World} {base fuel : Nat} {spare : Nat → Bool} {held : Bool} {v : Value} {x : DataW H × List MemPlace} {t e : TypeId} (At : World → Addr → α → Prop) (Ok : α → Prop) (sz : Nat) (hsz : Try.prog.cellsOf e = sz) (ht : Try.prog.underlying t = some (.slice e))
    (hlt : ∀ p x, At w p x → p.block < w.heap.size)
    (one : ∀ a n cs y, w.cells? base a sz = some cs → DataW.trod enc Try.prog w base spare held n e cs = some y → ∃ x, Ok x ∧ At w a x)
    (h : DataW.trod enc Try.prog w base spare held fuel t [v] = some x) :
    ∃ (ao : Option Addr) (cap : Nat) (l : List α), v = .slice ao l.length cap ∧ (∀ x ∈ l, Ok x) ∧ LiesG At sz w w.heap.size ao l ∧ l.length ≤ cap := by
  rcases Go.Deep.open_slice ht h with ⟨h0, _⟩ | ⟨a, len', cap', m, n, D, Pl, h0, _, hlc, hcm, hm, _, hx⟩
  · simp only [List.cons.injEq, and_true] at h0
    subst h0
    exact ⟨none, 0, [], rfl, by simp, fun i x hx => by simp at hx, Nat.le_refl _⟩
  · simp only [List.cons.injEq, and_true] at h0
    subst h0
    have hlm : len' ≤ m := by rw [hm]; split <;> omega
    have each : ∀ i, i < len' → ∃ y : α, Ok y ∧ At w (a.add (i * sz)) y := by
      intro i hi
      obtain ⟨cs, h1, h2⟩ := hx i (by omega)
      rw [hsz] at h1
      exact one _ _ _ _ h1 h2
    obtain ⟨f, hfn⟩ := Go.Deep.choose_lt each
    refine ⟨some a, cap', (List.range len').map f, by simp, ?_, ?_, by simp; omega⟩
    · intro x hx
      obtain ⟨i, hi, rfl⟩ := List.mem_map.1 hx
      exact (hfn i (List.mem_range.1 hi)).1
    · intro i x hx
      have hi : i < len' := by
        have := (List.getElem?_eq_some_iff.1 hx).1
        simpa using this
      have hxx : x = f i := by
        simp [hi] at hx
        exact hx.symm
      subst hxx
      have h4 := hfn i hi
      exact ⟨a, rfl, by have := hlt _ _ h4.2; rwa [Addr.block_add] at this, h4.2⟩
/-- Four cells that read as a value. -/
theorem val_of_cells {H : Type} {enc : TypeId × Value → H} {w : World} {base : Nat} {spare : Nat → Bool} {held : Bool} {n : Nat} {v0 v1 v2 v3 : Value} {x : DataW H × List MemPlace}
    (h2 : DataW.trod enc Try.prog w base spare held n 43 [v0, v1, v2, v3] = some x) :
    ∃ y : Val, y.ok ∧ v0 = .int .i64 y.k ∧ v1 = .int .i64 y.n ∧ v2 = .int .u64 (y.f : Int) ∧ v3 = .string y.s := by
  obtain ⟨y0, y1, y2, y3, m, hx, _, g0, g1, g2, g3⟩ := trod_struct4 Try.underlying43 h2
  have c3 : Try.prog.cellsOf 3 = 1 := by kernel_rfl
  have c4 : Try.prog.cellsOf 2 = 1 := by kernel_rfl
  have c5 : Try.prog.cellsOf 41 = 1 := by kernel_rfl
  have c6 : Try.prog.cellsOf 9 = 1 := by kernel_rfl
  simp [c3, c4, c5, c6] at g0 g1 g2 g3
  obtain ⟨k, ek, _, _⟩ := DataW.trod_int Try.underlying3 g0
  obtain ⟨q, eq, _, wq⟩ := DataW.trod_int Try.underlying2 g1
  obtain ⟨f, ef, _, wf⟩ := DataW.trod_int Try.underlying41 g2
  obtain ⟨s, es, _, _⟩ := DataW.trod_string Try.underlying9 g3
  simp at ek eq ef es
  subst ek eq ef es
  have bq := bounds_i64 wq
  have bf := bounds_u64 wf
  obtain ⟨f', rfl⟩ := Int.eq_ofNat_of_zero_le bf.1
  exact ⟨⟨k, q, f', s⟩, ⟨by show _ ≤ q ∧ q ≤ _; omega, by show f' < _; omega⟩, rfl, rfl, rfl, rfl⟩
set_option maxRecDepth 100000 in
theorem open_col {H : Type} {enc : TypeId × Value → H} {w : World} {base : Nat} {spare : Nat → Bool} {held : Bool} (a : Addr) (n : Nat) (cs : List Value) (x : DataW H × List MemPlace)
    (h1 : w.cells? base a 9 = some cs) (h2 : DataW.trod enc Try.prog w base spare held n 45 cs = some x) :
    ∃ c : Colm, c.d.ok ∧ ColAt w a c := by
  obtain ⟨_, hlen, hcell⟩ := World.cells?_some h1
  obtain ⟨xs, m, _, _, _, hxl, hf⟩ := DataW.trod_struct Try.underlying45 h2
  match cs, hlen, xs, hxl with
  | [v0, v1, v2, v3, v4, v5, v6, v7, v8], _, [x0, x1, x2, x3, x4, x5], _ =>
    have g0 := hf 0 _ rfl
    have g1 := hf 1 _ rfl
    have g2 := hf 2 _ rfl
    have g3 := hf 3 _ rfl
    have g4 := hf 4 _ rfl
    have g5 := hf 5 _ rfl
    simp [Try.cellsInt, Try.cellsStr, Try.cellsVal] at g0 g1 g2 g3 g4 g5
    have e0 := hcell 0 (by omega)
    have e1 := hcell 1 (by omega)
    have e2 := hcell 2 (by omega)
    have e3 := hcell 3 (by omega)
    have e4 := hcell 4 (by omega)
    have e5 := hcell 5 (by omega)
    have e6 := hcell 6 (by omega)
    have e7 := hcell 7 (by omega)
    have e8 := hcell 8 (by omega)
    simp [Addr.add] at e0 e1 e2 e3 e4 e5 e6 e7 e8
    obtain ⟨k0, q0, _, wk⟩ := DataW.trod_int Try.underlying3 g0
    obtain ⟨s1, q1, _, _⟩ := DataW.trod_string Try.underlying9 g1
    obtain ⟨k2, q2, _, _⟩ := DataW.trod_int Try.underlying3 g2
    obtain ⟨k3, q3, _, _⟩ := DataW.trod_int Try.underlying3 g3
    obtain ⟨k4, q4, _, _⟩ := DataW.trod_int Try.underlying3 g4
    obtain ⟨y, hy, r0, r1, r2, r3⟩ := val_of_cells g5
    simp at q0 q1 q2 q3 q4
    subst q0 q1 q2 q3 q4 r0 r1 r2 r3
    exact ⟨⟨k0, s1, k2, k3, k4, y⟩, hy, e0, e1, e2, e3, e4, e5, e6, e7, e8⟩
theorem open_num {H : Type} {enc : TypeId × Value → H} {w : World} {base : Nat} {spare : Nat → Bool} {held : Bool} (a : Addr) (n : Nat) (cs : List Value) (x : DataW H × List MemPlace)
    (h1 : w.cells? base a 1 = some cs) (h2 : DataW.trod enc Try.prog w base spare held n 3 cs = some x) :
    ∃ k : Int, True ∧ NumAt w a k := by
  obtain ⟨_, hlen, hcell⟩ := World.cells?_some h1
  match cs, hlen with
  | [v0], _ =>
    have e0 := hcell 0 (by omega)
    simp [Addr.add] at e0
    obtain ⟨k0, q0, _, wk⟩ := DataW.trod_int Try.underlying3 h2
    simp at q0
    subst q0
    exact ⟨k0, trivial, e0⟩
set_option maxRecDepth 100000 in
theorem open_idx {H : Type} {enc : TypeId × Value → H} {w : World} {base : Nat} {spare : Nat → Bool} {held : Bool} (a : Addr) (n : Nat) (cs : List Value) (x : DataW H × List MemPlace)
    (h1 : w.cells? base a 5 = some cs) (h2 : DataW.trod enc Try.prog w base spare held n 52 cs = some x) :
    ∃ c : Idx, True ∧ IdxAt w.heap.size w a c := by
  obtain ⟨_, hlen, hcell⟩ := World.cells?_some h1
  obtain ⟨xs, m, _, _, _, hxl, hf⟩ := DataW.trod_struct Try.underlying52 h2
  match cs, hlen, xs, hxl with
  | [v0, v1, v2, v3, v4], _, [x0, x1, x2, x3, x4], _ =>
    have g0 := hf 0 _ rfl
    have g1 := hf 1 _ rfl
    have g2 := hf 2 _ rfl
    have g3 := hf 3 _ rfl
    have g4 := hf 4 _ rfl
    simp [Try.cellsInt, Try.cellsStr, Try.cellsInts, Try.cellsBool] at g0 g1 g2 g3 g4
    have e0 := hcell 0 (by omega)
    have e1 := hcell 1 (by omega)
    have e2 := hcell 2 (by omega)
    have e3 := hcell 3 (by omega)
    have e4 := hcell 4 (by omega)
    simp [Addr.add] at e0 e1 e2 e3 e4
    obtain ⟨k0, q0, _, wk⟩ := DataW.trod_int Try.underlying3 g0
    obtain ⟨s1, q1, _, _⟩ := DataW.trod_string Try.underlying9 g1
    obtain ⟨ao, cap, l, q2, _, hl, hca⟩ := open_list NumAt (fun _ => True) 1 Try.cellsInt Try.underlying50 (fun p x h => cell_lt h) open_num g2
    obtain ⟨k3, q3, _⟩ := DataW.trod_bool Try.underlying4 g3
    obtain ⟨k4, q4, _, _⟩ := DataW.trod_int Try.underlying3 g4
    simp at q0 q1 q3 q4
    subst q0 q1 q2 q3 q4
    exact ⟨⟨k0, s1, l, k3, k4⟩, trivial, e0, e1, ⟨ao, cap, e2, hl, hca⟩, e3, e4⟩
/-- Of a table that came in: the defaults of its columns are values. -/
def Num.TabIn (t : Tab) : Prop := ∀ c ∈ t.cols, c.d.ok
set_option maxRecDepth 100000 in
theorem open_tab {H : Type} {enc : TypeId × Value → H} {w : World} {base : Nat} {spare : Nat → Bool} {held : Bool} (a : Addr) (n : Nat) (cs : List Value) (x : DataW H × List MemPlace)
    (h1 : w.cells? base a 5 = some cs) (h2 : DataW.trod enc Try.prog w base spare held n 40 cs = some x) :
    ∃ c : Tab, TabIn c ∧ TabAt w.heap.size w a c := by
  obtain ⟨_, hlen, hcell⟩ := World.cells?_some h1
  obtain ⟨xs, m, _, _, _, hxl, hf⟩ := DataW.trod_struct Try.underlying40 h2
  have inhK : Inhabited Colm := ⟨⟨0, ByteArray.empty, 0, 0, 0, ⟨0, 0, 0, ByteArray.empty⟩⟩⟩
  have inhI : Inhabited Idx := ⟨⟨0, ByteArray.empty, [], false, 0⟩⟩
  match cs, hlen, xs, hxl with
  | [v0, v1, v2, v3, v4], _, [x0, x1, x2, x3, x4], _ =>
    have g0 := hf 0 _ rfl
    have g1 := hf 1 _ rfl
    have g2 := hf 2 _ rfl
    have g3 := hf 3 _ rfl
    have g4 := hf 4 _ rfl
    simp [Try.cellsInt, Try.cellsStr, Try.cellsCols, Try.cellsIdxs] at g0 g1 g2 g3 g4
    have e0 := hcell 0 (by omega)
    have e1 := hcell 1 (by omega)
    have e2 := hcell 2 (by omega)
    have e3 := hcell 3 (by omega)
    have e4 := hcell 4 (by omega)
    simp [Addr.add] at e0 e1 e2 e3 e4
    obtain ⟨k0, q0, _, wk⟩ := DataW.trod_int Try.underlying3 g0
    obtain ⟨s1, q1, _, _⟩ := DataW.trod_string Try.underlying9 g1
    obtain ⟨ao, cap, l, q2, hok, hl, _⟩ := open_list ColAt (fun c => c.d.ok) 9 Try.cellsCol Try.underlying37 (fun p x h => cell_lt h.1) open_col g2
    obtain ⟨ao3, cap3, l3, q3, _, hl3, _⟩ := open_list (IdxAt w.heap.size) (fun _ => True) 5 Try.cellsIdx Try.underlying38 (fun p x h => cell_lt h.1) open_idx g3
    obtain ⟨k4, q4, _, _⟩ := DataW.trod_int Try.underlying3 g4
    simp at q0 q1 q4
    subst q0 q1 q2 q3 q4
    exact ⟨⟨k0, s1, l, l3, k4⟩, hok, e0, e1, ⟨ao, cap, e2, hl⟩, ⟨ao3, cap3, e3, hl3⟩, e4⟩
set_option maxRecDepth 100000 in
/-- A schema that came in. -/
theorem open_sch {H : Type} {enc : TypeId × Value → H} {w : World} {base b0 : Nat} {r : Reach} {spare : Nat → Bool} {held : Bool} {v : Value} {d : DataW H} {p : List MemPlace}
    (hv : Value.okWide Try.prog w r b0 26 v) (h : DataW.Trod enc Try.prog w base spare held 26 v d p) :
    ∃ (ver : Int) (ao : Option Addr) (cap : Nat) (l : List Tab) (next : Int), v = .agg #[.int .i64 ver, .slice ao l.length cap, .int .i64 next] ∧ (∀ t ∈ l, TabIn t) ∧ LiesT w w.heap.size ao l := by
  obtain ⟨v0, v1, v2, y0, y1, y2, n, rfl, rfl, rfl, g0, g1, g2⟩ := open_agg3 Try.underlying26 (by kernel_rfl) Try.cellsSch hv h
  have inhT : Inhabited Tab := ⟨⟨0, ByteArray.empty, [], [], 0⟩⟩
  obtain ⟨k0, q0, _, wk⟩ := DataW.trod_int Try.underlying3 g0
  obtain ⟨ao, cap, l, q1, hok, hl, _⟩ := open_list (TabAt w.heap.size) TabIn 5 Try.cellsTab Try.underlying24 (fun p x h => cell_lt h.1) open_tab g1
  obtain ⟨k2, q2, _, _⟩ := DataW.trod_int Try.underlying3 g2
  simp at q0 q2
  subst q0 q1 q2
  exact ⟨k0, ao, cap, l, k2, rfl, hok, hl⟩
end Go.Proofs.Ytndppffcladalaa
