/-
  Columns in memory: nine places each. A slice of columns that came in, opened. And values of the call's own, as a row.
-/
import Derived.Test.YtgaidhalkianfaaRBox
import Derived.Test.YtgaidhalkianfaaRFillM
namespace Go.Proofs.Ytgaidhalkianfaa
open Go.RowKit Go.ChangeShapes Go.WideShapes Go.Joins Num
set_option linter.unusedVariables false

theorem Try.cellsCol : Try.prog.cellsOf 51 = 9 := by kernel_rfl
/-- A column lies at an address. -/
def Num.ColAt (w : World) (p : Addr) (c : Colm) : Prop := w.cell? p = some (.int .i64 c.id) ∧ w.cell? ⟨p.block, p.off + 1, none⟩ = some (.string c.name) ∧ w.cell? ⟨p.block, p.off + 2, none⟩ = some (.int .i64 c.kind) ∧ w.cell? ⟨p.block, p.off + 3, none⟩ = some (.int .i64 c.state) ∧ w.cell? ⟨p.block, p.off + 4, none⟩ = some (.int .i64 c.null) ∧
  w.cell? ⟨p.block, p.off + 5, none⟩ = some (.int .i64 c.d.k) ∧ w.cell? ⟨p.block, p.off + 6, none⟩ = some (.int .i64 c.d.n) ∧ w.cell? ⟨p.block, p.off + 7, none⟩ = some (.int .u64 (c.d.f : Int)) ∧ w.cell? ⟨p.block, p.off + 8, none⟩ = some (.string c.d.s)
def Num.LiesK (w : World) (B : Nat) (ao : Option Addr) (l : List Colm) : Prop := ∀ i c, l[i]? = some c → ∃ a, ao = some a ∧ a.block < B ∧ ColAt w (a.add (i * 9)) c
theorem Num.ColAt.same {w w' : World} {p : Addr} {c : Colm} (h : ColAt w p c) (e : ∀ q : Addr, q.block = p.block → w'.cell? q = w.cell? q) : ColAt w' p c :=
  ⟨(e p rfl).trans h.1, (e ⟨_, _, none⟩ rfl).trans h.2.1, (e ⟨_, _, none⟩ rfl).trans h.2.2.1, (e ⟨_, _, none⟩ rfl).trans h.2.2.2.1, (e ⟨_, _, none⟩ rfl).trans h.2.2.2.2.1, (e ⟨_, _, none⟩ rfl).trans h.2.2.2.2.2.1, (e ⟨_, _, none⟩ rfl).trans h.2.2.2.2.2.2.1, (e ⟨_, _, none⟩ rfl).trans h.2.2.2.2.2.2.2.1, (e ⟨_, _, none⟩ rfl).trans h.2.2.2.2.2.2.2.2⟩
theorem Num.LiesK.below {w w' : World} {B : Nat} {ao : Option Addr} {l : List Colm} (h : LiesK w B ao l) (hb : Below B w w') : LiesK w' B ao l := by
  intro i x hx
  obtain ⟨a, e, ha, h0⟩ := h i x hx
  exact ⟨a, e, ha, h0.same fun q hq => hb.cell (by rw [hq, Addr.block_add]; exact ha)⟩
theorem Num.LiesK.mono {w : World} {B B' : Nat} {ao : Option Addr} {l : List Colm} (h : LiesK w B ao l) (hB : B ≤ B') : LiesK w B' ao l := by
  intro i x hx
  obtain ⟨a, e, ha, h4⟩ := h i x hx
  exact ⟨a, e, Nat.lt_of_lt_of_le ha hB, h4⟩
theorem liesK_next {w w' : World} {ao : Option Addr} {l : List Colm} (h : LiesK w w.heap.size ao l) (hb : Below w.heap.size w w') : LiesK w' w'.heap.size ao l := (h.below hb).mono hb.size

theorem open_col {H : Type} {enc : TypeId × Value → H} {w : World} {base : Nat} {spare : Nat → Bool} {held : Bool} {a : Addr} {n : Nat} {cs : List Value} {x : DataW H × List MemPlace}
    (h1 : w.cells? base a 9 = some cs) (h2 : DataW.trod enc Try.prog w base spare held n 51 cs = some x) :
    ∃ c : Colm, c.ok ∧ ColAt w a c := by
  obtain ⟨_, hlen, hcell⟩ := World.cells?_some h1
  obtain ⟨xs, m, _, _, _, hxl, hf⟩ := DataW.trod_struct Try.underlying51 h2
  have c3 : Try.prog.cellsOf 3 = 1 := by kernel_rfl
  have c9 : Try.prog.cellsOf 9 = 1 := by kernel_rfl
  match cs, hlen, xs, hxl with
  | [v0, v1, v2, v3, v4, v5, v6, v7, v8], _, [x0, x1, x2, x3, x4, x5], _ =>
    have g0 := hf 0 _ rfl
    have g1 := hf 1 _ rfl
    have g2 := hf 2 _ rfl
    have g3 := hf 3 _ rfl
    have g4 := hf 4 _ rfl
    have g5 := hf 5 _ rfl
    simp [c3, c9, Try.cellsVal] at g0 g1 g2 g3 g4 g5
    have e0 := hcell 0 (by omega)
    have e1 := hcell 1 (by omega)
    have e2 := hcell 2 (by omega)
    have e3 := hcell 3 (by omega)
    have e4 := hcell 4 (by omega)
    have e5 := hcell 5 (by omega)
    have e6 := hcell 6 (by omega)
    have e7 := hcell 7 (by omega)
    have e8 := hcell 8 (by omega)
    simp [Addr.add] at e0 e1 e2 e3 e4 e5 e6 e7 e8
    obtain ⟨k0, q0, _, wk⟩ := DataW.trod_int Try.underlying3 g0
    obtain ⟨s1, q1, _, _⟩ := DataW.trod_string Try.underlying9 g1
    obtain ⟨k2, q2, _, _⟩ := DataW.trod_int Try.underlying3 g2
    obtain ⟨k3, q3, _, _⟩ := DataW.trod_int Try.underlying3 g3
    obtain ⟨k4, q4, _, _⟩ := DataW.trod_int Try.underlying3 g4
    obtain ⟨y, hy, r0, r1, r2, r3⟩ := val_of_cells g5
    simp at q0 q1 q2 q3 q4
    subst q0 q1 q2 q3 q4 r0 r1 r2 r3
    have bk := bounds_i64 wk
    exact ⟨⟨k0, s1, k2, k3, k4, y⟩, (by show _ ≤ k0 ∧ k0 ≤ _; omega), e0, e1, e2, e3, e4, e5, e6, e7, e8⟩

theorem open_cols {H : Type} {enc : TypeId × Value → H} {w : World} {base b0 : Nat} {r : Reach} {spare : Nat → Bool} {held : Bool} {v : Value} {d : DataW H} {p : List MemPlace}
    (hv : Value.okWide Try.prog w r b0 42 v) (h : DataW.Trod enc Try.prog w base spare held 42 v d p) :
    ∃ (ao : Option Addr) (cap : Nat) (l : List Colm), v = .slice ao l.length cap ∧ l.length ≤ maxLen ∧ (∀ x ∈ l, x.ok) ∧ LiesK w w.heap.size ao l := by
  obtain ⟨ao, len, cap, rfl⟩ := okWide_slice Try.underlying42 hv
  obtain ⟨fuel, hf⟩ := h
  rcases Go.Deep.open_slice Try.underlying42 hf with ⟨h0, _⟩ | ⟨a, len', cap', m, n, D, Pl, h0, _, hlc, hcm, hm, _, hx⟩
  · simp [Value.cells] at h0
    obtain ⟨rfl, rfl, rfl⟩ := h0
    exact ⟨none, 0, [], rfl, by simp, by simp, fun i x hx => by simp at hx⟩
  · simp [Value.cells] at h0
    obtain ⟨rfl, rfl, rfl⟩ := h0
    have hlm : len ≤ m := by rw [hm]; split <;> omega
    have each : ∀ i, i < len → ∃ y : Colm, y.ok ∧ ColAt w (a.add (i * 9)) y := by
      intro i hi
      obtain ⟨cs, h1, h2⟩ := hx i (by omega)
      rw [Try.cellsCol] at h1
      exact open_col h1 h2
    have inh : Inhabited Colm := ⟨⟨0, ByteArray.empty, 0, 0, 0, ⟨0, 0, 0, ByteArray.empty⟩⟩⟩
    obtain ⟨f, hfn⟩ := Go.Deep.choose_lt each
    refine ⟨some a, cap, (List.range len).map f, by simp, by simp; omega, ?_, ?_⟩
    · intro x hx
      obtain ⟨i, hi, rfl⟩ := List.mem_map.1 hx
      exact (hfn i (List.mem_range.1 hi)).1
    · intro i x hx
      have hi : i < len := by
        have := (List.getElem?_eq_some_iff.1 hx).1
        simpa using this
      have hxx : x = f i := by
        simp [hi] at hx
        exact hx.symm
      subst hxx
      have h4 := hfn i hi
      exact ⟨a, rfl, by have := cell_lt h4.2.1; rwa [Addr.block_add] at this, h4.2⟩

/-! Values of the call's own. -/
theorem Try.infoValR : (Try.prog.info? 39).map (fun i => (i.zero, i.size, i.bytes)) = some (some (.agg #[.int .i64 0, .int .i64 0, .int .u64 0, .string ⟨#[]⟩]), 4, 40) := by kernel_rfl
def Num.valCellsR (l : List Val) : List Value := l.flatMap (fun x => [.int .i64 x.k, .int .i64 x.n, .int .u64 (x.f : Int), .string x.s])
theorem valCellsR_snoc (l : List Val) (x : Val) : valCellsR (l ++ [x]) = valCellsR l ++ [.int .i64 x.k, .int .i64 x.n, .int .u64 (x.f : Int), .string x.s] := by
  simp [valCellsR]
theorem four_newR (w : World) (x : Val) (t : TypeId) :
    ∀ j u, [Value.int .i64 x.k, .int .i64 x.n, .int .u64 (x.f : Int), .string x.s][j]? = some u → (w.alloc (.cells #[.int .i64 x.k, .int .i64 x.n, .int .u64 (x.f : Int), .string x.s] t)).cell? ((⟨w.heap.size, 0, none⟩ : Addr).add j) = some u := by
  intro j u hj
  match j, hj with
  | 0, hj => simp at hj; subst hj; simp [Addr.add]
  | 1, hj => simp at hj; subst hj; simp [Addr.add]
  | 2, hj => simp at hj; subst hj; simp [Addr.add]
  | 3, hj => simp at hj; subst hj; simp [Addr.add]
theorem valCellsR_at : ∀ (l : List Val) (i : Nat) (x : Val), l[i]? = some x → (valCellsR l)[i * 4]? = some (.int .i64 x.k) ∧ (valCellsR l)[i * 4 + 1]? = some (.int .i64 x.n) ∧ (valCellsR l)[i * 4 + 2]? = some (.int .u64 (x.f : Int)) ∧ (valCellsR l)[i * 4 + 3]? = some (.string x.s)
  | [], i, x, h => by simp at h
  | y :: l, 0, x, h => by
    simp at h
    subst h
    simp [valCellsR]
  | y :: l, i + 1, x, h => by
    have ih := valCellsR_at l i x (by simpa using h)
    have e : valCellsR (y :: l) = [.int .i64 y.k, .int .i64 y.n, .int .u64 (y.f : Int), .string y.s] ++ valCellsR l := rfl
    have s : ∀ j, (valCellsR (y :: l))[(i + 1) * 4 + j]? = (valCellsR l)[i * 4 + j]? := by
      intro j
      rw [e, List.getElem?_append_right (by simp; omega)]
      congr 1
      simp
      omega
    have s0 := s 0
    simp only [Nat.add_zero] at s0
    rw [s0, s 1, s 2, s 3]
    exact ih
theorem lies_of_rowR {w : World} {base n : Nat} {v : Value} {l : List Val} (hn : l.length = n) (h : w.ownsRow base 39 4 v n (valCellsR l)) :
    ∃ ao cap, v = .slice ao n cap ∧ Lies w w.heap.size ao l := by
  subst hn
  rcases h.2 with ⟨hv, h0⟩ | ⟨g, cap, cur, hv, _, hg, _⟩
  · subst hv
    have : l = [] := List.eq_nil_of_length_eq_zero h0
    subst this
    exact ⟨none, 0, rfl, fun i x hx => by simp at hx⟩
  · subst hv
    refine ⟨some ⟨g, 0, none⟩, cap, rfl, fun i x hx => ?_⟩
    obtain ⟨h0, h1, h2, h3⟩ := valCellsR_at l i x hx
    have c0 := h.cells (g := g) rfl _ _ h0
    have c1 := h.cells (g := g) rfl _ _ h1
    have c2 := h.cells (g := g) rfl _ _ h2
    have c3 := h.cells (g := g) rfl _ _ h3
    simp only [Addr.add_lit] at c0 c1 c2 c3
    refine ⟨_, rfl, (Array.getElem?_eq_some_iff.1 hg).1, ?_⟩
    simp only [Addr.add_lit]
    exact ⟨c0, c1, c2, c3⟩
theorem one4 (x : Val) : ∀ v ∈ [Value.int .i64 x.k, .int .i64 x.n, .int .u64 (x.f : Int), .string x.s], v.oneCell' = true := by simp [Value.oneCell']
end Go.Proofs.Ytgaidhalkianfaa
