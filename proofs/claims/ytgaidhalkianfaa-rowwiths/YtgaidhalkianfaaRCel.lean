/-
  Cells in memory: five places each. A slice of cells that came in, opened; a slice of the call's own.
-/
import Derived.Test.YtgaidhalkianfaaTOpen
import Derived.Test.YtgaidhalkianfaaRCelM
namespace Go.Proofs.Ytgaidhalkianfaa
open Go.RowKit Go.ChangeShapes Go.WideShapes Go.Joins Num
set_option linter.unusedVariables false

theorem Try.infoCel : (Try.prog.info? 41).map (fun i => (i.zero, i.size, i.bytes)) = some (some (.agg #[.int .i64 0, .int .i64 0, .int .i64 0, .int .u64 0, .string ⟨#[]⟩]), 5, 48) := by kernel_rfl
theorem Try.cellsCel : Try.prog.cellsOf 41 = 5 := by kernel_rfl

/-- A cell lies at an address. -/
def Num.CelAt (w : World) (p : Addr) (y : Cel) : Prop := w.cell? p = some (.int .i64 y.c) ∧ w.cell? ⟨p.block, p.off + 1, none⟩ = some (.int .i64 y.x.k) ∧ w.cell? ⟨p.block, p.off + 2, none⟩ = some (.int .i64 y.x.n) ∧ w.cell? ⟨p.block, p.off + 3, none⟩ = some (.int .u64 (y.x.f : Int)) ∧ w.cell? ⟨p.block, p.off + 4, none⟩ = some (.string y.x.s)
/-- Cells lie in memory, from an address on, in blocks below B. -/
def Num.LiesC (w : World) (B : Nat) (ao : Option Addr) (l : List Cel) : Prop := ∀ i y, l[i]? = some y → ∃ a, ao = some a ∧ a.block < B ∧ CelAt w (a.add (i * 5)) y
theorem Num.CelAt.same {w w' : World} {p : Addr} {y : Cel} (h : CelAt w p y) (e : ∀ q : Addr, q.block = p.block → w'.cell? q = w.cell? q) : CelAt w' p y :=
  ⟨(e p rfl).trans h.1, (e ⟨_, _, none⟩ rfl).trans h.2.1, (e ⟨_, _, none⟩ rfl).trans h.2.2.1, (e ⟨_, _, none⟩ rfl).trans h.2.2.2.1, (e ⟨_, _, none⟩ rfl).trans h.2.2.2.2⟩
theorem Num.LiesC.below {w w' : World} {B : Nat} {ao : Option Addr} {l : List Cel} (h : LiesC w B ao l) (hb : Below B w w') : LiesC w' B ao l := by
  intro i x hx
  obtain ⟨a, e, ha, h0⟩ := h i x hx
  exact ⟨a, e, ha, h0.same fun q hq => hb.cell (by rw [hq, Addr.block_add]; exact ha)⟩
theorem Num.LiesC.mono {w : World} {B B' : Nat} {ao : Option Addr} {l : List Cel} (h : LiesC w B ao l) (hB : B ≤ B') : LiesC w B' ao l := by
  intro i x hx
  obtain ⟨a, e, ha, h4⟩ := h i x hx
  exact ⟨a, e, Nat.lt_of_lt_of_le ha hB, h4⟩
theorem liesC_next {w w' : World} {ao : Option Addr} {l : List Cel} (h : LiesC w w.heap.size ao l) (hb : Below w.heap.size w w') : LiesC w' w'.heap.size ao l := (h.below hb).mono hb.size
theorem liesC_grown {w w' : World} {B : Nat} {row : Option Nat} {ao : Option Addr} {l : List Cel} (h : LiesC w B ao l) (hg : w.grownBy w' row) (hB : B ≤ w.heap.size) (hne : ∀ a, ao = some a → some a.block ≠ row) : LiesC w' w'.heap.size ao l := by
  intro i x hx
  obtain ⟨a, rfl, ha, h0⟩ := h i x hx
  have hn := hne a rfl
  exact ⟨a, rfl, by have := hg.size; omega, h0.same fun p hp => World.cell?_of_block (by rw [hp, Addr.block_add]; exact hg.block a.block (by omega) hn)⟩

/-- Four cells that read as a value. -/
theorem val_of_cells {H : Type} {enc : TypeId × Value → H} {w : World} {base : Nat} {spare : Nat → Bool} {held : Bool} {n : Nat} {v0 v1 v2 v3 : Value} {x : DataW H × List MemPlace}
    (h2 : DataW.trod enc Try.prog w base spare held n 39 [v0, v1, v2, v3] = some x) :
    ∃ y : Val, y.ok ∧ v0 = .int .i64 y.k ∧ v1 = .int .i64 y.n ∧ v2 = .int .u64 (y.f : Int) ∧ v3 = .string y.s := by
  obtain ⟨y0, y1, y2, y3, m, hx, _, g0, g1, g2, g3⟩ := trod_struct4 Try.underlying39 h2
  have c3 : Try.prog.cellsOf 3 = 1 := by kernel_rfl
  have c4 : Try.prog.cellsOf 2 = 1 := by kernel_rfl
  have c5 : Try.prog.cellsOf 37 = 1 := by kernel_rfl
  have c6 : Try.prog.cellsOf 9 = 1 := by kernel_rfl
  simp [c3, c4, c5, c6] at g0 g1 g2 g3
  obtain ⟨k, ek, _, _⟩ := DataW.trod_int Try.underlying3 g0
  obtain ⟨q, eq, _, wq⟩ := DataW.trod_int Try.underlying2 g1
  obtain ⟨f, ef, _, wf⟩ := DataW.trod_int Try.underlying37 g2
  obtain ⟨s, es, _, _⟩ := DataW.trod_string Try.underlying9 g3
  simp at ek eq ef es
  subst ek eq ef es
  have bq := bounds_i64 wq
  have bf := bounds_u64 wf
  obtain ⟨f', rfl⟩ := Int.eq_ofNat_of_zero_le bf.1
  exact ⟨⟨k, q, f', s⟩, ⟨by show _ ≤ q ∧ q ≤ _; omega, by show f' < _; omega⟩, rfl, rfl, rfl, rfl⟩

theorem open_cel {H : Type} {enc : TypeId × Value → H} {w : World} {base : Nat} {spare : Nat → Bool} {held : Bool} {a : Addr} {n : Nat} {cs : List Value} {x : DataW H × List MemPlace}
    (h1 : w.cells? base a 5 = some cs) (h2 : DataW.trod enc Try.prog w base spare held n 41 cs = some x) :
    ∃ y : Cel, y.ok ∧ CelAt w a y := by
  obtain ⟨_, hlen, hcell⟩ := World.cells?_some h1
  obtain ⟨y0, y1, m, hx, _, g0, g1⟩ := trod_struct2 Try.underlying41 h2
  match cs, hlen with
  | [v0, v1, v2, v3, v4], _ =>
    have e0 := hcell 0 (by omega)
    have e1 := hcell 1 (by omega)
    have e2 := hcell 2 (by omega)
    have e3 := hcell 3 (by omega)
    have e4 := hcell 4 (by omega)
    simp [Addr.add] at e0 e1 e2 e3 e4
    have c3 : Try.prog.cellsOf 3 = 1 := by kernel_rfl
    simp [c3, Try.cellsVal] at g0 g1
    obtain ⟨k, ek, _, wk⟩ := DataW.trod_int Try.underlying3 g0
    obtain ⟨y, hy, q0, q1, q2, q3⟩ := val_of_cells g1
    simp at ek
    subst ek q0 q1 q2 q3
    have bk := bounds_i64 wk
    exact ⟨⟨k, y⟩, ⟨by show _ ≤ k ∧ k ≤ _; omega, hy⟩, e0, e1, e2, e3, e4⟩

theorem open_cels {H : Type} {enc : TypeId × Value → H} {w : World} {base b0 : Nat} {r : Reach} {spare : Nat → Bool} {held : Bool} {v : Value} {d : DataW H} {p : List MemPlace}
    (hv : Value.okWide Try.prog w r b0 22 v) (h : DataW.Trod enc Try.prog w base spare held 22 v d p) :
    ∃ (ao : Option Addr) (cap : Nat) (l : List Cel), v = .slice ao l.length cap ∧ l.length ≤ maxLen ∧ (∀ x ∈ l, x.ok) ∧ LiesC w w.heap.size ao l := by
  obtain ⟨ao, len, cap, rfl⟩ := okWide_slice Try.underlying22 hv
  obtain ⟨fuel, hf⟩ := h
  rcases Go.Deep.open_slice Try.underlying22 hf with ⟨h0, _⟩ | ⟨a, len', cap', m, n, D, Pl, h0, _, hlc, hcm, hm, _, hx⟩
  · simp [Value.cells] at h0
    obtain ⟨rfl, rfl, rfl⟩ := h0
    exact ⟨none, 0, [], rfl, by simp, by simp, fun i x hx => by simp at hx⟩
  · simp [Value.cells] at h0
    obtain ⟨rfl, rfl, rfl⟩ := h0
    have hlm : len ≤ m := by rw [hm]; split <;> omega
    have each : ∀ i, i < len → ∃ y : Cel, y.ok ∧ CelAt w (a.add (i * 5)) y := by
      intro i hi
      obtain ⟨cs, h1, h2⟩ := hx i (by omega)
      rw [Try.cellsCel] at h1
      exact open_cel h1 h2
    have inh : Inhabited Cel := ⟨⟨0, ⟨0, 0, 0, ByteArray.empty⟩⟩⟩
    obtain ⟨f, hfn⟩ := Go.Deep.choose_lt each
    refine ⟨some a, cap, (List.range len).map f, by simp, by simp; omega, ?_, ?_⟩
    · intro x hx
      obtain ⟨i, hi, rfl⟩ := List.mem_map.1 hx
      exact (hfn i (List.mem_range.1 hi)).1
    · intro i x hx
      have hi : i < len := by
        have := (List.getElem?_eq_some_iff.1 hx).1
        simpa using this
      have hxx : x = f i := by
        simp [hi] at hx
        exact hx.symm
      subst hxx
      have h4 := hfn i hi
      exact ⟨a, rfl, by have := cell_lt h4.2.1; rwa [Addr.block_add] at this, h4.2⟩

/-- The cells of a list, one behind the other. -/
def Num.celCells (l : List Cel) : List Value := l.flatMap (fun y => [.int .i64 y.c, .int .i64 y.x.k, .int .i64 y.x.n, .int .u64 (y.x.f : Int), .string y.x.s])
theorem celCells_snoc (l : List Cel) (y : Cel) : celCells (l ++ [y]) = celCells l ++ [.int .i64 y.c, .int .i64 y.x.k, .int .i64 y.x.n, .int .u64 (y.x.f : Int), .string y.x.s] := by
  simp [celCells]
/-- What lies in a new block of one cell. -/
theorem five_new (w : World) (y : Cel) (t : TypeId) :
    ∀ j u, [Value.int .i64 y.c, .int .i64 y.x.k, .int .i64 y.x.n, .int .u64 (y.x.f : Int), .string y.x.s][j]? = some u → (w.alloc (.cells #[.int .i64 y.c, .int .i64 y.x.k, .int .i64 y.x.n, .int .u64 (y.x.f : Int), .string y.x.s] t)).cell? ((⟨w.heap.size, 0, none⟩ : Addr).add j) = some u := by
  intro j u hj
  match j, hj with
  | 0, hj => simp at hj; subst hj; simp [Addr.add]
  | 1, hj => simp at hj; subst hj; simp [Addr.add]
  | 2, hj => simp at hj; subst hj; simp [Addr.add]
  | 3, hj => simp at hj; subst hj; simp [Addr.add]
  | 4, hj => simp at hj; subst hj; simp [Addr.add]
theorem five_new2 (w : World) (o : Obj) (y : Cel) (t : TypeId) :
    ∀ j u, [Value.int .i64 y.c, .int .i64 y.x.k, .int .i64 y.x.n, .int .u64 (y.x.f : Int), .string y.x.s][j]? = some u → ((w.alloc o).alloc (.cells #[.int .i64 y.c, .int .i64 y.x.k, .int .i64 y.x.n, .int .u64 (y.x.f : Int), .string y.x.s] t)).cell? ((⟨w.heap.size + 1, 0, none⟩ : Addr).add j) = some u := by
  intro j u hj
  have h := five_new (w.alloc o) y t j u hj
  rw [World.size_alloc] at h
  exact h
theorem rowC_shape {w : World} {base : Nat} {v : Value} {n : Nat} {xs : List Value} (h : w.ownsRow base 41 5 v n xs) : ∃ ao cap, v = .slice ao n cap := by
  rcases h.2 with ⟨rfl, rfl⟩ | ⟨g, cap, _, rfl, _⟩
  · exact ⟨none, 0, rfl⟩
  · exact ⟨_, cap, rfl⟩
theorem celCells_at : ∀ (l : List Cel) (i : Nat) (y : Cel), l[i]? = some y → (celCells l)[i * 5]? = some (.int .i64 y.c) ∧ (celCells l)[i * 5 + 1]? = some (.int .i64 y.x.k) ∧ (celCells l)[i * 5 + 2]? = some (.int .i64 y.x.n) ∧ (celCells l)[i * 5 + 3]? = some (.int .u64 (y.x.f : Int)) ∧ (celCells l)[i * 5 + 4]? = some (.string y.x.s)
  | [], i, x, h => by simp at h
  | y :: l, 0, x, h => by
    simp at h
    subst h
    simp [celCells]
  | y :: l, i + 1, x, h => by
    have ih := celCells_at l i x (by simpa using h)
    have e : celCells (y :: l) = [.int .i64 y.c, .int .i64 y.x.k, .int .i64 y.x.n, .int .u64 (y.x.f : Int), .string y.x.s] ++ celCells l := rfl
    have s : ∀ j, (celCells (y :: l))[(i + 1) * 5 + j]? = (celCells l)[i * 5 + j]? := by
      intro j
      rw [e, List.getElem?_append_right (by simp; omega)]
      congr 1
      simp
      omega
    have s0 := s 0
    simp only [Nat.add_zero] at s0
    rw [s0, s 1, s 2, s 3, s 4]
    exact ih
theorem liesC_of_row {w : World} {base : Nat} {v : Value} {l : List Cel} (h : w.ownsRow base 41 5 v l.length (celCells l)) :
    ∃ ao cap, v = .slice ao l.length cap ∧ LiesC w w.heap.size ao l ∧ ∀ a, ao = some a → base ≤ a.block := by
  rcases h.2 with ⟨hv, h0⟩ | ⟨g, cap, cur, hv, hbase, hg, _⟩
  · subst hv
    have : l = [] := List.eq_nil_of_length_eq_zero h0
    subst this
    exact ⟨none, 0, rfl, fun i x hx => by simp at hx, fun a ha => by cases ha⟩
  · subst hv
    refine ⟨some ⟨g, 0, none⟩, cap, rfl, fun i x hx => ?_, fun a ha => by cases ha; exact hbase⟩
    obtain ⟨h0, h1, h2, h3, h4⟩ := celCells_at l i x hx
    have c0 := h.cells (g := g) rfl _ _ h0
    have c1 := h.cells (g := g) rfl _ _ h1
    have c2 := h.cells (g := g) rfl _ _ h2
    have c3 := h.cells (g := g) rfl _ _ h3
    have c4 := h.cells (g := g) rfl _ _ h4
    simp only [Addr.add_lit] at c0 c1 c2 c3 c4
    refine ⟨_, rfl, (Array.getElem?_eq_some_iff.1 hg).1, ?_⟩
    simp only [Addr.add_lit]
    exact ⟨c0, c1, c2, c3, c4⟩
theorem one5 (y : Cel) : ∀ v ∈ [Value.int .i64 y.c, .int .i64 y.x.k, .int .i64 y.x.n, .int .u64 (y.x.f : Int), .string y.x.s], v.oneCell' = true := by simp [Value.oneCell']
end Go.Proofs.Ytgaidhalkianfaa
