/-
  Commands in memory: numbers, texts and slices in one place each, ranges in two, writes in three, values in four. A command that came in, opened.
-/
import Derived.Test.YtdmkmhjalcfchaaBase
import Derived.Test.YtdmkmhjalcfchaaCod
import Derived.Test.YtdmkmhjalcfchaaBase
import Derived.Lib.AppendStr
import Derived.Lib.SmallJoins
import Derived.Deep.Slices
import Derived.Carry
namespace Go.Proofs.Ytdmkmhjalcfchaa
open Go.RowKit Go.ChangeShapes Go.WideShapes Go.Joins Num
set_option linter.unusedVariables false
set_option maxRecDepth 100000

/-! What lies where. -/
/-- A value lies at an address; a range, a write, a row of values. -/
def Num.ValAt (w : World) (p : Addr) (x : Val) : Prop := w.cell? p = some (.int .i64 x.k) ∧ w.cell? ⟨p.block, p.off + 1, none⟩ = some (.int .i64 x.n) ∧ w.cell? ⟨p.block, p.off + 2, none⟩ = some (.int .u64 (x.f : Int)) ∧ w.cell? ⟨p.block, p.off + 3, none⟩ = some (.string x.s)
def Num.RngAt (w : World) (p : Addr) (x : Rng) : Prop := w.cell? p = some (.string x.lo) ∧ w.cell? ⟨p.block, p.off + 1, none⟩ = some (.string x.hi)
def Num.WrtAt (w : World) (p : Addr) (x : Wrt) : Prop := w.cell? p = some (.string x.key) ∧ w.cell? ⟨p.block, p.off + 1, none⟩ = some (.string x.val) ∧ w.cell? ⟨p.block, p.off + 2, none⟩ = some (.bool x.del)
abbrev Num.LiesVal (w : World) (B : Nat) (ao : Option Addr) (l : List Val) : Prop := LiesG ValAt 4 w B ao l
abbrev Num.LiesQ (w : World) (B : Nat) (ao : Option Addr) (l : List Rng) : Prop := LiesG RngAt 2 w B ao l
abbrev Num.LiesW (w : World) (B : Nat) (ao : Option Addr) (l : List Wrt) : Prop := LiesG WrtAt 3 w B ao l
def Num.RowAt (B : Nat) (w : World) (p : Addr) (l : List Val) : Prop := ∃ ao cap, w.cell? p = some (.slice ao l.length cap) ∧ LiesVal w B ao l
abbrev Num.LiesX (w : World) (B : Nat) (ao : Option Addr) (l : List (List Val)) : Prop := LiesG (RowAt B) 1 w B ao l
theorem Num.ValAt.fast {B : Nat} : Fast B ValAt := fun w w' p c hp h hb =>
  ⟨(hb.cell hp).trans h.1, (hb.cell (p := ⟨_, _, none⟩) hp).trans h.2.1, (hb.cell (p := ⟨_, _, none⟩) hp).trans h.2.2.1, (hb.cell (p := ⟨_, _, none⟩) hp).trans h.2.2.2⟩
theorem Num.RngAt.fast {B : Nat} : Fast B RngAt := fun w w' p c hp h hb => ⟨(hb.cell hp).trans h.1, (hb.cell (p := ⟨_, _, none⟩) hp).trans h.2⟩
theorem Num.WrtAt.fast {B : Nat} : Fast B WrtAt := fun w w' p c hp h hb => ⟨(hb.cell hp).trans h.1, (hb.cell (p := ⟨_, _, none⟩) hp).trans h.2.1, (hb.cell (p := ⟨_, _, none⟩) hp).trans h.2.2⟩
theorem Num.RowAt.fast {B : Nat} : Fast B (RowAt B) := fun w w' p c hp h hb => by
  obtain ⟨ao, cap, h2, hl⟩ := h
  exact ⟨ao, cap, (hb.cell hp).trans h2, hl.below ValAt.fast hb⟩
theorem rowAt_mono {B B' : Nat} (hB : B ≤ B') {w : World} {p : Addr} {x : List Val} (h : RowAt B w p x) : RowAt B' w p x := by
  obtain ⟨ao, cap, h2, hl⟩ := h
  exact ⟨ao, cap, h2, hl.mono hB fun _ _ h => h⟩
theorem liesVal_next {w w' : World} {ao : Option Addr} {l : List Val} (h : LiesVal w w.heap.size ao l) (hb : Below w.heap.size w w') : LiesVal w' w'.heap.size ao l := (h.below ValAt.fast hb).mono hb.size fun _ _ h => h
theorem liesQ_next {w w' : World} {ao : Option Addr} {l : List Rng} (h : LiesQ w w.heap.size ao l) (hb : Below w.heap.size w w') : LiesQ w' w'.heap.size ao l := (h.below RngAt.fast hb).mono hb.size fun _ _ h => h
theorem liesW_next {w w' : World} {ao : Option Addr} {l : List Wrt} (h : LiesW w w.heap.size ao l) (hb : Below w.heap.size w w') : LiesW w' w'.heap.size ao l := (h.below WrtAt.fast hb).mono hb.size fun _ _ h => h
theorem liesX_next {w w' : World} {ao : Option Addr} {l : List (List Val)} (h : LiesX w w.heap.size ao l) (hb : Below w.heap.size w w') : LiesX w' w'.heap.size ao l := (h.below RowAt.fast hb).mono hb.size fun _ _ h => rowAt_mono hb.size h
/-- Where a command's lists lie. -/
structure Num.Cs where
  ko : Option Addr
  kc : Nat
  ro : Option Addr
  rc : Nat
  wo : Option Addr
  wc : Nat
  xo : Option Addr
  xc : Nat
structure Num.LiesC (w : World) (B : Nat) (s : Cs) (c : Cmd) : Prop where
  keys : LiesS w B s.ko c.keys
  rngs : LiesQ w B s.ro c.rngs
  wrts : LiesW w B s.wo c.wrts
  rows : LiesX w B s.xo c.rows
theorem liesC_next {w w' : World} {s : Cs} {c : Cmd} (h : LiesC w w.heap.size s c) (hb : Below w.heap.size w w') : LiesC w' w'.heap.size s c := ⟨liesS_next h.keys hb, liesQ_next h.rngs hb, liesW_next h.wrts hb, liesX_next h.rows hb⟩
theorem liesC_alloc {w : World} {s : Cs} {c : Cmd} (h : LiesC w w.heap.size s c) (o : Obj) : LiesC (w.alloc o) (w.alloc o).heap.size s c := liesC_next h ((Below.refl _ w).alloc (Nat.le_refl _) o)
theorem liesC_below {w w' : World} {B : Nat} {s : Cs} {c : Cmd} (h : LiesC w B s c) (hb : Below B w w') : LiesC w' B s c := ⟨h.keys.below TxtAt.fast hb, h.rngs.below RngAt.fast hb, h.wrts.below WrtAt.fast hb, h.rows.below RowAt.fast hb⟩

/-! What came in, opened. -/
theorem Try.cellsVal : Try.prog.cellsOf 125 = 4 := by kernel_rfl
theorem Try.cellsRng : Try.prog.cellsOf 64 = 2 := by kernel_rfl
theorem Try.cellsWrt : Try.prog.cellsOf 54 = 3 := by kernel_rfl
theorem Try.cellsCmd : Try.prog.cellsOf 48 = 13 := by kernel_rfl
theorem Try.cellsInt : Try.prog.cellsOf 3 = 1 := by kernel_rfl
theorem Try.cellsBool : Try.prog.cellsOf 4 = 1 := by kernel_rfl
theorem Try.cellsStrs : Try.prog.cellsOf 43 = 1 := by kernel_rfl
theorem Try.cellsRngs : Try.prog.cellsOf 44 = 1 := by kernel_rfl
theorem Try.cellsWrts : Try.prog.cellsOf 45 = 1 := by kernel_rfl
theorem Try.cellsVals : Try.prog.cellsOf 117 = 1 := by kernel_rfl
theorem Try.cellsRows : Try.prog.cellsOf 46 = 1 := by kernel_rfl
/-- Four cells that read as a value. -/
theorem val_of_cells {H : Type} {enc : TypeId × Value → H} {w : World} {base : Nat} {spare : Nat → Bool} {held : Bool} {n : Nat} {v0 v1 v2 v3 : Value} {x : DataW H × List MemPlace}
    (h2 : DataW.trod enc Try.prog w base spare held n 125 [v0, v1, v2, v3] = some x) :
    ∃ y : Val, y.ok ∧ v0 = .int .i64 y.k ∧ v1 = .int .i64 y.n ∧ v2 = .int .u64 (y.f : Int) ∧ v3 = .string y.s := by
  obtain ⟨y0, y1, y2, y3, m, hx, _, g0, g1, g2, g3⟩ := trod_struct4 Try.underlying125 h2
  have c3 : Try.prog.cellsOf 3 = 1 := by kernel_rfl
  have c4 : Try.prog.cellsOf 2 = 1 := by kernel_rfl
  have c5 : Try.prog.cellsOf 123 = 1 := by kernel_rfl
  have c6 : Try.prog.cellsOf 9 = 1 := by kernel_rfl
  simp [c3, c4, c5, c6] at g0 g1 g2 g3
  obtain ⟨k, ek, _, _⟩ := DataW.trod_int Try.underlying3 g0
  obtain ⟨q, eq, _, wq⟩ := DataW.trod_int Try.underlying2 g1
  obtain ⟨f, ef, _, wf⟩ := DataW.trod_int Try.underlying123 g2
  obtain ⟨s, es, _, _⟩ := DataW.trod_string Try.underlying9 g3
  simp at ek eq ef es
  subst ek eq ef es
  have bq := bounds_i64 wq
  have bf := bounds_u64 wf
  obtain ⟨f', rfl⟩ := Int.eq_ofNat_of_zero_le bf.1
  exact ⟨⟨k, q, f', s⟩, ⟨by show _ ≤ q ∧ q ≤ _; omega, by show f' < _; omega⟩, rfl, rfl, rfl, rfl⟩
theorem open_txt {H : Type} {enc : TypeId × Value → H} {w : World} {base : Nat} {spare : Nat → Bool} {held : Bool} (a : Addr) (n : Nat) (cs : List Value) (x : DataW H × List MemPlace)
    (h1 : w.cells? base a 1 = some cs) (h2 : DataW.trod enc Try.prog w base spare held n 9 cs = some x) : ∃ k : ByteArray, True ∧ TxtAt w a k := by
  obtain ⟨_, hlen, hcell⟩ := World.cells?_some h1
  match cs, hlen with
  | [v0], _ =>
    have e0 := hcell 0 (by omega)
    simp [Addr.add] at e0
    obtain ⟨k0, q0, _, wk⟩ := DataW.trod_string Try.underlying9 h2
    simp at q0
    subst q0
    exact ⟨k0, trivial, e0⟩
theorem open_val {H : Type} {enc : TypeId × Value → H} {w : World} {base : Nat} {spare : Nat → Bool} {held : Bool} (a : Addr) (n : Nat) (cs : List Value) (x : DataW H × List MemPlace)
    (h1 : w.cells? base a 4 = some cs) (h2 : DataW.trod enc Try.prog w base spare held n 125 cs = some x) : ∃ y : Val, y.ok ∧ ValAt w a y := by
  obtain ⟨_, hlen, hcell⟩ := World.cells?_some h1
  match cs, hlen with
  | [v0, v1, v2, v3], _ =>
    have e0 := hcell 0 (by omega)
    have e1 := hcell 1 (by omega)
    have e2 := hcell 2 (by omega)
    have e3 := hcell 3 (by omega)
    simp [Addr.add] at e0 e1 e2 e3
    obtain ⟨y, hy, r0, r1, r2, r3⟩ := val_of_cells h2
    subst r0 r1 r2 r3
    exact ⟨y, hy, e0, e1, e2, e3⟩
set_option maxRecDepth 100000 in
theorem open_rng {H : Type} {enc : TypeId × Value → H} {w : World} {base : Nat} {spare : Nat → Bool} {held : Bool} (a : Addr) (n : Nat) (cs : List Value) (x : DataW H × List MemPlace)
    (h1 : w.cells? base a 2 = some cs) (h2 : DataW.trod enc Try.prog w base spare held n 64 cs = some x) : ∃ y : Rng, True ∧ RngAt w a y := by
  obtain ⟨_, hlen, hcell⟩ := World.cells?_some h1
  obtain ⟨xs, m, _, _, _, hxl, hf⟩ := DataW.trod_struct Try.underlying64 h2
  match cs, hlen, xs, hxl with
  | [v0, v1], _, [x0, x1], _ =>
    have g0 := hf 0 _ rfl
    have g1 := hf 1 _ rfl
    simp [Try.cellsStr] at g0 g1
    have e0 := hcell 0 (by omega)
    have e1 := hcell 1 (by omega)
    simp [Addr.add] at e0 e1
    obtain ⟨s0, q0, _, _⟩ := DataW.trod_string Try.underlying9 g0
    obtain ⟨s1, q1, _, _⟩ := DataW.trod_string Try.underlying9 g1
    simp at q0 q1
    subst q0 q1
    exact ⟨⟨s0, s1⟩, trivial, e0, e1⟩
set_option maxRecDepth 100000 in
theorem open_wrt {H : Type} {enc : TypeId × Value → H} {w : World} {base : Nat} {spare : Nat → Bool} {held : Bool} (a : Addr) (n : Nat) (cs : List Value) (x : DataW H × List MemPlace)
    (h1 : w.cells? base a 3 = some cs) (h2 : DataW.trod enc Try.prog w base spare held n 54 cs = some x) : ∃ y : Wrt, True ∧ WrtAt w a y := by
  obtain ⟨_, hlen, hcell⟩ := World.cells?_some h1
  obtain ⟨xs, m, _, _, _, hxl, hf⟩ := DataW.trod_struct Try.underlying54 h2
  match cs, hlen, xs, hxl with
  | [v0, v1, v2], _, [x0, x1, x2], _ =>
    have g0 := hf 0 _ rfl
    have g1 := hf 1 _ rfl
    have g2 := hf 2 _ rfl
    simp [Try.cellsStr, Try.cellsBool] at g0 g1 g2
    have e0 := hcell 0 (by omega)
    have e1 := hcell 1 (by omega)
    have e2 := hcell 2 (by omega)
    simp [Addr.add] at e0 e1 e2
    obtain ⟨s0, q0, _, _⟩ := DataW.trod_string Try.underlying9 g0
    obtain ⟨s1, q1, _, _⟩ := DataW.trod_string Try.underlying9 g1
    obtain ⟨s2, q2, _⟩ := DataW.trod_bool Try.underlying4 g2
    simp at q0 q1 q2
    subst q0 q1 q2
    exact ⟨⟨s0, s1, s2⟩, trivial, e0, e1, e2⟩
theorem open_row {H : Type} {enc : TypeId × Value → H} {w : World} {base : Nat} {spare : Nat → Bool} {held : Bool} (a : Addr) (n : Nat) (cs : List Value) (x : DataW H × List MemPlace)
    (h1 : w.cells? base a 1 = some cs) (h2 : DataW.trod enc Try.prog w base spare held n 117 cs = some x) : ∃ l : List Val, (∀ v ∈ l, v.ok) ∧ RowAt w.heap.size w a l := by
  obtain ⟨_, hlen, hcell⟩ := World.cells?_some h1
  have inh : Inhabited Val := ⟨⟨0, 0, 0, ByteArray.empty⟩⟩
  match cs, hlen with
  | [v0], _ =>
    have e0 := hcell 0 (by omega)
    simp [Addr.add] at e0
    obtain ⟨ao, cap, l, q0, hok, hl, _⟩ := open_list ValAt Val.ok 4 Try.cellsVal Try.underlying117 (fun p x h => cell_lt h.1) open_val h2
    subst q0
    exact ⟨l, hok, ao, cap, e0, hl⟩
theorem array13 {cs : Array Value} (h : cs.size = 13) : ∃ v0 v1 v2 v3 v4 v5 v6 v7 v8 v9 v10 v11 v12, cs = #[v0, v1, v2, v3, v4, v5, v6, v7, v8, v9, v10, v11, v12] := by
  obtain ⟨l⟩ := cs
  have h : l.length = 13 := h
  match l, h with
  | [v0, v1, v2, v3, v4, v5, v6, v7, v8, v9, v10, v11, v12], _ => exact ⟨v0, v1, v2, v3, v4, v5, v6, v7, v8, v9, v10, v11, v12, rfl⟩
set_option maxRecDepth 100000 in
set_option maxHeartbeats 2000000 in
/-- A command that came in. -/
theorem open_cmd {H : Type} {enc : TypeId × Value → H} {w : World} {base b0 : Nat} {r : Reach} {spare : Nat → Bool} {held : Bool} {v : Value} {d : DataW H} {p : List MemPlace}
    (hv : Value.okWide Try.prog w r b0 48 v) (h : DataW.Trod enc Try.prog w base spare held 48 v d p) :
    ∃ (c : Cmd) (s : Cs), v = .agg #[.int .i64 c.kind, .int .i64 c.client, .int .i64 c.seq, .int .i64 c.snap, .slice s.ko c.keys.length s.kc, .slice s.ro c.rngs.length s.rc, .slice s.wo c.wrts.length s.wc, .int .i64 c.dead, .int .i64 c.aft, .int .i64 c.held, .string c.text, .int .i64 c.code, .slice s.xo c.rows.length s.xc] ∧ CmdIn c ∧ LiesC w w.heap.size s c := by
  obtain ⟨cs, rfl, hsz⟩ := okWide_struct Try.underlying48 hv
  obtain ⟨v0, v1, v2, v3, v4, v5, v6, v7, v8, v9, v10, v11, v12, rfl⟩ := array13 (hsz.trans Try.cellsCmd)
  obtain ⟨fuel, hf0⟩ := h
  have h : DataW.trod enc Try.prog w base spare held fuel 48 [v0, v1, v2, v3, v4, v5, v6, v7, v8, v9, v10, v11, v12] = some (d, p) := by simpa [Value.cells] using hf0
  clear hf0
  obtain ⟨xs, m, _, _, _, hxl, hf⟩ := DataW.trod_struct Try.underlying48 h
  have inhS : Inhabited ByteArray := ⟨ByteArray.empty⟩
  have inhR : Inhabited Rng := ⟨⟨ByteArray.empty, ByteArray.empty⟩⟩
  have inhW : Inhabited Wrt := ⟨⟨ByteArray.empty, ByteArray.empty, false⟩⟩
  have inhX : Inhabited (List Val) := ⟨[]⟩
  match xs, hxl with
  | [x0, x1, x2, x3, x4, x5, x6, x7, x8, x9, x10, x11, x12], _ =>
    have g0 := hf 0 _ rfl
    have g1 := hf 1 _ rfl
    have g2 := hf 2 _ rfl
    have g3 := hf 3 _ rfl
    have g4 := hf 4 _ rfl
    have g5 := hf 5 _ rfl
    have g6 := hf 6 _ rfl
    have g7 := hf 7 _ rfl
    have g8 := hf 8 _ rfl
    have g9 := hf 9 _ rfl
    have g10 := hf 10 _ rfl
    have g11 := hf 11 _ rfl
    have g12 := hf 12 _ rfl
    clear hf
    simp [Try.cellsInt] at g0
    simp [Try.cellsInt] at g1
    simp [Try.cellsInt] at g2
    simp [Try.cellsInt] at g3
    simp [Try.cellsStrs] at g4
    simp [Try.cellsRngs] at g5
    simp [Try.cellsWrts] at g6
    simp [Try.cellsInt] at g7
    simp [Try.cellsInt] at g8
    simp [Try.cellsInt] at g9
    simp [Try.cellsStr] at g10
    simp [Try.cellsInt] at g11
    simp [Try.cellsRows] at g12
    obtain ⟨k0, q0, _, w0⟩ := DataW.trod_int Try.underlying3 g0
    obtain ⟨k1, q1, _, w1⟩ := DataW.trod_int Try.underlying3 g1
    obtain ⟨k2, q2, _, w2⟩ := DataW.trod_int Try.underlying3 g2
    obtain ⟨k3, q3, _, w3⟩ := DataW.trod_int Try.underlying3 g3
    obtain ⟨o4, c4, k4, q4, _, hl4, _⟩ := open_list TxtAt (fun _ => True) 1 Try.cellsStr Try.underlying43 (fun p x h => cell_lt h) open_txt g4
    obtain ⟨o5, c5, k5, q5, _, hl5, _⟩ := open_list RngAt (fun _ => True) 2 Try.cellsRng Try.underlying44 (fun p x h => cell_lt h.1) open_rng g5
    obtain ⟨o6, c6, k6, q6, _, hl6, _⟩ := open_list WrtAt (fun _ => True) 3 Try.cellsWrt Try.underlying45 (fun p x h => cell_lt h.1) open_wrt g6
    obtain ⟨k7, q7, _, w7⟩ := DataW.trod_int Try.underlying3 g7
    obtain ⟨k8, q8, _, w8⟩ := DataW.trod_int Try.underlying3 g8
    obtain ⟨k9, q9, _, w9⟩ := DataW.trod_int Try.underlying3 g9
    obtain ⟨k10, q10, _, _⟩ := DataW.trod_string Try.underlying9 g10
    obtain ⟨k11, q11, _, w11⟩ := DataW.trod_int Try.underlying3 g11
    obtain ⟨o12, c12, k12, q12, hok12, hl12, _⟩ := open_list (RowAt w.heap.size) (fun l => ∀ v ∈ l, v.ok) 1 Try.cellsVals Try.underlying46 (fun p x h => cell_lt h.choose_spec.choose_spec.1) open_row g12
    simp only [List.cons.injEq, and_true] at q0 q1 q2 q3 q7 q8 q9 q10 q11
    subst q0 q1 q2 q3 q4 q5 q6 q7 q8 q9 q10 q11 q12
    exact ⟨⟨k0, k1, k2, k3, k4, k5, k6, k7, k8, k9, k10, k11, k12⟩, ⟨o4, c4, o5, c5, o6, c6, o12, c12⟩, rfl, hok12, hl4, hl5, hl6, hl12⟩
end Go.Proofs.Ytdmkmhjalcfchaa
