/-
  Messages and their logs in memory: as they came in, and as rows of the call's own; opened and kept.
-/
import Derived.Test.YthnbaijkhhbelaaGreatPRow
import Derived.Maps.AppendAt
import Derived.Laws.OwnMore
namespace Go.Proofs.YthnbaijkhhbelaaGreat
open Go.RowKit Go.ChangeShapes Go.WideShapes Go.Joins Num
set_option linter.unusedVariables false
set_option maxRecDepth 100000

structure Num.Ent where
  time : Int
  data : ByteArray
structure Num.Msg where
  a0 : Int
  a1 : Int
  a2 : Int
  a3 : Int
  a4 : Int
  a5 : Int
  a6 : Int
  log : List Ent
abbrev Num.Msgs := List Msg

def Num.EnAt (w : World) (p : Addr) (x : Ent) : Prop := w.cell? p = some (.int .i64 x.time) ∧ w.cell? ⟨p.block, p.off + 1, none⟩ = some (.string x.data)
abbrev Num.LiesE (w : World) (B : Nat) (ao : Option Addr) (l : List Ent) : Prop := LiesG EnAt 2 w B ao l
def Num.MsAt (B : Nat) (w : World) (p : Addr) (m : Msg) : Prop := w.cell? p = some (.int .i64 m.a0) ∧ w.cell? ⟨p.block, p.off + 1, none⟩ = some (.int .i64 m.a1) ∧ w.cell? ⟨p.block, p.off + 2, none⟩ = some (.int .i64 m.a2) ∧ w.cell? ⟨p.block, p.off + 3, none⟩ = some (.int .i64 m.a3) ∧ w.cell? ⟨p.block, p.off + 4, none⟩ = some (.int .i64 m.a4) ∧ w.cell? ⟨p.block, p.off + 5, none⟩ = some (.int .i64 m.a5) ∧ w.cell? ⟨p.block, p.off + 6, none⟩ = some (.int .i64 m.a6) ∧ ∃ bo c, w.cell? ⟨p.block, p.off + 7, none⟩ = some (.slice bo m.log.length c) ∧ LiesE w B bo m.log
abbrev Num.LiesM (w : World) (B : Nat) (ao : Option Addr) (l : Msgs) : Prop := LiesG (MsAt B) 8 w B ao l
theorem Num.EnAt.fast {B : Nat} : Fast B EnAt := fun w w' p x hp h hb => ⟨(hb.cell hp).trans h.1, (hb.cell (p := ⟨p.block, p.off + 1, none⟩) hp).trans h.2⟩
theorem Num.MsAt.fast {B : Nat} : Fast B (MsAt B) := fun w w' p m hp h hb => by
  obtain ⟨h0, h1, h2, h3, h4, h5, h6, bo, c, h7, h8⟩ := h
  exact ⟨(hb.cell hp).trans h0, (hb.cell (p := ⟨p.block, p.off + 1, none⟩) hp).trans h1, (hb.cell (p := ⟨p.block, p.off + 2, none⟩) hp).trans h2, (hb.cell (p := ⟨p.block, p.off + 3, none⟩) hp).trans h3, (hb.cell (p := ⟨p.block, p.off + 4, none⟩) hp).trans h4, (hb.cell (p := ⟨p.block, p.off + 5, none⟩) hp).trans h5, (hb.cell (p := ⟨p.block, p.off + 6, none⟩) hp).trans h6, bo, c, (hb.cell (p := ⟨p.block, p.off + 7, none⟩) hp).trans h7, h8.below EnAt.fast hb⟩
theorem msAt_mono {B B' : Nat} (hB : B ≤ B') {w : World} {p : Addr} {m : Msg} (h : MsAt B w p m) : MsAt B' w p m := by
  obtain ⟨h0, h1, h2, h3, h4, h5, h6, bo, c, h7, h8⟩ := h
  exact ⟨h0, h1, h2, h3, h4, h5, h6, bo, c, h7, h8.mono hB (fun _ _ h => h)⟩
theorem liesE_next {w w' : World} {B : Nat} {ao : Option Addr} {l : List Ent} (h : LiesE w B ao l) (hb : Below B w w') {B' : Nat} (hB : B ≤ B') : LiesE w' B' ao l := (h.below EnAt.fast hb).mono hB fun _ _ h => h
theorem liesM_next {w w' : World} {B : Nat} {ao : Option Addr} {l : Msgs} (h : LiesM w B ao l) (hb : Below B w w') {B' : Nat} (hB : B ≤ B') : LiesM w' B' ao l := (h.below MsAt.fast hb).mono hB fun _ _ h => msAt_mono hB h

/-! What came in. -/
theorem Tryz.cellsStr : Tryz.prog.cellsOf 9 = 1 := by kernel_rfl
theorem Tryz.cellsInt : Tryz.prog.cellsOf 3 = 1 := by kernel_rfl
theorem Tryz.cellsEn : Tryz.prog.cellsOf 78 = 2 := by kernel_rfl
theorem Tryz.cellsLog : Tryz.prog.cellsOf 44 = 1 := by kernel_rfl
theorem Tryz.cellsMs : Tryz.prog.cellsOf 89 = 8 := by kernel_rfl
set_option maxRecDepth 100000 in
theorem open_en {H : Type} {enc : TypeId × Value → H} {w : World} {base : Nat} {spare : Nat → Bool} {held : Bool} (a : Addr) (n : Nat) (cs : List Value) (x : DataW H × List MemPlace)
    (h1 : w.cells? base a 2 = some cs) (h2 : DataW.trod enc Tryz.prog w base spare held n 78 cs = some x) :
    ∃ c : Ent, True ∧ EnAt w a c := by
  obtain ⟨_, hlen, hcell⟩ := World.cells?_some h1
  obtain ⟨xs, m, _, _, _, hxl, hf⟩ := DataW.trod_struct Tryz.underlying78 h2
  match cs, hlen, xs, hxl with
  | [v0, v1], _, [x0, x1], _ =>
    have g0 := hf 0 _ rfl
    have g1 := hf 1 _ rfl
    simp [Tryz.cellsStr, Tryz.cellsInt] at g0 g1
    have e0 := hcell 0 (by omega)
    have e1 := hcell 1 (by omega)
    simp [Addr.add] at e0 e1
    obtain ⟨k0, q0, _, _⟩ := DataW.trod_int Tryz.underlying3 g0
    obtain ⟨s1, q1, _, _⟩ := DataW.trod_string Tryz.underlying9 g1
    simp at q0 q1
    subst q0 q1
    exact ⟨⟨k0, s1⟩, trivial, e0, e1⟩
/-- The numbers of a message are ints. -/
def Num.Msg.ok (m : Msg) : Prop := (-9223372036854775808 ≤ m.a0 ∧ m.a0 ≤ 9223372036854775807) ∧ (-9223372036854775808 ≤ m.a1 ∧ m.a1 ≤ 9223372036854775807) ∧ (-9223372036854775808 ≤ m.a2 ∧ m.a2 ≤ 9223372036854775807) ∧ (-9223372036854775808 ≤ m.a3 ∧ m.a3 ≤ 9223372036854775807) ∧ (-9223372036854775808 ≤ m.a4 ∧ m.a4 ≤ 9223372036854775807) ∧ (-9223372036854775808 ≤ m.a5 ∧ m.a5 ≤ 9223372036854775807) ∧ (-9223372036854775808 ≤ m.a6 ∧ m.a6 ≤ 9223372036854775807)
set_option maxRecDepth 100000 in
theorem open_fields {H : Type} {enc : TypeId × Value → H} {w : World} {base n : Nat} {spare : Nat → Bool} {held : Bool} {v0 v1 v2 v3 v4 v5 v6 v7 : Value} {x : DataW H × List MemPlace}
    (h : DataW.trod enc Tryz.prog w base spare held n 89 [v0, v1, v2, v3, v4, v5, v6, v7] = some x) :
    ∃ (m : Msg) (bo : Option Addr) (c : Nat), m.ok ∧ v0 = .int .i64 m.a0 ∧ v1 = .int .i64 m.a1 ∧ v2 = .int .i64 m.a2 ∧ v3 = .int .i64 m.a3 ∧ v4 = .int .i64 m.a4 ∧ v5 = .int .i64 m.a5 ∧ v6 = .int .i64 m.a6 ∧ v7 = .slice bo m.log.length c ∧ LiesE w w.heap.size bo m.log := by
  obtain ⟨xs, m, _, _, _, hxl, hf⟩ := DataW.trod_struct Tryz.underlying89 h
  have inh : Inhabited Ent := ⟨⟨0, ByteArray.empty⟩⟩
  match xs, hxl with
  | [x0, x1, x2, x3, x4, x5, x6, x7], _ =>
    have g0 := hf 0 _ rfl
    have g1 := hf 1 _ rfl
    have g2 := hf 2 _ rfl
    have g3 := hf 3 _ rfl
    have g4 := hf 4 _ rfl
    have g5 := hf 5 _ rfl
    have g6 := hf 6 _ rfl
    have g7 := hf 7 _ rfl
    clear hf
    simp [Tryz.cellsInt] at g0
    simp [Tryz.cellsInt] at g1
    simp [Tryz.cellsInt] at g2
    simp [Tryz.cellsInt] at g3
    simp [Tryz.cellsInt] at g4
    simp [Tryz.cellsInt] at g5
    simp [Tryz.cellsInt] at g6
    simp [Tryz.cellsLog] at g7
    obtain ⟨k0, q0, _, w0⟩ := DataW.trod_int Tryz.underlying3 g0
    obtain ⟨k1, q1, _, w1⟩ := DataW.trod_int Tryz.underlying3 g1
    obtain ⟨k2, q2, _, w2⟩ := DataW.trod_int Tryz.underlying3 g2
    obtain ⟨k3, q3, _, w3⟩ := DataW.trod_int Tryz.underlying3 g3
    obtain ⟨k4, q4, _, w4⟩ := DataW.trod_int Tryz.underlying3 g4
    obtain ⟨k5, q5, _, w5⟩ := DataW.trod_int Tryz.underlying3 g5
    obtain ⟨k6, q6, _, w6⟩ := DataW.trod_int Tryz.underlying3 g6
    obtain ⟨bo, c, l, q7, _, hl, _⟩ := open_list EnAt (fun _ => True) 2 Tryz.cellsEn Tryz.underlying44 (fun p x h => cell_lt h.1) open_en g7
    simp only [List.cons.injEq, and_true] at q0 q1 q2 q3 q4 q5 q6
    exact ⟨⟨k0, k1, k2, k3, k4, k5, k6, l⟩, bo, c, ⟨by have := bounds_i64 w0; omega, by have := bounds_i64 w1; omega, by have := bounds_i64 w2; omega, by have := bounds_i64 w3; omega, by have := bounds_i64 w4; omega, by have := bounds_i64 w5; omega, by have := bounds_i64 w6; omega⟩, q0, q1, q2, q3, q4, q5, q6, q7, hl⟩
theorem open_ms {H : Type} {enc : TypeId × Value → H} {w : World} {base : Nat} {spare : Nat → Bool} {held : Bool} (a : Addr) (n : Nat) (cs : List Value) (x : DataW H × List MemPlace)
    (h1 : w.cells? base a 8 = some cs) (h2 : DataW.trod enc Tryz.prog w base spare held n 89 cs = some x) :
    ∃ m : Msg, m.ok ∧ MsAt w.heap.size w a m := by
  obtain ⟨_, hlen, hcell⟩ := World.cells?_some h1
  match cs, hlen with
  | [v0, v1, v2, v3, v4, v5, v6, v7], _ =>
    have e0 := hcell 0 (by omega)
    have e1 := hcell 1 (by omega)
    have e2 := hcell 2 (by omega)
    have e3 := hcell 3 (by omega)
    have e4 := hcell 4 (by omega)
    have e5 := hcell 5 (by omega)
    have e6 := hcell 6 (by omega)
    have e7 := hcell 7 (by omega)
    clear hcell
    simp [Addr.add] at e0
    simp [Addr.add] at e1
    simp [Addr.add] at e2
    simp [Addr.add] at e3
    simp [Addr.add] at e4
    simp [Addr.add] at e5
    simp [Addr.add] at e6
    simp [Addr.add] at e7
    obtain ⟨m, bo, c, hok, q0, q1, q2, q3, q4, q5, q6, q7, hl⟩ := open_fields h2
    rw [q0] at e0
    rw [q1] at e1
    rw [q2] at e2
    rw [q3] at e3
    rw [q4] at e4
    rw [q5] at e5
    rw [q6] at e6
    rw [q7] at e7
    exact ⟨m, hok, e0, e1, e2, e3, e4, e5, e6, bo, c, e7, hl⟩
/-- Messages that came in. -/
theorem open_msgs {H : Type} {enc : TypeId × Value → H} {w : World} {base b0 : Nat} {r : Reach} {spare : Nat → Bool} {held : Bool} {v : Value} {d : DataW H} {p : List MemPlace}
    (hv : Value.okWide Tryz.prog w r b0 63 v) (h : DataW.Trod enc Tryz.prog w base spare held 63 v d p) :
    ∃ (ao : Option Addr) (cap : Nat) (l : Msgs), v = .slice ao l.length cap ∧ l.length ≤ cap ∧ (∀ m ∈ l, m.ok) ∧ LiesM w w.heap.size ao l := by
  obtain ⟨ao, len, cap, rfl⟩ := okWide_slice Tryz.underlying63 hv
  have inh : Inhabited Msg := ⟨⟨0, 0, 0, 0, 0, 0, 0, []⟩⟩
  obtain ⟨fuel, hf⟩ := h
  obtain ⟨ao', cap', l, q, hok, hl, hc⟩ := open_list (MsAt w.heap.size) Msg.ok 8 Tryz.cellsMs Tryz.underlying63 (fun p x h => cell_lt h.1) open_ms (by simpa [Value.cells] using hf)
  exact ⟨ao', cap', l, q, hc, hok, hl⟩
theorem array8 {cs : Array Value} (h : cs.size = 8) : ∃ v0 v1 v2 v3 v4 v5 v6 v7, cs = #[v0, v1, v2, v3, v4, v5, v6, v7] := by
  obtain ⟨l⟩ := cs
  match l, h with
  | [v0, v1, v2, v3, v4, v5, v6, v7], _ => exact ⟨v0, v1, v2, v3, v4, v5, v6, v7, rfl⟩
/-- A message that came in. -/
theorem open_msg {H : Type} {enc : TypeId × Value → H} {w : World} {base b0 : Nat} {r : Reach} {spare : Nat → Bool} {held : Bool} {v : Value} {d : DataW H} {p : List MemPlace}
    (hv : Value.okWide Tryz.prog w r b0 89 v) (h : DataW.Trod enc Tryz.prog w base spare held 89 v d p) :
    ∃ (m : Msg) (bo : Option Addr) (c : Nat), v = .agg #[.int .i64 m.a0, .int .i64 m.a1, .int .i64 m.a2, .int .i64 m.a3, .int .i64 m.a4, .int .i64 m.a5, .int .i64 m.a6, .slice bo m.log.length c] ∧ m.ok ∧ LiesE w w.heap.size bo m.log := by
  obtain ⟨cs, rfl, hsz⟩ := okWide_struct Tryz.underlying89 hv
  obtain ⟨v0, v1, v2, v3, v4, v5, v6, v7, rfl⟩ := array8 (hsz.trans Tryz.cellsMs)
  obtain ⟨fuel, hf⟩ := h
  obtain ⟨m, bo, c, hok, q0, q1, q2, q3, q4, q5, q6, q7, hl⟩ := open_fields (by simpa [Value.cells] using hf)
  exact ⟨m, bo, c, by rw [q0, q1, q2, q3, q4, q5, q6, q7], hok, hl⟩

/-! Rows of the call's own. -/
def Num.enCells (l : List Ent) : List Value := l.flatMap (fun x => [.int .i64 x.time, .string x.data])
theorem enCells_cons (x : Ent) (l : List Ent) : enCells (x :: l) = [.int .i64 x.time, .string x.data] ++ enCells l := rfl
theorem enCells_len (l : List Ent) : (enCells l).length = l.length * 2 := by
  induction l with
  | nil => rfl
  | cons x l ih =>
    rw [enCells_cons, List.length_append, ih, List.length_cons]
    simp
    omega
theorem enCells_one (l : List Ent) : ∀ v ∈ enCells l, v.oneCell' = true := by
  intro v hv
  simp only [enCells, List.mem_flatMap] at hv
  obtain ⟨y, _, hy⟩ := hv
  simp at hy
  rcases hy with rfl | rfl <;> rfl
theorem enCells_get (l : List Ent) : ∀ (i : Nat) x, l[i]? = some x → (enCells l)[i * 2]? = some (.int .i64 x.time) ∧ (enCells l)[i * 2 + 1]? = some (.string x.data) := by
  induction l with
  | nil => intro i x h; simp at h
  | cons y l ih =>
    intro i x h
    rw [enCells_cons]
    cases i with
    | zero =>
      simp at h
      subst h
      exact ⟨rfl, rfl⟩
    | succ i =>
      have h' : l[i]? = some x := by simpa using h
      obtain ⟨h1, h2⟩ := ih i x h'
      rw [show (i + 1) * 2 = i * 2 + 2 by omega]
      exact ⟨by simpa using h1, by rw [show i * 2 + 2 + 1 = (i * 2 + 1) + 2 by omega]; simpa using h2⟩
/-- A log of the call's own lies there. -/
theorem ownE_lies {w : World} {B : Nat} {v : Value} {l : List Ent} (h : w.ownsRow B 78 2 v l.length (enCells l)) : ∃ ao cap, v = .slice ao l.length cap ∧ LiesE w w.heap.size ao l := by
  rcases h.2 with ⟨hv, h0⟩ | ⟨g, cap, cur, hv, _, hg, hcap, _⟩
  · subst hv
    have : l = [] := List.eq_nil_of_length_eq_zero h0
    subst this
    exact ⟨none, 0, rfl, fun i x hx => by simp at hx⟩
  · subst hv
    refine ⟨_, cap, rfl, fun i x hx => ⟨_, rfl, (Array.getElem?_eq_some_iff.1 hg).1, ?_⟩⟩
    obtain ⟨h1, h2⟩ := enCells_get l i x hx
    have h3 := h.cells (g := g) rfl _ _ h1
    have h4 := h.cells (g := g) rfl _ _ h2
    rw [Addr.add_lit] at h3 h4
    rw [Addr.add_lit]
    exact ⟨h3, h4⟩
theorem add_off (a : Addr) (i j : Nat) (hj : 0 < j) : a.add (i + j) = ⟨(a.add i).block, (a.add i).off + j, none⟩ := by
  have e4 : (a.add i).off = a.off + i := by
    unfold Addr.add
    split
    · rename_i h0
      rw [h0]
      rfl
    · rfl
  rw [e4, Addr.block_add]
  unfold Addr.add
  rw [if_neg (by omega)]
  congr 1
  omega
/-- The cells of a log that lies there. -/
theorem liesE_cells {w : World} {B : Nat} {a : Addr} {l : List Ent} (h : LiesE w B (some a) l) : ∀ j u, (enCells l)[j]? = some u → w.cell? (a.add j) = some u := by
  intro j u hj
  have hlt := (List.getElem?_eq_some_iff.1 hj).1
  rw [enCells_len] at hlt
  have hi : j / 2 < l.length := by omega
  have hx := List.getElem?_eq_getElem hi
  obtain ⟨h1, h2⟩ := enCells_get l _ _ hx
  obtain ⟨a', e, _, h3, h4⟩ := h _ _ hx
  cases e
  rcases Nat.mod_two_eq_zero_or_one j with hm | hm
  · have e2 : j / 2 * 2 = j := by omega
    rw [e2] at h1 h3
    rw [h1] at hj
    cases hj
    exact h3
  · have e2 : j / 2 * 2 + 1 = j := by omega
    rw [e2] at h2
    rw [h2] at hj
    cases hj
    have e3 := add_off a (j / 2 * 2) 1 (by omega)
    rw [e2] at e3
    rw [e3]
    exact h4
/-- The eight cells of a message. -/
def Num.mc (m : Msg) (v : Value) : List Value := [.int .i64 m.a0, .int .i64 m.a1, .int .i64 m.a2, .int .i64 m.a3, .int .i64 m.a4, .int .i64 m.a5, .int .i64 m.a6, v]
/-- A message whose log lies below B; one whose log is the call's own, from B on. -/
def Num.MsV (B : Nat) (w : World) (cs : List Value) (m : Msg) : Prop := ∃ bo c, cs = mc m (.slice bo m.log.length c) ∧ LiesE w B bo m.log
def Num.MsO (B : Nat) (w : World) (cs : List Value) (m : Msg) : Prop := ∃ c, cs = mc m c ∧ w.ownsRow B 78 2 c m.log.length (enCells m.log)
abbrev Num.OwnV (B : Nat) (w : World) (v : Value) (l : Msgs) : Prop := OwnS MsV 89 8 B w v l
abbrev Num.OwnO (B : Nat) (w : World) (v : Value) (l : Msgs) : Prop := OwnS MsO 89 8 B w v l
theorem mc_len (m : Msg) (v : Value) : (mc m v).length = 8 := rfl
theorem mc_one (m : Msg) (ao : Option Addr) (n c : Nat) : ∀ u ∈ mc m (.slice ao n c), u.oneCell' = true := by
  intro u hu
  simp only [mc, List.mem_cons, List.not_mem_nil, or_false] at hu
  rcases hu with rfl | rfl | rfl | rfl | rfl | rfl | rfl | rfl <;> rfl
theorem msV_below {B : Nat} {w w' : World} (hb : Below B w w') {cs : List Value} {m : Msg} (h : MsV B w cs m) : MsV B w' cs m := by
  obtain ⟨bo, c, e, h1⟩ := h
  exact ⟨bo, c, e, h1.below EnAt.fast hb⟩
theorem msV_wide {B B' : Nat} {w w' : World} (hb : Below B w w') (hB : B ≤ B') {cs : List Value} {m : Msg} (h : MsV B w cs m) : MsV B' w' cs m := by
  obtain ⟨bo, c, e, h1⟩ := h
  exact ⟨bo, c, e, liesE_next h1 hb hB⟩
theorem msO_below {B : Nat} {w w' : World} (hb : Below w.heap.size w w') {cs : List Value} {m : Msg} (h : MsO B w cs m) : MsO B w' cs m := by
  obtain ⟨c, e, h1⟩ := h
  exact ⟨c, e, own_below h1 hb⟩
theorem msO_stay {B : Nat} {w w' : World} (hs : Stay (fun _ => False) 89 w w') {cs : List Value} {m : Msg} (h : MsO B w cs m) : MsO B w' cs m := by
  obtain ⟨c, e, h1⟩ := h
  exact ⟨c, e, own_stay h1 hs (by decide) (fun _ h => h)⟩
theorem msO_v {B : Nat} {w : World} {cs : List Value} {m : Msg} (h : MsO B w cs m) : MsV w.heap.size w cs m := by
  obtain ⟨c, rfl, h1⟩ := h
  obtain ⟨ao, cap, rfl, hl⟩ := ownE_lies h1
  exact ⟨ao, cap, rfl, hl⟩
theorem msV_at {B : Nat} {w : World} {p : Addr} {cs : List Value} {m : Msg} (h : MsV B w cs m) (hc : ∀ j u, cs[j]? = some u → w.cell? ⟨p.block, p.off + j, none⟩ = some u) (hs : p.spot = none) : MsAt B w p m := by
  obtain ⟨bo, c, rfl, hl⟩ := h
  exact ⟨at_zero hs (hc 0 _ rfl), hc 1 _ rfl, hc 2 _ rfl, hc 3 _ rfl, hc 4 _ rfl, hc 5 _ rfl, hc 6 _ rfl, bo, c, hc 7 _ rfl, hl⟩
theorem ownO_below {B : Nat} {w w' : World} {v : Value} {l : Msgs} (h : OwnO B w v l) (hb : Below w.heap.size w w') : OwnO B w' v l := by
  obtain ⟨css, h1, h2, h3, h4⟩ := h
  exact ⟨css, h1, h2, own_below h3 hb, fun i cs x a b => msO_below hb (h4 i cs x a b)⟩
/-- Messages of the call's own lie there. -/
theorem ownO_lies {B : Nat} {w : World} {v : Value} {l : Msgs} (h : OwnO B w v l) : ∃ ao cap, v = .slice ao l.length cap ∧ LiesM w w.heap.size ao l :=
  h.lies (MsAt w.heap.size) fun p cs m hm _ hcell hs => msV_at (msO_v hm) hcell hs
theorem ownV_lies {B : Nat} {w : World} {v : Value} {l : Msgs} (h : OwnV B w v l) (hB : B ≤ w.heap.size) : ∃ ao cap, v = .slice ao l.length cap ∧ LiesM w w.heap.size ao l :=
  h.lies (MsAt w.heap.size) fun p cs m hm _ hcell hs => msV_at (msV_wide (Below.refl _ _) hB hm) hcell hs
/-- The cells of messages that lie there. -/
theorem liesM_cells {w : World} {B : Nat} {a : Addr} {l : Msgs} (h : LiesM w B (some a) l) : ∃ css : List (List Value), css.length = l.length ∧ (∀ cs ∈ css, cs.length = 8 ∧ ∀ u ∈ cs, u.oneCell' = true) ∧ (∀ j u, css.flatten[j]? = some u → w.cell? (a.add j) = some u) ∧ ∀ (i : Nat) cs x, css[i]? = some cs → l[i]? = some x → MsV B w cs x := by
  have each : ∀ i, i < l.length → ∃ cs : List Value, ∀ x, l[i]? = some x → MsV B w cs x ∧ (cs.length = 8 ∧ ∀ u ∈ cs, u.oneCell' = true) ∧ ∀ j u, cs[j]? = some u → w.cell? (a.add (i * 8 + j)) = some u := by
    intro i hi
    have hx := List.getElem?_eq_getElem hi
    obtain ⟨a', e, _, h0, h1, h2, h3, h4, h5, h6, bo, c, h7, hl⟩ := h i _ hx
    cases e
    refine ⟨mc l[i] (.slice bo l[i].log.length c), fun x hx' => ?_⟩
    rw [hx] at hx'
    cases hx'
    refine ⟨⟨bo, c, rfl, hl⟩, ⟨rfl, mc_one _ _ _ _⟩, fun j u hj => ?_⟩
    have hj8 : j < 8 := (List.getElem?_eq_some_iff.1 hj).1
    match j, hj8, hj with
    | 0, _, hj => cases hj; exact h0
    | 1, _, hj => cases hj; rw [add_off a (i * 8) 1 (by omega)]; exact h1
    | 2, _, hj => cases hj; rw [add_off a (i * 8) 2 (by omega)]; exact h2
    | 3, _, hj => cases hj; rw [add_off a (i * 8) 3 (by omega)]; exact h3
    | 4, _, hj => cases hj; rw [add_off a (i * 8) 4 (by omega)]; exact h4
    | 5, _, hj => cases hj; rw [add_off a (i * 8) 5 (by omega)]; exact h5
    | 6, _, hj => cases hj; rw [add_off a (i * 8) 6 (by omega)]; exact h6
    | 7, _, hj => cases hj; rw [add_off a (i * 8) 7 (by omega)]; exact h7
  obtain ⟨f, hf⟩ := Go.Deep.choose_lt each
  have hget : ∀ (i : Nat) cs, ((List.range l.length).map f)[i]? = some cs → i < l.length ∧ cs = f i := by
    intro i cs hi
    have hil := (List.getElem?_eq_some_iff.1 hi).1
    simp at hil
    simp [hil] at hi
    exact ⟨hil, hi.symm⟩
  refine ⟨(List.range l.length).map f, by simp, ?_, ?_, ?_⟩
  · intro cs hcs
    obtain ⟨i, hi, rfl⟩ := List.mem_map.1 hcs
    have hil := List.mem_range.1 hi
    exact (hf i hil _ (List.getElem?_eq_getElem hil)).2.1
  · intro j u hj
    have hlen8 : ∀ cs ∈ (List.range l.length).map f, cs.length = 8 := by
      intro cs hcs
      obtain ⟨i, hi, rfl⟩ := List.mem_map.1 hcs
      have hil := List.mem_range.1 hi
      exact (hf i hil _ (List.getElem?_eq_getElem hil)).2.1.1
    have hjl : j < l.length * 8 := by
      have h1 := (List.getElem?_eq_some_iff.1 hj).1
      have h2 : ∀ (q : List (List Value)), (∀ cs ∈ q, cs.length = 8) → q.flatten.length = q.length * 8 := by
        intro q
        induction q with
        | nil => intro _; rfl
        | cons c q ih =>
          intro hq
          rw [List.flatten_cons, List.length_append, ih fun cs hcs => hq cs (by simp [hcs]), hq c (by simp), List.length_cons]
          omega
      rw [h2 _ hlen8] at h1
      simpa using h1
    have hil : j / 8 < l.length := by omega
    have hcs : ((List.range l.length).map f)[j / 8]? = some (f (j / 8)) := by simp [hil]
    have h3 := flat_get hlen8 (j / 8) _ hcs (j % 8) (Nat.mod_lt _ (by omega))
    rw [show j / 8 * 8 + j % 8 = j by omega, hj] at h3
    have h4 := (hf _ hil _ (List.getElem?_eq_getElem hil)).2.2 (j % 8) u h3.symm
    rw [show j / 8 * 8 + j % 8 = j by omega] at h4
    exact h4
  · intro i cs x hi hx
    obtain ⟨hil, rfl⟩ := hget i cs hi
    exact (hf i hil x hx).1
theorem liesM_none {w : World} {B : Nat} {l : Msgs} (h : LiesM w B none l) : l = [] := by
  cases l with
  | nil => rfl
  | cons x l =>
    obtain ⟨a, e, _⟩ := h 0 x rfl
    cases e
theorem liesE_none {w : World} {B : Nat} {l : List Ent} (h : LiesE w B none l) : l = [] := by
  cases l with
  | nil => rfl
  | cons x l =>
    obtain ⟨a, e, _⟩ := h 0 x rfl
    cases e
theorem flat_len {sz : Nat} : ∀ (q : List (List Value)), (∀ cs ∈ q, cs.length = sz) → q.flatten.length = q.length * sz
  | [], _ => by simp
  | c :: q, hq => by
    rw [List.flatten_cons, List.length_append, flat_len q fun cs hcs => hq cs (by simp [hcs]), hq c (by simp), List.length_cons, Nat.succ_mul]
    omega
theorem flat_one' {css : List (List Value)} {sz : Nat} (h : ∀ cs ∈ css, cs.length = sz ∧ ∀ u ∈ cs, u.oneCell' = true) : ∀ u ∈ css.flatten, u.oneCell' = true := by
  intro u hu
  obtain ⟨cs, hcs, hu⟩ := List.mem_flatten.1 hu
  exact (h cs hcs).2 u hu
end Go.Proofs.YthnbaijkhhbelaaGreat
