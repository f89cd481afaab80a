/-
  Pages of pairs in memory: as they came in, and as rows of the call's own; opened and kept.
-/
import Derived.Test.YtgldgedbinbigaaMem
import Derived.Test.YtgldgedbinbigaaPgM
import Derived.Maps.AppendAt
namespace Go.Proofs.Ytgldgedbinbigaa
open Go.RowKit Go.ChangeShapes Go.WideShapes Go.Joins Num
set_option linter.unusedVariables false

/-! '<=', '>', '>=' on texts, for the walk. -/
@[go_sem] theorem str_geq (t : TypeId) (a b : ByteArray) : binOp .geq t (.string a) (.string b) = pure (.bool !(Op.bytesLess a.toList b.toList)) := by simp [binOp, Op.stringOp]
@[go_sem] theorem str_leq (t : TypeId) (a b : ByteArray) : binOp .leq t (.string a) (.string b) = pure (.bool (Op.bytesLess a.toList b.toList || a.toList == b.toList)) := by simp [binOp, Op.stringOp]
@[go_sem] theorem str_gtr (t : TypeId) (a b : ByteArray) : binOp .gtr t (.string a) (.string b) = pure (.bool !(Op.bytesLess a.toList b.toList || a.toList == b.toList)) := by simp [binOp, Op.stringOp]
/-- Not below, and not the same: above. -/
theorem leq_kl (a b : ByteArray) : (Op.bytesLess a.toList b.toList || a.toList == b.toList) = !Op.bytesLess b.toList a.toList := by
  rcases kl_tri a b with h | h | h
  · have h1 : Op.bytesLess a.toList b.toList = true := h
    have h2 : Op.bytesLess b.toList a.toList = false := by
      rw [Bool.eq_false_iff]
      exact fun e => kl_asym h e
    rw [h1, h2]
    rfl
  · subst h
    rw [bl_irr]
    simp
  · have h1 : Op.bytesLess b.toList a.toList = true := h
    have h2 : Op.bytesLess a.toList b.toList = false := by
      rw [Bool.eq_false_iff]
      exact fun e => kl_asym h e
    have h3 : (a.toList == b.toList) = false := list_ne' (fun e => kl_ne h e.symm)
    rw [h1, h2, h3]
    rfl

def Num.PrAt (w : World) (p : Addr) (x : Pr) : Prop := w.cell? p = some (.string x.key) ∧ w.cell? ⟨p.block, p.off + 1, none⟩ = some (.string x.val)
abbrev Num.LiesPr (w : World) (B : Nat) (ao : Option Addr) (l : List Pr) : Prop := LiesG PrAt 2 w B ao l
def Num.PgAt (B : Nat) (w : World) (p : Addr) (l : List Pr) : Prop := ∃ bo c, w.cell? p = some (.slice bo l.length c) ∧ LiesPr w B bo l ∧ l.length ≤ c
abbrev Num.LiesPg (w : World) (B : Nat) (ao : Option Addr) (ps : Pages) : Prop := LiesG (PgAt B) 1 w B ao ps
theorem Num.PrAt.fast {B : Nat} : Fast B PrAt := fun w w' p x hp h hb => ⟨(hb.cell hp).trans h.1, (hb.cell (p := ⟨p.block, p.off + 1, none⟩) hp).trans h.2⟩
theorem Num.PgAt.fast {B : Nat} : Fast B (PgAt B) := fun w w' p l hp h hb => by
  obtain ⟨bo, c, h1, h2, h3⟩ := h
  exact ⟨bo, c, (hb.cell hp).trans h1, h2.below PrAt.fast hb, h3⟩
theorem pgAt_mono {B B' : Nat} (hB : B ≤ B') {w : World} {p : Addr} {l : List Pr} (h : PgAt B w p l) : PgAt B' w p l := by
  obtain ⟨bo, c, h1, h2, h3⟩ := h
  exact ⟨bo, c, h1, h2.mono hB (fun _ _ h => h), h3⟩
theorem liesPr_next {w w' : World} {B : Nat} {ao : Option Addr} {l : List Pr} (h : LiesPr w B ao l) (hb : Below B w w') {B' : Nat} (hB : B ≤ B') : LiesPr w' B' ao l := (h.below PrAt.fast hb).mono hB fun _ _ h => h
theorem liesPg_next {w w' : World} {B : Nat} {ao : Option Addr} {ps : Pages} (h : LiesPg w B ao ps) (hb : Below B w w') {B' : Nat} (hB : B ≤ B') : LiesPg w' B' ao ps := (h.below PgAt.fast hb).mono hB fun _ _ h => pgAt_mono hB h

/-! What came in. -/
theorem Try.cellsStr : Try.prog.cellsOf 9 = 1 := by kernel_rfl
theorem Try.cellsPr : Try.prog.cellsOf 69 = 2 := by kernel_rfl
theorem Try.cellsPg : Try.prog.cellsOf 38 = 1 := by kernel_rfl
set_option maxRecDepth 100000 in
theorem open_pr {H : Type} {enc : TypeId × Value → H} {w : World} {base : Nat} {spare : Nat → Bool} {held : Bool} (a : Addr) (n : Nat) (cs : List Value) (x : DataW H × List MemPlace)
    (h1 : w.cells? base a 2 = some cs) (h2 : DataW.trod enc Try.prog w base spare held n 69 cs = some x) :
    ∃ c : Pr, True ∧ PrAt w a c := by
  obtain ⟨_, hlen, hcell⟩ := World.cells?_some h1
  obtain ⟨xs, m, _, _, _, hxl, hf⟩ := DataW.trod_struct Try.underlying69 h2
  match cs, hlen, xs, hxl with
  | [v0, v1], _, [x0, x1], _ =>
    have g0 := hf 0 _ rfl
    have g1 := hf 1 _ rfl
    simp [Try.cellsStr] at g0 g1
    have e0 := hcell 0 (by omega)
    have e1 := hcell 1 (by omega)
    simp [Addr.add] at e0 e1
    obtain ⟨s0, q0, _, _⟩ := DataW.trod_string Try.underlying9 g0
    obtain ⟨s1, q1, _, _⟩ := DataW.trod_string Try.underlying9 g1
    simp at q0 q1
    subst q0 q1
    exact ⟨⟨s0, s1⟩, trivial, e0, e1⟩
theorem open_pg {H : Type} {enc : TypeId × Value → H} {w : World} {base : Nat} {spare : Nat → Bool} {held : Bool} (a : Addr) (n : Nat) (cs : List Value) (x : DataW H × List MemPlace)
    (h1 : w.cells? base a 1 = some cs) (h2 : DataW.trod enc Try.prog w base spare held n 38 cs = some x) :
    ∃ l : List Pr, True ∧ PgAt w.heap.size w a l := by
  obtain ⟨_, hlen, hcell⟩ := World.cells?_some h1
  have inh : Inhabited Pr := ⟨⟨ByteArray.empty, ByteArray.empty⟩⟩
  match cs, hlen with
  | [v0], _ =>
    have e0 := hcell 0 (by omega)
    simp [Addr.add] at e0
    obtain ⟨ao, cap, l, q0, _, hl, hc⟩ := open_list PrAt (fun _ => True) 2 Try.cellsPr Try.underlying38 (fun p x h => cell_lt h.1) open_pr h2
    subst q0
    exact ⟨l, trivial, ao, cap, e0, hl, hc⟩
/-- Pages that came in. -/
theorem open_pages {H : Type} {enc : TypeId × Value → H} {w : World} {base b0 : Nat} {r : Reach} {spare : Nat → Bool} {held : Bool} {v : Value} {d : DataW H} {p : List MemPlace}
    (hv : Value.okWide Try.prog w r b0 55 v) (h : DataW.Trod enc Try.prog w base spare held 55 v d p) :
    ∃ (ao : Option Addr) (cap : Nat) (ps : Pages), v = .slice ao ps.length cap ∧ LiesPg w w.heap.size ao ps := by
  obtain ⟨ao, len, cap, rfl⟩ := okWide_slice Try.underlying55 hv
  obtain ⟨fuel, hf⟩ := h
  obtain ⟨ao', cap', ps, q, _, hl, _⟩ := open_list (PgAt w.heap.size) (fun _ => True) 1 Try.cellsPg Try.underlying55 (fun p x h => by obtain ⟨_, _, h, _⟩ := h; exact cell_lt h) open_pg (by simpa [Value.cells] using hf)
  exact ⟨ao', cap', ps, q, hl⟩

/-! Rows of the call's own. -/
def Num.prCells (l : List Pr) : List Value := l.flatMap (fun x => [.string x.key, .string x.val])
theorem prCells_cons (x : Pr) (l : List Pr) : prCells (x :: l) = [.string x.key, .string x.val] ++ prCells l := rfl
theorem prCells_append (l r : List Pr) : prCells (l ++ r) = prCells l ++ prCells r := by simp [prCells]
theorem prCells_len (l : List Pr) : (prCells l).length = l.length * 2 := by
  induction l with
  | nil => rfl
  | cons x l ih =>
    rw [prCells_cons, List.length_append, ih, List.length_cons]
    simp
    omega
theorem one2 (x : Pr) : ∀ v ∈ [Value.string x.key, .string x.val], v.oneCell' = true := by
  intro v hv
  simp at hv
  rcases hv with rfl | rfl <;> rfl
theorem prCells_one (l : List Pr) : ∀ v ∈ prCells l, v.oneCell' = true := by
  intro v hv
  simp only [prCells, List.mem_flatMap] at hv
  obtain ⟨y, _, hy⟩ := hv
  exact one2 y v hy
theorem prCells_take (l : List Pr) (i : Nat) : prCells (l.take i) = (prCells l).take (i * 2) := by
  have h : prCells l = prCells (l.take i) ++ prCells (l.drop i) := by rw [← prCells_append, List.take_append_drop]
  by_cases hi : i ≤ l.length
  · rw [h, List.take_left' (by rw [prCells_len, List.length_take, Nat.min_eq_left hi])]
  · rw [List.take_of_length_le (by omega), List.take_of_length_le (by rw [prCells_len]; omega)]
theorem prCells_drop (l : List Pr) (i : Nat) : prCells (l.drop i) = (prCells l).drop (i * 2) := by
  have h : prCells l = prCells (l.take i) ++ prCells (l.drop i) := by rw [← prCells_append, List.take_append_drop]
  by_cases hi : i ≤ l.length
  · rw [h, List.drop_left' (by rw [prCells_len, List.length_take, Nat.min_eq_left hi])]
  · rw [List.drop_of_length_le (by omega), List.drop_of_length_le (by rw [prCells_len]; omega)]
    rfl
theorem prCells_get (l : List Pr) : ∀ (i : Nat) x, l[i]? = some x → (prCells l)[i * 2]? = some (.string x.key) ∧ (prCells l)[i * 2 + 1]? = some (.string x.val) := by
  induction l with
  | nil => intro i x h; simp at h
  | cons y l ih =>
    intro i x h
    rw [prCells_cons]
    cases i with
    | zero =>
      simp at h
      subst h
      exact ⟨rfl, rfl⟩
    | succ i =>
      have h' : l[i]? = some x := by simpa using h
      obtain ⟨h1, h2⟩ := ih i x h'
      rw [show (i + 1) * 2 = i * 2 + 2 by omega]
      exact ⟨by simpa using h1, by rw [show i * 2 + 2 + 1 = (i * 2 + 1) + 2 by omega]; simpa using h2⟩
/-- A row of pairs of the call's own lies there. -/
theorem own_lies {w : World} {B : Nat} {v : Value} {l : List Pr} (h : w.ownsRow B 69 2 v l.length (prCells l)) : ∃ ao cap, v = .slice ao l.length cap ∧ LiesPr w w.heap.size ao l ∧ l.length ≤ cap := by
  rcases h.2 with ⟨hv, h0⟩ | ⟨g, cap, cur, hv, _, hg, hcap, _⟩
  · subst hv
    have : l = [] := List.eq_nil_of_length_eq_zero h0
    subst this
    exact ⟨none, 0, rfl, fun i x hx => by simp at hx, Nat.le_refl _⟩
  · subst hv
    refine ⟨_, cap, rfl, fun i x hx => ⟨_, rfl, (Array.getElem?_eq_some_iff.1 hg).1, ?_⟩, hcap⟩
    obtain ⟨h1, h2⟩ := prCells_get l i x hx
    have h3 := h.cells (g := g) rfl _ _ h1
    have h4 := h.cells (g := g) rfl _ _ h2
    rw [Addr.add_lit] at h3 h4
    rw [Addr.add_lit]
    exact ⟨h3, h4⟩
/-- The cells of a page that lies there. -/
theorem lies_cells {w : World} {B : Nat} {a : Addr} {l : List Pr} (h : LiesPr w B (some a) l) : ∀ j u, (prCells l)[j]? = some u → w.cell? (a.add j) = some u := by
  intro j u hj
  have hlt := (List.getElem?_eq_some_iff.1 hj).1
  rw [prCells_len] at hlt
  have hi : j / 2 < l.length := by omega
  have hx := List.getElem?_eq_getElem hi
  obtain ⟨h1, h2⟩ := prCells_get l _ _ hx
  obtain ⟨a', e, _, h3, h4⟩ := h _ _ hx
  cases e
  rcases Nat.mod_two_eq_zero_or_one j with hm | hm
  · have e2 : j / 2 * 2 = j := by omega
    rw [e2] at h1 h3
    rw [h1] at hj
    cases hj
    exact h3
  · have e2 : j / 2 * 2 + 1 = j := by omega
    rw [e2] at h2
    rw [h2] at hj
    cases hj
    have e3 : a.add j = ⟨(a.add (j / 2 * 2)).block, (a.add (j / 2 * 2)).off + 1, none⟩ := by
      have e4 : (a.add (j / 2 * 2)).off = a.off + j / 2 * 2 := by
        unfold Addr.add
        split
        · rename_i h0
          rw [h0]
          rfl
        · rfl
      rw [e4, Addr.block_add]
      unfold Addr.add
      rw [if_neg (by omega)]
      congr 1
      omega
    rw [e3]
    exact h4
/-- A page of the call's own, as a cell. -/
def Num.PgV (B : Nat) (w : World) (cs : List Value) (p : List Pr) : Prop := ∃ c, cs = [c] ∧ w.ownsRow B 69 2 c p.length (prCells p)
abbrev Num.OwnPs (B : Nat) (w : World) (v : Value) (ps : Pages) : Prop := OwnS PgV 38 1 B w v ps
theorem pgV_hold {B : Nat} {w w' : World} (hh : HoldX B 38 w w') {cs : List Value} {p : List Pr} (h : PgV B w cs p) : PgV B w' cs p := by
  obtain ⟨c, e, h1⟩ := h
  exact ⟨c, e, own_hold h1 hh (by decide)⟩
theorem pgV_mono {B B' : Nat} {w : World} (hB : B' ≤ B) {cs : List Value} {p : List Pr} (h : PgV B w cs p) : PgV B' w cs p := by
  obtain ⟨c, e, h1⟩ := h
  exact ⟨c, e, own_mono h1 hB⟩
theorem pgV_below {B : Nat} {w w' : World} (hb : Below w.heap.size w w') {cs : List Value} {p : List Pr} (h : PgV B w cs p) : PgV B w' cs p := by
  obtain ⟨c, e, h1⟩ := h
  exact ⟨c, e, own_below h1 hb⟩
theorem ownPs_below {B : Nat} {w w' : World} {v : Value} {ps : Pages} (h : OwnPs B w v ps) (hb : Below w.heap.size w w') : OwnPs B w' v ps := by
  obtain ⟨css, h1, h2, h3, h4⟩ := h
  exact ⟨css, h1, h2, own_below h3 hb, fun i cs x a b => pgV_below hb (h4 i cs x a b)⟩
/-- Pages of the call's own lie there. -/
theorem ownPs_lies {B : Nat} {w : World} {v : Value} {ps : Pages} (h : OwnPs B w v ps) : ∃ ao cap, v = .slice ao ps.length cap ∧ LiesPg w w.heap.size ao ps := by
  refine h.lies (PgAt w.heap.size) ?_
  rintro p cs l ⟨c, rfl, hc⟩ _ hcell hs
  obtain ⟨bo, cap, rfl, hl, hcap⟩ := own_lies hc
  exact ⟨bo, cap, at_zero hs (hcell 0 _ rfl), hl, hcap⟩
end Go.Proofs.Ytgldgedbinbigaa
