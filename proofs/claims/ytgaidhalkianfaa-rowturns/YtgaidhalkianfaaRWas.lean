/-
  'append([]api.Cell{}, l...)': the cells of a slice that came in, in new memory.
-/
import Derived.Test.YtgaidhalkianfaaRWith
import Derived.Test.YtgaidhalkianfaaRSame
namespace Go.Proofs.Ytgaidhalkianfaa
open Go.RowKit Num
set_option linter.unusedVariables false

theorem open_celsD {H : Type} {enc : TypeId × Value → H} {w : World} {base b0 : Nat} {r : Reach} {spare : Nat → Bool} {held : Bool} {v : Value} {d : DataW H} {p : List MemPlace}
    (hv : Value.okWide Try.prog w r b0 22 v) (h : DataW.Trod enc Try.prog w base spare held 22 v d p) :
    ∃ (ao : Option Addr) (cap : Nat) (l : List Cel), v = .slice ao l.length cap ∧ l.length ≤ maxLen ∧ (∀ x ∈ l, x.ok) ∧ (ao = none → cap = 0) ∧ LiesC w w.heap.size ao l := by
  obtain ⟨ao, cap, l, rfl, hlen, hok, hl⟩ := open_cels hv h
  obtain ⟨fuel, hf⟩ := h
  refine ⟨ao, cap, l, rfl, hlen, hok, fun e => ?_, hl⟩
  rcases Go.Deep.open_slice Try.underlying22 hf with ⟨h0, _⟩ | ⟨a, len', cap', m, n, D, Pl, h0, _⟩
  · simp [Value.cells] at h0
    exact h0.2.2
  · simp [Value.cells, e] at h0
theorem Num.LiesC.alloc1 {w : World} {ao : Option Addr} {l : List Cel} (h : LiesC w w.heap.size ao l) (o : Obj) : LiesC (w.alloc o) (w.alloc o).heap.size ao l := liesC_next h ((Below.refl _ w).alloc (Nat.le_refl _) o)
theorem emp_new (w : World) (o o' : Obj) : ((w.alloc o).alloc o').heap[w.heap.size + 1]? = some o' := by
  have h := World.alloc_heap_new (w.alloc o) o'
  rwa [World.size_alloc] at h
/-- A value's box. -/
def Num.VBox (W : World) (B : Nat) (x : Val) : Prop := B < W.heap.size ∧ W.cell? ⟨B, 0, none⟩ = some (.int .i64 x.k) ∧ W.cell? ⟨B, 1, none⟩ = some (.int .i64 x.n) ∧ W.cell? ⟨B, 2, none⟩ = some (.int .u64 (x.f : Int)) ∧ W.cell? ⟨B, 3, none⟩ = some (.string x.s)
theorem Num.VBox.new (w : World) (x : Val) (t : TypeId) : VBox (w.alloc (.cells #[.int .i64 x.k, .int .i64 x.n, .int .u64 (x.f : Int), .string x.s] t)) w.heap.size x := by
  refine ⟨by simp, ?_, ?_, ?_, ?_⟩ <;> simp
theorem Num.VBox.below {W W' : World} {B N : Nat} {x : Val} (h : VBox W B x) (hB : B < N) (hb : Below N W W') : VBox W' B x :=
  ⟨Nat.lt_of_lt_of_le h.1 hb.size, (hb.cell (p := ⟨B, 0, none⟩) hB).trans h.2.1, (hb.cell (p := ⟨B, 1, none⟩) hB).trans h.2.2.1, (hb.cell (p := ⟨B, 2, none⟩) hB).trans h.2.2.2.1, (hb.cell (p := ⟨B, 3, none⟩) hB).trans h.2.2.2.2⟩
theorem Num.VBox.next {W W' : World} {B : Nat} {x : Val} (h : VBox W B x) (hb : Below W.heap.size W W') : VBox W' B x := h.below h.1 hb
theorem Num.VBox.alloc {W : World} {B : Nat} {x : Val} (h : VBox W B x) (o : Obj) : VBox (W.alloc o) B x := h.next ((Below.refl _ W).alloc (Nat.le_refl _) o)
theorem add_step (a : Addr) (n t : Nat) (ht : 0 < t) : a.add (n + t) = ⟨(a.add n).block, (a.add n).off + t, none⟩ := by
  unfold Addr.add
  rw [if_neg (by omega)]
  split
  · rename_i h
    subst h
    simp
  · simp
    omega
theorem liesC_cells {w : World} {B : Nat} {a : Addr} {l : List Cel} (h : LiesC w B (some a) l) : ∀ j u, (celCells l)[j]? = some u → w.cell? (a.add j) = some u := by
  intro j u hj
  have hlt := (List.getElem?_eq_some_iff.1 hj).1
  rw [celCells_len] at hlt
  obtain ⟨i, t, rfl, ht⟩ : ∃ i t, j = i * 5 + t ∧ t < 5 := ⟨j / 5, j % 5, by omega, by omega⟩
  have hi : i < l.length := by omega
  obtain ⟨a', e, _, c0, c1, c2, c3, c4⟩ := h i l[i] (List.getElem?_eq_getElem hi)
  cases e
  obtain ⟨h0, h1, h2, h3, h4⟩ := celCells_at l i l[i] (List.getElem?_eq_getElem hi)
  match t, ht with
  | 0, _ => rw [Nat.add_zero] at hj ⊢; rw [c0, ← h0, hj]
  | 1, _ => rw [add_step _ _ _ (by omega), c1, ← h1, hj]
  | 2, _ => rw [add_step _ _ _ (by omega), c2, ← h2, hj]
  | 3, _ => rw [add_step _ _ _ (by omega), c3, ← h3, hj]
  | 4, _ => rw [add_step _ _ _ (by omega), c4, ← h4, hj]
theorem no_liesC_any (w : World) (B : Nat) (ao : Option Addr) : LiesC w B ao [] := fun i x hx => by simp at hx
theorem wpList_was {ops : Array Oper} {rest : List Oper} {o : Oper} {a : Act} {Q : Exit → Act → World → Prop} (w : World) (hgd : o.guard = none) (s x : Operand)
    (ho : o.op = .call { callee := .builtin .append, args := #[s, x], argTypes := #[22, 22] })
    (B : Nat) (hs : a.eval s = .slice (some ⟨B, 0, none⟩) 0 0) (hB : w.heap[B]? = some (.cells #[] 41 (0, 0)))
    (ao : Option Addr) (cap : Nat) (l : List Cel) (h500 : l.length ≤ 500) (hx : a.eval x = .slice ao l.length cap) (hnone : ao = none → cap = 0) (hl : LiesC w w.heap.size ao l)
    (h : ∀ ao' cap' w', LiesC w' w'.heap.size ao' l → Below B w w' → wpList Try.prog ops Q rest (a.put o.dst (.slice ao' l.length cap')) w') : wpList Try.prog ops Q (o :: rest) a w := by
  obtain ⟨i0, hi, hz0, hz1, hz2⟩ := info_parts Try.infoCel
  have hBl : B < w.heap.size := (Array.getElem?_eq_some_iff.1 hB).1
  have hown : w.ownsRow B 41 5 (.slice (some ⟨B, 0, none⟩) 0 0) 0 [] := ⟨rfl, .inr ⟨B, 0, #[], rfl, Nat.le_refl _, hB, Nat.le_refl _, by unfold maxLen; omega, rfl, rfl⟩⟩
  cases l with
  | nil =>
    refine wpList_append_fits_any w hgd s x 22 ho B 41 i0 5 Try.underlying22 hi hz1 B 0 0 [] hs hown ao 0 cap [] hx rfl (fun e => ⟨rfl, hnone e⟩) (fun ad _ j u hj => by simp at hj) (by simp) (by omega) ?_
    intro w' _ hg
    exact h _ _ w' (no_liesC_any _ _ _) ((Below.refl B w).grown hg (Nat.le_of_lt hBl) (fun k e => by cases e; exact Nat.le_refl _))
  | cons y l' =>
    obtain ⟨ad, rfl, _, _⟩ := hl 0 y rfl
    refine wpList_append_own w hgd s x 22 ho B 41 i0 _ 5 48 Try.underlying22 hi hz0 hz1 hz2 rfl (by decide) _ 0 [] hs hown ad (y :: l').length cap (celCells (y :: l')) hx (celCells_len _) (liesC_cells hl) (celCells_one _) (by unfold maxLen; omega) (by omega) (Nat.le_of_lt hBl) ?_
    intro v' w' hown' hg _
    rw [Nat.zero_add, List.nil_append] at hown'
    obtain ⟨ao', cap', rfl, hl'⟩ := lies_rowN rfl hown'
    exact h _ _ w' hl' ((Below.refl B w).grown hg (Nat.le_of_lt hBl) (fun k e => (hown.lt k e).1))
end Go.Proofs.Ytgaidhalkianfaa
