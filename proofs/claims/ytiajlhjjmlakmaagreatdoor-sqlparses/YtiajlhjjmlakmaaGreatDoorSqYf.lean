/-
  Contracts: the document's own reader: rows. (Written by mksqy.py.)
-/
import Derived.Test.YtiajlhjjmlakmaaGreatDoorSqYc
import Derived.Test.YtiajlhjjmlakmaaGreatDoorSqF
namespace Go.Proofs.YtiajlhjjmlakmaaGreatDoor
open Go.RowKit Num
set_option linter.unusedSimpArgs false
set_option linter.unusedVariables false
set_option linter.unusedVariables false
set_option maxRecDepth 100000

theorem row_grow {w w' : World} {B E sz n : Nat} {v : Value} {xs : List Value} (h : w.ownsRow B E sz v n xs) (hk : w.grownBy w' none) : w'.ownsRow B E sz v n xs :=
  h.kept hk (by cases v.ownBlock <;> simp)
theorem bx_grow {w w' : World} {b : Nat} {t : TypeId} {cs : Array Value} (h : Bx w b t cs) (hk : w.grownBy w' none) : Bx w' b t cs := (hk.block b h.lt (by simp)).trans h
theorem appB_str {ops : Array Oper} {rest : List Oper} {o : Oper} {a : Act} {Q : Exit → Act → World → Prop} (w : World) (hgd : o.guard = none) (s x : Operand)
    (ho : o.op = .call { callee := .builtin .append, args := #[s, x], argTypes := #[22, 22] })
    (base : Nat) (v : Value) (l : List (ByteArray)) (hs : a.eval s = v) (hown : w.ownsRow base 9 1 v l.length (l.flatMap cS))
    (g c : Nat) (y : ByteArray) (hx : a.eval x = .slice (some ⟨g, 0, none⟩) 1 c) (hg : Bx w g 9 (cS y).toArray)
    (hb : l.length ≤ 100000) (hbase : base ≤ w.heap.size)
    (h : ∀ v' w', w'.ownsRow base 9 1 v' (l ++ [y]).length ((l ++ [y]).flatMap cS) → Below base w w' → w.grownBy w' v.ownBlock → wpList Tryz.prog ops Q rest (a.put o.dst v') w') : wpList Tryz.prog ops Q (o :: rest) a w := by
  obtain ⟨i0, hi, hz0, hz1, hz2⟩ := info_parts Tryz.infoQ_str
  refine wpList_append_own w hgd s x 22 ho base 9 i0 _ 1 16 Tryz.underlying22 hi hz0 hz1 hz2 rfl (by decide) v l.length (l.flatMap cS) hs hown ⟨g, 0, none⟩ 1 c (cS y) hx rfl ?_ ?_ (by unfold maxLen; omega) (by omega) hbase ?_
  · intro j u hj
    rw [Addr.add_lit, Nat.zero_add]
    exact hg.cell j u (by simpa using hj)
  · intro u hu
    simp only [cS, List.mem_cons, List.not_mem_nil, or_false] at hu
    rcases hu with rfl <;> rfl
  · intro v' w' hown' hgrow _
    rw [show (l.flatMap cS) ++ cS y = (l ++ [y]).flatMap cS by simp] at hown'
    rw [show (l ++ [y]).length = l.length + 1 by simp] at h
    exact h v' w' hown' (Below.grown (Below.refl base w) hgrow hbase (fun k hk => (hown.lt k hk).1)) hgrow
theorem runB_str (W : World) (base : Nat) (v : Value) (l : List (ByteArray)) (hown : W.ownsRow base 9 1 v l.length (l.flatMap cS)) (y : ByteArray) (hl : l.length ≤ 100000) (hbase : base ≤ W.heap.size) :
    ∃ v' w', (Builtin.append_ #[22, 22] 22 #[v, .slice (some ⟨W.heap.size, 0, none⟩) 1 1]).run Tryz.prog (W.alloc (.cells (cS y).toArray 9)) = .ok v' w' ∧
      w'.ownsRow base 9 1 v' (l ++ [y]).length ((l ++ [y]).flatMap cS) ∧ Below base W w' ∧ (W.alloc (.cells (cS y).toArray 9)).grownBy w' v.ownBlock := by
  obtain ⟨i0, hi, hz0, hz1, hz2⟩ := info_parts Tryz.infoQ_str
  obtain ⟨v', w', hr, h2, h3, _, _⟩ := run_append_own_at (P := Tryz.prog) (W.alloc (.cells (cS y).toArray 9)) base 22 22 9 i0 _ 1 16 Tryz.underlying22 hi hz0 hz1 hz2 rfl (by decide) v l.length (l.flatMap cS) (World.ownsRow.alloc hown _) ⟨W.heap.size, 0, none⟩ 1 1 (cS y) rfl (by
      intro j u hj
      have hb : Bx (W.alloc (.cells (cS y).toArray 9)) W.heap.size 9 (cS y).toArray := Bx.new _ _ _
      rw [Addr.add_lit, Nat.zero_add]
      exact hb.cell j u (by simpa using hj)) (by
      intro u hu
      simp only [cS, List.mem_cons, List.not_mem_nil, or_false] at hu
      rcases hu with rfl <;> rfl) (by unfold maxLen; omega) (by omega) (by simp; omega)
  refine ⟨v', w', hr, ?_, ?_, h3⟩
  · rw [show (l.flatMap cS) ++ cS y = (l ++ [y]).flatMap cS by simp] at h2
    rw [show (l ++ [y]).length = l.length + 1 by simp]
    exact h2
  · exact ((Below.refl base W).alloc hbase _).grown h3 (by simp; omega) (fun k hk => (hown.lt k hk).1)
theorem appB_val {ops : Array Oper} {rest : List Oper} {o : Oper} {a : Act} {Q : Exit → Act → World → Prop} (w : World) (hgd : o.guard = none) (s x : Operand)
    (ho : o.op = .call { callee := .builtin .append, args := #[s, x], argTypes := #[23, 23] })
    (base : Nat) (v : Value) (l : List (Val)) (hs : a.eval s = v) (hown : w.ownsRow base 46 4 v l.length (l.flatMap cV))
    (g c : Nat) (y : Val) (hx : a.eval x = .slice (some ⟨g, 0, none⟩) 1 c) (hg : Bx w g 46 (cV y).toArray)
    (hb : l.length ≤ 100000) (hbase : base ≤ w.heap.size)
    (h : ∀ v' w', w'.ownsRow base 46 4 v' (l ++ [y]).length ((l ++ [y]).flatMap cV) → Below base w w' → w.grownBy w' v.ownBlock → wpList Tryz.prog ops Q rest (a.put o.dst v') w') : wpList Tryz.prog ops Q (o :: rest) a w := by
  obtain ⟨i0, hi, hz0, hz1, hz2⟩ := info_parts Tryz.infoQ_val
  refine wpList_append_own w hgd s x 23 ho base 46 i0 _ 4 40 Tryz.underlying23 hi hz0 hz1 hz2 rfl (by decide) v l.length (l.flatMap cV) hs hown ⟨g, 0, none⟩ 1 c (cV y) hx rfl ?_ ?_ (by unfold maxLen; omega) (by omega) hbase ?_
  · intro j u hj
    rw [Addr.add_lit, Nat.zero_add]
    exact hg.cell j u (by simpa using hj)
  · intro u hu
    simp only [cV, List.mem_cons, List.not_mem_nil, or_false] at hu
    rcases hu with rfl | rfl | rfl | rfl <;> rfl
  · intro v' w' hown' hgrow _
    rw [show (l.flatMap cV) ++ cV y = (l ++ [y]).flatMap cV by simp] at hown'
    rw [show (l ++ [y]).length = l.length + 1 by simp] at h
    exact h v' w' hown' (Below.grown (Below.refl base w) hgrow hbase (fun k hk => (hown.lt k hk).1)) hgrow
theorem runB_val (W : World) (base : Nat) (v : Value) (l : List (Val)) (hown : W.ownsRow base 46 4 v l.length (l.flatMap cV)) (y : Val) (hl : l.length ≤ 100000) (hbase : base ≤ W.heap.size) :
    ∃ v' w', (Builtin.append_ #[23, 23] 23 #[v, .slice (some ⟨W.heap.size, 0, none⟩) 1 1]).run Tryz.prog (W.alloc (.cells (cV y).toArray 46)) = .ok v' w' ∧
      w'.ownsRow base 46 4 v' (l ++ [y]).length ((l ++ [y]).flatMap cV) ∧ Below base W w' ∧ (W.alloc (.cells (cV y).toArray 46)).grownBy w' v.ownBlock := by
  obtain ⟨i0, hi, hz0, hz1, hz2⟩ := info_parts Tryz.infoQ_val
  obtain ⟨v', w', hr, h2, h3, _, _⟩ := run_append_own_at (P := Tryz.prog) (W.alloc (.cells (cV y).toArray 46)) base 23 23 46 i0 _ 4 40 Tryz.underlying23 hi hz0 hz1 hz2 rfl (by decide) v l.length (l.flatMap cV) (World.ownsRow.alloc hown _) ⟨W.heap.size, 0, none⟩ 1 1 (cV y) rfl (by
      intro j u hj
      have hb : Bx (W.alloc (.cells (cV y).toArray 46)) W.heap.size 46 (cV y).toArray := Bx.new _ _ _
      rw [Addr.add_lit, Nat.zero_add]
      exact hb.cell j u (by simpa using hj)) (by
      intro u hu
      simp only [cV, List.mem_cons, List.not_mem_nil, or_false] at hu
      rcases hu with rfl | rfl | rfl | rfl <;> rfl) (by unfold maxLen; omega) (by omega) (by simp; omega)
  refine ⟨v', w', hr, ?_, ?_, h3⟩
  · rw [show (l.flatMap cV) ++ cV y = (l ++ [y]).flatMap cV by simp] at h2
    rw [show (l ++ [y]).length = l.length + 1 by simp]
    exact h2
  · exact ((Below.refl base W).alloc hbase _).grown h3 (by simp; omega) (fun k hk => (hown.lt k hk).1)
theorem appB_int {ops : Array Oper} {rest : List Oper} {o : Oper} {a : Act} {Q : Exit → Act → World → Prop} (w : World) (hgd : o.guard = none) (s x : Operand)
    (ho : o.op = .call { callee := .builtin .append, args := #[s, x], argTypes := #[26, 26] })
    (base : Nat) (v : Value) (l : List (Int)) (hs : a.eval s = v) (hown : w.ownsRow base 3 1 v l.length (l.flatMap cI))
    (g c : Nat) (y : Int) (hx : a.eval x = .slice (some ⟨g, 0, none⟩) 1 c) (hg : Bx w g 3 (cI y).toArray)
    (hb : l.length ≤ 100000) (hbase : base ≤ w.heap.size)
    (h : ∀ v' w', w'.ownsRow base 3 1 v' (l ++ [y]).length ((l ++ [y]).flatMap cI) → Below base w w' → w.grownBy w' v.ownBlock → wpList Tryz.prog ops Q rest (a.put o.dst v') w') : wpList Tryz.prog ops Q (o :: rest) a w := by
  obtain ⟨i0, hi, hz0, hz1, hz2⟩ := info_parts Tryz.infoQ_int
  refine wpList_append_own w hgd s x 26 ho base 3 i0 _ 1 8 Tryz.underlying26 hi hz0 hz1 hz2 rfl (by decide) v l.length (l.flatMap cI) hs hown ⟨g, 0, none⟩ 1 c (cI y) hx rfl ?_ ?_ (by unfold maxLen; omega) (by omega) hbase ?_
  · intro j u hj
    rw [Addr.add_lit, Nat.zero_add]
    exact hg.cell j u (by simpa using hj)
  · intro u hu
    simp only [cI, List.mem_cons, List.not_mem_nil, or_false] at hu
    rcases hu with rfl <;> rfl
  · intro v' w' hown' hgrow _
    rw [show (l.flatMap cI) ++ cI y = (l ++ [y]).flatMap cI by simp] at hown'
    rw [show (l ++ [y]).length = l.length + 1 by simp] at h
    exact h v' w' hown' (Below.grown (Below.refl base w) hgrow hbase (fun k hk => (hown.lt k hk).1)) hgrow
theorem runB_int (W : World) (base : Nat) (v : Value) (l : List (Int)) (hown : W.ownsRow base 3 1 v l.length (l.flatMap cI)) (y : Int) (hl : l.length ≤ 100000) (hbase : base ≤ W.heap.size) :
    ∃ v' w', (Builtin.append_ #[26, 26] 26 #[v, .slice (some ⟨W.heap.size, 0, none⟩) 1 1]).run Tryz.prog (W.alloc (.cells (cI y).toArray 3)) = .ok v' w' ∧
      w'.ownsRow base 3 1 v' (l ++ [y]).length ((l ++ [y]).flatMap cI) ∧ Below base W w' ∧ (W.alloc (.cells (cI y).toArray 3)).grownBy w' v.ownBlock := by
  obtain ⟨i0, hi, hz0, hz1, hz2⟩ := info_parts Tryz.infoQ_int
  obtain ⟨v', w', hr, h2, h3, _, _⟩ := run_append_own_at (P := Tryz.prog) (W.alloc (.cells (cI y).toArray 3)) base 26 26 3 i0 _ 1 8 Tryz.underlying26 hi hz0 hz1 hz2 rfl (by decide) v l.length (l.flatMap cI) (World.ownsRow.alloc hown _) ⟨W.heap.size, 0, none⟩ 1 1 (cI y) rfl (by
      intro j u hj
      have hb : Bx (W.alloc (.cells (cI y).toArray 3)) W.heap.size 3 (cI y).toArray := Bx.new _ _ _
      rw [Addr.add_lit, Nat.zero_add]
      exact hb.cell j u (by simpa using hj)) (by
      intro u hu
      simp only [cI, List.mem_cons, List.not_mem_nil, or_false] at hu
      rcases hu with rfl <;> rfl) (by unfold maxLen; omega) (by omega) (by simp; omega)
  refine ⟨v', w', hr, ?_, ?_, h3⟩
  · rw [show (l.flatMap cI) ++ cI y = (l ++ [y]).flatMap cI by simp] at h2
    rw [show (l ++ [y]).length = l.length + 1 by simp]
    exact h2
  · exact ((Below.refl base W).alloc hbase _).grown h3 (by simp; omega) (fun k hk => (hown.lt k hk).1)
end Go.Proofs.YtiajlhjjmlakmaaGreatDoor
