import Derived.Test.YtiajlhjjmlakmaaGreatDoorSqYc
import Derived.Test.YtiajlhjjmlakmaaGreatDoorSqF
namespace Go.Proofs.YtiajlhjjmlakmaaGreatDoor
open Go.RowKit Num
set_option linter.unusedSimpArgs false
set_option linter.unusedVariables false
set_option maxRecDepth 100000

theorem row_grow {w w' : World} {B E sz n : Nat} {v : Value} {xs : List Value} (h : w.ownsRow B E sz v n xs) (hk : w.grownBy w' none) : w'.ownsRow B E sz v n xs :=
 h.kept hk (by cases v.ownBlock <;> simp)
theorem bx_grow {w w' : World} {b : Nat} {t : TypeId} {cs : Array Value} (h : Bx w b t cs) (hk : w.grownBy w' none) : Bx w' b t cs := (hk.block b h.lt (by simp)).trans h
theorem runB_str (W : World) (base : Nat) (v : Value) (l : List (ByteArray)) (hown : W.ownsRow base 9 1 v l.length (l.flatMap cS)) (y : ByteArray) (hl : l.length ≤ 100000) (hbase : base ≤ W.heap.size) :
  ∃ v' w', (Builtin.append_ #[22, 22] 22 #[v, .slice (some ⟨W.heap.size, 0, none⟩) 1 1]).run Tryz.prog (W.alloc (.cells (cS y).toArray 9)) = .ok v' w' ∧
   w'.ownsRow base 9 1 v' (l ++ [y]).length ((l ++ [y]).flatMap cS) ∧ Below base W w' ∧ (W.alloc (.cells (cS y).toArray 9)).grownBy w' v.ownBlock := by
 obtain ⟨i0, hi, hz0, hz1, hz2⟩ := info_parts Tryz.infoQ_str
 obtain ⟨v', w', hr, h2, h3, _, _⟩ := run_append_own_at (P := Tryz.prog) (W.alloc (.cells (cS y).toArray 9)) base 22 22 9 i0 _ 1 16 Tryz.underlying22 hi hz0 hz1 hz2 rfl (by decide) v l.length (l.flatMap cS) (World.ownsRow.alloc hown _) ⟨W.heap.size, 0, none⟩ 1 1 (cS y) rfl (by
   intro j u hj
   have hb : Bx (W.alloc (.cells (cS y).toArray 9)) W.heap.size 9 (cS y).toArray := Bx.new _ _ _
   rw [Addr.add_lit, Nat.zero_add]
   exact hb.cell j u (by simpa using hj)) (by
   intro u hu
   simp only [cS, List.mem_cons, List.not_mem_nil, or_false] at hu
   rcases hu with rfl <;> rfl) (by unfold maxLen; omega) (by omega) (by simp; omega)
 refine ⟨v', w', hr, ?_, ?_, h3⟩
 ·rw [show (l.flatMap cS) ++ cS y = (l ++ [y]).flatMap cS by simp] at h2
  rw [show (l ++ [y]).length = l.length + 1 by simp]
  exact h2
 ·exact ((Below.refl base W).alloc hbase _).grown h3 (by simp; omega) (fun k hk => (hown.lt k hk).1)
theorem runB_val (W : World) (base : Nat) (v : Value) (l : List (Val)) (hown : W.ownsRow base 46 4 v l.length (l.flatMap cV)) (y : Val) (hl : l.length ≤ 100000) (hbase : base ≤ W.heap.size) :
  ∃ v' w', (Builtin.append_ #[23, 23] 23 #[v, .slice (some ⟨W.heap.size, 0, none⟩) 1 1]).run Tryz.prog (W.alloc (.cells (cV y).toArray 46)) = .ok v' w' ∧
   w'.ownsRow base 46 4 v' (l ++ [y]).length ((l ++ [y]).flatMap cV) ∧ Below base W w' ∧ (W.alloc (.cells (cV y).toArray 46)).grownBy w' v.ownBlock := by
 obtain ⟨i0, hi, hz0, hz1, hz2⟩ := info_parts Tryz.infoQ_val
 obtain ⟨v', w', hr, h2, h3, _, _⟩ := run_append_own_at (P := Tryz.prog) (W.alloc (.cells (cV y).toArray 46)) base 23 23 46 i0 _ 4 40 Tryz.underlying23 hi hz0 hz1 hz2 rfl (by decide) v l.length (l.flatMap cV) (World.ownsRow.alloc hown _) ⟨W.heap.size, 0, none⟩ 1 1 (cV y) rfl (by
   intro j u hj
   have hb : Bx (W.alloc (.cells (cV y).toArray 46)) W.heap.size 46 (cV y).toArray := Bx.new _ _ _
   rw [Addr.add_lit, Nat.zero_add]
   exact hb.cell j u (by simpa using hj)) (by
   intro u hu
   simp only [cV, List.mem_cons, List.not_mem_nil, or_false] at hu
   rcases hu with rfl | rfl | rfl | rfl <;> rfl) (by unfold maxLen; omega) (by omega) (by simp; omega)
 refine ⟨v', w', hr, ?_, ?_, h3⟩
 ·rw [show (l.flatMap cV) ++ cV y = (l ++ [y]).flatMap cV by simp] at h2
  rw [show (l ++ [y]).length = l.length + 1 by simp]
  exact h2
 ·exact ((Below.refl base W).alloc hbase _).grown h3 (by simp; omega) (fun k hk => (hown.lt k hk).1)
theorem runB_int (W : World) (base : Nat) (v : Value) (l : List (Int)) (hown : W.ownsRow base 3 1 v l.length (l.flatMap cI)) (y : Int) (hl : l.length ≤ 100000) (hbase : base ≤ W.heap.size) :
  ∃ v' w', (Builtin.append_ #[26, 26] 26 #[v, .slice (some ⟨W.heap.size, 0, none⟩) 1 1]).run Tryz.prog (W.alloc (.cells (cI y).toArray 3)) = .ok v' w' ∧
   w'.ownsRow base 3 1 v' (l ++ [y]).length ((l ++ [y]).flatMap cI) ∧ Below base W w' ∧ (W.alloc (.cells (cI y).toArray 3)).grownBy w' v.ownBlock := by
 obtain ⟨i0, hi, hz0, hz1, hz2⟩ := info_parts Tryz.infoQ_int
 obtain ⟨v', w', hr, h2, h3, _, _⟩ := run_append_own_at (P := Tryz.prog) (W.alloc (.cells (cI y).toArray 3)) base 26 26 3 i0 _ 1 8 Tryz.underlying26 hi hz0 hz1 hz2 rfl (by decide) v l.length (l.flatMap cI) (World.ownsRow.alloc hown _) ⟨W.heap.size, 0, none⟩ 1 1 (cI y) rfl (by
   intro j u hj
   have hb : Bx (W.alloc (.cells (cI y).toArray 3)) W.heap.size 3 (cI y).toArray := Bx.new _ _ _
   rw [Addr.add_lit, Nat.zero_add]
   exact hb.cell j u (by simpa using hj)) (by
   intro u hu
   simp only [cI, List.mem_cons, List.not_mem_nil, or_false] at hu
   rcases hu with rfl <;> rfl) (by unfold maxLen; omega) (by omega) (by simp; omega)
 refine ⟨v', w', hr, ?_, ?_, h3⟩
 ·rw [show (l.flatMap cI) ++ cI y = (l ++ [y]).flatMap cI by simp] at h2
  rw [show (l ++ [y]).length = l.length + 1 by simp]
  exact h2
 ·exact ((Below.refl base W).alloc hbase _).grown h3 (by simp; omega) (fun k hk => (hown.lt k hk).1)
end Go.Proofs.YtiajlhjjmlakmaaGreatDoor
