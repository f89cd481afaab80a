/-
  Rows of the call's own, of whatever element: opened and shut; 'copy' and 'clear' within them; what an insertion and a deletion leave.
-/
import Derived.Test.YtdmkmhjalcfchaaBase
import Derived.Shelf.Spec.SlicesInsert
import Derived.Lib.AppendZerosOnto
import Derived.Laws.CopyRow
import Derived.Deep.RegionLaw
namespace Go.Proofs.Ytdmkmhjalcfchaa
open Go.RowKit Num
set_option linter.unusedVariables false
set_option maxRecDepth 100000

/-- 'copy' within rows of elements of whatever size: all is read ahead of the first write. -/
theorem run_copy_sized (w : World) (dT sT ty elem : TypeId) (size : Nat) (g o dLen dCap : Nat) (a : Addr) (sLen sCap : Nat) (cur : Array Value) (t : TypeId) (cs : List Value)
    (hu : Try.prog.underlying dT = some (.slice elem)) (hs : (Try.prog.info? elem).map (·.size) = some size)
    (hg : w.heap[g]? = some (.cells cur t (0, 0))) (hn : cs.length = Nat.min sLen dLen * size)
    (hsrc : ∀ j v, cs[j]? = some v → w.cell? (a.add j) = some v) (hfit : o + cs.length ≤ cur.size) (h1 : ∀ v ∈ cs, v.oneCell' = true) :
    (Builtin.copy_ #[dT, sT] ty #[.slice (some ⟨g, o, none⟩) dLen dCap, .slice (some a) sLen sCap]).run Try.prog w =
      .ok (goInt (Nat.min sLen dLen)) (w.setRow g (cur.toList.take o ++ cs ++ cur.toList.drop (o + cs.length)).toArray) := by
  have hl := run_loadCells_list (P := Try.prog) w a cs hsrc
  have hst := run_storeCells_at Try.prog g o t cs 0 cur w hg (by simpa using hfit) h1
  cases hq : Try.prog.info? elem with
  | none => simp [hq] at hs
  | some i =>
    have hi : i.size = size := by simpa [hq] using hs
    rw [hn] at hl
    simp [Builtin.copy_, run_underlying hu, Builtin.lenOf, Builtin.firstCells, sizeOf, typeInfo, hq, hi, hl, hst]
/-- 'clear' of some elements of a row. -/
theorem run_clear_sized (w : World) (dT ty elem : TypeId) (z : Value) (g o n c : Nat) (cur : Array Value) (t : TypeId) (hu : Try.prog.underlying dT = some (.slice elem)) (hz : ∀ w, (zeroValue elem).run Try.prog w = .ok z w) (hn : 0 < n)
    (hg : w.heap[g]? = some (.cells cur t (0, 0))) (hfit : o + n * z.cells.size ≤ cur.size) (h1 : ∀ v ∈ Builtin.zeroCells z.cells n, v.oneCell' = true) :
    (Builtin.clear_ #[dT] ty #[.slice (some ⟨g, o, none⟩) n c]).run Try.prog w =
      .ok (.tuple #[]) (w.setRow g (cur.toList.take o ++ (Builtin.zeroCells z.cells n).toList ++ cur.toList.drop (o + n * z.cells.size)).toArray) := by
  have hl : (Builtin.zeroCells z.cells n).toList.length = n * z.cells.size := by rw [Array.length_toList, size_zeroCells]
  have hst := run_storeCells_at Try.prog g o t (Builtin.zeroCells z.cells n).toList 0 cur w hg (by rw [hl]; simpa using hfit) (fun v hv => h1 v (by simpa using hv))
  rw [hl] at hst
  simp only [Nat.add_zero] at hst
  obtain ⟨m, rfl⟩ : ∃ m, n = m + 1 := ⟨n - 1, by omega⟩
  simp [Builtin.clear_, run_underlying hu, hz, hst]
theorem zero_one {z : Array Value} (h0 : 0 < z.size) (h : ∀ v ∈ z, v.oneCell' = true) (n : Nat) : ∀ v ∈ Builtin.zeroCells z n, v.oneCell' = true := by
  intro v hv
  unfold Builtin.zeroCells at hv
  obtain ⟨i, _, rfl⟩ := Array.mem_map.1 hv
  have hi : i % z.size < z.size := Nat.mod_lt _ h0
  rw [getElem!_pos z _ hi]
  exact h _ (Array.getElem_mem hi)
theorem cell_of_heap {w : World} {g o : Nat} {cur : Array Value} {t : TypeId} (hg : w.heap[g]? = some (.cells cur t (0, 0))) : w.cell? ⟨g, o, none⟩ = cur.toList[o]? := by
  simp [World.cell?, hg]
theorem grown_setRow {w : World} {g : Nat} (cs : Array Value) : w.grownBy (w.setRow g cs) (some g) :=
  ⟨rfl, rfl, rfl, by simp [World.setRow], fun k _ hk => setRow_other w g k cs (fun e => hk (by rw [e]))⟩
theorem grown_drew {w w' : World} {row : Option Nat} (h : w.drew.grownBy w' row) : w.grownBy w' row := ⟨h.os, h.tape, h.output, h.size, h.block⟩
/-- The row when what stands from a place on is shifted, and something is laid there. -/
theorem shift_row {α : Type} (A B Y Z : List α) (hZ : Y.length ≤ Z.length) :
    let L := A ++ B ++ Z
    let L1 := L.take (A.length + Y.length) ++ B ++ L.drop (A.length + Y.length + B.length)
    (L1.take A.length ++ Y ++ L1.drop (A.length + Y.length)) = A ++ Y ++ B ++ Z.drop Y.length := by
  intro L L1
  have e1 : L1.take A.length = A := by
    show ((A ++ B ++ Z).take (A.length + Y.length) ++ B ++ _).take A.length = A
    rw [List.append_assoc, List.take_append_of_le_length (by rw [List.length_take, List.length_append, List.length_append]; omega), List.take_take, Nat.min_eq_left (by omega), List.append_assoc, List.take_left]
  have e2 : L1.drop (A.length + Y.length) = B ++ Z.drop Y.length := by
    show ((A ++ B ++ Z).take (A.length + Y.length) ++ B ++ (A ++ B ++ Z).drop (A.length + Y.length + B.length)).drop (A.length + Y.length) = _
    have hl : ((A ++ B ++ Z).take (A.length + Y.length)).length = A.length + Y.length := by
      rw [List.length_take, List.length_append, List.length_append]
      omega
    rw [List.append_assoc]
    conv => lhs; arg 1; rw [← hl]
    rw [List.drop_left, show A.length + Y.length + B.length = (A ++ B).length + Y.length by simp [Nat.add_right_comm], List.drop_append]
    simp
  rw [e1, e2]
  simp
/-- The new row when there was no room. -/
theorem fresh_row {α : Type} (A B Y Z : List α) (hZ : Y.length + B.length ≤ Z.length) :
    let R1 := (A ++ Z).take A.length ++ Y ++ (A ++ Z).drop (A.length + Y.length)
    R1 = A ++ Y ++ Z.drop Y.length ∧ R1.take (A.length + Y.length) ++ B ++ R1.drop (A.length + Y.length + B.length) = A ++ Y ++ B ++ Z.drop (Y.length + B.length) := by
  intro R1
  have e1 : R1 = A ++ Y ++ Z.drop Y.length := by
    show (A ++ Z).take A.length ++ Y ++ (A ++ Z).drop (A.length + Y.length) = _
    rw [List.take_left, List.drop_append, List.drop_of_length_le (by omega), List.nil_append, Nat.add_sub_cancel_left]
  refine ⟨e1, ?_⟩
  have h2 : (A ++ Y).length = A.length + Y.length := List.length_append
  rw [e1, ← h2, List.take_left, List.drop_append, List.drop_of_length_le (by omega), List.nil_append, Nat.add_sub_cancel_left, List.drop_drop]
/-- A row of the call's own, opened. -/
theorem row_open {w : World} {B e sz g n C : Nat} {xs : List Value} (h : w.ownsRow B e sz (.slice (some ⟨g, 0, none⟩) n C) n xs) :
    ∃ (cur : Array Value) (Z : List Value), w.heap[g]? = some (.cells cur e (0, 0)) ∧ B ≤ g ∧ n ≤ C ∧ C ≤ maxLen ∧ cur.size = C * sz ∧ cur.toList = xs ++ Z := by
  rcases h.2 with ⟨hv, _⟩ | ⟨g', cap', cur, hv, hb, hg, hnc, hC, hs, ht⟩
  · cases hv
  · cases hv
    exact ⟨cur, cur.toList.drop (n * sz), hg, hb, hnc, hC, hs, by rw [← ht, List.take_append_drop]⟩
/-- The row behind. -/
theorem row_shut {w : World} {B e sz g C m : Nat} {q Z : List Value} {cur : Array Value} (hq : q.length = m * sz) (hg : w.heap[g]? = some (.cells cur e (0, 0))) (hb : B ≤ g) (hC : C ≤ maxLen) (hmC : m ≤ C) (hs : cur.size = C * sz) (h : cur.toList = q ++ Z) :
    w.ownsRow B e sz (.slice (some ⟨g, 0, none⟩) m C) m q :=
  ⟨hq, .inr ⟨g, C, cur, rfl, hb, hg, hmC, hC, hs, by rw [h, ← hq, List.take_left]⟩⟩
/-- 'append' as a step of a statement whose order is drawn, by its run. -/
theorem step_app_run {ops : Array Oper} {o : Oper} {a : Act} {w : World} {K : Act → World → Prop} {Q : Exit → Act → World → Prop} {E : Prop} (hgd : o.guard = none) (s x : Operand) (t : TypeId)
    (ho : o.op = .call { callee := .builtin .append, args := #[s, x], argTypes := #[t, t] }) (v u : Value) (hs : a.eval s = v) (hx : a.eval x = u) {v' : Value} {w' : World}
    (hr : (Builtin.append_ #[t, t] o.type #[v, u]).run Try.prog w = .ok v' w') (h : K (a.put o.dst v') w') : if Region.wanted o (yielded ops a.tmps) = true then Oper.wp Try.prog o a w K Q else E := by
  have hw : Region.wanted o (yielded ops a.tmps) = true := by simp [Region.wanted, hgd]
  rw [if_pos hw]
  unfold Oper.wp execOp
  simp only [ho, resolve, invoke, builtin, Sem.run_bind, Sem.run_pure, Result.andThen_ok, List.map_toArray, List.map_cons, List.map_nil, hs, hx, hr]
  exact h
end Go.Proofs.Ytdmkmhjalcfchaa
