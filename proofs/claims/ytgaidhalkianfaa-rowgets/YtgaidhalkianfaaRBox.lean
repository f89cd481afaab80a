/-
  A cell's box; appends to bytes of the call's own, and what has grown.
-/
import Derived.Test.YtgaidhalkianfaaRCel
import Derived.Test.YtgaidhalkianfaaVRef
import Derived.RangeFuncBox
namespace Go.Proofs.Ytgaidhalkianfaa
open Go.RowKit Num
set_option linter.unusedVariables false

/-- A cell's box. -/
def Num.Boxed5 (W : World) (B : Nat) (y : Cel) : Prop := W.heap[B]? = some (.cells #[.int .i64 y.c, .int .i64 y.x.k, .int .i64 y.x.n, .int .u64 (y.x.f : Int), .string y.x.s] 41 (0, 0))
theorem Num.Boxed5.lt {W : World} {B : Nat} {y : Cel} (h : Boxed5 W B y) : B < W.heap.size := (Array.getElem?_eq_some_iff.1 h).1
theorem Num.Boxed5.new (W : World) (y : Cel) : Boxed5 (W.alloc (.cells #[.int .i64 y.c, .int .i64 y.x.k, .int .i64 y.x.n, .int .u64 (y.x.f : Int), .string y.x.s] 41)) W.heap.size y := World.alloc_heap_new W _
theorem Num.Boxed5.cells {W : World} {B : Nat} {y : Cel} (h : Boxed5 W B y) : W.cell? ⟨B, 0, none⟩ = some (.int .i64 y.c) ∧ W.cell? ⟨B, 1, none⟩ = some (.int .i64 y.x.k) ∧ W.cell? ⟨B, 2, none⟩ = some (.int .i64 y.x.n) ∧ W.cell? ⟨B, 3, none⟩ = some (.int .u64 (y.x.f : Int)) ∧ W.cell? ⟨B, 4, none⟩ = some (.string y.x.s) := by
  refine ⟨?_, ?_, ?_, ?_, ?_⟩ <;> simp [World.cell?, show W.heap[B]? = _ from h]
theorem Num.Boxed5.kept {W W' : World} {row : Option Nat} {B : Nat} {y : Cel} (h : Boxed5 W B y) (hg : W.grownBy W' row) (hne : some B ≠ row) : Boxed5 W' B y := (hg.block B h.lt hne).trans h
theorem Num.Boxed5.alloc {W : World} {B : Nat} {y : Cel} (h : Boxed5 W B y) (o : Obj) : Boxed5 (W.alloc o) B y := h.kept (World.grownBy_alloc W o none) (by simp)
theorem Num.Boxed5.below {W W' : World} {B : Nat} {y : Cel} (h : Boxed5 W B y) (hb : Below W.heap.size W W') : Boxed5 W' B y := (hb.block B h.lt).trans h
theorem Num.Boxed5.not_row {W : World} {B : Nat} {y : Cel} (h : Boxed5 W B y) {e base size k : Nat} {v : Value} {xs : List Value} (hte : 41 ≠ e) (hr : W.ownsRow base e size v k xs) : some B ≠ v.ownBlock := by
  rcases hr.2 with ⟨rfl, _⟩ | ⟨g, cap, cur, rfl, _, hgb, _⟩
  · simp [Value.ownBlock]
  · intro e'
    obtain rfl : B = g := by simpa [Value.ownBlock] using e'
    have := (show W.heap[B]? = _ from h).symm.trans hgb
    simp at this
    exact hte this.2
/-- 'append' of bytes to a slice of the call's own: and what has grown. -/
theorem wpList_appG {ops : Array Oper} {rest : List Oper} {o : Oper} {a : Act} {Q : Exit → Act → World → Prop} (w : World) (hgd : o.guard = none) (s x : Operand)
    (ho : o.op = .call { callee := .builtin .append, args := #[s, x], argTypes := #[53, 53] })
    (base : Nat) (v : Value) (n : Nat) (l : List UInt8) (hs : a.eval s = v) (hown : w.ownsRow base 5 1 v n (cellsOf l))
    (ad : Addr) (m c : Nat) (news : List UInt8) (hx : a.eval x = .slice (some ad) m c) (hl : news.length = m) (hnews : ∀ j u, (cellsOf news)[j]? = some u → w.cell? (ad.add j) = some u)
    (hb : n + m ≤ 1000000) (hbase : base ≤ w.heap.size)
    (h : ∀ v' w', w'.ownsRow base 5 1 v' (n + m) (cellsOf (l ++ news)) → Below base w w' → w.grownBy w' v.ownBlock → wpList Try.prog ops Q rest (a.put o.dst v') w') : wpList Try.prog ops Q (o :: rest) a w := by
  obtain ⟨i0, hi, hz0, hz1, hz2⟩ := info_parts Try.infoU8
  refine wpList_append_own w hgd s x 53 ho base 5 i0 (.int .u8 0) 1 1 Try.underlying53 hi hz0 hz1 hz2 rfl (by decide) v n (cellsOf l) hs hown ad m c (cellsOf news) hx (by simp [cellsOf, hl]) hnews ?_ (by unfold maxLen; omega) (by omega) hbase ?_
  · intro u hu
    simp only [cellsOf, List.mem_map] at hu
    obtain ⟨b, _, rfl⟩ := hu
    rfl
  · intro v' w' hown' hgrow _
    have e : cellsOf l ++ cellsOf news = cellsOf (l ++ news) := by simp [cellsOf]
    rw [e] at hown'
    exact h v' w' hown' (Below.grown (Below.refl base w) hgrow hbase (fun k hk => (hown.lt k hk).1)) hgrow
theorem wpList_appsG {ops : Array Oper} {rest : List Oper} {o : Oper} {a : Act} {Q : Exit → Act → World → Prop} (w : World) (hgd : o.guard = none) (s x : Operand)
    (ho : o.op = .call { callee := .builtin .append, args := #[s, x], argTypes := #[53, 9] })
    (base : Nat) (v : Value) (n : Nat) (l : List UInt8) (hs : a.eval s = v) (hown : w.ownsRow base 5 1 v n (cellsOf l))
    (news : List UInt8) (hx : a.eval x = .string (str news))
    (hb : n + news.length ≤ 1000000) (hbase : base ≤ w.heap.size)
    (h : ∀ v' w', w'.ownsRow base 5 1 v' (n + news.length) (cellsOf (l ++ news)) → Below base w w' → w.grownBy w' v.ownBlock → wpList Try.prog ops Q rest (a.put o.dst v') w') : wpList Try.prog ops Q (o :: rest) a w := by
  obtain ⟨i0, hi, hz0, hz1, hz2⟩ := info_parts Try.infoU8
  have hsz : (str news).size = news.length := rfl
  refine Go.Lib.wpList_append_own_string w hgd s x 53 9 ho base 5 i0 Try.underlying53 Try.underlying9 hi hz0 hz1 hz2 v n (cellsOf l) hs hown (str news) hx (by rw [hsz]; unfold maxLen; omega) (by rw [hsz]; omega) hbase ?_
  intro v' w' hown' hgrow _
  have e : cellsOf l ++ Go.Lib.strCells (str news) = cellsOf (l ++ news) := by simp [cellsOf, Go.Lib.strCells, str]
  rw [e, hsz] at hown'
  exact h v' w' hown' (Below.grown (Below.refl base w) hgrow hbase (fun k hk => (hown.lt k hk).1)) hgrow
theorem hi_int (c : Nat) (h : ¬ 65535 < (c : Int)) : (c : Int) / 256 = ((byteAt c 1).toNat : Int) := by
  have := byte_int c 1
  simp at this
  omega
theorem lo_int (c : Nat) : (c : Int) % 256 = ((byteAt c 0).toNat : Int) := by
  have := byte_int c 0
  simpa using this
/-- What lies in a new block of a column's two bytes. -/
theorem put_cat {c : Nat} {x : Val} {A T : List UInt8} (hT : x.put = T) : A ++ [byteAt c 1, byteAt c 0] ++ T = A ++ Cel.put ⟨(c : Int), x⟩ := by
  subst hT
  rw [List.append_assoc]
  rfl

end Go.Proofs.Ytgaidhalkianfaa
