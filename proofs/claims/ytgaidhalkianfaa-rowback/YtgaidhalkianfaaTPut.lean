/-
  Contracts: the bytes of a tuple, or that it is refused.
-/
import Derived.Test.YtgaidhalkianfaaVPut
import Derived.Test.YtgaidhalkianfaaTValM
import Derived.Lib.AppendStr
namespace Go.Proofs.Ytgaidhalkianfaa
open Go.RowKit Num
set_option linter.unusedVariables false

/-- Values lie in memory, from an address on, in blocks below B. -/
def Num.Lies (w : World) (B : Nat) (ao : Option Addr) (l : List Val) : Prop := ∀ i x, l[i]? = some x → ∃ a, ao = some a ∧ a.block < B ∧
  w.cell? (a.add (i * 4)) = some (.int .i64 x.k) ∧ w.cell? ⟨(a.add (i * 4)).block, (a.add (i * 4)).off + 1, none⟩ = some (.int .i64 x.n) ∧ w.cell? ⟨(a.add (i * 4)).block, (a.add (i * 4)).off + 2, none⟩ = some (.int .u64 (x.f : Int)) ∧ w.cell? ⟨(a.add (i * 4)).block, (a.add (i * 4)).off + 3, none⟩ = some (.string x.s)
theorem Addr.block_add (a : Addr) (i : Nat) : (a.add i).block = a.block := by
  unfold Addr.add
  split <;> rfl
theorem Num.Lies.below {w w' : World} {B : Nat} {ao : Option Addr} {l : List Val} (h : Lies w B ao l) (hb : Below B w w') : Lies w' B ao l := by
  intro i x hx
  obtain ⟨a, e, ha, h0, h1, h2, h3⟩ := h i x hx
  exact ⟨a, e, ha, by rw [hb.cell (by simp only [Addr.block_add]; exact ha)]; exact h0, by rw [hb.cell (by simp only [Addr.block_add]; exact ha)]; exact h1, by rw [hb.cell (by simp only [Addr.block_add]; exact ha)]; exact h2, by rw [hb.cell (by simp only [Addr.block_add]; exact ha)]; exact h3⟩

theorem Num.Lies.mono {w : World} {B B' : Nat} {ao : Option Addr} {l : List Val} (h : Lies w B ao l) (hB : B ≤ B') : Lies w B' ao l := by
  intro i x hx
  obtain ⟨a, e, ha, h4⟩ := h i x hx
  exact ⟨a, e, Nat.lt_of_lt_of_le ha hB, h4⟩
theorem lies_next {w w' : World} {ao : Option Addr} {l : List Val} (h : Lies w w.heap.size ao l) (hb : Below w.heap.size w w') : Lies w' w'.heap.size ao l := (h.below hb).mono hb.size

/-- 'append(b, s...)' of a text to a slice of the call's own. -/
theorem wpList_apps {ops : Array Oper} {rest : List Oper} {o : Oper} {a : Act} {Q : Exit → Act → World → Prop} (w : World) (hgd : o.guard = none) (s x : Operand)
    (ho : o.op = .call { callee := .builtin .append, args := #[s, x], argTypes := #[53, 9] })
    (base : Nat) (v : Value) (n : Nat) (l : List UInt8) (hs : a.eval s = v) (hown : w.ownsRow base 5 1 v n (cellsOf l))
    (news : List UInt8) (hx : a.eval x = .string (str news))
    (hb : n + news.length ≤ 1000000) (hbase : base ≤ w.heap.size)
    (h : ∀ v' w', w'.ownsRow base 5 1 v' (n + news.length) (cellsOf (l ++ news)) → Below base w w' → wpList Try.prog ops Q rest (a.put o.dst v') w') : wpList Try.prog ops Q (o :: rest) a w := by
  obtain ⟨i0, hi, hz0, hz1, hz2⟩ := info_parts Try.infoU8
  have hsz : (str news).size = news.length := rfl
  refine Go.Lib.wpList_append_own_string w hgd s x 53 9 ho base 5 i0 Try.underlying53 Try.underlying9 hi hz0 hz1 hz2 v n (cellsOf l) hs hown (str news) hx (by rw [hsz]; unfold maxLen; omega) (by rw [hsz]; omega) hbase ?_
  intro v' w' hown' hgrow _
  have e : cellsOf l ++ Go.Lib.strCells (str news) = cellsOf (l ++ news) := by simp [cellsOf, Go.Lib.strCells, str]
  rw [e, hsz] at hown'
  exact h v' w' hown' (Below.grown (Below.refl base w) hgrow hbase (fun k hk => (hown.lt k hk).1))

theorem own_below {w w' : World} {B e size n : Nat} {v : Value} {xs : List Value} (h : w.ownsRow B e size v n xs) (hb : Below w.heap.size w w') : w'.ownsRow B e size v n xs :=
  h.kept (row := none) ⟨hb.os, hb.tape, hb.output, hb.size, fun k hk _ => hb.block k hk⟩ (by cases v.ownBlock <;> simp)
theorem put_may (x : Val) (hx : x.ok) (hm : x.may = true) (w : World) :
    Calls Try.prog 24 #[.agg #[.int .i64 x.k, .int .i64 x.n, .int .u64 (x.f : Int), .string x.s]] w fun e w' => e = .returned (.tuple #[.string (str x.put), .int .i64 0]) ∧ Below w.heap.size w w' := by
  have h := put_any x.k x.n hx.1 x.f hx.2 x.s w
  rw [show putT x.k x.n x.f x.s = x.put from if_pos hm, show putE x.k x.n x.f x.s = 0 from if_pos hm] at h
  exact h
theorem put_not (x : Val) (hx : x.ok) (hm : x.may = false) (w : World) :
    Calls Try.prog 24 #[.agg #[.int .i64 x.k, .int .i64 x.n, .int .u64 (x.f : Int), .string x.s]] w fun e w' => e = .returned (.tuple #[.string (str []), .int .i64 1]) ∧ Below w.heap.size w w' := by
  have h := put_any x.k x.n hx.1 x.f hx.2 x.s w
  have hm' : may x.k x.n x.f x.s = false := hm
  rw [show putT x.k x.n x.f x.s = [] by simp [putT, hm'], show putE x.k x.n x.f x.s = 1 by simp [putE, hm']] at h
  exact h
theorem tup_long {l : List Val} (h16 : 16 < l.length) : tupT l = [] ∧ tupE l = 2 := ⟨by simp [tupT, h16], by simp [tupE, h16]⟩
theorem tup_bad {l : List Val} (h16 : ¬ 16 < l.length) (h : mayAll l = false) : tupT l = [] ∧ tupE l = 1 := ⟨by simp [tupT, h16, h], by simp [tupE, h16, h]⟩
theorem tup_ok {l : List Val} (h16 : ¬ 16 < l.length) (h : mayAll l = true) : tupT l = putAll l ∧ tupE l = 0 := ⟨by simp [tupT, h16, h], by simp [tupE, h16, h]⟩

end Go.Proofs.Ytgaidhalkianfaa
