/-
  'append' of elements to a row of the call's own; slices.Clone at messages and at logs.
-/
import Derived.Test.YthnbaijkhhbelaaGreatMsMem
import Derived.Lib.SliceRun
import Derived.Lib.AppendZeros
namespace Go.Proofs.YthnbaijkhhbelaaGreat
open Go.RowKit Num
set_option linter.unusedVariables false
set_option maxRecDepth 100000

theorem Tryz.infoMs : (Tryz.prog.info? 89).map (fun i => (i.zero, i.size, i.bytes)) = some (some (.agg #[.int .i64 0, .int .i64 0, .int .i64 0, .int .i64 0, .int .i64 0, .int .i64 0, .int .i64 0, .slice none 0 0]), 8, 80) := by kernel_rfl
theorem Tryz.infoEn : (Tryz.prog.info? 78).map (fun i => (i.zero, i.size, i.bytes)) = some (some (.agg #[.int .i64 0, .string ⟨#[]⟩]), 2, 24) := by kernel_rfl
/-- What a slice holds, by its cells. -/
structure Num.Held (w : World) (bo : Option Addr) (n sz : Nat) (cs : List Value) : Prop where
  len : cs.length = n * sz
  one : ∀ u ∈ cs, u.oneCell' = true
  nil : bo = none → n = 0
  lie : ∀ a, bo = some a → ∀ j u, cs[j]? = some u → w.cell? (a.add j) = some u
theorem src_next {w w' : World} {bo : Option Addr} {n sz : Nat} {cs : List Value} (h : Held w bo n sz cs) (hb : Below w.heap.size w w') : Held w' bo n sz cs :=
  ⟨h.len, h.one, h.nil, fun a e j u hj => by
    have h1 := h.lie a e j u hj
    exact (hb.cell (cell_lt h1)).trans h1⟩
/-- 'append' to a row of the call's own. -/
theorem run_app_g {S E sz bytes : Nat} {z : Value} (hS : Tryz.prog.underlying S = some (.slice E)) (hinfo : (Tryz.prog.info? E).map (fun i => (i.zero, i.size, i.bytes)) = some (some z, sz, bytes)) (hz : 0 < sz ∧ bytes ≤ 1000 ∧ z.cells.size = sz)
    (w : World) (ty : TypeId) (base : Nat) (v : Value) (n : Nat) (xs : List Value) (hown : w.ownsRow base E sz v n xs) (bo : Option Addr) (k c : Nat) (cs : List Value) (hl : Held w bo k sz cs)
    (hlen : n + k ≤ 100000) (hbase : base ≤ w.heap.size) :
    ∃ v' w', (Builtin.append_ #[S, S] ty #[v, .slice bo k c]).run Tryz.prog w = .ok v' w' ∧ w'.ownsRow base E sz v' (n + k) (xs ++ cs) ∧ w.grownBy w' v.ownBlock ∧ Near w v v' := by
  obtain ⟨i0, hi, hz0, hz1, hz2⟩ := info_parts hinfo
  have hm : (n + k) * bytes ≤ 100000 * 1000 := Nat.mul_le_mul hlen hz.2.1
  cases bo with
  | none =>
    obtain rfl := hl.nil rfl
    have hcs : cs = [] := List.eq_nil_of_length_eq_zero (by have := hl.len; omega)
    subst hcs
    refine ⟨v, w, ?_, by simpa using hown, ⟨rfl, rfl, rfl, Nat.le_refl _, fun _ _ _ => rfl⟩, .inl rfl⟩
    rcases hown.2 with ⟨rfl, h0⟩ | ⟨g, cap, cur, rfl, _, _, hnc, _⟩
    · simp [Builtin.append_, run_underlying hS, sizeOf, typeInfo, hi, Builtin.lenOf, Builtin.firstCells]
    · simp [Builtin.append_, run_underlying hS, sizeOf, typeInfo, hi, Builtin.lenOf, Builtin.firstCells, hnc, storeCells]
  | some a =>
    obtain ⟨v', w', hr, h2, h3, _, h5⟩ := run_append_own_at (P := Tryz.prog) w base S ty E i0 _ sz bytes hS hi hz0 hz1 hz2 hz.2.2 hz.1 v _ _ hown a k c cs hl.len (hl.lie a rfl) hl.one (by unfold maxLen; omega) (by omega) hbase
    refine ⟨v', w', hr, h2, h3, ?_⟩
    rcases h5 with h5 | h5
    · exact .inl h5
    · exact .inr ⟨_, h5, Nat.le_refl _⟩
theorem wpList_app_g {S E sz bytes : Nat} {z : Value} (hS : Tryz.prog.underlying S = some (.slice E)) (hinfo : (Tryz.prog.info? E).map (fun i => (i.zero, i.size, i.bytes)) = some (some z, sz, bytes)) (hz : 0 < sz ∧ bytes ≤ 1000 ∧ z.cells.size = sz)
    {ops : Array Oper} {rest : List Oper} {o : Oper} {a : Act} {Q : Exit → Act → World → Prop} (w : World) (hgd : o.guard = none) (s x : Operand)
    (ho : o.op = .call { callee := .builtin .append, args := #[s, x], argTypes := #[S, S] }) (base : Nat) (v : Value) (n : Nat) (xs : List Value) (hs : a.eval s = v) (hown : w.ownsRow base E sz v n xs)
    (bo : Option Addr) (k c : Nat) (cs : List Value) (hx : a.eval x = .slice bo k c) (hl : Held w bo k sz cs) (hlen : n + k ≤ 100000) (hbase : base ≤ w.heap.size)
    (h : ∀ v' w', w'.ownsRow base E sz v' (n + k) (xs ++ cs) → w.grownBy w' v.ownBlock → Near w v v' → wpList Tryz.prog ops Q rest (a.put o.dst v') w') : wpList Tryz.prog ops Q (o :: rest) a w := by
  refine wpList_plain hgd fun K hK => ?_
  obtain ⟨v', w', hr, h2, h3, h4⟩ := run_app_g hS hinfo hz w o.type base v n xs hown bo k c cs hl hlen hbase
  unfold Oper.wp execOp
  simp only [ho, resolve, invoke, builtin, Sem.run_bind, Sem.run_pure, Result.andThen_ok, List.map_toArray, List.map_cons, List.map_nil, hs, hx, hr]
  exact hK _ _ (h v' w' h2 h3 h4)
/-- An empty row that is made. -/
theorem own_made0 (w : World) (E sz : Nat) : (w.alloc (.cells #[] E)).ownsRow w.heap.size E sz (.slice (some ⟨w.heap.size, 0, none⟩) 0 0) 0 [] := World.ownsRow_made w #[] 0 (Nat.le_refl _) (Nat.zero_le _) (by simp)
theorem below_made {w w1 : World} {o : Obj} {n c : Nat} (h : (w.alloc o).grownBy w1 (Value.slice (some ⟨w.heap.size, 0, none⟩) n c).ownBlock) : Below w.heap.size w w1 :=
  ((Below.refl _ w).alloc (Nat.le_refl _) _).grown h (by simp) (by intro j hj; simp [Value.ownBlock] at hj; omega)
theorem own_form {w : World} {B E sz n : Nat} {v : Value} {xs : List Value} (h : w.ownsRow B E sz v n xs) : ∃ ao cap, v = .slice ao n cap := by
  rcases h.2 with ⟨hv, h0⟩ | ⟨g, cap, cur, hv, _⟩
  · exact ⟨none, 0, by rw [hv, h0]⟩
  · exact ⟨_, cap, hv⟩
theorem own_src {w : World} {B E sz n : Nat} {ao : Option Addr} {cap : Nat} {xs : List Value} (h : w.ownsRow B E sz (.slice ao n cap) n xs) (h1 : ∀ u ∈ xs, u.oneCell' = true) : Held w ao n sz xs := by
  refine ⟨h.1, h1, fun e => ?_, fun a e => ?_⟩
  · rcases h.2 with ⟨_, h0⟩ | ⟨g, cap', cur, hv, _⟩
    · exact h0
    · subst e
      cases hv
  · rcases h.2 with ⟨hv, h0⟩ | ⟨g, cap', cur, hv, _⟩
    · subst e
      cases hv
    · cases hv
      cases e
      exact h.cells (g := g) rfl

theorem cloneM_any (bo : Option Addr) (n c : Nat) (cs : List Value) (hlen : n ≤ 10000) (w : World) (hl : Held w bo n 8 cs) :
    Calls Tryz.prog 101 #[.slice bo n c] w fun e w' => ∃ ao1 cap1, e = .returned (.slice ao1 n cap1) ∧ w'.ownsRow w.heap.size 89 8 (.slice ao1 n cap1) n cs ∧ Below w.heap.size w w' := by
  have q22 : ∀ (w : World) (a : Option Addr) (n c n' c' : Nat), (binOp .eql 63 (.slice a n c) (.slice none n' c')).run Tryz.prog w = .ok (.bool a.isNone) w := fun w a n c n' c' => Lib.run_eql_slice_nil w _ _ a n c n' c' Tryz.underlying63
  cases bo with
  | none =>
    obtain rfl := hl.nil rfl
    have hcs : cs = [] := List.eq_nil_of_length_eq_zero (by have := hl.len; omega)
    subst hcs
    go_enter Tryz.func101, Tryz.ntmps101
    go_wp2
    go_ret
    exact ⟨_, _, rfl, World.ownsRow_nil _ _ _ _, Below.refl _ _⟩
  | some a =>
    go_enter Tryz.func101, Tryz.ntmps101
    go_wp2_with (first
      | (at_builtin; refine wpList_app_g Tryz.underlying63 Tryz.infoMs (by decide) _ rfl _ _ rfl w.heap.size (.slice (some ⟨w.heap.size, 0, none⟩) 0 0) 0 [] rfl (own_made0 w _ _) (some a) n c cs rfl (src_next hl ((Below.refl _ w).alloc (Nat.le_refl _) _)) (by omega) (by simp) ?_; intro v1 w1 hown1 hgrow1 hnear1))
    rw [List.nil_append, Nat.zero_add] at hown1
    obtain ⟨ao1, cap1, rfl⟩ := own_form hown1
    go_ret
    exact ⟨_, _, rfl, hown1, below_made hgrow1⟩
theorem cloneE_any (bo : Option Addr) (n c : Nat) (cs : List Value) (hlen : n ≤ 10000) (w : World) (hl : Held w bo n 2 cs) :
    Calls Tryz.prog 72 #[.slice bo n c] w fun e w' => ∃ ao1 cap1, e = .returned (.slice ao1 n cap1) ∧ w'.ownsRow w.heap.size 78 2 (.slice ao1 n cap1) n cs ∧ Below w.heap.size w w' := by
  have q22 : ∀ (w : World) (a : Option Addr) (n c n' c' : Nat), (binOp .eql 44 (.slice a n c) (.slice none n' c')).run Tryz.prog w = .ok (.bool a.isNone) w := fun w a n c n' c' => Lib.run_eql_slice_nil w _ _ a n c n' c' Tryz.underlying44
  cases bo with
  | none =>
    obtain rfl := hl.nil rfl
    have hcs : cs = [] := List.eq_nil_of_length_eq_zero (by have := hl.len; omega)
    subst hcs
    go_enter Tryz.func72, Tryz.ntmps72
    go_wp2
    go_ret
    exact ⟨_, _, rfl, World.ownsRow_nil _ _ _ _, Below.refl _ _⟩
  | some a =>
    go_enter Tryz.func72, Tryz.ntmps72
    go_wp2_with (first
      | (at_builtin; refine wpList_app_g Tryz.underlying44 Tryz.infoEn (by decide) _ rfl _ _ rfl w.heap.size (.slice (some ⟨w.heap.size, 0, none⟩) 0 0) 0 [] rfl (own_made0 w _ _) (some a) n c cs rfl (src_next hl ((Below.refl _ w).alloc (Nat.le_refl _) _)) (by omega) (by simp) ?_; intro v1 w1 hown1 hgrow1 hnear1))
    rw [List.nil_append, Nat.zero_add] at hown1
    obtain ⟨ao1, cap1, rfl⟩ := own_form hown1
    go_ret
    exact ⟨_, _, rfl, hown1, below_made hgrow1⟩
theorem liesE_src {w : World} {B : Nat} {ao : Option Addr} {l : List Ent} (h : LiesE w B ao l) : Held w ao l.length 2 (enCells l) :=
  ⟨enCells_len l, enCells_one l, fun e => by subst e; rw [liesE_none h]; rfl, fun a e => by subst e; exact liesE_cells h⟩
/-- The cells of messages that lie there, nil or not. -/
theorem liesM_src {w : World} {B : Nat} {ao : Option Addr} {l : Msgs} (h : LiesM w B ao l) : ∃ css : List (List Value), css.length = l.length ∧ (∀ cs ∈ css, cs.length = 8 ∧ ∀ u ∈ cs, u.oneCell' = true) ∧ Held w ao l.length 8 css.flatten ∧ ∀ (i : Nat) cs x, css[i]? = some cs → l[i]? = some x → MsV B w cs x := by
  cases ao with
  | none =>
    obtain rfl := liesM_none h
    exact ⟨[], rfl, by simp, ⟨rfl, by simp, fun _ => rfl, fun a e => (by cases e)⟩, by simp⟩
  | some a =>
    obtain ⟨css, h1, h2, h3, h4⟩ := liesM_cells h
    exact ⟨css, h1, h2, ⟨by rw [flat_len css fun cs hcs => (h2 cs hcs).1, h1], flat_one' h2, fun e => (by cases e), fun a' e => (by cases e; exact h3)⟩, h4⟩
end Go.Proofs.YthnbaijkhhbelaaGreat
