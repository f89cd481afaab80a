/-
  Contracts: the schema of bytes, or that they are refused (6.4): of the program.
-/
import Derived.Test.YtndppffcladalaaDRd6
import Derived.Test.YtndppffcladalaaSGet
import Derived.Defers
import Derived.Recover
namespace Go.Proofs.Ytndppffcladalaa
open Go.RowKit Num
set_option linter.unusedVariables false

/-- The results' boxes as they are told when bytes are refused. -/
def Num.zeroed (w : World) (b c : Nat) : World := (((w.setCell ⟨b, 0, none⟩ (.int .i64 0)).setCell ⟨b, 1, none⟩ (.slice none 0 0)).setCell ⟨b, 2, none⟩ (.int .i64 0)).setCell ⟨c, 0, none⟩ (.int .i64 3)
theorem set3 {w : World} {b : Nat} {x0 x1 x2 : Value} (h : w.heap[b]? = some (.cells #[x0, x1, x2] 26 (0, 0))) (v0 v1 v2 : Value) :
    (w.setCell ⟨b, 0, none⟩ v0).heap[b]? = some (.cells #[v0, x1, x2] 26 (0, 0)) ∧ ((w.setCell ⟨b, 0, none⟩ v0).setCell ⟨b, 1, none⟩ v1).heap[b]? = some (.cells #[v0, v1, x2] 26 (0, 0)) ∧
    (((w.setCell ⟨b, 0, none⟩ v0).setCell ⟨b, 1, none⟩ v1).setCell ⟨b, 2, none⟩ v2).heap[b]? = some (.cells #[v0, v1, v2] 26 (0, 0)) := by
  have s1 : (w.setCell ⟨b, 0, none⟩ v0).heap[b]? = some (.cells #[v0, x1, x2] 26 (0, 0)) := (heap_setCell_same _ b 0 _ _ _ h).trans (by simp)
  have s2 : ((w.setCell ⟨b, 0, none⟩ v0).setCell ⟨b, 1, none⟩ v1).heap[b]? = some (.cells #[v0, v1, x2] 26 (0, 0)) := (heap_setCell_same _ b 1 _ _ _ s1).trans (by simp)
  exact ⟨s1, s2, (heap_setCell_same _ b 2 _ _ _ s2).trans (by simp)⟩
theorem set_far {w : World} {b c i : Nat} {o : Obj} (hne : c ≠ b) (h : w.heap[c]? = some o) (v : Value) : (w.setCell ⟨b, i, none⟩ v).heap[c]? = some o := by
  rw [Below.heap_setCell _ _ _ _ hne]
  exact h
/-- The deferred function of a frame that panics: it recovers, and tells that the bytes are refused. -/
theorem catchD_panicking (b c : Nat) (hne : c ≠ b) (u : TypeId) (pv x0 x1 x2 y0 : Value) (older : List PanicEntry) (w : World) (hb : w.heap[b]? = some (.cells #[x0, x1, x2] 26 (0, 0))) (hc : w.heap[c]? = some (.cells #[y0] 28 (0, 0))) :
    CallsD Try.prog 34 #[.pointer (some ⟨b, 0, none⟩), .pointer (some ⟨c, 0, none⟩)] (.panicking ({ v := .iface u pv, recovered := false } :: older)) w fun e u' w' =>
      e = .returned (.tuple #[]) ∧ u' = .panicking ({ v := .iface u pv, recovered := true } :: older) ∧ w' = zeroed w b c := by
  obtain ⟨s1, s2, s3⟩ := set3 hb (.int .i64 0) (.slice none 0 0) (.int .i64 0)
  have c0 := box_cell hb 0 _ rfl
  have f0 := box_open hb 0
  have c1 := box_cell s1 1 _ rfl
  have f1 := box_open s1 1
  have c2 := box_cell s2 2 _ rfl
  have f2 := box_open s2 2
  have t3 := set_far (i := 2) hne (set_far (i := 1) hne (set_far (i := 0) hne hc (.int .i64 0)) (.slice none 0 0)) (.int .i64 0)
  have c3 := box_cell t3 0 _ rfl
  have f3 := box_open t3 0
  refine callsD_of_wpS Try.func34 rfl fun c₀ cs hu => ?_
  apply wpS_seq
  apply wpS_region
  simp [wpOpsS, go_sem, recoverD, hu, Try.ntmps34, Exit.thenS]
  refine wpS_cond (t := true) (by simp [Act.eval, Array.replicate]) ?_
  simp only [if_true]
  apply wpS_region
  simp [wpOpsS, go_sem, c0, f0, c1, f1, c2, f2, c3, f3, bodyPostS, results, Try.results34, zeroed]
/-- Of a frame that returns. -/
theorem catchD_idle (p q : Addr) (w : World) :
    CallsD Try.prog 34 #[.pointer (some p), .pointer (some q)] .returning w fun e u' w' => e = .returned (.tuple #[]) ∧ u' = .returning ∧ w' = w := by
  refine callsD_of_wpS Try.func34 rfl fun c₀ cs hu => ?_
  apply wpS_seq
  apply wpS_region
  simp [wpOpsS, go_sem, recoverD, hu, Try.ntmps34, Exit.thenS]
  refine wpS_cond (t := false) (by simp [Act.eval, Array.replicate]) ?_
  simp only [Bool.false_eq_true, if_false]
  refine wpS_of_wp (wp_skip ?_)
  cases c₀
  simp_all [bodyPostS, results, Try.results34]
/-- Behind the deferred call of a frame that returns. -/
theorem doorD_ret {R : Ending → World → Prop} (b c : Nat) (tmps : Array Value) (h2 : tmps[2]? = some (.pointer (some ⟨b, 0, none⟩))) (h3 : tmps[3]? = some (.pointer (some ⟨c, 0, none⟩))) (W : World) (v0 v1 v2 E : Value)
    (hb : W.heap[b]? = some (.cells #[v0, v1, v2] 26 (0, 0))) (hc : W.heap[c]? = some (.cells #[E] 28 (0, 0))) (h : R (.returned (.tuple #[.agg #[v0, v1, v2], E])) W) :
    bodyPostD Try.prog Try.f18 R Exit.ret { tmps := tmps, defers := [{ target := Target.fn (Fn.func 34) #[.pointer (some ⟨b, 0, none⟩), .pointer (some ⟨c, 0, none⟩)], args := #[] }] } W := by
  have c0 := box_cell hb 0 _ rfl
  have c1 := box_cell hb 1 _ rfl
  have c2 := box_cell hb 2 _ rfl
  have c3 := box_cell hc 0 _ rfl
  refine leaves_cons (f := 34) (args := #[.pointer (some ⟨b, 0, none⟩), .pointer (some ⟨c, 0, none⟩)]) (by simp) (by simp [go_sem]) ?_
  refine (catchD_idle _ _ _).mono ?_
  rintro e u' w'' ⟨rfl, rfl, rfl⟩
  exact ⟨_, by simp [results, Try.f18, h2, h3, c0, c1, c2, c3, go_sem], h⟩
/-- Behind the deferred call of a frame that panics. -/
theorem doorD_panic {R : Ending → World → Prop} (b c : Nat) (hne : c ≠ b) (tmps : Array Value) (h2 : tmps[2]? = some (.pointer (some ⟨b, 0, none⟩))) (h3 : tmps[3]? = some (.pointer (some ⟨c, 0, none⟩))) (W : World) (u : TypeId) (pv x0 x1 x2 y0 : Value)
    (hb : W.heap[b]? = some (.cells #[x0, x1, x2] 26 (0, 0))) (hc : W.heap[c]? = some (.cells #[y0] 28 (0, 0)))
    (h : R (.returned (.tuple #[.agg #[.int .i64 0, .slice none 0 0, .int .i64 0], .int .i64 3])) (zeroed W b c)) :
    bodyPostD Try.prog Try.f18 R (Exit.panic [{ v := .iface u pv, recovered := false }]) { tmps := tmps, defers := [{ target := Target.fn (Fn.func 34) #[.pointer (some ⟨b, 0, none⟩), .pointer (some ⟨c, 0, none⟩)], args := #[] }] } W := by
  obtain ⟨s1, s2, s3⟩ := set3 hb (.int .i64 0) (.slice none 0 0) (.int .i64 0)
  have t3 := set_far (i := 2) hne (set_far (i := 1) hne (set_far (i := 0) hne hc (.int .i64 0)) (.slice none 0 0)) (.int .i64 0)
  have e3 : (zeroed W b c).heap[b]? = some (.cells #[.int .i64 0, .slice none 0 0, .int .i64 0] 26 (0, 0)) := set_far (fun e => hne e.symm) s3 _
  have e4 : (zeroed W b c).heap[c]? = some (.cells #[.int .i64 3] 28 (0, 0)) := (heap_setCell_same _ c 0 _ _ _ t3).trans (by simp)
  have c0 := box_cell e3 0 _ rfl
  have c1 := box_cell e3 1 _ rfl
  have c2 := box_cell e3 2 _ rfl
  have c3 := box_cell e4 0 _ rfl
  refine leaves_cons (f := 34) (args := #[.pointer (some ⟨b, 0, none⟩), .pointer (some ⟨c, 0, none⟩)]) (by simp) (by simp [go_sem]) ?_
  refine (catchD_panicking b c hne u pv x0 x1 x2 y0 [] _ hb hc).mono ?_
  rintro e u' w'' ⟨rfl, rfl, rfl⟩
  exact ⟨_, by simp [results, Try.f18, h2, h3, c0, c1, c2, c3, go_sem], h⟩
end Go.Proofs.Ytndppffcladalaa
