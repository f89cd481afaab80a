/-
  Contracts: the face of package sql's Parse. (Written by mksqi.py.)
-/
import Derived.Test.YtiajlhjjmlakmaaGreatDoorSqH
namespace Go.Proofs.YtiajlhjjmlakmaaGreatDoor
open Go.RowKit Num
set_option linter.unusedSimpArgs false
set_option linter.unusedVariables false
set_option linter.unusedVariables false
set_option maxRecDepth 100000

/-- What is told where a reader gives up. -/
def Num.toldQ (W : World) (b : Nat) (p : Int) : World := ((setsW W b 0 [.int .i64 0, .string ⟨#[]⟩, .string ⟨#[]⟩, .slice none 0 0, .slice none 0 0, .slice none 0 0, .slice none 0 0, .bool false, .int .i64 0, .slice none 0 0]).setCell ⟨b + 1, 0, none⟩ (.int .i64 p)).setCell ⟨b + 1 + 1, 0, none⟩ (.int .i64 3)
abbrev Num.defQ (pb b : Nat) : List Deferred := [{ target := Target.fn (Fn.func 10) #[.pointer (some ⟨pb, 0, none⟩), .pointer (some ⟨b, 0, none⟩), .pointer (some ⟨b + 1, 0, none⟩), .pointer (some ⟨b + 1 + 1, 0, none⟩)], args := #[] }]
set_option maxHeartbeats 2000000 in
theorem catchQ_panicking {g : Nat} {v : Value} {l : List Tok} {i : Nat} {x : Tok} (hx : l[i]? = some x) (pb b : Nat) (w : World) (hP : PAt g v l i w) (hpb : Bx w pb 41 #[.pointer (some ⟨g, 0, none⟩)]) (v0 v1 v2 v3 v4 v5 v6 v7 v8 v9 y3 y4 : Value) (h2 : Bx w b 28 #[v0, v1, v2, v3, v4, v5, v6, v7, v8, v9]) (h3 : Bx w (b + 1) 3 #[y3]) (h4 : Bx w (b + 1 + 1) 29 #[y4]) (u : TypeId) (pv : Value) (older : List PanicEntry) :
    CallsD Tryz.prog 10 #[.pointer (some ⟨pb, 0, none⟩), .pointer (some ⟨b, 0, none⟩), .pointer (some ⟨b + 1, 0, none⟩), .pointer (some ⟨b + 1 + 1, 0, none⟩)] (.panicking ({ v := .iface u pv, recovered := false } :: older)) w fun e u' w' =>
      e = .returned (.tuple #[]) ∧ u' = .panicking ({ v := .iface u pv, recovered := true } :: older) ∧ ∃ w1, Below w.heap.size w w1 ∧ w' = toldQ w1 b x.p := by
  have hn := next_any hx w hP
  have hf := tok_f3
  have cp : w.cell? ⟨pb, 0, none⟩ = some (.pointer (some ⟨g, 0, none⟩)) := hpb.cell 0 _ rfl
  obtain ⟨kk, tt, vv, pp⟩ := x
  simp only at hn
  refine callsD_of_wpS Tryz.func10 rfl fun c₀ cs hu => ?_
  apply wpS_seq
  apply wpS_region
  simp [wpOpsS, go_sem, recoverD, hu, Tryz.ntmps10, Exit.thenS]
  refine wpS_cond (t := true) (by simp [Act.eval, Array.replicate]) ?_
  simp only [if_true]
  refine wpS_of_wp ?_
  go_wp2_with (first
    | (go_at_call 11; refine hn.mono ?_; rintro e w1 ⟨rfl, hb1⟩
       have h2' : Bx w1 b 28 #[v0, v1, v2, v3, v4, v5, v6, v7, v8, v9] := heap_next h2 hb1
       have h3' : Bx w1 (b + 1) 3 #[y3] := heap_next h3 hb1
       have h4' : Bx w1 (b + 1 + 1) 29 #[y4] := heap_next h4 hb1
       have c0 : w1.cell? ⟨b, 0, none⟩ = some v0 := h2'.cell 0 _ rfl
       have f0 := h2'.open 0
       have c1 : w1.cell? ⟨b, 1, none⟩ = some v1 := h2'.cell 1 _ rfl
       have f1 := h2'.open 1
       have c2 : w1.cell? ⟨b, 2, none⟩ = some v2 := h2'.cell 2 _ rfl
       have f2 := h2'.open 2
       have c3 : w1.cell? ⟨b, 3, none⟩ = some v3 := h2'.cell 3 _ rfl
       have f3 := h2'.open 3
       have c4 : w1.cell? ⟨b, 4, none⟩ = some v4 := h2'.cell 4 _ rfl
       have f4 := h2'.open 4
       have c5 : w1.cell? ⟨b, 5, none⟩ = some v5 := h2'.cell 5 _ rfl
       have f5 := h2'.open 5
       have c6 : w1.cell? ⟨b, 6, none⟩ = some v6 := h2'.cell 6 _ rfl
       have f6 := h2'.open 6
       have c7 : w1.cell? ⟨b, 7, none⟩ = some v7 := h2'.cell 7 _ rfl
       have f7 := h2'.open 7
       have c8 : w1.cell? ⟨b, 8, none⟩ = some v8 := h2'.cell 8 _ rfl
       have f8 := h2'.open 8
       have c9 : w1.cell? ⟨b, 9, none⟩ = some v9 := h2'.cell 9 _ rfl
       have f9 := h2'.open 9
       have d3 : w1.cell? ⟨b + 1, 0, none⟩ = some y3 := h3'.cell 0 _ rfl
       have g3 := h3'.open 0
       have d4 : w1.cell? ⟨b + 1 + 1, 0, none⟩ = some y4 := h4'.cell 0 _ rfl
       have g4 := h4'.open 0))
  cases c₀
  simp only [bodyPostS, results, Tryz.results10] at *
  refine ⟨trivial, _, rfl, .tuple #[], by simp [go_sem], rfl, rfl, w1, hb1, rfl⟩
theorem catchQ_idle (pb b : Nat) (w : World) :
    CallsD Tryz.prog 10 #[.pointer (some ⟨pb, 0, none⟩), .pointer (some ⟨b, 0, none⟩), .pointer (some ⟨b + 1, 0, none⟩), .pointer (some ⟨b + 1 + 1, 0, none⟩)] .returning w fun e u' w' => e = .returned (.tuple #[]) ∧ u' = .returning ∧ w' = w := by
  refine callsD_of_wpS Tryz.func10 rfl fun c₀ cs hu => ?_
  apply wpS_seq
  apply wpS_region
  simp [wpOpsS, go_sem, recoverD, hu, Tryz.ntmps10, Exit.thenS]
  refine wpS_cond (t := false) (by simp [Act.eval, Array.replicate]) ?_
  simp only [Bool.false_eq_true, if_false]
  refine wpS_of_wp (wp_skip ?_)
  cases c₀
  simp_all [bodyPostS, results, Tryz.results10]
/-- Behind the deferred call of a frame that returns. -/
theorem doorQ_ret {R : Ending → World → Prop} (pb b : Nat) (tmps : Array Value) (h2 : tmps[2]? = some (.pointer (some ⟨b, 0, none⟩))) (h3 : tmps[3]? = some (.pointer (some ⟨b + 1, 0, none⟩))) (h4 : tmps[4]? = some (.pointer (some ⟨b + 1 + 1, 0, none⟩))) (W : World) (v0 v1 v2 v3 v4 v5 v6 v7 v8 v9 y3 y4 : Value)
    (k2 : Bx W b 28 #[v0, v1, v2, v3, v4, v5, v6, v7, v8, v9]) (k3 : Bx W (b + 1) 3 #[y3]) (k4 : Bx W (b + 1 + 1) 29 #[y4]) (h : R (.returned (.tuple #[.agg #[v0, v1, v2, v3, v4, v5, v6, v7, v8, v9], y3, y4])) W) :
    bodyPostD Tryz.prog Tryz.f4 R Exit.ret { tmps := tmps, defers := defQ pb b } W := by
  have c0 : W.cell? ⟨b, 0, none⟩ = some v0 := k2.cell 0 _ rfl
  have c1 : W.cell? ⟨b, 1, none⟩ = some v1 := k2.cell 1 _ rfl
  have c2 : W.cell? ⟨b, 2, none⟩ = some v2 := k2.cell 2 _ rfl
  have c3 : W.cell? ⟨b, 3, none⟩ = some v3 := k2.cell 3 _ rfl
  have c4 : W.cell? ⟨b, 4, none⟩ = some v4 := k2.cell 4 _ rfl
  have c5 : W.cell? ⟨b, 5, none⟩ = some v5 := k2.cell 5 _ rfl
  have c6 : W.cell? ⟨b, 6, none⟩ = some v6 := k2.cell 6 _ rfl
  have c7 : W.cell? ⟨b, 7, none⟩ = some v7 := k2.cell 7 _ rfl
  have c8 : W.cell? ⟨b, 8, none⟩ = some v8 := k2.cell 8 _ rfl
  have c9 : W.cell? ⟨b, 9, none⟩ = some v9 := k2.cell 9 _ rfl
  have d3 : W.cell? ⟨b + 1, 0, none⟩ = some y3 := k3.cell 0 _ rfl
  have d4 : W.cell? ⟨b + 1 + 1, 0, none⟩ = some y4 := k4.cell 0 _ rfl
  refine leaves_cons (f := 10) (args := #[.pointer (some ⟨pb, 0, none⟩), .pointer (some ⟨b, 0, none⟩), .pointer (some ⟨b + 1, 0, none⟩), .pointer (some ⟨b + 1 + 1, 0, none⟩)]) (by simp) (by simp [go_sem]) ?_
  refine (catchQ_idle _ _ _).mono ?_
  rintro e u' w'' ⟨rfl, rfl, rfl⟩
  exact ⟨_, by simp [results, Tryz.f4, h2, h3, h4, c0, c1, c2, c3, c4, c5, c6, c7, c8, c9, d3, d4, go_sem], h⟩
theorem told_boxes {W : World} {b : Nat} {v0 v1 v2 v3 v4 v5 v6 v7 v8 v9 y3 y4 : Value} (k2 : Bx W b 28 #[v0, v1, v2, v3, v4, v5, v6, v7, v8, v9]) (k3 : Bx W (b + 1) 3 #[y3]) (k4 : Bx W (b + 1 + 1) 29 #[y4]) (p : Int) :
    Bx (toldQ W b p) b 28 #[.int .i64 0, .string ⟨#[]⟩, .string ⟨#[]⟩, .slice none 0 0, .slice none 0 0, .slice none 0 0, .slice none 0 0, .bool false, .int .i64 0, .slice none 0 0] ∧ Bx (toldQ W b p) (b + 1) 3 #[.int .i64 p] ∧ Bx (toldQ W b p) (b + 1 + 1) 29 #[.int .i64 3] := by
  have a0 : Bx (W.setCell ⟨b, 0, none⟩ (.int .i64 0)) b 28 #[.int .i64 0, v1, v2, v3, v4, v5, v6, v7, v8, v9] := Bx.set k2 0 (.int .i64 0)
  have a1 : Bx ((W.setCell ⟨b, 0, none⟩ (.int .i64 0)).setCell ⟨b, 1, none⟩ (.string ⟨#[]⟩)) b 28 #[.int .i64 0, .string ⟨#[]⟩, v2, v3, v4, v5, v6, v7, v8, v9] := Bx.set a0 1 (.string ⟨#[]⟩)
  have a2 : Bx (((W.setCell ⟨b, 0, none⟩ (.int .i64 0)).setCell ⟨b, 1, none⟩ (.string ⟨#[]⟩)).setCell ⟨b, 2, none⟩ (.string ⟨#[]⟩)) b 28 #[.int .i64 0, .string ⟨#[]⟩, .string ⟨#[]⟩, v3, v4, v5, v6, v7, v8, v9] := Bx.set a1 2 (.string ⟨#[]⟩)
  have a3 : Bx ((((W.setCell ⟨b, 0, none⟩ (.int .i64 0)).setCell ⟨b, 1, none⟩ (.string ⟨#[]⟩)).setCell ⟨b, 2, none⟩ (.string ⟨#[]⟩)).setCell ⟨b, 3, none⟩ (.slice none 0 0)) b 28 #[.int .i64 0, .string ⟨#[]⟩, .string ⟨#[]⟩, .slice none 0 0, v4, v5, v6, v7, v8, v9] := Bx.set a2 3 (.slice none 0 0)
  have a4 : Bx (((((W.setCell ⟨b, 0, none⟩ (.int .i64 0)).setCell ⟨b, 1, none⟩ (.string ⟨#[]⟩)).setCell ⟨b, 2, none⟩ (.string ⟨#[]⟩)).setCell ⟨b, 3, none⟩ (.slice none 0 0)).setCell ⟨b, 4, none⟩ (.slice none 0 0)) b 28 #[.int .i64 0, .string ⟨#[]⟩, .string ⟨#[]⟩, .slice none 0 0, .slice none 0 0, v5, v6, v7, v8, v9] := Bx.set a3 4 (.slice none 0 0)
  have a5 : Bx ((((((W.setCell ⟨b, 0, none⟩ (.int .i64 0)).setCell ⟨b, 1, none⟩ (.string ⟨#[]⟩)).setCell ⟨b, 2, none⟩ (.string ⟨#[]⟩)).setCell ⟨b, 3, none⟩ (.slice none 0 0)).setCell ⟨b, 4, none⟩ (.slice none 0 0)).setCell ⟨b, 5, none⟩ (.slice none 0 0)) b 28 #[.int .i64 0, .string ⟨#[]⟩, .string ⟨#[]⟩, .slice none 0 0, .slice none 0 0, .slice none 0 0, v6, v7, v8, v9] := Bx.set a4 5 (.slice none 0 0)
  have a6 : Bx (((((((W.setCell ⟨b, 0, none⟩ (.int .i64 0)).setCell ⟨b, 1, none⟩ (.string ⟨#[]⟩)).setCell ⟨b, 2, none⟩ (.string ⟨#[]⟩)).setCell ⟨b, 3, none⟩ (.slice none 0 0)).setCell ⟨b, 4, none⟩ (.slice none 0 0)).setCell ⟨b, 5, none⟩ (.slice none 0 0)).setCell ⟨b, 6, none⟩ (.slice none 0 0)) b 28 #[.int .i64 0, .string ⟨#[]⟩, .string ⟨#[]⟩, .slice none 0 0, .slice none 0 0, .slice none 0 0, .slice none 0 0, v7, v8, v9] := Bx.set a5 6 (.slice none 0 0)
  have a7 : Bx ((((((((W.setCell ⟨b, 0, none⟩ (.int .i64 0)).setCell ⟨b, 1, none⟩ (.string ⟨#[]⟩)).setCell ⟨b, 2, none⟩ (.string ⟨#[]⟩)).setCell ⟨b, 3, none⟩ (.slice none 0 0)).setCell ⟨b, 4, none⟩ (.slice none 0 0)).setCell ⟨b, 5, none⟩ (.slice none 0 0)).setCell ⟨b, 6, none⟩ (.slice none 0 0)).setCell ⟨b, 7, none⟩ (.bool false)) b 28 #[.int .i64 0, .string ⟨#[]⟩, .string ⟨#[]⟩, .slice none 0 0, .slice none 0 0, .slice none 0 0, .slice none 0 0, .bool false, v8, v9] := Bx.set a6 7 (.bool false)
  have a8 : Bx (((((((((W.setCell ⟨b, 0, none⟩ (.int .i64 0)).setCell ⟨b, 1, none⟩ (.string ⟨#[]⟩)).setCell ⟨b, 2, none⟩ (.string ⟨#[]⟩)).setCell ⟨b, 3, none⟩ (.slice none 0 0)).setCell ⟨b, 4, none⟩ (.slice none 0 0)).setCell ⟨b, 5, none⟩ (.slice none 0 0)).setCell ⟨b, 6, none⟩ (.slice none 0 0)).setCell ⟨b, 7, none⟩ (.bool false)).setCell ⟨b, 8, none⟩ (.int .i64 0)) b 28 #[.int .i64 0, .string ⟨#[]⟩, .string ⟨#[]⟩, .slice none 0 0, .slice none 0 0, .slice none 0 0, .slice none 0 0, .bool false, .int .i64 0, v9] := Bx.set a7 8 (.int .i64 0)
  have a9 : Bx ((((((((((W.setCell ⟨b, 0, none⟩ (.int .i64 0)).setCell ⟨b, 1, none⟩ (.string ⟨#[]⟩)).setCell ⟨b, 2, none⟩ (.string ⟨#[]⟩)).setCell ⟨b, 3, none⟩ (.slice none 0 0)).setCell ⟨b, 4, none⟩ (.slice none 0 0)).setCell ⟨b, 5, none⟩ (.slice none 0 0)).setCell ⟨b, 6, none⟩ (.slice none 0 0)).setCell ⟨b, 7, none⟩ (.bool false)).setCell ⟨b, 8, none⟩ (.int .i64 0)).setCell ⟨b, 9, none⟩ (.slice none 0 0)) b 28 #[.int .i64 0, .string ⟨#[]⟩, .string ⟨#[]⟩, .slice none 0 0, .slice none 0 0, .slice none 0 0, .slice none 0 0, .bool false, .int .i64 0, .slice none 0 0] := Bx.set a8 9 (.slice none 0 0)
  have h10 : Bx (setsW W b 0 [.int .i64 0, .string ⟨#[]⟩, .string ⟨#[]⟩, .slice none 0 0, .slice none 0 0, .slice none 0 0, .slice none 0 0, .bool false, .int .i64 0, .slice none 0 0]) b 28 #[.int .i64 0, .string ⟨#[]⟩, .string ⟨#[]⟩, .slice none 0 0, .slice none 0 0, .slice none 0 0, .slice none 0 0, .bool false, .int .i64 0, .slice none 0 0] := a9
  exact ⟨(h10.other (by omega) 0 _).other (by omega) 0 _, ((k3.others (by omega) 0 _).set 0 _).other (by omega) 0 _, ((k4.others (by omega) 0 _).other (by omega) 0 _).set 0 _⟩
/-- Behind the deferred call of a frame that panics. -/
theorem doorQ_panic {R : Ending → World → Prop} {g : Nat} {v : Value} {l : List Tok} {i : Nat} {x : Tok} (hx : l[i]? = some x) (pb b : Nat) (tmps : Array Value) (h2 : tmps[2]? = some (.pointer (some ⟨b, 0, none⟩))) (h3 : tmps[3]? = some (.pointer (some ⟨b + 1, 0, none⟩))) (h4 : tmps[4]? = some (.pointer (some ⟨b + 1 + 1, 0, none⟩))) (W : World) (u : TypeId) (pv : Value) (hP : PAt g v l i W) (hpb : Bx W pb 41 #[.pointer (some ⟨g, 0, none⟩)]) (v0 v1 v2 v3 v4 v5 v6 v7 v8 v9 y3 y4 : Value)
    (k2 : Bx W b 28 #[v0, v1, v2, v3, v4, v5, v6, v7, v8, v9]) (k3 : Bx W (b + 1) 3 #[y3]) (k4 : Bx W (b + 1 + 1) 29 #[y4]) (h : ∀ w1, Below W.heap.size W w1 → R (.returned (.tuple #[.agg #[.int .i64 0, .string ⟨#[]⟩, .string ⟨#[]⟩, .slice none 0 0, .slice none 0 0, .slice none 0 0, .slice none 0 0, .bool false, .int .i64 0, .slice none 0 0], .int .i64 (x.p : Int), .int .i64 3])) (toldQ w1 b x.p)) :
    bodyPostD Tryz.prog Tryz.f4 R (Exit.panic [{ v := .iface u pv, recovered := false }]) { tmps := tmps, defers := defQ pb b } W := by
  refine leaves_cons (f := 10) (args := #[.pointer (some ⟨pb, 0, none⟩), .pointer (some ⟨b, 0, none⟩), .pointer (some ⟨b + 1, 0, none⟩), .pointer (some ⟨b + 1 + 1, 0, none⟩)]) (by simp) (by simp [go_sem]) ?_
  refine (catchQ_panicking hx pb b W hP hpb v0 v1 v2 v3 v4 v5 v6 v7 v8 v9 y3 y4 k2 k3 k4 u pv []).mono ?_
  rintro e u' w'' ⟨rfl, rfl, w1, hb1, rfl⟩
  obtain ⟨j2, j3, j4⟩ := told_boxes (heap_next k2 hb1 : Bx w1 b 28 #[v0, v1, v2, v3, v4, v5, v6, v7, v8, v9]) (heap_next k3 hb1 : Bx w1 (b + 1) 3 #[y3]) (heap_next k4 hb1 : Bx w1 (b + 1 + 1) 29 #[y4]) (x.p : Int)
  have hR := h w1 hb1
  generalize toldQ w1 b x.p = WZ at *
  have c0 : WZ.cell? ⟨b, 0, none⟩ = some (.int .i64 0) := j2.cell 0 _ rfl
  have c1 : WZ.cell? ⟨b, 1, none⟩ = some (.string ⟨#[]⟩) := j2.cell 1 _ rfl
  have c2 : WZ.cell? ⟨b, 2, none⟩ = some (.string ⟨#[]⟩) := j2.cell 2 _ rfl
  have c3 : WZ.cell? ⟨b, 3, none⟩ = some (.slice none 0 0) := j2.cell 3 _ rfl
  have c4 : WZ.cell? ⟨b, 4, none⟩ = some (.slice none 0 0) := j2.cell 4 _ rfl
  have c5 : WZ.cell? ⟨b, 5, none⟩ = some (.slice none 0 0) := j2.cell 5 _ rfl
  have c6 : WZ.cell? ⟨b, 6, none⟩ = some (.slice none 0 0) := j2.cell 6 _ rfl
  have c7 : WZ.cell? ⟨b, 7, none⟩ = some (.bool false) := j2.cell 7 _ rfl
  have c8 : WZ.cell? ⟨b, 8, none⟩ = some (.int .i64 0) := j2.cell 8 _ rfl
  have c9 : WZ.cell? ⟨b, 9, none⟩ = some (.slice none 0 0) := j2.cell 9 _ rfl
  have d3 : WZ.cell? ⟨b + 1, 0, none⟩ = some (.int .i64 (x.p : Int)) := j3.cell 0 _ rfl
  have d4 : WZ.cell? ⟨b + 1 + 1, 0, none⟩ = some (.int .i64 3) := j4.cell 0 _ rfl
  exact ⟨_, by simp [results, Tryz.f4, h2, h3, h4, c0, c1, c2, c3, c4, c5, c6, c7, c8, c9, d3, d4, go_sem], hR⟩
end Go.Proofs.YtiajlhjjmlakmaaGreatDoor
