import Derived.Test.YtiajlhjjmlakmaaGreatDoorSqVe
import Derived.Test.YtiajlhjjmlakmaaGreatDoorSqG
namespace Go.Proofs.YtiajlhjjmlakmaaGreatDoor
open Go.RowKit Num
set_option linter.unusedSimpArgs false
set_option linter.unusedVariables false
set_option maxRecDepth 100000

def Num.toldQ (W : World) (b : Nat) (p : Int) : World := ((setsW W b 0 [.int .i64 0, .string ⟨#[]⟩, .string ⟨#[]⟩, .slice none 0 0, .slice none 0 0, .slice none 0 0, .slice none 0 0, .bool false, .int .i64 0, .slice none 0 0]).setCell ⟨b + 1, 0, none⟩ (.int .i64 p)).setCell ⟨b + 1 + 1, 0, none⟩ (.int .i64 3)
abbrev Num.defQ (pb b : Nat) : List Deferred := [{ target := Target.fn (Fn.func 10) #[.pointer (some ⟨pb, 0, none⟩), .pointer (some ⟨b, 0, none⟩), .pointer (some ⟨b + 1, 0, none⟩), .pointer (some ⟨b + 1 + 1, 0, none⟩)], args := #[] }]
set_option maxHeartbeats 2000000 in
theorem catchQ_panicking {g : Nat} {v : Value} {l : List Tok} {i : Nat} {x : Tok} (hx : l[i]? = some x) (pb b : Nat) (w : World) (hP : PAt g v l i w) (hpb : Bx w pb 41 #[.pointer (some ⟨g, 0, none⟩)]) (v0 v1 v2 v3 v4 v5 v6 v7 v8 v9 y3 y4 : Value) (h2 : Bx w b 28 #[v0, v1, v2, v3, v4, v5, v6, v7, v8, v9]) (h3 : Bx w (b + 1) 3 #[y3]) (h4 : Bx w (b + 1 + 1) 29 #[y4]) (u : TypeId) (pv : Value) (older : List PanicEntry) :
    CallsD Tryz.prog 10 #[.pointer (some ⟨pb, 0, none⟩), .pointer (some ⟨b, 0, none⟩), .pointer (some ⟨b + 1, 0, none⟩), .pointer (some ⟨b + 1 + 1, 0, none⟩)] (.panicking ({ v := .iface u pv, recovered := false } :: older)) w fun e u' w' =>
      e = .returned (.tuple #[]) ∧ u' = .panicking ({ v := .iface u pv, recovered := true } :: older) ∧ ∃ w1, Below w.heap.size w w1 ∧ w' = toldQ w1 b x.p := by
  have hn := next_any hx w hP
  have hf := tok_f3
  have cp : w.cell? ⟨pb, 0, none⟩ = some (.pointer (some ⟨g, 0, none⟩)) := hpb.cell 0 _ rfl
  obtain ⟨kk, tt, vv, pp⟩ := x
  simp only at hn
  refine callsD_of_wpS Tryz.func10 rfl fun c₀ cs hu => ?_
  apply wpS_seq
  apply wpS_region
  simp [wpOpsS, go_sem, recoverD, hu, Tryz.ntmps10, Exit.thenS]
  refine wpS_cond (t := true) (by simp [Act.eval, Array.replicate]) ?_
  simp only [if_true]
  refine wpS_of_wp ?_
  go_wp2_with (first
    | (go_at_call 11; refine hn.mono ?_; rintro e w1 ⟨rfl, hb1⟩
       have h2' : Bx w1 b 28 #[v0, v1, v2, v3, v4, v5, v6, v7, v8, v9] := heap_next h2 hb1
       have h3' : Bx w1 (b + 1) 3 #[y3] := heap_next h3 hb1
       have h4' : Bx w1 (b + 1 + 1) 29 #[y4] := heap_next h4 hb1
       have c0 : w1.cell? ⟨b, 0, none⟩ = some v0 := h2'.cell 0 _ rfl
       have f0 := h2'.open 0
       have c1 : w1.cell? ⟨b, 1, none⟩ = some v1 := h2'.cell 1 _ rfl
       have f1 := h2'.open 1
       have c2 : w1.cell? ⟨b, 2, none⟩ = some v2 := h2'.cell 2 _ rfl
       have f2 := h2'.open 2
       have c3 : w1.cell? ⟨b, 3, none⟩ = some v3 := h2'.cell 3 _ rfl
       have f3 := h2'.open 3
       have c4 : w1.cell? ⟨b, 4, none⟩ = some v4 := h2'.cell 4 _ rfl
       have f4 := h2'.open 4
       have c5 : w1.cell? ⟨b, 5, none⟩ = some v5 := h2'.cell 5 _ rfl
       have f5 := h2'.open 5
       have c6 : w1.cell? ⟨b, 6, none⟩ = some v6 := h2'.cell 6 _ rfl
       have f6 := h2'.open 6
       have c7 : w1.cell? ⟨b, 7, none⟩ = some v7 := h2'.cell 7 _ rfl
       have f7 := h2'.open 7
       have c8 : w1.cell? ⟨b, 8, none⟩ = some v8 := h2'.cell 8 _ rfl
       have f8 := h2'.open 8
       have c9 : w1.cell? ⟨b, 9, none⟩ = some v9 := h2'.cell 9 _ rfl
       have f9 := h2'.open 9
       have d3 : w1.cell? ⟨b + 1, 0, none⟩ = some y3 := h3'.cell 0 _ rfl
       have g3 := h3'.open 0
       have d4 : w1.cell? ⟨b + 1 + 1, 0, none⟩ = some y4 := h4'.cell 0 _ rfl
       have g4 := h4'.open 0))
  cases c₀
  simp only [bodyPostS, results, Tryz.results10] at *
  refine ⟨trivial, _, rfl, .tuple #[], by simp [go_sem], rfl, rfl, w1, hb1, rfl⟩
theorem catchQ_idle (pb b : Nat) (w : World) :
    CallsD Tryz.prog 10 #[.pointer (some ⟨pb, 0, none⟩), .pointer (some ⟨b, 0, none⟩), .pointer (some ⟨b + 1, 0, none⟩), .pointer (some ⟨b + 1 + 1, 0, none⟩)] .returning w fun e u' w' => e = .returned (.tuple #[]) ∧ u' = .returning ∧ w' = w := by
  refine callsD_of_wpS Tryz.func10 rfl fun c₀ cs hu => ?_
  apply wpS_seq
  apply wpS_region
  simp [wpOpsS, go_sem, recoverD, hu, Tryz.ntmps10, Exit.thenS]
  refine wpS_cond (t := false) (by simp [Act.eval, Array.replicate]) ?_
  simp only [Bool.false_eq_true, if_false]
  refine wpS_of_wp (wp_skip ?_)
  cases c₀
  simp_all [bodyPostS, results, Tryz.results10]
theorem doorQ_ret {R : Ending → World → Prop} (pb b : Nat) (tmps : Array Value) (h2 : tmps[2]? = some (.pointer (some ⟨b, 0, none⟩))) (h3 : tmps[3]? = some (.pointer (some ⟨b + 1, 0, none⟩))) (h4 : tmps[4]? = some (.pointer (some ⟨b + 1 + 1, 0, none⟩))) (W : World) (v0 v1 v2 v3 v4 v5 v6 v7 v8 v9 y3 y4 : Value)
    (k2 : Bx W b 28 #[v0, v1, v2, v3, v4, v5, v6, v7, v8, v9]) (k3 : Bx W (b + 1) 3 #[y3]) (k4 : Bx W (b + 1 + 1) 29 #[y4]) (h : R (.returned (.tuple #[.agg #[v0, v1, v2, v3, v4, v5, v6, v7, v8, v9], y3, y4])) W) :
    bodyPostD Tryz.prog Tryz.f4 R Exit.ret { tmps := tmps, defers := defQ pb b } W := by
  have c0 : W.cell? ⟨b, 0, none⟩ = some v0 := k2.cell 0 _ rfl
  have c1 : W.cell? ⟨b, 1, none⟩ = some v1 := k2.cell 1 _ rfl
  have c2 : W.cell? ⟨b, 2, none⟩ = some v2 := k2.cell 2 _ rfl
  have c3 : W.cell? ⟨b, 3, none⟩ = some v3 := k2.cell 3 _ rfl
  have c4 : W.cell? ⟨b, 4, none⟩ = some v4 := k2.cell 4 _ rfl
  have c5 : W.cell? ⟨b, 5, none⟩ = some v5 := k2.cell 5 _ rfl
  have c6 : W.cell? ⟨b, 6, none⟩ = some v6 := k2.cell 6 _ rfl
  have c7 : W.cell? ⟨b, 7, none⟩ = some v7 := k2.cell 7 _ rfl
  have c8 : W.cell? ⟨b, 8, none⟩ = some v8 := k2.cell 8 _ rfl
  have c9 : W.cell? ⟨b, 9, none⟩ = some v9 := k2.cell 9 _ rfl
  have d3 : W.cell? ⟨b + 1, 0, none⟩ = some y3 := k3.cell 0 _ rfl
  have d4 : W.cell? ⟨b + 1 + 1, 0, none⟩ = some y4 := k4.cell 0 _ rfl
  refine leaves_cons (f := 10) (args := #[.pointer (some ⟨pb, 0, none⟩), .pointer (some ⟨b, 0, none⟩), .pointer (some ⟨b + 1, 0, none⟩), .pointer (some ⟨b + 1 + 1, 0, none⟩)]) (by simp) (by simp [go_sem]) ?_
  refine (catchQ_idle _ _ _).mono ?_
  rintro e u' w'' ⟨rfl, rfl, rfl⟩
  exact ⟨_, by simp [results, Tryz.f4, h2, h3, h4, c0, c1, c2, c3, c4, c5, c6, c7, c8, c9, d3, d4, go_sem], h⟩
theorem told_boxes {W : World} {b : Nat} {v0 v1 v2 v3 v4 v5 v6 v7 v8 v9 y3 y4 : Value} (k2 : Bx W b 28 #[v0, v1, v2, v3, v4, v5, v6, v7, v8, v9]) (k3 : Bx W (b + 1) 3 #[y3]) (k4 : Bx W (b + 1 + 1) 29 #[y4]) (p : Int) :
    Bx (toldQ W b p) b 28 #[.int .i64 0, .string ⟨#[]⟩, .string ⟨#[]⟩, .slice none 0 0, .slice none 0 0, .slice none 0 0, .slice none 0 0, .bool false, .int .i64 0, .slice none 0 0] ∧ Bx (toldQ W b p) (b + 1) 3 #[.int .i64 p] ∧ Bx (toldQ W b p) (b + 1 + 1) 29 #[.int .i64 3] := by
  have a0 : Bx (W.setCell ⟨b, 0, none⟩ (.int .i64 0)) b 28 #[.int .i64 0, v1, v2, v3, v4, v5, v6, v7, v8, v9] := Bx.set k2 0 (.int .i64 0)
  have a1 : Bx ((W.setCell ⟨b, 0, none⟩ (.int .i64 0)).setCell ⟨b, 1, none⟩ (.string ⟨#[]⟩)) b 28 #[.int .i64 0, .string ⟨#[]⟩, v2, v3, v4, v5, v6, v7, v8, v9] := Bx.set a0 1 (.string ⟨#[]⟩)
  have a2 : Bx (((W.setCell ⟨b, 0, none⟩ (.int .i64 0)).setCell ⟨b, 1, none⟩ (.string ⟨#[]⟩)).setCell ⟨b, 2, none⟩ (.string ⟨#[]⟩)) b 28 #[.int .i64 0, .string ⟨#[]⟩, .string ⟨#[]⟩, v3, v4, v5, v6, v7, v8, v9] := Bx.set a1 2 (.string ⟨#[]⟩)
  have a3 : Bx ((((W.setCell ⟨b, 0, none⟩ (.int .i64 0)).setCell ⟨b, 1, none⟩ (.string ⟨#[]⟩)).setCell ⟨b, 2, none⟩ (.string ⟨#[]⟩)).setCell ⟨b, 3, none⟩ (.slice none 0 0)) b 28 #[.int .i64 0, .string ⟨#[]⟩, .string ⟨#[]⟩, .slice none 0 0, v4, v5, v6, v7, v8, v9] := Bx.set a2 3 (.slice none 0 0)
  have a4 : Bx (((((W.setCell ⟨b, 0, none⟩ (.int .i64 0)).setCell ⟨b, 1, none⟩ (.string ⟨#[]⟩)).setCell ⟨b, 2, none⟩ (.string ⟨#[]⟩)).setCell ⟨b, 3, none⟩ (.slice none 0 0)).setCell ⟨b, 4, none⟩ (.slice none 0 0)) b 28 #[.int .i64 0, .string ⟨#[]⟩, .string ⟨#[]⟩, .slice none 0 0, .slice none 0 0, v5, v6, v7, v8, v9] := Bx.set a3 4 (.slice none 0 0)
  have a5 : Bx ((((((W.setCell ⟨b, 0, none⟩ (.int .i64 0)).setCell ⟨b, 1, none⟩ (.string ⟨#[]⟩)).setCell ⟨b, 2, none⟩ (.string ⟨#[]⟩)).setCell ⟨b, 3, none⟩ (.slice none 0 0)).setCell ⟨b, 4, none⟩ (.slice none 0 0)).setCell ⟨b, 5, none⟩ (.slice none 0 0)) b 28 #[.int .i64 0, .string ⟨#[]⟩, .string ⟨#[]⟩, .slice none 0 0, .slice none 0 0, .slice none 0 0, v6, v7, v8, v9] := Bx.set a4 5 (.slice none 0 0)
  have a6 : Bx (((((((W.setCell ⟨b, 0, none⟩ (.int .i64 0)).setCell ⟨b, 1, none⟩ (.string ⟨#[]⟩)).setCell ⟨b, 2, none⟩ (.string ⟨#[]⟩)).setCell ⟨b, 3, none⟩ (.slice none 0 0)).setCell ⟨b, 4, none⟩ (.slice none 0 0)).setCell ⟨b, 5, none⟩ (.slice none 0 0)).setCell ⟨b, 6, none⟩ (.slice none 0 0)) b 28 #[.int .i64 0, .string ⟨#[]⟩, .string ⟨#[]⟩, .slice none 0 0, .slice none 0 0, .slice none 0 0, .slice none 0 0, v7, v8, v9] := Bx.set a5 6 (.slice none 0 0)
  have a7 : Bx ((((((((W.setCell ⟨b, 0, none⟩ (.int .i64 0)).setCell ⟨b, 1, none⟩ (.string ⟨#[]⟩)).setCell ⟨b, 2, none⟩ (.string ⟨#[]⟩)).setCell ⟨b, 3, none⟩ (.slice none 0 0)).setCell ⟨b, 4, none⟩ (.slice none 0 0)).setCell ⟨b, 5, none⟩ (.slice none 0 0)).setCell ⟨b, 6, none⟩ (.slice none 0 0)).setCell ⟨b, 7, none⟩ (.bool false)) b 28 #[.int .i64 0, .string ⟨#[]⟩, .string ⟨#[]⟩, .slice none 0 0, .slice none 0 0, .slice none 0 0, .slice none 0 0, .bool false, v8, v9] := Bx.set a6 7 (.bool false)
  have a8 : Bx (((((((((W.setCell ⟨b, 0, none⟩ (.int .i64 0)).setCell ⟨b, 1, none⟩ (.string ⟨#[]⟩)).setCell ⟨b, 2, none⟩ (.string ⟨#[]⟩)).setCell ⟨b, 3, none⟩ (.slice none 0 0)).setCell ⟨b, 4, none⟩ (.slice none 0 0)).setCell ⟨b, 5, none⟩ (.slice none 0 0)).setCell ⟨b, 6, none⟩ (.slice none 0 0)).setCell ⟨b, 7, none⟩ (.bool false)).setCell ⟨b, 8, none⟩ (.int .i64 0)) b 28 #[.int .i64 0, .string ⟨#[]⟩, .string ⟨#[]⟩, .slice none 0 0, .slice none 0 0, .slice none 0 0, .slice none 0 0, .bool false, .int .i64 0, v9] := Bx.set a7 8 (.int .i64 0)
  have a9 : Bx ((((((((((W.setCell ⟨b, 0, none⟩ (.int .i64 0)).setCell ⟨b, 1, none⟩ (.string ⟨#[]⟩)).setCell ⟨b, 2, none⟩ (.string ⟨#[]⟩)).setCell ⟨b, 3, none⟩ (.slice none 0 0)).setCell ⟨b, 4, none⟩ (.slice none 0 0)).setCell ⟨b, 5, none⟩ (.slice none 0 0)).setCell ⟨b, 6, none⟩ (.slice none 0 0)).setCell ⟨b, 7, none⟩ (.bool false)).setCell ⟨b, 8, none⟩ (.int .i64 0)).setCell ⟨b, 9, none⟩ (.slice none 0 0)) b 28 #[.int .i64 0, .string ⟨#[]⟩, .string ⟨#[]⟩, .slice none 0 0, .slice none 0 0, .slice none 0 0, .slice none 0 0, .bool false, .int .i64 0, .slice none 0 0] := Bx.set a8 9 (.slice none 0 0)
  have h10 : Bx (setsW W b 0 [.int .i64 0, .string ⟨#[]⟩, .string ⟨#[]⟩, .slice none 0 0, .slice none 0 0, .slice none 0 0, .slice none 0 0, .bool false, .int .i64 0, .slice none 0 0]) b 28 #[.int .i64 0, .string ⟨#[]⟩, .string ⟨#[]⟩, .slice none 0 0, .slice none 0 0, .slice none 0 0, .slice none 0 0, .bool false, .int .i64 0, .slice none 0 0] := a9
  exact ⟨(h10.other (by omega) 0 _).other (by omega) 0 _, ((k3.others (by omega) 0 _).set 0 _).other (by omega) 0 _, ((k4.others (by omega) 0 _).other (by omega) 0 _).set 0 _⟩
theorem doorQ_panic {R : Ending → World → Prop} {g : Nat} {v : Value} {l : List Tok} {i : Nat} {x : Tok} (hx : l[i]? = some x) (pb b : Nat) (tmps : Array Value) (h2 : tmps[2]? = some (.pointer (some ⟨b, 0, none⟩))) (h3 : tmps[3]? = some (.pointer (some ⟨b + 1, 0, none⟩))) (h4 : tmps[4]? = some (.pointer (some ⟨b + 1 + 1, 0, none⟩))) (W : World) (u : TypeId) (pv : Value) (hP : PAt g v l i W) (hpb : Bx W pb 41 #[.pointer (some ⟨g, 0, none⟩)]) (v0 v1 v2 v3 v4 v5 v6 v7 v8 v9 y3 y4 : Value)
    (k2 : Bx W b 28 #[v0, v1, v2, v3, v4, v5, v6, v7, v8, v9]) (k3 : Bx W (b + 1) 3 #[y3]) (k4 : Bx W (b + 1 + 1) 29 #[y4]) (h : ∀ w1, Below W.heap.size W w1 → R (.returned (.tuple #[.agg #[.int .i64 0, .string ⟨#[]⟩, .string ⟨#[]⟩, .slice none 0 0, .slice none 0 0, .slice none 0 0, .slice none 0 0, .bool false, .int .i64 0, .slice none 0 0], .int .i64 (x.p : Int), .int .i64 3])) (toldQ w1 b x.p)) :
    bodyPostD Tryz.prog Tryz.f4 R (Exit.panic [{ v := .iface u pv, recovered := false }]) { tmps := tmps, defers := defQ pb b } W := by
  refine leaves_cons (f := 10) (args := #[.pointer (some ⟨pb, 0, none⟩), .pointer (some ⟨b, 0, none⟩), .pointer (some ⟨b + 1, 0, none⟩), .pointer (some ⟨b + 1 + 1, 0, none⟩)]) (by simp) (by simp [go_sem]) ?_
  refine (catchQ_panicking hx pb b W hP hpb v0 v1 v2 v3 v4 v5 v6 v7 v8 v9 y3 y4 k2 k3 k4 u pv []).mono ?_
  rintro e u' w'' ⟨rfl, rfl, w1, hb1, rfl⟩
  obtain ⟨j2, j3, j4⟩ := told_boxes (heap_next k2 hb1 : Bx w1 b 28 #[v0, v1, v2, v3, v4, v5, v6, v7, v8, v9]) (heap_next k3 hb1 : Bx w1 (b + 1) 3 #[y3]) (heap_next k4 hb1 : Bx w1 (b + 1 + 1) 29 #[y4]) (x.p : Int)
  have hR := h w1 hb1
  generalize toldQ w1 b x.p = WZ at *
  have c0 : WZ.cell? ⟨b, 0, none⟩ = some (.int .i64 0) := j2.cell 0 _ rfl
  have c1 : WZ.cell? ⟨b, 1, none⟩ = some (.string ⟨#[]⟩) := j2.cell 1 _ rfl
  have c2 : WZ.cell? ⟨b, 2, none⟩ = some (.string ⟨#[]⟩) := j2.cell 2 _ rfl
  have c3 : WZ.cell? ⟨b, 3, none⟩ = some (.slice none 0 0) := j2.cell 3 _ rfl
  have c4 : WZ.cell? ⟨b, 4, none⟩ = some (.slice none 0 0) := j2.cell 4 _ rfl
  have c5 : WZ.cell? ⟨b, 5, none⟩ = some (.slice none 0 0) := j2.cell 5 _ rfl
  have c6 : WZ.cell? ⟨b, 6, none⟩ = some (.slice none 0 0) := j2.cell 6 _ rfl
  have c7 : WZ.cell? ⟨b, 7, none⟩ = some (.bool false) := j2.cell 7 _ rfl
  have c8 : WZ.cell? ⟨b, 8, none⟩ = some (.int .i64 0) := j2.cell 8 _ rfl
  have c9 : WZ.cell? ⟨b, 9, none⟩ = some (.slice none 0 0) := j2.cell 9 _ rfl
  have d3 : WZ.cell? ⟨b + 1, 0, none⟩ = some (.int .i64 (x.p : Int)) := j3.cell 0 _ rfl
  have d4 : WZ.cell? ⟨b + 1 + 1, 0, none⟩ = some (.int .i64 3) := j4.cell 0 _ rfl
  exact ⟨_, by simp [results, Tryz.f4, h2, h3, h4, c0, c1, c2, c3, c4, c5, c6, c7, c8, c9, d3, d4, go_sem], hR⟩

def Num.ParseEnd (B : Nat) (o : Option Stm × Nat × Int) (e : Ending) (w' : World) : Prop := match o.1 with
  | none => e = .returned (.tuple #[.agg #[.int .i64 0, .string ⟨#[]⟩, .string ⟨#[]⟩, .slice none 0 0, .slice none 0 0, .slice none 0 0, .slice none 0 0, .bool false, .int .i64 0, .slice none 0 0], .int .i64 (o.2.1 : Int), .int .i64 o.2.2])
  | some x => ∃ t : SS, e = .returned (.tuple #[.agg #[.int .i64 x.kind, .string x.table, .string x.name, .slice t.co x.cols.length t.cc, .slice t.vo x.vals.length t.vc, .slice t.so x.sets.length t.sc, .slice t.qo x.conds.length t.qc, .bool x.uniq, .int .i64 x.type, .slice t.yo x.types.length t.yc], .int .i64 (o.2.1 : Int), .int .i64 o.2.2]) ∧ OwnS B w' t x
theorem bel_kp {B g : Nat} {w W W' : World} (h : Below B w W) (hk : W.grownBy W' (some g)) (hg : B ≤ g) (hB : B ≤ W.heap.size) : Below B w W' :=
  h.grown hk hB (fun j hj => by cases hj; exact hg)
theorem bel_sets {B b : Nat} {w : World} (hb : B ≤ b) : ∀ {W : World} (h : Below B w W) (k : Nat) (us : List Value), Below B w (setsW W b k us)
  | _, h, _, [] => h
  | _, h, k, u :: us => bel_sets hb (h.setCell (p := ⟨b, k, none⟩) hb u) (k + 1) us
theorem place_of {l : List Tok} {j : Nat} {q : List TkC} {x : Tok} (hx : l[j]? = some x) (h : rem l j = q) : placeAt l q = x.p := by
  have hj := (List.getElem?_eq_some_iff.1 hx).1
  unfold placeAt
  rw [← h, rem_len, show l.length - (l.length - j) = j by omega, hx]
  rfl
theorem boxes3 (w : World) : Bx (((w.alloc (.cells #[.int .i64 0, .string ⟨#[]⟩, .string ⟨#[]⟩, .slice none 0 0, .slice none 0 0, .slice none 0 0, .slice none 0 0, .bool false, .int .i64 0, .slice none 0 0] 28)).alloc (.cells #[.int .i64 0] 3)).alloc (.cells #[.int .i64 0] 29)) (w.heap.size) 28 #[.int .i64 0, .string ⟨#[]⟩, .string ⟨#[]⟩, .slice none 0 0, .slice none 0 0, .slice none 0 0, .slice none 0 0, .bool false, .int .i64 0, .slice none 0 0] ∧ Bx (((w.alloc (.cells #[.int .i64 0, .string ⟨#[]⟩, .string ⟨#[]⟩, .slice none 0 0, .slice none 0 0, .slice none 0 0, .slice none 0 0, .bool false, .int .i64 0, .slice none 0 0] 28)).alloc (.cells #[.int .i64 0] 3)).alloc (.cells #[.int .i64 0] 29)) (w.heap.size + 1) 3 #[.int .i64 0] ∧ Bx (((w.alloc (.cells #[.int .i64 0, .string ⟨#[]⟩, .string ⟨#[]⟩, .slice none 0 0, .slice none 0 0, .slice none 0 0, .slice none 0 0, .bool false, .int .i64 0, .slice none 0 0] 28)).alloc (.cells #[.int .i64 0] 3)).alloc (.cells #[.int .i64 0] 29)) (w.heap.size + 1 + 1) 29 #[.int .i64 0] ∧ Below w.heap.size w (((w.alloc (.cells #[.int .i64 0, .string ⟨#[]⟩, .string ⟨#[]⟩, .slice none 0 0, .slice none 0 0, .slice none 0 0, .slice none 0 0, .bool false, .int .i64 0, .slice none 0 0] 28)).alloc (.cells #[.int .i64 0] 3)).alloc (.cells #[.int .i64 0] 29)) :=
  ⟨((Bx.newB rfl).alloc _).alloc _, (Bx.newB (by simp)).alloc _, Bx.newB (by simp), (((Below.refl _ w).alloc (Nat.le_refl _) _).alloc (by simp) _).alloc (by simp; omega) _⟩
theorem doorQ_nil {R : Ending → World → Prop} (b : Nat) (tmps : Array Value) (h2 : tmps[2]? = some (.pointer (some ⟨b, 0, none⟩))) (h3 : tmps[3]? = some (.pointer (some ⟨b + 1, 0, none⟩))) (h4 : tmps[4]? = some (.pointer (some ⟨b + 1 + 1, 0, none⟩))) (W : World) (v0 v1 v2 v3 v4 v5 v6 v7 v8 v9 y3 y4 : Value)
    (k2 : Bx W b 28 #[v0, v1, v2, v3, v4, v5, v6, v7, v8, v9]) (k3 : Bx W (b + 1) 3 #[y3]) (k4 : Bx W (b + 1 + 1) 29 #[y4]) (h : R (.returned (.tuple #[.agg #[v0, v1, v2, v3, v4, v5, v6, v7, v8, v9], y3, y4])) W) :
    bodyPostD Tryz.prog Tryz.f4 R Exit.ret { tmps := tmps, defers := [] } W := by
  have c0 : W.cell? ⟨b, 0, none⟩ = some v0 := k2.cell 0 _ rfl
  have c1 : W.cell? ⟨b, 1, none⟩ = some v1 := k2.cell 1 _ rfl
  have c2 : W.cell? ⟨b, 2, none⟩ = some v2 := k2.cell 2 _ rfl
  have c3 : W.cell? ⟨b, 3, none⟩ = some v3 := k2.cell 3 _ rfl
  have c4 : W.cell? ⟨b, 4, none⟩ = some v4 := k2.cell 4 _ rfl
  have c5 : W.cell? ⟨b, 5, none⟩ = some v5 := k2.cell 5 _ rfl
  have c6 : W.cell? ⟨b, 6, none⟩ = some v6 := k2.cell 6 _ rfl
  have c7 : W.cell? ⟨b, 7, none⟩ = some v7 := k2.cell 7 _ rfl
  have c8 : W.cell? ⟨b, 8, none⟩ = some v8 := k2.cell 8 _ rfl
  have c9 : W.cell? ⟨b, 9, none⟩ = some v9 := k2.cell 9 _ rfl
  have d3 : W.cell? ⟨b + 1, 0, none⟩ = some y3 := k3.cell 0 _ rfl
  have d4 : W.cell? ⟨b + 1 + 1, 0, none⟩ = some y4 := k4.cell 0 _ rfl
  exact ⟨_, by simp [results, Tryz.f4, h2, h3, h4, c0, c1, c2, c3, c4, c5, c6, c7, c8, c9, d3, d4, go_sem], h⟩
theorem box10 {W : World} {b : Nat} {v0 v1 v2 v3 v4 v5 v6 v7 v8 v9 : Value} (k2 : Bx W b 28 #[v0, v1, v2, v3, v4, v5, v6, v7, v8, v9]) (u0 u1 u2 u3 u4 u5 u6 u7 u8 u9 : Value) : Bx (setsW W b 0 [u0, u1, u2, u3, u4, u5, u6, u7, u8, u9]) b 28 #[u0, u1, u2, u3, u4, u5, u6, u7, u8, u9] := by
  have a0 : Bx (W.setCell ⟨b, 0, none⟩ u0) b 28 #[u0, v1, v2, v3, v4, v5, v6, v7, v8, v9] := Bx.set k2 0 u0
  have a1 : Bx ((W.setCell ⟨b, 0, none⟩ u0).setCell ⟨b, 1, none⟩ u1) b 28 #[u0, u1, v2, v3, v4, v5, v6, v7, v8, v9] := Bx.set a0 1 u1
  have a2 : Bx (((W.setCell ⟨b, 0, none⟩ u0).setCell ⟨b, 1, none⟩ u1).setCell ⟨b, 2, none⟩ u2) b 28 #[u0, u1, u2, v3, v4, v5, v6, v7, v8, v9] := Bx.set a1 2 u2
  have a3 : Bx ((((W.setCell ⟨b, 0, none⟩ u0).setCell ⟨b, 1, none⟩ u1).setCell ⟨b, 2, none⟩ u2).setCell ⟨b, 3, none⟩ u3) b 28 #[u0, u1, u2, u3, v4, v5, v6, v7, v8, v9] := Bx.set a2 3 u3
  have a4 : Bx (((((W.setCell ⟨b, 0, none⟩ u0).setCell ⟨b, 1, none⟩ u1).setCell ⟨b, 2, none⟩ u2).setCell ⟨b, 3, none⟩ u3).setCell ⟨b, 4, none⟩ u4) b 28 #[u0, u1, u2, u3, u4, v5, v6, v7, v8, v9] := Bx.set a3 4 u4
  have a5 : Bx ((((((W.setCell ⟨b, 0, none⟩ u0).setCell ⟨b, 1, none⟩ u1).setCell ⟨b, 2, none⟩ u2).setCell ⟨b, 3, none⟩ u3).setCell ⟨b, 4, none⟩ u4).setCell ⟨b, 5, none⟩ u5) b 28 #[u0, u1, u2, u3, u4, u5, v6, v7, v8, v9] := Bx.set a4 5 u5
  have a6 : Bx (((((((W.setCell ⟨b, 0, none⟩ u0).setCell ⟨b, 1, none⟩ u1).setCell ⟨b, 2, none⟩ u2).setCell ⟨b, 3, none⟩ u3).setCell ⟨b, 4, none⟩ u4).setCell ⟨b, 5, none⟩ u5).setCell ⟨b, 6, none⟩ u6) b 28 #[u0, u1, u2, u3, u4, u5, u6, v7, v8, v9] := Bx.set a5 6 u6
  have a7 : Bx ((((((((W.setCell ⟨b, 0, none⟩ u0).setCell ⟨b, 1, none⟩ u1).setCell ⟨b, 2, none⟩ u2).setCell ⟨b, 3, none⟩ u3).setCell ⟨b, 4, none⟩ u4).setCell ⟨b, 5, none⟩ u5).setCell ⟨b, 6, none⟩ u6).setCell ⟨b, 7, none⟩ u7) b 28 #[u0, u1, u2, u3, u4, u5, u6, u7, v8, v9] := Bx.set a6 7 u7
  have a8 : Bx (((((((((W.setCell ⟨b, 0, none⟩ u0).setCell ⟨b, 1, none⟩ u1).setCell ⟨b, 2, none⟩ u2).setCell ⟨b, 3, none⟩ u3).setCell ⟨b, 4, none⟩ u4).setCell ⟨b, 5, none⟩ u5).setCell ⟨b, 6, none⟩ u6).setCell ⟨b, 7, none⟩ u7).setCell ⟨b, 8, none⟩ u8) b 28 #[u0, u1, u2, u3, u4, u5, u6, u7, u8, v9] := Bx.set a7 8 u8
  have a9 : Bx ((((((((((W.setCell ⟨b, 0, none⟩ u0).setCell ⟨b, 1, none⟩ u1).setCell ⟨b, 2, none⟩ u2).setCell ⟨b, 3, none⟩ u3).setCell ⟨b, 4, none⟩ u4).setCell ⟨b, 5, none⟩ u5).setCell ⟨b, 6, none⟩ u6).setCell ⟨b, 7, none⟩ u7).setCell ⟨b, 8, none⟩ u8).setCell ⟨b, 9, none⟩ u9) b 28 #[u0, u1, u2, u3, u4, u5, u6, u7, u8, u9] := Bx.set a8 9 u9
  exact a9
theorem Num.OwnS.bel {B : Nat} {w w' : World} {t : SS} {x : Stm} (h : OwnS B w t x) (hb : Below w.heap.size w w') : OwnS B w' t x := ⟨own_mem h.cols hb, own_mem h.vals hb, own_mem h.sets hb, own_mem h.conds hb, own_mem h.types hb⟩
theorem Num.OwnS.low {B b : Nat} {w : World} {t : SS} {x : Stm} (h : OwnS B w t x) (hb : b < B) (i : Nat) (u : Value) : OwnS B (w.setCell ⟨b, i, none⟩ u) t x := h.kp (kp_setG (World.grownBy.refl w (some b)) i u) hb
set_option maxHeartbeats 4000000 in
theorem parse_lex (s : ByteArray) (p : Nat) (E : Int) (hE : ¬ E = 0) (hL : ∀ W, Glob W → Calls Tryz.prog 9 #[.string s] W fun e w' => e = .returned (.tuple #[.slice none 0 0, .int .i64 (p : Int), .int .i64 E]) ∧ Below W.heap.size W w') (w : World) (hG : Glob w) :
    Calls Tryz.prog 4 #[.string s] w fun e w' => e = .returned (.tuple #[.agg #[.int .i64 0, .string ⟨#[]⟩, .string ⟨#[]⟩, .slice none 0 0, .slice none 0 0, .slice none 0 0, .slice none 0 0, .bool false, .int .i64 0, .slice none 0 0], .int .i64 (p : Int), .int .i64 E]) ∧ Below w.heap.size w w' := by
  obtain ⟨k2, k3, k4, hB0⟩ := boxes3 w
  have hEb : (E != 0) = true := by simpa using hE
  go_enter_defers Tryz.func4, Tryz.ntmps4
  go_wp2_with (first
    | (go_at_call 9; refine (hL _ (hG.below hB0)).mono ?_; rintro e w1 ⟨rfl, hb1⟩
       have j2 : Bx w1 (w.heap.size) 28 z10 := heap_next k2 hb1
       have j3 : Bx w1 (w.heap.size + 1) 3 #[iZ] := heap_next k3 hb1
       have j4 : Bx w1 (w.heap.size + 1 + 1) 29 #[iZ] := heap_next k4 hb1
       have c0 : w1.cell? ⟨w.heap.size, 0, none⟩ = some (.int .i64 0) := j2.cell 0 _ rfl
       have oc0 := j2.open 0
       have c1 : w1.cell? ⟨w.heap.size, 1, none⟩ = some (.string ⟨#[]⟩) := j2.cell 1 _ rfl
       have oc1 := j2.open 1
       have c2 : w1.cell? ⟨w.heap.size, 2, none⟩ = some (.string ⟨#[]⟩) := j2.cell 2 _ rfl
       have oc2 := j2.open 2
       have c3 : w1.cell? ⟨w.heap.size, 3, none⟩ = some (.slice none 0 0) := j2.cell 3 _ rfl
       have oc3 := j2.open 3
       have c4 : w1.cell? ⟨w.heap.size, 4, none⟩ = some (.slice none 0 0) := j2.cell 4 _ rfl
       have oc4 := j2.open 4
       have c5 : w1.cell? ⟨w.heap.size, 5, none⟩ = some (.slice none 0 0) := j2.cell 5 _ rfl
       have oc5 := j2.open 5
       have c6 : w1.cell? ⟨w.heap.size, 6, none⟩ = some (.slice none 0 0) := j2.cell 6 _ rfl
       have oc6 := j2.open 6
       have c7 : w1.cell? ⟨w.heap.size, 7, none⟩ = some (.bool false) := j2.cell 7 _ rfl
       have oc7 := j2.open 7
       have c8 : w1.cell? ⟨w.heap.size, 8, none⟩ = some (.int .i64 0) := j2.cell 8 _ rfl
       have oc8 := j2.open 8
       have c9 : w1.cell? ⟨w.heap.size, 9, none⟩ = some (.slice none 0 0) := j2.cell 9 _ rfl
       have oc9 := j2.open 9
       have d3 : w1.cell? ⟨w.heap.size + 1, 0, none⟩ = some (.int .i64 0) := j3.cell 0 _ rfl
       have g3 := j3.open 0
       have d4 : w1.cell? ⟨w.heap.size + 1 + 1, 0, none⟩ = some (.int .i64 0) := j4.cell 0 _ rfl
       have g4 := j4.open 0))
  go_region
  all_goals
    go_wp2
    refine doorQ_nil w.heap.size _ rfl rfl rfl _ _ _ _ _ _ _ _ _ _ _ _ _ ((((box10 ((j2.other (by omega) 0 _).other (by omega) 0 _) (.int .i64 0) (.string ⟨#[]⟩) (.string ⟨#[]⟩) (.slice none 0 0) (.slice none 0 0) (.slice none 0 0) (.slice none 0 0) (.bool false) (.int .i64 0) (.slice none 0 0)).other (by omega) 0 _).other (by omega) 0 _).drew) ((((((j3.set 0 _).other (by omega) 0 _).others (c := w.heap.size) (by omega) 0 [.int .i64 0, .string ⟨#[]⟩, .string ⟨#[]⟩, .slice none 0 0, .slice none 0 0, .slice none 0 0, .slice none 0 0, .bool false, .int .i64 0, .slice none 0 0]).set 0 _).other (by omega) 0 _).drew) ((((((j4.other (by omega) 0 _).set 0 _).others (c := w.heap.size) (by omega) 0 [.int .i64 0, .string ⟨#[]⟩, .string ⟨#[]⟩, .slice none 0 0, .slice none 0 0, .slice none 0 0, .slice none 0 0, .bool false, .int .i64 0, .slice none 0 0]).other (by omega) 0 _).set 0 _).drew) ⟨rfl, ?_⟩
    exact (((bel_sets (Nat.le_refl w.heap.size) (((below_next hB0 (Nat.le_refl _) hb1).setCell (p := ⟨w.heap.size + 1, 0, none⟩) (by simp) (.int .i64 (p : Int))).setCell (p := ⟨w.heap.size + 1 + 1, 0, none⟩) (by simp; omega) (.int .i64 E)) 0 [.int .i64 0, .string ⟨#[]⟩, .string ⟨#[]⟩, .slice none 0 0, .slice none 0 0, .slice none 0 0, .slice none 0 0, .bool false, .int .i64 0, .slice none 0 0]).setCell (p := ⟨w.heap.size + 1, 0, none⟩) (by simp) (.int .i64 (p : Int))).setCell (p := ⟨w.heap.size + 1 + 1, 0, none⟩) (by simp; omega) (.int .i64 E)).drew
theorem lex_ends (s : ByteArray) (hs : s.size ≤ 400) {l : List Tok} {q0 : Nat} (hl : lexAt s 0 = (some l, q0)) : EndK l ∧ l ≠ [] ∧ l.length ≤ 401 := by
  unfold lexAt at hl
  have h := lexG_endK _ _ _ l (congrArg Prod.fst hl)
  have hd : s.data.toList.length = s.size := rfl
  rw [List.drop_zero, hd] at h
  exact ⟨h.1, h.2.1, by omega⟩
theorem parseG_L {s : ByteArray} (hs : s.size ≤ 400) {l : List Tok} {q0 : Nat} (hl : lexAt s 0 = (some l, q0)) : parseG s = Num.parseL l := by
  unfold parseG
  rw [if_neg (by omega), hl]
theorem rem_zero (l : List Tok) : rem l 0 = l.map cont := by simp [rem]

set_option maxHeartbeats 4000000 in
theorem parse_no1 (s : ByteArray) (hs : s.size ≤ 400) (l : List Tok) (q0 : Nat) (hl : lexAt s 0 = (some l, q0)) (q : List TkC) (e1 : stmtR (rem l 0) = (none, q)) (w : World) (hG : Glob w) :
    Calls Tryz.prog 4 #[.string s] w fun e w' => ParseEnd w.heap.size (parseG s) e w' ∧ Below w.heap.size w w' := by
  have HO : Hid (parseG s = (none, placeAt l q, 3)) := by
    unfold Hid
    rw [parseG_L hs hl]
    unfold Num.parseL parseR bnd
    rw [← rem_zero, e1]
  obtain ⟨k2, k3, k4, hB0⟩ := boxes3 w
  obtain ⟨hE, hne, hlen⟩ := lex_ends s hs hl
  have hl0 : 0 < l.length := List.length_pos_iff.2 hne
  have hL := lex_any s hs
  rw [hl] at hL
  have hmf : ∀ (fn : Fn) (first cap : Array Value) (w : World), (Instr.makeFunc fn first cap).run Tryz.prog w = .ok (.func fn first cap) w := fun _ _ _ _ => rfl
  go_enter_defers Tryz.func4, Tryz.ntmps4
  go_wp2_with (first
    | (go_at_call 12; have hz := hPW; clear hz; refine (sqreadStmt_any hE _ hPW).mono ?_; intro e w2 hT2; obtain ⟨i2, rfl, hk2, hi2, hP2, hr2⟩ := tells_no hT2 rfl e1)
    | (go_at_call 9; refine (hL _ (hG.below hB0)).mono ?_; rintro e w1 ⟨hLE, hb1⟩
       obtain ⟨v, rfl, hown⟩ := hLE
       obtain ⟨ao, cap, rfl⟩ := own_formQ hown
       have j2 : Bx w1 (w.heap.size) 28 z10 := heap_next k2 hb1
       have j3 : Bx w1 (w.heap.size + 1) 3 #[iZ] := heap_next k3 hb1
       have j4 : Bx w1 (w.heap.size + 1 + 1) 29 #[iZ] := heap_next k4 hb1
       have l4 := j4.lt
       have d3 : w1.cell? ⟨w.heap.size + 1, 0, none⟩ = some (.int .i64 0) := j3.cell 0 _ rfl
       have g3 := j3.open 0
       have d4 : w1.cell? ⟨w.heap.size + 1 + 1, 0, none⟩ = some (.int .i64 0) := j4.cell 0 _ rfl
       have g4 := j4.open 0
       have hPW : PAt w1.heap.size (.slice ao l.length cap) l 0 ((((w1.setCell ⟨w.heap.size + 1, 0, none⟩ (.int .i64 0)).setCell ⟨w.heap.size + 1 + 1, 0, none⟩ (.int .i64 0)).alloc (.cells #[.slice ao l.length cap, .int .i64 0] 43)).alloc (.cells #[.pointer (some ⟨w1.heap.size, 0, none⟩)] 41)) := ⟨(Bx.newB (by simp)).alloc _, ⟨_, ((row_set (row_set hown j3 (by decide) 0 (.int .i64 0)) (j4.other (by omega) 0 (.int .i64 0)) (by decide) 0 (.int .i64 0)).alloc _).alloc _⟩, hl0, by omega⟩
       have n2 : Bx ((((w1.setCell ⟨w.heap.size + 1, 0, none⟩ (.int .i64 0)).setCell ⟨w.heap.size + 1 + 1, 0, none⟩ (.int .i64 0)).alloc (.cells #[.slice ao l.length cap, .int .i64 0] 43)).alloc (.cells #[.pointer (some ⟨w1.heap.size, 0, none⟩)] 41)) (w.heap.size) 28 #[.int .i64 0, .string ⟨#[]⟩, .string ⟨#[]⟩, .slice none 0 0, .slice none 0 0, .slice none 0 0, .slice none 0 0, .bool false, .int .i64 0, .slice none 0 0] := (((j2.other (by omega) 0 _).other (by omega) 0 _).alloc _).alloc _
       have n3 : Bx ((((w1.setCell ⟨w.heap.size + 1, 0, none⟩ (.int .i64 0)).setCell ⟨w.heap.size + 1 + 1, 0, none⟩ (.int .i64 0)).alloc (.cells #[.slice ao l.length cap, .int .i64 0] 43)).alloc (.cells #[.pointer (some ⟨w1.heap.size, 0, none⟩)] 41)) (w.heap.size + 1) 3 #[.int .i64 0] := (((j3.set 0 _).other (by omega) 0 _).alloc _).alloc _
       have n4 : Bx ((((w1.setCell ⟨w.heap.size + 1, 0, none⟩ (.int .i64 0)).setCell ⟨w.heap.size + 1 + 1, 0, none⟩ (.int .i64 0)).alloc (.cells #[.slice ao l.length cap, .int .i64 0] 43)).alloc (.cells #[.pointer (some ⟨w1.heap.size, 0, none⟩)] 41)) (w.heap.size + 1 + 1) 29 #[.int .i64 0] := (((j4.other (by omega) 0 _).set 0 _).alloc _).alloc _
       have np : Bx ((((w1.setCell ⟨w.heap.size + 1, 0, none⟩ (.int .i64 0)).setCell ⟨w.heap.size + 1 + 1, 0, none⟩ (.int .i64 0)).alloc (.cells #[.slice ao l.length cap, .int .i64 0] 43)).alloc (.cells #[.pointer (some ⟨w1.heap.size, 0, none⟩)] 41)) (w1.heap.size + 1) 41 #[.pointer (some ⟨w1.heap.size, 0, none⟩)] := Bx.newB (by simp)
       have hBW : Below w.heap.size w ((((w1.setCell ⟨w.heap.size + 1, 0, none⟩ (.int .i64 0)).setCell ⟨w.heap.size + 1 + 1, 0, none⟩ (.int .i64 0)).alloc (.cells #[.slice ao l.length cap, .int .i64 0] 43)).alloc (.cells #[.pointer (some ⟨w1.heap.size, 0, none⟩)] 41)) := ((((below_next hB0 (Nat.le_refl _) hb1).setCell (p := ⟨w.heap.size + 1, 0, none⟩) (by simp) _).setCell (p := ⟨w.heap.size + 1 + 1, 0, none⟩) (by simp; omega) _).alloc (by simp; omega) _).alloc (by simp; omega) _
       have hsW : w.heap.size ≤ ((((w1.setCell ⟨w.heap.size + 1, 0, none⟩ (.int .i64 0)).setCell ⟨w.heap.size + 1 + 1, 0, none⟩ (.int .i64 0)).alloc (.cells #[.slice ao l.length cap, .int .i64 0] 43)).alloc (.cells #[.pointer (some ⟨w1.heap.size, 0, none⟩)] 41)).heap.size := hBW.size
       have hgW : w1.heap.size < ((((w1.setCell ⟨w.heap.size + 1, 0, none⟩ (.int .i64 0)).setCell ⟨w.heap.size + 1 + 1, 0, none⟩ (.int .i64 0)).alloc (.cells #[.slice ao l.length cap, .int .i64 0] 43)).alloc (.cells #[.pointer (some ⟨w1.heap.size, 0, none⟩)] 41)).heap.size := (by simp; omega)))
  have m2 : Bx w2 (w.heap.size) 28 z10 := n2.kp hk2 (by omega)
  have m3 : Bx w2 (w.heap.size + 1) 3 #[iZ] := n3.kp hk2 (by omega)
  have m4 : Bx w2 (w.heap.size + 1 + 1) 29 #[iZ] := n4.kp hk2 (by omega)
  have mp : Bx w2 (w1.heap.size + 1) 41 #[.pointer (some ⟨w1.heap.size, 0, none⟩)] := np.kp hk2 (by omega)
  have hB2 : Below w.heap.size w w2 := bel_kp hBW hk2 (by omega) hsW
  obtain ⟨x, hx⟩ := PAt.tok hP2
  have hpl := place_of hx hr2
  refine doorQ_panic hx (w1.heap.size + 1) w.heap.size _ rfl rfl rfl w2 _ _ hP2 mp _ _ _ _ _ _ _ _ _ _ _ _ m2 m3 m4 fun w5 hb5 => ⟨?_, ?_⟩
  · rw [HO.out, hpl]
    rfl
  · unfold toldQ
    exact ((bel_sets (Nat.le_refl _) (below_next hB2 (Nat.le_refl _) hb5) 0 _).setCell (p := ⟨w.heap.size + 1, 0, none⟩) (by simp) _).setCell (p := ⟨w.heap.size + 1 + 1, 0, none⟩) (by simp; omega) _

set_option maxHeartbeats 4000000 in
theorem parse_no2 (s : ByteArray) (hs : s.size ≤ 400) (l : List Tok) (q0 : Nat) (hl : lexAt s 0 = (some l, q0)) (x : Stm) (q1 q : List TkC) (e1 : stmtR (rem l 0) = (some x, q1)) (e2 : endR q1 = (none, q)) (w : World) (hG : Glob w) :
    Calls Tryz.prog 4 #[.string s] w fun e w' => ParseEnd w.heap.size (parseG s) e w' ∧ Below w.heap.size w w' := by
  have HO : Hid (parseG s = (none, placeAt l q, 3)) := by
    unfold Hid
    rw [parseG_L hs hl]
    unfold Num.parseL parseR bnd
    rw [← rem_zero, e1]
    simp only [e2]
  obtain ⟨k2, k3, k4, hB0⟩ := boxes3 w
  obtain ⟨hE, hne, hlen⟩ := lex_ends s hs hl
  have hl0 : 0 < l.length := List.length_pos_iff.2 hne
  have hL := lex_any s hs
  rw [hl] at hL
  have hmf : ∀ (fn : Fn) (first cap : Array Value) (w : World), (Instr.makeFunc fn first cap).run Tryz.prog w = .ok (.func fn first cap) w := fun _ _ _ _ => rfl
  go_enter_defers Tryz.func4, Tryz.ntmps4
  go_wp2_with (first
    | (go_at_call 13; have hz := hP2s; clear hz; refine (sqreadEnd_any hE _ hP2s).mono ?_; intro e w3 hT3; obtain ⟨i3, rfl, hk3, hi3, hP3, hr3⟩ := tells_no hT3 hr2 e2)
    | (go_at_call 12; have hz := hPW; clear hz; refine (sqreadStmt_any hE _ hPW).mono ?_; intro e w2 hT2; obtain ⟨u2, i2, rfl, hk2, hi2, hP2, hr2, hV2⟩ := tells_yes hT2 rfl e1
       obtain ⟨t, hu2, hO2⟩ := hV2
       subst hu2
       have m2 : Bx w2 (w.heap.size) 28 z10 := n2.kp hk2 (by omega)
       have m3 : Bx w2 (w.heap.size + 1) 3 #[iZ] := n3.kp hk2 (by omega)
       have m4 : Bx w2 (w.heap.size + 1 + 1) 29 #[iZ] := n4.kp hk2 (by omega)
       have mp : Bx w2 (w1.heap.size + 1) 41 #[.pointer (some ⟨w1.heap.size, 0, none⟩)] := np.kp hk2 (by omega)
       have hB2 : Below w.heap.size w w2 := bel_kp hBW hk2 (by omega) hsW
       have c0 : w2.cell? ⟨w.heap.size, 0, none⟩ = some (.int .i64 0) := m2.cell 0 _ rfl
       have oc0 := m2.open 0
       have c1 : w2.cell? ⟨w.heap.size, 1, none⟩ = some (.string ⟨#[]⟩) := m2.cell 1 _ rfl
       have oc1 := m2.open 1
       have c2 : w2.cell? ⟨w.heap.size, 2, none⟩ = some (.string ⟨#[]⟩) := m2.cell 2 _ rfl
       have oc2 := m2.open 2
       have c3 : w2.cell? ⟨w.heap.size, 3, none⟩ = some (.slice none 0 0) := m2.cell 3 _ rfl
       have oc3 := m2.open 3
       have c4 : w2.cell? ⟨w.heap.size, 4, none⟩ = some (.slice none 0 0) := m2.cell 4 _ rfl
       have oc4 := m2.open 4
       have c5 : w2.cell? ⟨w.heap.size, 5, none⟩ = some (.slice none 0 0) := m2.cell 5 _ rfl
       have oc5 := m2.open 5
       have c6 : w2.cell? ⟨w.heap.size, 6, none⟩ = some (.slice none 0 0) := m2.cell 6 _ rfl
       have oc6 := m2.open 6
       have c7 : w2.cell? ⟨w.heap.size, 7, none⟩ = some (.bool false) := m2.cell 7 _ rfl
       have oc7 := m2.open 7
       have c8 : w2.cell? ⟨w.heap.size, 8, none⟩ = some (.int .i64 0) := m2.cell 8 _ rfl
       have oc8 := m2.open 8
       have c9 : w2.cell? ⟨w.heap.size, 9, none⟩ = some (.slice none 0 0) := m2.cell 9 _ rfl
       have oc9 := m2.open 9
       have hg2 : w1.heap.size < w2.heap.size := hP2.g_lt
       have lp2 := mp.lt
       have cp2 : w2.cell? ⟨w1.heap.size + 1, 0, none⟩ = some (.pointer (some ⟨w1.heap.size, 0, none⟩)) := mp.cell 0 _ rfl
       have e12 : ¬ w1.heap.size + 1 = w.heap.size := (by omega)
       have e21 : ¬ w.heap.size = w1.heap.size + 1 := (by omega)
       have hP2s := PAt.sets hP2 m2 (by decide) (by omega) 0 (lX x t)
       have m2s := box10 m2 (.int .i64 x.kind) (.string x.table) (.string x.name) (.slice t.co x.cols.length t.cc) (.slice t.vo x.vals.length t.vc) (.slice t.so x.sets.length t.sc) (.slice t.qo x.conds.length t.qc) (.bool x.uniq) (.int .i64 x.type) (.slice t.yo x.types.length t.yc)
       have m3s := Bx.others (c := w.heap.size) (by omega) m3 0 (lX x t)
       have m4s := Bx.others (c := w.heap.size) (by omega) m4 0 (lX x t)
       have mps := Bx.others (c := w.heap.size) (by omega) mp 0 (lX x t)
       have hO2s := hO2.setsS m2 0 (lX x t)
       have hB2s := bel_sets (Nat.le_refl w.heap.size) hB2 0 (lX x t))
    | (go_at_call 9; refine (hL _ (hG.below hB0)).mono ?_; rintro e w1 ⟨hLE, hb1⟩
       obtain ⟨v, rfl, hown⟩ := hLE
       obtain ⟨ao, cap, rfl⟩ := own_formQ hown
       have j2 : Bx w1 (w.heap.size) 28 z10 := heap_next k2 hb1
       have j3 : Bx w1 (w.heap.size + 1) 3 #[iZ] := heap_next k3 hb1
       have j4 : Bx w1 (w.heap.size + 1 + 1) 29 #[iZ] := heap_next k4 hb1
       have l4 := j4.lt
       have d3 : w1.cell? ⟨w.heap.size + 1, 0, none⟩ = some (.int .i64 0) := j3.cell 0 _ rfl
       have g3 := j3.open 0
       have d4 : w1.cell? ⟨w.heap.size + 1 + 1, 0, none⟩ = some (.int .i64 0) := j4.cell 0 _ rfl
       have g4 := j4.open 0
       have hPW : PAt w1.heap.size (.slice ao l.length cap) l 0 ((((w1.setCell ⟨w.heap.size + 1, 0, none⟩ (.int .i64 0)).setCell ⟨w.heap.size + 1 + 1, 0, none⟩ (.int .i64 0)).alloc (.cells #[.slice ao l.length cap, .int .i64 0] 43)).alloc (.cells #[.pointer (some ⟨w1.heap.size, 0, none⟩)] 41)) := ⟨(Bx.newB (by simp)).alloc _, ⟨_, ((row_set (row_set hown j3 (by decide) 0 (.int .i64 0)) (j4.other (by omega) 0 (.int .i64 0)) (by decide) 0 (.int .i64 0)).alloc _).alloc _⟩, hl0, by omega⟩
       have n2 : Bx ((((w1.setCell ⟨w.heap.size + 1, 0, none⟩ (.int .i64 0)).setCell ⟨w.heap.size + 1 + 1, 0, none⟩ (.int .i64 0)).alloc (.cells #[.slice ao l.length cap, .int .i64 0] 43)).alloc (.cells #[.pointer (some ⟨w1.heap.size, 0, none⟩)] 41)) (w.heap.size) 28 #[.int .i64 0, .string ⟨#[]⟩, .string ⟨#[]⟩, .slice none 0 0, .slice none 0 0, .slice none 0 0, .slice none 0 0, .bool false, .int .i64 0, .slice none 0 0] := (((j2.other (by omega) 0 _).other (by omega) 0 _).alloc _).alloc _
       have n3 : Bx ((((w1.setCell ⟨w.heap.size + 1, 0, none⟩ (.int .i64 0)).setCell ⟨w.heap.size + 1 + 1, 0, none⟩ (.int .i64 0)).alloc (.cells #[.slice ao l.length cap, .int .i64 0] 43)).alloc (.cells #[.pointer (some ⟨w1.heap.size, 0, none⟩)] 41)) (w.heap.size + 1) 3 #[.int .i64 0] := (((j3.set 0 _).other (by omega) 0 _).alloc _).alloc _
       have n4 : Bx ((((w1.setCell ⟨w.heap.size + 1, 0, none⟩ (.int .i64 0)).setCell ⟨w.heap.size + 1 + 1, 0, none⟩ (.int .i64 0)).alloc (.cells #[.slice ao l.length cap, .int .i64 0] 43)).alloc (.cells #[.pointer (some ⟨w1.heap.size, 0, none⟩)] 41)) (w.heap.size + 1 + 1) 29 #[.int .i64 0] := (((j4.other (by omega) 0 _).set 0 _).alloc _).alloc _
       have np : Bx ((((w1.setCell ⟨w.heap.size + 1, 0, none⟩ (.int .i64 0)).setCell ⟨w.heap.size + 1 + 1, 0, none⟩ (.int .i64 0)).alloc (.cells #[.slice ao l.length cap, .int .i64 0] 43)).alloc (.cells #[.pointer (some ⟨w1.heap.size, 0, none⟩)] 41)) (w1.heap.size + 1) 41 #[.pointer (some ⟨w1.heap.size, 0, none⟩)] := Bx.newB (by simp)
       have hBW : Below w.heap.size w ((((w1.setCell ⟨w.heap.size + 1, 0, none⟩ (.int .i64 0)).setCell ⟨w.heap.size + 1 + 1, 0, none⟩ (.int .i64 0)).alloc (.cells #[.slice ao l.length cap, .int .i64 0] 43)).alloc (.cells #[.pointer (some ⟨w1.heap.size, 0, none⟩)] 41)) := ((((below_next hB0 (Nat.le_refl _) hb1).setCell (p := ⟨w.heap.size + 1, 0, none⟩) (by simp) _).setCell (p := ⟨w.heap.size + 1 + 1, 0, none⟩) (by simp; omega) _).alloc (by simp; omega) _).alloc (by simp; omega) _
       have hsW : w.heap.size ≤ ((((w1.setCell ⟨w.heap.size + 1, 0, none⟩ (.int .i64 0)).setCell ⟨w.heap.size + 1 + 1, 0, none⟩ (.int .i64 0)).alloc (.cells #[.slice ao l.length cap, .int .i64 0] 43)).alloc (.cells #[.pointer (some ⟨w1.heap.size, 0, none⟩)] 41)).heap.size := hBW.size
       have hgW : w1.heap.size < ((((w1.setCell ⟨w.heap.size + 1, 0, none⟩ (.int .i64 0)).setCell ⟨w.heap.size + 1 + 1, 0, none⟩ (.int .i64 0)).alloc (.cells #[.slice ao l.length cap, .int .i64 0] 43)).alloc (.cells #[.pointer (some ⟨w1.heap.size, 0, none⟩)] 41)).heap.size := (by simp; omega)))
  have r2 := m2s.kp hk3 (by omega)
  have r3 := m3s.kp hk3 (by omega)
  have r4 := m4s.kp hk3 (by omega)
  have rp := mps.kp hk3 (by omega)
  have hB3 : Below w.heap.size w w3 := bel_kp hB2s hk3 (by omega) hB2s.size
  obtain ⟨y, hy⟩ := PAt.tok hP3
  have hpl := place_of hy hr3
  refine doorQ_panic hy (w1.heap.size + 1) w.heap.size _ rfl rfl rfl w3 _ _ hP3 rp _ _ _ _ _ _ _ _ _ _ _ _ r2 r3 r4 fun w5 hb5 => ⟨?_, ?_⟩
  · rw [HO.out, hpl]
    rfl
  · unfold toldQ
    exact ((bel_sets (Nat.le_refl _) (below_next hB3 (Nat.le_refl _) hb5) 0 _).setCell (p := ⟨w.heap.size + 1, 0, none⟩) (by simp) _).setCell (p := ⟨w.heap.size + 1 + 1, 0, none⟩) (by simp; omega) _

set_option maxHeartbeats 4000000 in
theorem parse_long (s : ByteArray) (hs : s.size ≤ 400) (l : List Tok) (q0 : Nat) (hl : lexAt s 0 = (some l, q0)) (x : Stm) (q1 q : List TkC) (e1 : stmtR (rem l 0) = (some x, q1)) (e2 : endR q1 = (some (), q)) (htmy : tooMany x = true) (w : World) (hG : Glob w) :
    Calls Tryz.prog 4 #[.string s] w fun e w' => ParseEnd w.heap.size (parseG s) e w' ∧ Below w.heap.size w w' := by
  have HO : Hid (parseG s = (none, 0, 2)) := by
    unfold Hid
    rw [parseG_L hs hl]
    unfold Num.parseL parseR bnd
    rw [← rem_zero, e1]
    simp only [e2, ret, htmy, if_true]
  have htm := sqtooMany_any x
  rw [htmy] at htm
  obtain ⟨k2, k3, k4, hB0⟩ := boxes3 w
  obtain ⟨hE, hne, hlen⟩ := lex_ends s hs hl
  have hl0 : 0 < l.length := List.length_pos_iff.2 hne
  have hL := lex_any s hs
  rw [hl] at hL
  have hmf : ∀ (fn : Fn) (first cap : Array Value) (w : World), (Instr.makeFunc fn first cap).run Tryz.prog w = .ok (.func fn first cap) w := fun _ _ _ _ => rfl
  go_enter_defers Tryz.func4, Tryz.ntmps4
  go_wp2_with (first
    | (go_at_call 14; have hz := hB3; clear hz; refine (htm _ _).mono ?_; rintro e w4 ⟨rfl, hb4⟩
       have y2 : Bx w4 (w.heap.size) 28 #[.int .i64 x.kind, .string x.table, .string x.name, .slice t.co x.cols.length t.cc, .slice t.vo x.vals.length t.vc, .slice t.so x.sets.length t.sc, .slice t.qo x.conds.length t.qc, .bool x.uniq, .int .i64 x.type, .slice t.yo x.types.length t.yc] := heap_next r2 hb4
       have y3 : Bx w4 (w.heap.size + 1) 3 #[iZ] := heap_next r3 hb4
       have y4 : Bx w4 (w.heap.size + 1 + 1) 29 #[iZ] := heap_next r4 hb4
       have z0 : w4.cell? ⟨w.heap.size, 0, none⟩ = some (.int .i64 x.kind) := y2.cell 0 _ rfl
       have oz0 := y2.open 0
       have z1 : w4.cell? ⟨w.heap.size, 1, none⟩ = some (.string x.table) := y2.cell 1 _ rfl
       have oz1 := y2.open 1
       have z2 : w4.cell? ⟨w.heap.size, 2, none⟩ = some (.string x.name) := y2.cell 2 _ rfl
       have oz2 := y2.open 2
       have z3 : w4.cell? ⟨w.heap.size, 3, none⟩ = some (.slice t.co x.cols.length t.cc) := y2.cell 3 _ rfl
       have oz3 := y2.open 3
       have z4 : w4.cell? ⟨w.heap.size, 4, none⟩ = some (.slice t.vo x.vals.length t.vc) := y2.cell 4 _ rfl
       have oz4 := y2.open 4
       have z5 : w4.cell? ⟨w.heap.size, 5, none⟩ = some (.slice t.so x.sets.length t.sc) := y2.cell 5 _ rfl
       have oz5 := y2.open 5
       have z6 : w4.cell? ⟨w.heap.size, 6, none⟩ = some (.slice t.qo x.conds.length t.qc) := y2.cell 6 _ rfl
       have oz6 := y2.open 6
       have z7 : w4.cell? ⟨w.heap.size, 7, none⟩ = some (.bool x.uniq) := y2.cell 7 _ rfl
       have oz7 := y2.open 7
       have z8 : w4.cell? ⟨w.heap.size, 8, none⟩ = some (.int .i64 x.type) := y2.cell 8 _ rfl
       have oz8 := y2.open 8
       have z9 : w4.cell? ⟨w.heap.size, 9, none⟩ = some (.slice t.yo x.types.length t.yc) := y2.cell 9 _ rfl
       have oz9 := y2.open 9
       have dd3 : w4.cell? ⟨w.heap.size + 1, 0, none⟩ = some (.int .i64 0) := y3.cell 0 _ rfl
       have gg3 := y3.open 0
       have dd4 : w4.cell? ⟨w.heap.size + 1 + 1, 0, none⟩ = some (.int .i64 0) := y4.cell 0 _ rfl
       have gg4 := y4.open 0)
    | (go_at_call 13; have hz := hP2s; clear hz; refine (sqreadEnd_any hE _ hP2s).mono ?_; intro e w3 hT3; obtain ⟨u3, i3, rfl, hk3, hi3, hP3, hr3, hV3⟩ := tells_yes hT3 hr2 e2
       obtain rfl : u3 = .tuple #[] := hV3
       have r2 := m2s.kp hk3 (by omega)
       have r3 := m3s.kp hk3 (by omega)
       have r4 := m4s.kp hk3 (by omega)
       have hB3 : Below w.heap.size w w3 := bel_kp hB2s hk3 (by omega) hB2s.size
       have hO3 := hO2s.kp hk3 hgW
       have x0 : w3.cell? ⟨w.heap.size, 0, none⟩ = some (.int .i64 x.kind) := r2.cell 0 _ rfl
       have x1 : w3.cell? ⟨w.heap.size, 1, none⟩ = some (.string x.table) := r2.cell 1 _ rfl
       have x2 : w3.cell? ⟨w.heap.size, 2, none⟩ = some (.string x.name) := r2.cell 2 _ rfl
       have x3 : w3.cell? ⟨w.heap.size, 3, none⟩ = some (.slice t.co x.cols.length t.cc) := r2.cell 3 _ rfl
       have x4 : w3.cell? ⟨w.heap.size, 4, none⟩ = some (.slice t.vo x.vals.length t.vc) := r2.cell 4 _ rfl
       have x5 : w3.cell? ⟨w.heap.size, 5, none⟩ = some (.slice t.so x.sets.length t.sc) := r2.cell 5 _ rfl
       have x6 : w3.cell? ⟨w.heap.size, 6, none⟩ = some (.slice t.qo x.conds.length t.qc) := r2.cell 6 _ rfl
       have x7 : w3.cell? ⟨w.heap.size, 7, none⟩ = some (.bool x.uniq) := r2.cell 7 _ rfl
       have x8 : w3.cell? ⟨w.heap.size, 8, none⟩ = some (.int .i64 x.type) := r2.cell 8 _ rfl
       have x9 : w3.cell? ⟨w.heap.size, 9, none⟩ = some (.slice t.yo x.types.length t.yc) := r2.cell 9 _ rfl)
    | (go_at_call 12; have hz := hPW; clear hz; refine (sqreadStmt_any hE _ hPW).mono ?_; intro e w2 hT2; obtain ⟨u2, i2, rfl, hk2, hi2, hP2, hr2, hV2⟩ := tells_yes hT2 rfl e1
       obtain ⟨t, hu2, hO2⟩ := hV2
       subst hu2
       have m2 : Bx w2 (w.heap.size) 28 z10 := n2.kp hk2 (by omega)
       have m3 : Bx w2 (w.heap.size + 1) 3 #[iZ] := n3.kp hk2 (by omega)
       have m4 : Bx w2 (w.heap.size + 1 + 1) 29 #[iZ] := n4.kp hk2 (by omega)
       have mp : Bx w2 (w1.heap.size + 1) 41 #[.pointer (some ⟨w1.heap.size, 0, none⟩)] := np.kp hk2 (by omega)
       have hB2 : Below w.heap.size w w2 := bel_kp hBW hk2 (by omega) hsW
       have c0 : w2.cell? ⟨w.heap.size, 0, none⟩ = some (.int .i64 0) := m2.cell 0 _ rfl
       have oc0 := m2.open 0
       have c1 : w2.cell? ⟨w.heap.size, 1, none⟩ = some (.string ⟨#[]⟩) := m2.cell 1 _ rfl
       have oc1 := m2.open 1
       have c2 : w2.cell? ⟨w.heap.size, 2, none⟩ = some (.string ⟨#[]⟩) := m2.cell 2 _ rfl
       have oc2 := m2.open 2
       have c3 : w2.cell? ⟨w.heap.size, 3, none⟩ = some (.slice none 0 0) := m2.cell 3 _ rfl
       have oc3 := m2.open 3
       have c4 : w2.cell? ⟨w.heap.size, 4, none⟩ = some (.slice none 0 0) := m2.cell 4 _ rfl
       have oc4 := m2.open 4
       have c5 : w2.cell? ⟨w.heap.size, 5, none⟩ = some (.slice none 0 0) := m2.cell 5 _ rfl
       have oc5 := m2.open 5
       have c6 : w2.cell? ⟨w.heap.size, 6, none⟩ = some (.slice none 0 0) := m2.cell 6 _ rfl
       have oc6 := m2.open 6
       have c7 : w2.cell? ⟨w.heap.size, 7, none⟩ = some (.bool false) := m2.cell 7 _ rfl
       have oc7 := m2.open 7
       have c8 : w2.cell? ⟨w.heap.size, 8, none⟩ = some (.int .i64 0) := m2.cell 8 _ rfl
       have oc8 := m2.open 8
       have c9 : w2.cell? ⟨w.heap.size, 9, none⟩ = some (.slice none 0 0) := m2.cell 9 _ rfl
       have oc9 := m2.open 9
       have hg2 : w1.heap.size < w2.heap.size := hP2.g_lt
       have lp2 := mp.lt
       have cp2 : w2.cell? ⟨w1.heap.size + 1, 0, none⟩ = some (.pointer (some ⟨w1.heap.size, 0, none⟩)) := mp.cell 0 _ rfl
       have e12 : ¬ w1.heap.size + 1 = w.heap.size := (by omega)
       have e21 : ¬ w.heap.size = w1.heap.size + 1 := (by omega)
       have hP2s := PAt.sets hP2 m2 (by decide) (by omega) 0 (lX x t)
       have m2s := box10 m2 (.int .i64 x.kind) (.string x.table) (.string x.name) (.slice t.co x.cols.length t.cc) (.slice t.vo x.vals.length t.vc) (.slice t.so x.sets.length t.sc) (.slice t.qo x.conds.length t.qc) (.bool x.uniq) (.int .i64 x.type) (.slice t.yo x.types.length t.yc)
       have m3s := Bx.others (c := w.heap.size) (by omega) m3 0 (lX x t)
       have m4s := Bx.others (c := w.heap.size) (by omega) m4 0 (lX x t)
       have mps := Bx.others (c := w.heap.size) (by omega) mp 0 (lX x t)
       have hO2s := hO2.setsS m2 0 (lX x t)
       have hB2s := bel_sets (Nat.le_refl w.heap.size) hB2 0 (lX x t))
    | (go_at_call 9; refine (hL _ (hG.below hB0)).mono ?_; rintro e w1 ⟨hLE, hb1⟩
       obtain ⟨v, rfl, hown⟩ := hLE
       obtain ⟨ao, cap, rfl⟩ := own_formQ hown
       have j2 : Bx w1 (w.heap.size) 28 z10 := heap_next k2 hb1
       have j3 : Bx w1 (w.heap.size + 1) 3 #[iZ] := heap_next k3 hb1
       have j4 : Bx w1 (w.heap.size + 1 + 1) 29 #[iZ] := heap_next k4 hb1
       have l4 := j4.lt
       have d3 : w1.cell? ⟨w.heap.size + 1, 0, none⟩ = some (.int .i64 0) := j3.cell 0 _ rfl
       have g3 := j3.open 0
       have d4 : w1.cell? ⟨w.heap.size + 1 + 1, 0, none⟩ = some (.int .i64 0) := j4.cell 0 _ rfl
       have g4 := j4.open 0
       have hPW : PAt w1.heap.size (.slice ao l.length cap) l 0 ((((w1.setCell ⟨w.heap.size + 1, 0, none⟩ (.int .i64 0)).setCell ⟨w.heap.size + 1 + 1, 0, none⟩ (.int .i64 0)).alloc (.cells #[.slice ao l.length cap, .int .i64 0] 43)).alloc (.cells #[.pointer (some ⟨w1.heap.size, 0, none⟩)] 41)) := ⟨(Bx.newB (by simp)).alloc _, ⟨_, ((row_set (row_set hown j3 (by decide) 0 (.int .i64 0)) (j4.other (by omega) 0 (.int .i64 0)) (by decide) 0 (.int .i64 0)).alloc _).alloc _⟩, hl0, by omega⟩
       have n2 : Bx ((((w1.setCell ⟨w.heap.size + 1, 0, none⟩ (.int .i64 0)).setCell ⟨w.heap.size + 1 + 1, 0, none⟩ (.int .i64 0)).alloc (.cells #[.slice ao l.length cap, .int .i64 0] 43)).alloc (.cells #[.pointer (some ⟨w1.heap.size, 0, none⟩)] 41)) (w.heap.size) 28 #[.int .i64 0, .string ⟨#[]⟩, .string ⟨#[]⟩, .slice none 0 0, .slice none 0 0, .slice none 0 0, .slice none 0 0, .bool false, .int .i64 0, .slice none 0 0] := (((j2.other (by omega) 0 _).other (by omega) 0 _).alloc _).alloc _
       have n3 : Bx ((((w1.setCell ⟨w.heap.size + 1, 0, none⟩ (.int .i64 0)).setCell ⟨w.heap.size + 1 + 1, 0, none⟩ (.int .i64 0)).alloc (.cells #[.slice ao l.length cap, .int .i64 0] 43)).alloc (.cells #[.pointer (some ⟨w1.heap.size, 0, none⟩)] 41)) (w.heap.size + 1) 3 #[.int .i64 0] := (((j3.set 0 _).other (by omega) 0 _).alloc _).alloc _
       have n4 : Bx ((((w1.setCell ⟨w.heap.size + 1, 0, none⟩ (.int .i64 0)).setCell ⟨w.heap.size + 1 + 1, 0, none⟩ (.int .i64 0)).alloc (.cells #[.slice ao l.length cap, .int .i64 0] 43)).alloc (.cells #[.pointer (some ⟨w1.heap.size, 0, none⟩)] 41)) (w.heap.size + 1 + 1) 29 #[.int .i64 0] := (((j4.other (by omega) 0 _).set 0 _).alloc _).alloc _
       have np : Bx ((((w1.setCell ⟨w.heap.size + 1, 0, none⟩ (.int .i64 0)).setCell ⟨w.heap.size + 1 + 1, 0, none⟩ (.int .i64 0)).alloc (.cells #[.slice ao l.length cap, .int .i64 0] 43)).alloc (.cells #[.pointer (some ⟨w1.heap.size, 0, none⟩)] 41)) (w1.heap.size + 1) 41 #[.pointer (some ⟨w1.heap.size, 0, none⟩)] := Bx.newB (by simp)
       have hBW : Below w.heap.size w ((((w1.setCell ⟨w.heap.size + 1, 0, none⟩ (.int .i64 0)).setCell ⟨w.heap.size + 1 + 1, 0, none⟩ (.int .i64 0)).alloc (.cells #[.slice ao l.length cap, .int .i64 0] 43)).alloc (.cells #[.pointer (some ⟨w1.heap.size, 0, none⟩)] 41)) := ((((below_next hB0 (Nat.le_refl _) hb1).setCell (p := ⟨w.heap.size + 1, 0, none⟩) (by simp) _).setCell (p := ⟨w.heap.size + 1 + 1, 0, none⟩) (by simp; omega) _).alloc (by simp; omega) _).alloc (by simp; omega) _
       have hsW : w.heap.size ≤ ((((w1.setCell ⟨w.heap.size + 1, 0, none⟩ (.int .i64 0)).setCell ⟨w.heap.size + 1 + 1, 0, none⟩ (.int .i64 0)).alloc (.cells #[.slice ao l.length cap, .int .i64 0] 43)).alloc (.cells #[.pointer (some ⟨w1.heap.size, 0, none⟩)] 41)).heap.size := hBW.size
       have hgW : w1.heap.size < ((((w1.setCell ⟨w.heap.size + 1, 0, none⟩ (.int .i64 0)).setCell ⟨w.heap.size + 1 + 1, 0, none⟩ (.int .i64 0)).alloc (.cells #[.slice ao l.length cap, .int .i64 0] 43)).alloc (.cells #[.pointer (some ⟨w1.heap.size, 0, none⟩)] 41)).heap.size := (by simp; omega)))
  have f2 := box10 y2 (.int .i64 0) (.string ⟨#[]⟩) (.string ⟨#[]⟩) (.slice none 0 0) (.slice none 0 0) (.slice none 0 0) (.slice none 0 0) (.bool false) (.int .i64 0) (.slice none 0 0)
  have f3 := ((y3.others (c := w.heap.size) (by omega) 0 [.int .i64 0, .string ⟨#[]⟩, .string ⟨#[]⟩, .slice none 0 0, .slice none 0 0, .slice none 0 0, .slice none 0 0, .bool false, .int .i64 0, .slice none 0 0]).set 0 (.int .i64 0)).other (c := w.heap.size + 1 + 1) (by omega) 0 (.int .i64 2)
  have f4 := ((y4.others (c := w.heap.size) (by omega) 0 [.int .i64 0, .string ⟨#[]⟩, .string ⟨#[]⟩, .slice none 0 0, .slice none 0 0, .slice none 0 0, .slice none 0 0, .bool false, .int .i64 0, .slice none 0 0]).other (c := w.heap.size + 1) (by omega) 0 (.int .i64 0)).set 0 (.int .i64 2)
  refine doorQ_ret (w1.heap.size + 1) w.heap.size _ rfl rfl rfl _ _ _ _ _ _ _ _ _ _ _ _ _ ((f2.other (by omega) 0 _).other (by omega) 0 _) f3 f4 ⟨?_, ?_⟩
  · rw [HO.out]
    rfl
  · exact ((bel_sets (Nat.le_refl _) (below_next hB3 (Nat.le_refl _) hb4) 0 [.int .i64 0, .string ⟨#[]⟩, .string ⟨#[]⟩, .slice none 0 0, .slice none 0 0, .slice none 0 0, .slice none 0 0, .bool false, .int .i64 0, .slice none 0 0]).setCell (p := ⟨w.heap.size + 1, 0, none⟩) (by simp) _).setCell (p := ⟨w.heap.size + 1 + 1, 0, none⟩) (by simp; omega) _

set_option maxHeartbeats 4000000 in
theorem parse_yes (s : ByteArray) (hs : s.size ≤ 400) (l : List Tok) (q0 : Nat) (hl : lexAt s 0 = (some l, q0)) (x : Stm) (q1 q : List TkC) (e1 : stmtR (rem l 0) = (some x, q1)) (e2 : endR q1 = (some (), q)) (htmy : tooMany x = false) (w : World) (hG : Glob w) :
    Calls Tryz.prog 4 #[.string s] w fun e w' => ParseEnd w.heap.size (parseG s) e w' ∧ Below w.heap.size w w' := by
  have HO : Hid (parseG s = (some x, 0, 0)) := by
    unfold Hid
    rw [parseG_L hs hl]
    unfold Num.parseL parseR bnd
    rw [← rem_zero, e1]
    simp only [e2, ret, htmy, Bool.false_eq_true, if_false]
  have htm := sqtooMany_any x
  rw [htmy] at htm
  obtain ⟨k2, k3, k4, hB0⟩ := boxes3 w
  obtain ⟨hE, hne, hlen⟩ := lex_ends s hs hl
  have hl0 : 0 < l.length := List.length_pos_iff.2 hne
  have hL := lex_any s hs
  rw [hl] at hL
  have hmf : ∀ (fn : Fn) (first cap : Array Value) (w : World), (Instr.makeFunc fn first cap).run Tryz.prog w = .ok (.func fn first cap) w := fun _ _ _ _ => rfl
  go_enter_defers Tryz.func4, Tryz.ntmps4
  go_wp2_with (first
    | (go_at_call 14; have hz := hB3; clear hz; refine (htm _ _).mono ?_; rintro e w4 ⟨rfl, hb4⟩
       have y2 : Bx w4 (w.heap.size) 28 #[.int .i64 x.kind, .string x.table, .string x.name, .slice t.co x.cols.length t.cc, .slice t.vo x.vals.length t.vc, .slice t.so x.sets.length t.sc, .slice t.qo x.conds.length t.qc, .bool x.uniq, .int .i64 x.type, .slice t.yo x.types.length t.yc] := heap_next r2 hb4
       have y3 : Bx w4 (w.heap.size + 1) 3 #[iZ] := heap_next r3 hb4
       have y4 : Bx w4 (w.heap.size + 1 + 1) 29 #[iZ] := heap_next r4 hb4
       have z0 : w4.cell? ⟨w.heap.size, 0, none⟩ = some (.int .i64 x.kind) := y2.cell 0 _ rfl
       have oz0 := y2.open 0
       have z1 : w4.cell? ⟨w.heap.size, 1, none⟩ = some (.string x.table) := y2.cell 1 _ rfl
       have oz1 := y2.open 1
       have z2 : w4.cell? ⟨w.heap.size, 2, none⟩ = some (.string x.name) := y2.cell 2 _ rfl
       have oz2 := y2.open 2
       have z3 : w4.cell? ⟨w.heap.size, 3, none⟩ = some (.slice t.co x.cols.length t.cc) := y2.cell 3 _ rfl
       have oz3 := y2.open 3
       have z4 : w4.cell? ⟨w.heap.size, 4, none⟩ = some (.slice t.vo x.vals.length t.vc) := y2.cell 4 _ rfl
       have oz4 := y2.open 4
       have z5 : w4.cell? ⟨w.heap.size, 5, none⟩ = some (.slice t.so x.sets.length t.sc) := y2.cell 5 _ rfl
       have oz5 := y2.open 5
       have z6 : w4.cell? ⟨w.heap.size, 6, none⟩ = some (.slice t.qo x.conds.length t.qc) := y2.cell 6 _ rfl
       have oz6 := y2.open 6
       have z7 : w4.cell? ⟨w.heap.size, 7, none⟩ = some (.bool x.uniq) := y2.cell 7 _ rfl
       have oz7 := y2.open 7
       have z8 : w4.cell? ⟨w.heap.size, 8, none⟩ = some (.int .i64 x.type) := y2.cell 8 _ rfl
       have oz8 := y2.open 8
       have z9 : w4.cell? ⟨w.heap.size, 9, none⟩ = some (.slice t.yo x.types.length t.yc) := y2.cell 9 _ rfl
       have oz9 := y2.open 9
       have dd3 : w4.cell? ⟨w.heap.size + 1, 0, none⟩ = some (.int .i64 0) := y3.cell 0 _ rfl
       have gg3 := y3.open 0
       have dd4 : w4.cell? ⟨w.heap.size + 1 + 1, 0, none⟩ = some (.int .i64 0) := y4.cell 0 _ rfl
       have gg4 := y4.open 0)
    | (go_at_call 13; have hz := hP2s; clear hz; refine (sqreadEnd_any hE _ hP2s).mono ?_; intro e w3 hT3; obtain ⟨u3, i3, rfl, hk3, hi3, hP3, hr3, hV3⟩ := tells_yes hT3 hr2 e2
       obtain rfl : u3 = .tuple #[] := hV3
       have r2 := m2s.kp hk3 (by omega)
       have r3 := m3s.kp hk3 (by omega)
       have r4 := m4s.kp hk3 (by omega)
       have hB3 : Below w.heap.size w w3 := bel_kp hB2s hk3 (by omega) hB2s.size
       have hO3 := hO2s.kp hk3 hgW
       have x0 : w3.cell? ⟨w.heap.size, 0, none⟩ = some (.int .i64 x.kind) := r2.cell 0 _ rfl
       have x1 : w3.cell? ⟨w.heap.size, 1, none⟩ = some (.string x.table) := r2.cell 1 _ rfl
       have x2 : w3.cell? ⟨w.heap.size, 2, none⟩ = some (.string x.name) := r2.cell 2 _ rfl
       have x3 : w3.cell? ⟨w.heap.size, 3, none⟩ = some (.slice t.co x.cols.length t.cc) := r2.cell 3 _ rfl
       have x4 : w3.cell? ⟨w.heap.size, 4, none⟩ = some (.slice t.vo x.vals.length t.vc) := r2.cell 4 _ rfl
       have x5 : w3.cell? ⟨w.heap.size, 5, none⟩ = some (.slice t.so x.sets.length t.sc) := r2.cell 5 _ rfl
       have x6 : w3.cell? ⟨w.heap.size, 6, none⟩ = some (.slice t.qo x.conds.length t.qc) := r2.cell 6 _ rfl
       have x7 : w3.cell? ⟨w.heap.size, 7, none⟩ = some (.bool x.uniq) := r2.cell 7 _ rfl
       have x8 : w3.cell? ⟨w.heap.size, 8, none⟩ = some (.int .i64 x.type) := r2.cell 8 _ rfl
       have x9 : w3.cell? ⟨w.heap.size, 9, none⟩ = some (.slice t.yo x.types.length t.yc) := r2.cell 9 _ rfl)
    | (go_at_call 12; have hz := hPW; clear hz; refine (sqreadStmt_any hE _ hPW).mono ?_; intro e w2 hT2; obtain ⟨u2, i2, rfl, hk2, hi2, hP2, hr2, hV2⟩ := tells_yes hT2 rfl e1
       obtain ⟨t, hu2, hO2⟩ := hV2
       subst hu2
       have m2 : Bx w2 (w.heap.size) 28 z10 := n2.kp hk2 (by omega)
       have m3 : Bx w2 (w.heap.size + 1) 3 #[iZ] := n3.kp hk2 (by omega)
       have m4 : Bx w2 (w.heap.size + 1 + 1) 29 #[iZ] := n4.kp hk2 (by omega)
       have mp : Bx w2 (w1.heap.size + 1) 41 #[.pointer (some ⟨w1.heap.size, 0, none⟩)] := np.kp hk2 (by omega)
       have hB2 : Below w.heap.size w w2 := bel_kp hBW hk2 (by omega) hsW
       have c0 : w2.cell? ⟨w.heap.size, 0, none⟩ = some (.int .i64 0) := m2.cell 0 _ rfl
       have oc0 := m2.open 0
       have c1 : w2.cell? ⟨w.heap.size, 1, none⟩ = some (.string ⟨#[]⟩) := m2.cell 1 _ rfl
       have oc1 := m2.open 1
       have c2 : w2.cell? ⟨w.heap.size, 2, none⟩ = some (.string ⟨#[]⟩) := m2.cell 2 _ rfl
       have oc2 := m2.open 2
       have c3 : w2.cell? ⟨w.heap.size, 3, none⟩ = some (.slice none 0 0) := m2.cell 3 _ rfl
       have oc3 := m2.open 3
       have c4 : w2.cell? ⟨w.heap.size, 4, none⟩ = some (.slice none 0 0) := m2.cell 4 _ rfl
       have oc4 := m2.open 4
       have c5 : w2.cell? ⟨w.heap.size, 5, none⟩ = some (.slice none 0 0) := m2.cell 5 _ rfl
       have oc5 := m2.open 5
       have c6 : w2.cell? ⟨w.heap.size, 6, none⟩ = some (.slice none 0 0) := m2.cell 6 _ rfl
       have oc6 := m2.open 6
       have c7 : w2.cell? ⟨w.heap.size, 7, none⟩ = some (.bool false) := m2.cell 7 _ rfl
       have oc7 := m2.open 7
       have c8 : w2.cell? ⟨w.heap.size, 8, none⟩ = some (.int .i64 0) := m2.cell 8 _ rfl
       have oc8 := m2.open 8
       have c9 : w2.cell? ⟨w.heap.size, 9, none⟩ = some (.slice none 0 0) := m2.cell 9 _ rfl
       have oc9 := m2.open 9
       have hg2 : w1.heap.size < w2.heap.size := hP2.g_lt
       have lp2 := mp.lt
       have cp2 : w2.cell? ⟨w1.heap.size + 1, 0, none⟩ = some (.pointer (some ⟨w1.heap.size, 0, none⟩)) := mp.cell 0 _ rfl
       have e12 : ¬ w1.heap.size + 1 = w.heap.size := (by omega)
       have e21 : ¬ w.heap.size = w1.heap.size + 1 := (by omega)
       have hP2s := PAt.sets hP2 m2 (by decide) (by omega) 0 (lX x t)
       have m2s := box10 m2 (.int .i64 x.kind) (.string x.table) (.string x.name) (.slice t.co x.cols.length t.cc) (.slice t.vo x.vals.length t.vc) (.slice t.so x.sets.length t.sc) (.slice t.qo x.conds.length t.qc) (.bool x.uniq) (.int .i64 x.type) (.slice t.yo x.types.length t.yc)
       have m3s := Bx.others (c := w.heap.size) (by omega) m3 0 (lX x t)
       have m4s := Bx.others (c := w.heap.size) (by omega) m4 0 (lX x t)
       have mps := Bx.others (c := w.heap.size) (by omega) mp 0 (lX x t)
       have hO2s := hO2.setsS m2 0 (lX x t)
       have hB2s := bel_sets (Nat.le_refl w.heap.size) hB2 0 (lX x t))
    | (go_at_call 9; refine (hL _ (hG.below hB0)).mono ?_; rintro e w1 ⟨hLE, hb1⟩
       obtain ⟨v, rfl, hown⟩ := hLE
       obtain ⟨ao, cap, rfl⟩ := own_formQ hown
       have j2 : Bx w1 (w.heap.size) 28 z10 := heap_next k2 hb1
       have j3 : Bx w1 (w.heap.size + 1) 3 #[iZ] := heap_next k3 hb1
       have j4 : Bx w1 (w.heap.size + 1 + 1) 29 #[iZ] := heap_next k4 hb1
       have l4 := j4.lt
       have d3 : w1.cell? ⟨w.heap.size + 1, 0, none⟩ = some (.int .i64 0) := j3.cell 0 _ rfl
       have g3 := j3.open 0
       have d4 : w1.cell? ⟨w.heap.size + 1 + 1, 0, none⟩ = some (.int .i64 0) := j4.cell 0 _ rfl
       have g4 := j4.open 0
       have hPW : PAt w1.heap.size (.slice ao l.length cap) l 0 ((((w1.setCell ⟨w.heap.size + 1, 0, none⟩ (.int .i64 0)).setCell ⟨w.heap.size + 1 + 1, 0, none⟩ (.int .i64 0)).alloc (.cells #[.slice ao l.length cap, .int .i64 0] 43)).alloc (.cells #[.pointer (some ⟨w1.heap.size, 0, none⟩)] 41)) := ⟨(Bx.newB (by simp)).alloc _, ⟨_, ((row_set (row_set hown j3 (by decide) 0 (.int .i64 0)) (j4.other (by omega) 0 (.int .i64 0)) (by decide) 0 (.int .i64 0)).alloc _).alloc _⟩, hl0, by omega⟩
       have n2 : Bx ((((w1.setCell ⟨w.heap.size + 1, 0, none⟩ (.int .i64 0)).setCell ⟨w.heap.size + 1 + 1, 0, none⟩ (.int .i64 0)).alloc (.cells #[.slice ao l.length cap, .int .i64 0] 43)).alloc (.cells #[.pointer (some ⟨w1.heap.size, 0, none⟩)] 41)) (w.heap.size) 28 #[.int .i64 0, .string ⟨#[]⟩, .string ⟨#[]⟩, .slice none 0 0, .slice none 0 0, .slice none 0 0, .slice none 0 0, .bool false, .int .i64 0, .slice none 0 0] := (((j2.other (by omega) 0 _).other (by omega) 0 _).alloc _).alloc _
       have n3 : Bx ((((w1.setCell ⟨w.heap.size + 1, 0, none⟩ (.int .i64 0)).setCell ⟨w.heap.size + 1 + 1, 0, none⟩ (.int .i64 0)).alloc (.cells #[.slice ao l.length cap, .int .i64 0] 43)).alloc (.cells #[.pointer (some ⟨w1.heap.size, 0, none⟩)] 41)) (w.heap.size + 1) 3 #[.int .i64 0] := (((j3.set 0 _).other (by omega) 0 _).alloc _).alloc _
       have n4 : Bx ((((w1.setCell ⟨w.heap.size + 1, 0, none⟩ (.int .i64 0)).setCell ⟨w.heap.size + 1 + 1, 0, none⟩ (.int .i64 0)).alloc (.cells #[.slice ao l.length cap, .int .i64 0] 43)).alloc (.cells #[.pointer (some ⟨w1.heap.size, 0, none⟩)] 41)) (w.heap.size + 1 + 1) 29 #[.int .i64 0] := (((j4.other (by omega) 0 _).set 0 _).alloc _).alloc _
       have np : Bx ((((w1.setCell ⟨w.heap.size + 1, 0, none⟩ (.int .i64 0)).setCell ⟨w.heap.size + 1 + 1, 0, none⟩ (.int .i64 0)).alloc (.cells #[.slice ao l.length cap, .int .i64 0] 43)).alloc (.cells #[.pointer (some ⟨w1.heap.size, 0, none⟩)] 41)) (w1.heap.size + 1) 41 #[.pointer (some ⟨w1.heap.size, 0, none⟩)] := Bx.newB (by simp)
       have hBW : Below w.heap.size w ((((w1.setCell ⟨w.heap.size + 1, 0, none⟩ (.int .i64 0)).setCell ⟨w.heap.size + 1 + 1, 0, none⟩ (.int .i64 0)).alloc (.cells #[.slice ao l.length cap, .int .i64 0] 43)).alloc (.cells #[.pointer (some ⟨w1.heap.size, 0, none⟩)] 41)) := ((((below_next hB0 (Nat.le_refl _) hb1).setCell (p := ⟨w.heap.size + 1, 0, none⟩) (by simp) _).setCell (p := ⟨w.heap.size + 1 + 1, 0, none⟩) (by simp; omega) _).alloc (by simp; omega) _).alloc (by simp; omega) _
       have hsW : w.heap.size ≤ ((((w1.setCell ⟨w.heap.size + 1, 0, none⟩ (.int .i64 0)).setCell ⟨w.heap.size + 1 + 1, 0, none⟩ (.int .i64 0)).alloc (.cells #[.slice ao l.length cap, .int .i64 0] 43)).alloc (.cells #[.pointer (some ⟨w1.heap.size, 0, none⟩)] 41)).heap.size := hBW.size
       have hgW : w1.heap.size < ((((w1.setCell ⟨w.heap.size + 1, 0, none⟩ (.int .i64 0)).setCell ⟨w.heap.size + 1 + 1, 0, none⟩ (.int .i64 0)).alloc (.cells #[.slice ao l.length cap, .int .i64 0] 43)).alloc (.cells #[.pointer (some ⟨w1.heap.size, 0, none⟩)] 41)).heap.size := (by simp; omega)))
  have f2 := box10 y2 (.int .i64 x.kind) (.string x.table) (.string x.name) (.slice t.co x.cols.length t.cc) (.slice t.vo x.vals.length t.vc) (.slice t.so x.sets.length t.sc) (.slice t.qo x.conds.length t.qc) (.bool x.uniq) (.int .i64 x.type) (.slice t.yo x.types.length t.yc)
  have f3 := ((y3.others (c := w.heap.size) (by omega) 0 (lX x t)).set 0 (.int .i64 0)).other (c := w.heap.size + 1 + 1) (by omega) 0 (.int .i64 0)
  have f4 := ((y4.others (c := w.heap.size) (by omega) 0 (lX x t)).other (c := w.heap.size + 1) (by omega) 0 (.int .i64 0)).set 0 (.int .i64 0)
  refine doorQ_ret (w1.heap.size + 1) w.heap.size _ rfl rfl rfl _ _ _ _ _ _ _ _ _ _ _ _ _ ((f2.other (by omega) 0 _).other (by omega) 0 _) f3 f4 ⟨?_, ?_⟩
  · rw [HO.out]
    exact ⟨t, rfl, ((((hO3.bel hb4).setsS y2 0 (lX x t)).low (b := w.heap.size + 1) (by omega) 0 (.int .i64 0)).low (b := w.heap.size + 1 + 1) (by omega) 0 (.int .i64 0)).mono hsW⟩
  · exact ((bel_sets (Nat.le_refl _) (below_next hB3 (Nat.le_refl _) hb4) 0 (lX x t)).setCell (p := ⟨w.heap.size + 1, 0, none⟩) (by simp) _).setCell (p := ⟨w.heap.size + 1 + 1, 0, none⟩) (by simp; omega) _

theorem sqParse_any (s : ByteArray) (w : World) (hG : Glob w) :
  Calls Tryz.prog 4 #[.string s] w fun e w' => ParseEnd w.heap.size (parseG s) e w' ∧ Below w.heap.size w w' := by
 by_cases hs : s.size ≤ 400
 ·rcases hl : lexAt s 0 with ⟨o, q0⟩
  cases o with
  | none =>
   have hg : parseG s = (none, q0, 3) := by
    unfold parseG
    rw [if_neg (by omega), hl]
   have hL := lex_any s hs
   rw [hl] at hL
   have h := parse_lex s q0 3 (by decide) (fun W hW => (hL W hW).mono fun e w' h => ⟨h.1, h.2⟩) w hG
   rw [hg]
   exact h
  | some l =>
   rcases e1 : stmtR (rem l 0) with ⟨o1, q1⟩
   cases o1 with
   | none => exact parse_no1 s hs l q0 hl q1 e1 w hG
   | some x =>
    rcases e2 : endR q1 with ⟨o2, q⟩
    cases o2 with
    | none => exact parse_no2 s hs l q0 hl x q1 q e1 e2 w hG
    | some u =>
     cases u
     cases ht : tooMany x with
     | true => exact parse_long s hs l q0 hl x q1 q e1 e2 ht w hG
     | false => exact parse_yes s hs l q0 hl x q1 q e1 e2 ht w hG
 ·have hg : parseG s = (none, 0, 2) := by
   unfold parseG
   rw [if_pos (by omega)]
  have h := parse_lex s 0 2 (by decide) (fun W hW => (lex_long s hs W).mono fun e w' h => ⟨h.1, by rw [h.2]; exact Below.refl _ _⟩) w hG
  rw [hg]
  exact h
end Go.Proofs.YtiajlhjjmlakmaaGreatDoor
