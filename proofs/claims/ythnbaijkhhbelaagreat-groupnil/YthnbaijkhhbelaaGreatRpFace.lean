/-
  Contracts: the face: a copy of a replica does its turn; what panics is told as an error, beside the replica as it was.
-/
import Derived.Test.YthnbaijkhhbelaaGreatRpCop
import Derived.Test.YthnbaijkhhbelaaGreatRpMay
import Derived.Defers
import Derived.Recover
namespace Go.Proofs.YthnbaijkhhbelaaGreat
open Go.RowKit Num
open scoped Classical
set_option linter.unusedVariables false
set_option maxRecDepth 100000

/-- But for one block what lies below B stays. -/
structure Num.LowB (B : Nat) (p : Option Nat) (w w' : World) : Prop where
  os : w'.os = w.os
  tape : w'.tape = w.tape
  output : w'.output = w.output
  size : w.heap.size ≤ w'.heap.size
  block : ∀ k, k < B → p ≠ some k → w'.heap[k]? = w.heap[k]?
theorem Num.LowB.of_below {B : Nat} {w w' : World} (h : Below B w w') (p : Option Nat) : LowB B p w w' := ⟨h.os, h.tape, h.output, h.size, fun k hk _ => h.block k hk⟩
theorem Num.LowB.trans {B : Nat} {p : Option Nat} {a b c : World} (h : LowB B p a b) (k : LowB B p b c) : LowB B p a c :=
  ⟨k.os.trans h.os, k.tape.trans h.tape, k.output.trans h.output, Nat.le_trans h.size k.size, fun i hi hp => (k.block i hi hp).trans (h.block i hi hp)⟩
theorem Num.LowB.mono {B B' : Nat} {p : Option Nat} {w w' : World} (h : LowB B p w w') (hB : B' ≤ B) : LowB B' p w w' := ⟨h.os, h.tape, h.output, h.size, fun k hk => h.block k (Nat.lt_of_lt_of_le hk hB)⟩
theorem Num.LowB.below {B : Nat} {w w' : World} (h : LowB B none w w') : Below B w w' := ⟨h.os, h.tape, h.output, h.size, fun k hk => h.block k hk (by simp)⟩
theorem assert_errno (v : Value) (w : World) : (Instr.typeAssert (.iface 26 v) 20 26 true).run Tryz.prog w = .ok (.tuple #[v, .bool true]) w := by kernel_rfl
theorem reason_any (e : Int) (w : World) : Calls Tryz.prog 104 #[.iface 26 (.int .i64 e)] w fun r w' => r = .returned (.int .i64 e) ∧ w' = w := by
  have ha := assert_errno (.int .i64 e)
  go_enter Tryz.func104, Tryz.ntmps104
  go_wp2
  go_ret
  exact ⟨rfl, rfl⟩
/-- A box of a replica whose lists lie at s. -/
abbrev Num.BoxS (w : World) (g : Nat) (r : Rep) (s : Sl) : Prop := BoxF w g 46 13 (repF r (.slice s.lo r.log.length s.lc) (.slice s.ao r.acked.length s.ac) (.slice s.vo r.votes.length s.vc) (.slice s.wo r.voters.length s.wc) (.slice s.bo r.best.length s.bc) undef)
/-- A box of one cell. -/
abbrev Num.Box1 (w : World) (g : Nat) (t : TypeId) (v : Value) : Prop := w.heap[g]? = some (.cells #[v] t (0, 0))
theorem box1_set {w : World} {g : Nat} {t : TypeId} {v : Value} (h : Box1 w g t v) (u : Value) : Box1 (w.setCell ⟨g, 0, none⟩ u) g t u := (heap_setCell_same w g 0 _ _ _ h).trans (by simp)
theorem box1_far {w : World} {g b i : Nat} {t : TypeId} {v : Value} (h : Box1 w g t v) (hne : g ≠ b) (u : Value) : Box1 (w.setCell ⟨b, i, none⟩ u) g t v := (Below.heap_setCell _ _ _ _ hne).trans h
theorem sets_far {b g : Nat} (hne : g ≠ b) : ∀ (l : List (Nat × Value)) (w : World), (sets w b l).heap[g]? = w.heap[g]?
  | [], _ => rfl
  | (i, v) :: l, w => (sets_far hne l _).trans (Below.heap_setCell _ _ _ _ hne)
theorem boxF_far {w : World} {g b i : Nat} {t : TypeId} {N : Nat} {f : Nat → Value} (h : BoxF w g t N f) (hne : g ≠ b) (u : Value) : BoxF (w.setCell ⟨b, i, none⟩ u) g t N f := h.kept (Below.heap_setCell _ _ _ _ hne)
/-- The results' boxes as they are told beside a replica and its lists. -/
abbrev Num.told (w : World) (b1 b2 b3 : Nat) (r : Rep) (s : Sl) (x : Value) (e : Int) : World := ((sets w b1 [(0, .int .i64 r.id), (1, .int .i64 r.n), (2, .int .i64 r.view), (3, .int .i64 r.normal), (4, .int .i64 r.how), (5, .slice s.lo r.log.length s.lc), (6, .int .i64 r.commit), (7, .slice s.ao r.acked.length s.ac), (8, .slice s.vo r.votes.length s.vc), (9, .slice s.wo r.voters.length s.wc), (10, .slice s.bo r.best.length s.bc), (11, .int .i64 r.bestView), (12, .int .i64 r.bestDone)]).setCell ⟨b2, 0, none⟩ x).setCell ⟨b3, 0, none⟩ (.int .i64 e)
theorem told_is {w : World} {b1 b2 b3 : Nat} (u2 : b2 ≠ b1) (u3 : b3 ≠ b1) (u4 : b3 ≠ b2) {q : Rep} {vl va vv vw vb : Value} {y2 y3 : Value} (h1 : BoxF w b1 46 13 (repF q vl va vv vw vb undef)) (h2 : Box1 w b2 63 y2) (h3 : Box1 w b3 26 y3) (r : Rep) (s : Sl) (x : Value) (e : Int) :
    BoxS (told w b1 b2 b3 r s x e) b1 r s ∧ Box1 (told w b1 b2 b3 r s x e) b2 63 x ∧ Box1 (told w b1 b2 b3 r s x e) b3 26 (.int .i64 e) ∧ ∀ k, k ≠ b1 → k ≠ b2 → k ≠ b3 → (told w b1 b2 b3 r s x e).heap[k]? = w.heap[k]? :=
  ⟨boxF_far (boxF_far (box_whole h1 (by omega) r (.slice s.lo r.log.length s.lc) (.slice s.ao r.acked.length s.ac) (.slice s.vo r.votes.length s.vc) (.slice s.wo r.voters.length s.wc) (.slice s.bo r.best.length s.bc)) u2.symm _) u3.symm _, box1_far (box1_set ((sets_far u2 _ _).trans h2) _) u4.symm _, box1_set (box1_far ((sets_far u3 _ _).trans h3) u4 _) _, fun k k1 k2 k3 => (Below.heap_setCell _ _ _ _ k3).trans ((Below.heap_setCell _ _ _ _ k2).trans (sets_far k1 _ _))⟩
theorem told_size (w : World) (b1 b2 b3 : Nat) (r : Rep) (s : Sl) (x : Value) (e : Int) : (told w b1 b2 b3 r s x e).heap.size = w.heap.size ∧ (told w b1 b2 b3 r s x e).os = w.os ∧ (told w b1 b2 b3 r s x e).tape = w.tape ∧ (told w b1 b2 b3 r s x e).output = w.output := by
  simp [told, sets, World.setCell]
theorem told_rows {w : World} {b1 b2 b3 : Nat} {q : Rep} {vl va vv vw vb : Value} {y2 y3 : Value} (h1 : BoxF w b1 46 13 (repF q vl va vv vw vb undef)) (h2 : Box1 w b2 63 y2) (h3 : Box1 w b3 26 y3) (u2 : b2 ≠ b1) (u3 : b3 ≠ b1) (u4 : b3 ≠ b2) (r : Rep) (s : Sl) (x : Value) (e : Int) {B e' sz n : Nat} {v : Value} {xs : List Value} (h : w.ownsRow B e' sz v n xs) (t1 : e' ≠ 46) (t2 : e' ≠ 63) (t3 : e' ≠ 26) : (told w b1 b2 b3 r s x e).ownsRow B e' sz v n xs := by
  obtain ⟨_, _, _, hk⟩ := told_is u2 u3 u4 h1 h2 h3 r s x e
  refine ⟨h.1, ?_⟩
  rcases h.2 with h0 | ⟨g, cap, cur, hv, hb, hg, rest⟩
  · exact .inl h0
  · obtain ⟨cs, h1', _, _⟩ := h1
    exact .inr ⟨g, cap, cur, hv, hb, (hk g (fun e => by subst e; rw [hg] at h1'; cases h1'; exact t1 rfl) (fun e => by subst e; have h2' := hg.symm.trans h2; cases h2'; exact t2 rfl) (fun e => by subst e; have h3' := hg.symm.trans h3; cases h3'; exact t3 rfl)).trans hg, rest⟩
theorem told_rowsR {w : World} {b1 b2 b3 : Nat} {q : Rep} {vl va vv vw vb : Value} {y2 y3 : Value} (h1 : BoxF w b1 46 13 (repF q vl va vv vw vb undef)) (h2 : Box1 w b2 63 y2) (h3 : Box1 w b3 26 y3) (u2 : b2 ≠ b1) (u3 : b3 ≠ b1) (u4 : b3 ≠ b2) (r : Rep) (s : Sl) (x : Value) (e : Int) {B : Nat} {q' : Rep} {s' : Sl} (h : RowsS B w q' s') : RowsS B (told w b1 b2 b3 r s x e) q' s' :=
  ⟨told_rows h1 h2 h3 u2 u3 u4 r s x e h.log (by decide) (by decide) (by decide), told_rows h1 h2 h3 u2 u3 u4 r s x e h.best (by decide) (by decide) (by decide), told_rows h1 h2 h3 u2 u3 u4 r s x e h.ack (by decide) (by decide) (by decide), told_rows h1 h2 h3 u2 u3 u4 r s x e h.vot (by decide) (by decide) (by decide), told_rows h1 h2 h3 u2 u3 u4 r s x e h.vor (by decide) (by decide) (by decide), h.a1, h.a2, h.a3, h.a4⟩
theorem told_own {w : World} {b1 b2 b3 : Nat} {q : Rep} {vl va vv vw vb : Value} {y2 y3 : Value} (h1 : BoxF w b1 46 13 (repF q vl va vv vw vb undef)) (h2 : Box1 w b2 63 y2) (h3 : Box1 w b3 26 y3) (u2 : b2 ≠ b1) (u3 : b3 ≠ b1) (u4 : b3 ≠ b2) (r : Rep) (s : Sl) (x : Value) (e : Int) {B : Nat} {v : Value} {l : Msgs} (h : OwnO B w v l) : OwnO B (told w b1 b2 b3 r s x e) v l := by
  obtain ⟨css, a, b, c, d⟩ := h
  exact ⟨css, a, b, told_rows h1 h2 h3 u2 u3 u4 r s x e c (by decide) (by decide) (by decide), fun i cs y hi hy => by
    obtain ⟨c, e1, h4⟩ := d i cs y hi hy
    exact ⟨c, e1, told_rows h1 h2 h3 u2 u3 u4 r s x e h4 (by decide) (by decide) (by decide)⟩⟩
set_option maxRecDepth 100000 in
set_option maxHeartbeats 2000000 in
/-- The deferred function of a frame that panics: it tells the replica as it was, and the error. -/
theorem catchF_panicking (b0 b1 b2 b3 : Nat) (u2 : b2 ≠ b1) (u3 : b3 ≠ b1) (u4 : b3 ≠ b2) (r : Rep) (s : Sl) (hsm : SmallR r) (q : Rep) (vl va vv vw vb : Value) (y2 y3 : Value) (e : Int) (older : List PanicEntry) (w : World)
    (h0 : BoxS w b0 r s) (h1 : BoxF w b1 46 13 (repF q vl va vv vw vb undef)) (h2 : Box1 w b2 63 y2) (h3 : Box1 w b3 26 y3) (hl : LiesR w w.heap.size s r) :
    CallsD Tryz.prog 102 #[.pointer (some ⟨b0, 0, none⟩), .pointer (some ⟨b1, 0, none⟩), .pointer (some ⟨b2, 0, none⟩), .pointer (some ⟨b3, 0, none⟩)] (.panicking ({ v := .iface 26 (.int .i64 e), recovered := false } :: older)) w fun x u' w' =>
      x = .returned (.tuple #[]) ∧ u' = .panicking ({ v := .iface 26 (.int .i64 e), recovered := true } :: older) ∧ ∃ s' w1, w' = told w1 b1 b2 b3 r s' (.slice none 0 0) e ∧ Below w.heap.size w w1 ∧ RowsS w.heap.size w1 r s' := by
  have hcop := copied_any r s hsm w hl
  have hrea := fun W => reason_any e W
  obtain ⟨c0, c1, c2, c3, c4, c5, c6, c7, c8, c9, c10, c11, c12⟩ := h0.rep (by omega)
  refine callsD_of_wpS Tryz.func102 rfl fun c₀ cs hu => ?_
  apply wpS_seq
  apply wpS_region
  simp [wpOpsS, go_sem, recoverD, hu, Tryz.ntmps102, Exit.thenS]
  refine wpS_of_wp ?_
  go_wp2_with (first
    | (go_at_call 103; refine hcop.mono ?_; rintro x w1 ⟨s1, rfl, hrw1, hb1⟩
       obtain ⟨d0, d1, d2, d3, d4, d5, d6, d7, d8, d9, d10, d11, d12⟩ := (h1.below hb1).rep (by omega)
       have dz := (h1.below hb1).unfrozen
       have f2 : Box1 (sets w1 b1 [(0, .int .i64 r.id), (1, .int .i64 r.n), (2, .int .i64 r.view), (3, .int .i64 r.normal), (4, .int .i64 r.how), (5, .slice s1.lo r.log.length s1.lc), (6, .int .i64 r.commit), (7, .slice s1.ao r.acked.length s1.ac), (8, .slice s1.vo r.votes.length s1.vc), (9, .slice s1.wo r.voters.length s1.wc), (10, .slice s1.bo r.best.length s1.bc), (11, .int .i64 r.bestView), (12, .int .i64 r.bestDone)]) b2 63 y2 := (sets_far u2 _ _).trans (below_box hb1 h2)
       have f3 : Box1 ((sets w1 b1 [(0, .int .i64 r.id), (1, .int .i64 r.n), (2, .int .i64 r.view), (3, .int .i64 r.normal), (4, .int .i64 r.how), (5, .slice s1.lo r.log.length s1.lc), (6, .int .i64 r.commit), (7, .slice s1.ao r.acked.length s1.ac), (8, .slice s1.vo r.votes.length s1.vc), (9, .slice s1.wo r.voters.length s1.wc), (10, .slice s1.bo r.best.length s1.bc), (11, .int .i64 r.bestView), (12, .int .i64 r.bestDone)]).setCell ⟨b2, 0, none⟩ (.slice none 0 0)) b3 26 y3 := box1_far ((sets_far u3 _ _).trans (below_box hb1 h3)) u4 _
       have k2 := box_cell f2 0 _ rfl
       have z2 := box_open f2 0
       have k3 := box_cell f3 0 _ rfl
       have z3 := box_open f3 0
       simp only [sets] at k2 z2 k3 z3
       clear f2 f3)
    | (go_at_call 104; refine (hrea _).mono ?_; rintro x w2 ⟨rfl, hq⟩; have hq' := hq.symm; clear hq; subst hq'))
  cases c₀
  simp only [bodyPostS, results, Tryz.results102] at *
  refine ⟨trivial, _, rfl, .tuple #[], by simp [go_sem], rfl, rfl, s1, w1, rfl, hb1, hrw1⟩
/-- Of a frame that returns. -/
theorem catchF_idle (p0 p1 p2 p3 : Addr) (w : World) :
    CallsD Tryz.prog 102 #[.pointer (some p0), .pointer (some p1), .pointer (some p2), .pointer (some p3)] .returning w fun e u' w' => e = .returned (.tuple #[]) ∧ u' = .returning ∧ w' = w := by
  refine callsD_of_wpS Tryz.func102 rfl fun c₀ cs hu => ?_
  apply wpS_seq
  apply wpS_region
  simp [wpOpsS, go_sem, recoverD, hu, Tryz.ntmps102, Exit.thenS]
  refine wpS_of_wp ?_
  go_wp2
  cases c₀
  simp only [bodyPostS, results, Tryz.results102] at *
  subst hu
  refine ⟨trivial, _, rfl, .tuple #[], by simp [go_sem], ?_⟩
  exact ⟨rfl, rfl, trivial⟩
abbrev Num.defF (b : Nat) : List Deferred := [{ target := Target.fn (Fn.func 102) #[.pointer (some ⟨b, 0, none⟩), .pointer (some ⟨b + 1, 0, none⟩), .pointer (some ⟨b + 1 + 1, 0, none⟩), .pointer (some ⟨b + 1 + 1 + 1, 0, none⟩)], args := #[] }]
/-- Behind the deferred call of a frame that returns. -/
theorem doorF_ret {R : Ending → World → Prop} (b : Nat) (tmps : Array Value) (h4 : tmps[4]? = some (.pointer (some ⟨b + 1, 0, none⟩))) (h5 : tmps[5]? = some (.pointer (some ⟨b + 1 + 1, 0, none⟩))) (h6 : tmps[6]? = some (.pointer (some ⟨b + 1 + 1 + 1, 0, none⟩))) (W : World) (r : Rep) (s : Sl) (x y : Value)
    (k1 : BoxS W (b + 1) r s) (k2 : Box1 W (b + 1 + 1) 63 x) (k3 : Box1 W (b + 1 + 1 + 1) 26 y) (h : R (.returned (.tuple #[repV r s, x, y])) W) :
    bodyPostD Tryz.prog Tryz.f74 R Exit.ret { tmps := tmps, defers := defF b } W := by
  obtain ⟨c0, c1, c2, c3, c4, c5, c6, c7, c8, c9, c10, c11, c12⟩ := k1.rep (by omega)
  have e2 := box_cell k2 0 _ rfl
  have e3 := box_cell k3 0 _ rfl
  refine leaves_cons (f := 102) (args := #[.pointer (some ⟨b, 0, none⟩), .pointer (some ⟨b + 1, 0, none⟩), .pointer (some ⟨b + 1 + 1, 0, none⟩), .pointer (some ⟨b + 1 + 1 + 1, 0, none⟩)]) (by simp) (by simp [go_sem]) ?_
  refine (catchF_idle _ _ _ _ _).mono ?_
  rintro e u' w'' ⟨rfl, rfl, rfl⟩
  exact ⟨_, by simp [results, Tryz.f74, h4, h5, h6, c0, c1, c2, c3, c4, c5, c6, c7, c8, c9, c10, c11, c12, e2, e3, go_sem], h⟩
/-- Behind the deferred call of a frame that panics. -/
theorem doorF_panic {R : Ending → World → Prop} (b : Nat) (tmps : Array Value) (h4 : tmps[4]? = some (.pointer (some ⟨b + 1, 0, none⟩))) (h5 : tmps[5]? = some (.pointer (some ⟨b + 1 + 1, 0, none⟩))) (h6 : tmps[6]? = some (.pointer (some ⟨b + 1 + 1 + 1, 0, none⟩))) (W : World) (r : Rep) (s : Sl) (hsm : SmallR r) (q : Rep) (vl va vv vw vb y2 y3 : Value) (e : Int)
    (k0 : BoxS W b r s) (k1 : BoxF W (b + 1) 46 13 (repF q vl va vv vw vb undef)) (k2 : Box1 W (b + 1 + 1) 63 y2) (k3 : Box1 W (b + 1 + 1 + 1) 26 y3) (hl : LiesR W W.heap.size s r)
    (h : ∀ s' w1, Below W.heap.size W w1 → RowsS W.heap.size w1 r s' → R (.returned (.tuple #[repV r s', .slice none 0 0, .int .i64 e])) (told w1 (b + 1) (b + 1 + 1) (b + 1 + 1 + 1) r s' (.slice none 0 0) e)) :
    bodyPostD Tryz.prog Tryz.f74 R (Exit.panic (boom e)) { tmps := tmps, defers := defF b } W := by
  refine leaves_cons (f := 102) (args := #[.pointer (some ⟨b, 0, none⟩), .pointer (some ⟨b + 1, 0, none⟩), .pointer (some ⟨b + 1 + 1, 0, none⟩), .pointer (some ⟨b + 1 + 1 + 1, 0, none⟩)]) (by simp) (by simp [go_sem]) ?_
  refine (catchF_panicking b (b + 1) (b + 1 + 1) (b + 1 + 1 + 1) (by omega) (by omega) (by omega) r s hsm q vl va vv vw vb y2 y3 e [] W k0 k1 k2 k3 hl).mono ?_
  rintro x u' w'' ⟨rfl, rfl, s', w1, rfl, hb1, hrw⟩
  obtain ⟨t1, t2, t3, _⟩ := told_is (by omega) (by omega) (by omega) (k1.below hb1) (below_box hb1 k2) (below_box hb1 k3) r s' (.slice none 0 0) e
  obtain ⟨c0, c1, c2, c3, c4, c5, c6, c7, c8, c9, c10, c11, c12⟩ := t1.rep (by omega)
  have e2 := box_cell t2 0 _ rfl
  have e3 := box_cell t3 0 _ rfl
  exact ⟨_, by simp [results, Tryz.f74, h4, h5, h6, c0, c1, c2, c3, c4, c5, c6, c7, c8, c9, c10, c11, c12, e2, e3, go_sem], h s' w1 hb1 hrw⟩
end Go.Proofs.YthnbaijkhhbelaaGreat
