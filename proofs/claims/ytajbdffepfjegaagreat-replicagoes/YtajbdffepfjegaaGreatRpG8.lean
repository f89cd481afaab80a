/-
  Joined:
  Contracts: the face: a copy of a replica does its turn; what panics is told as an error, beside the replica as it was.
  Contracts: the face at each turn.
  What the face tells; the result's box.
-/
import Derived.Test.YtajbdffepfjegaaGreatRpG5
import Derived.Test.YtajbdffepfjegaaGreatRpMay
import Derived.Defers
import Derived.Recover
namespace Go.Proofs.YtajbdffepfjegaaGreat
open Go.RowKit Num
open scoped Classical
set_option linter.unusedVariables false
set_option maxRecDepth 100000

/-- But for one block what lies below B stays. -/
structure Num.LowB (B : Nat) (p : Option Nat) (w w' : World) : Prop where
  os : w'.os = w.os
  tape : w'.tape = w.tape
  output : w'.output = w.output
  size : w.heap.size ≤ w'.heap.size
  block : ∀ k, k < B → p ≠ some k → w'.heap[k]? = w.heap[k]?
theorem Num.LowB.of_below {B : Nat} {w w' : World} (h : Below B w w') (p : Option Nat) : LowB B p w w' := ⟨h.os, h.tape, h.output, h.size, fun k hk _ => h.block k hk⟩
theorem Num.LowB.trans {B : Nat} {p : Option Nat} {a b c : World} (h : LowB B p a b) (k : LowB B p b c) : LowB B p a c :=
  ⟨k.os.trans h.os, k.tape.trans h.tape, k.output.trans h.output, Nat.le_trans h.size k.size, fun i hi hp => (k.block i hi hp).trans (h.block i hi hp)⟩
theorem Num.LowB.mono {B B' : Nat} {p : Option Nat} {w w' : World} (h : LowB B p w w') (hB : B' ≤ B) : LowB B' p w w' := ⟨h.os, h.tape, h.output, h.size, fun k hk => h.block k (Nat.lt_of_lt_of_le hk hB)⟩
theorem Num.LowB.below {B : Nat} {w w' : World} (h : LowB B none w w') : Below B w w' := ⟨h.os, h.tape, h.output, h.size, fun k hk => h.block k hk (by simp)⟩
theorem assert_errno (v : Value) (w : World) : (Instr.typeAssert (.iface 35 v) 20 35 true).run Tryz.prog w = .ok (.tuple #[v, .bool true]) w := by kernel_rfl
theorem reason_any (e : Int) (w : World) : Calls Tryz.prog 35 #[.iface 35 (.int .i64 e)] w fun r w' => r = .returned (.int .i64 e) ∧ w' = w := by
  have ha := assert_errno (.int .i64 e)
  go_enter Tryz.func35, Tryz.ntmps35
  go_wp2
  go_ret
  exact ⟨rfl, rfl⟩
/-- A box of a replica whose lists lie at s. -/
abbrev Num.BoxS (w : World) (g : Nat) (r : Rep) (s : Sl) : Prop := BoxF w g 25 13 (repF r (.slice s.lo r.log.length s.lc) (.slice s.ao r.acked.length s.ac) (.slice s.vo r.votes.length s.vc) (.slice s.wo r.voters.length s.wc) (.slice s.bo r.best.length s.bc) undef)
/-- A box of one cell. -/
abbrev Num.Box1 (w : World) (g : Nat) (t : TypeId) (v : Value) : Prop := w.heap[g]? = some (.cells #[v] t (0, 0))
theorem box1_set {w : World} {g : Nat} {t : TypeId} {v : Value} (h : Box1 w g t v) (u : Value) : Box1 (w.setCell ⟨g, 0, none⟩ u) g t u := (heap_setCell_same w g 0 _ _ _ h).trans (by simp)
theorem box1_far {w : World} {g b i : Nat} {t : TypeId} {v : Value} (h : Box1 w g t v) (hne : g ≠ b) (u : Value) : Box1 (w.setCell ⟨b, i, none⟩ u) g t v := (Below.heap_setCell _ _ _ _ hne).trans h
theorem sets_far {b g : Nat} (hne : g ≠ b) : ∀ (l : List (Nat × Value)) (w : World), (sets w b l).heap[g]? = w.heap[g]?
  | [], _ => rfl
  | (i, v) :: l, w => (sets_far hne l _).trans (Below.heap_setCell _ _ _ _ hne)
theorem boxF_far {w : World} {g b i : Nat} {t : TypeId} {N : Nat} {f : Nat → Value} (h : BoxF w g t N f) (hne : g ≠ b) (u : Value) : BoxF (w.setCell ⟨b, i, none⟩ u) g t N f := h.kept (Below.heap_setCell _ _ _ _ hne)
/-- The results' boxes as they are told beside a replica and its lists. -/
abbrev Num.told (w : World) (b1 b2 b3 : Nat) (r : Rep) (s : Sl) (x : Value) (e : Int) : World := ((sets w b1 [(0, .int .i64 r.id), (1, .int .i64 r.n), (2, .int .i64 r.view), (3, .int .i64 r.normal), (4, .int .i64 r.how), (5, .slice s.lo r.log.length s.lc), (6, .int .i64 r.commit), (7, .slice s.ao r.acked.length s.ac), (8, .slice s.vo r.votes.length s.vc), (9, .slice s.wo r.voters.length s.wc), (10, .slice s.bo r.best.length s.bc), (11, .int .i64 r.bestView), (12, .int .i64 r.bestDone)]).setCell ⟨b2, 0, none⟩ x).setCell ⟨b3, 0, none⟩ (.int .i64 e)
theorem told_is {w : World} {b1 b2 b3 : Nat} (u2 : b2 ≠ b1) (u3 : b3 ≠ b1) (u4 : b3 ≠ b2) {q : Rep} {vl va vv vw vb : Value} {y2 y3 : Value} (h1 : BoxF w b1 25 13 (repF q vl va vv vw vb undef)) (h2 : Box1 w b2 30 y2) (h3 : Box1 w b3 35 y3) (r : Rep) (s : Sl) (x : Value) (e : Int) :
    BoxS (told w b1 b2 b3 r s x e) b1 r s ∧ Box1 (told w b1 b2 b3 r s x e) b2 30 x ∧ Box1 (told w b1 b2 b3 r s x e) b3 35 (.int .i64 e) ∧ ∀ k, k ≠ b1 → k ≠ b2 → k ≠ b3 → (told w b1 b2 b3 r s x e).heap[k]? = w.heap[k]? :=
  ⟨boxF_far (boxF_far (box_whole h1 (by omega) r (.slice s.lo r.log.length s.lc) (.slice s.ao r.acked.length s.ac) (.slice s.vo r.votes.length s.vc) (.slice s.wo r.voters.length s.wc) (.slice s.bo r.best.length s.bc)) u2.symm _) u3.symm _, box1_far (box1_set ((sets_far u2 _ _).trans h2) _) u4.symm _, box1_set (box1_far ((sets_far u3 _ _).trans h3) u4 _) _, fun k k1 k2 k3 => (Below.heap_setCell _ _ _ _ k3).trans ((Below.heap_setCell _ _ _ _ k2).trans (sets_far k1 _ _))⟩
theorem told_size (w : World) (b1 b2 b3 : Nat) (r : Rep) (s : Sl) (x : Value) (e : Int) : (told w b1 b2 b3 r s x e).heap.size = w.heap.size ∧ (told w b1 b2 b3 r s x e).os = w.os ∧ (told w b1 b2 b3 r s x e).tape = w.tape ∧ (told w b1 b2 b3 r s x e).output = w.output := by
  simp [told, sets, World.setCell]
theorem told_rows {w : World} {b1 b2 b3 : Nat} {q : Rep} {vl va vv vw vb : Value} {y2 y3 : Value} (h1 : BoxF w b1 25 13 (repF q vl va vv vw vb undef)) (h2 : Box1 w b2 30 y2) (h3 : Box1 w b3 35 y3) (u2 : b2 ≠ b1) (u3 : b3 ≠ b1) (u4 : b3 ≠ b2) (r : Rep) (s : Sl) (x : Value) (e : Int) {B e' sz n : Nat} {v : Value} {xs : List Value} (h : w.ownsRow B e' sz v n xs) (t1 : e' ≠ 25) (t2 : e' ≠ 30) (t3 : e' ≠ 35) : (told w b1 b2 b3 r s x e).ownsRow B e' sz v n xs := by
  obtain ⟨_, _, _, hk⟩ := told_is u2 u3 u4 h1 h2 h3 r s x e
  refine ⟨h.1, ?_⟩
  rcases h.2 with h0 | ⟨g, cap, cur, hv, hb, hg, rest⟩
  · exact .inl h0
  · obtain ⟨cs, h1', _, _⟩ := h1
    exact .inr ⟨g, cap, cur, hv, hb, (hk g (fun e => by subst e; rw [hg] at h1'; cases h1'; exact t1 rfl) (fun e => by subst e; have h2' := hg.symm.trans h2; cases h2'; exact t2 rfl) (fun e => by subst e; have h3' := hg.symm.trans h3; cases h3'; exact t3 rfl)).trans hg, rest⟩
theorem told_rowsR {w : World} {b1 b2 b3 : Nat} {q : Rep} {vl va vv vw vb : Value} {y2 y3 : Value} (h1 : BoxF w b1 25 13 (repF q vl va vv vw vb undef)) (h2 : Box1 w b2 30 y2) (h3 : Box1 w b3 35 y3) (u2 : b2 ≠ b1) (u3 : b3 ≠ b1) (u4 : b3 ≠ b2) (r : Rep) (s : Sl) (x : Value) (e : Int) {B : Nat} {q' : Rep} {s' : Sl} (h : RowsS B w q' s') : RowsS B (told w b1 b2 b3 r s x e) q' s' :=
  ⟨told_rows h1 h2 h3 u2 u3 u4 r s x e h.log (by decide) (by decide) (by decide), told_rows h1 h2 h3 u2 u3 u4 r s x e h.best (by decide) (by decide) (by decide), told_rows h1 h2 h3 u2 u3 u4 r s x e h.ack (by decide) (by decide) (by decide), told_rows h1 h2 h3 u2 u3 u4 r s x e h.vot (by decide) (by decide) (by decide), told_rows h1 h2 h3 u2 u3 u4 r s x e h.vor (by decide) (by decide) (by decide), h.a1, h.a2, h.a3, h.a4⟩
theorem told_own {w : World} {b1 b2 b3 : Nat} {q : Rep} {vl va vv vw vb : Value} {y2 y3 : Value} (h1 : BoxF w b1 25 13 (repF q vl va vv vw vb undef)) (h2 : Box1 w b2 30 y2) (h3 : Box1 w b3 35 y3) (u2 : b2 ≠ b1) (u3 : b3 ≠ b1) (u4 : b3 ≠ b2) (r : Rep) (s : Sl) (x : Value) (e : Int) {B : Nat} {v : Value} {l : Msgs} (h : OwnO B w v l) : OwnO B (told w b1 b2 b3 r s x e) v l := by
  obtain ⟨css, a, b, c, d⟩ := h
  exact ⟨css, a, b, told_rows h1 h2 h3 u2 u3 u4 r s x e c (by decide) (by decide) (by decide), fun i cs y hi hy => by
    obtain ⟨c, e1, h4⟩ := d i cs y hi hy
    exact ⟨c, e1, told_rows h1 h2 h3 u2 u3 u4 r s x e h4 (by decide) (by decide) (by decide)⟩⟩
set_option maxRecDepth 100000 in
set_option maxHeartbeats 2000000 in
/-- The deferred function of a frame that panics: it tells the replica as it was, and the error. -/
theorem catchF_panicking (b0 b1 b2 b3 : Nat) (u2 : b2 ≠ b1) (u3 : b3 ≠ b1) (u4 : b3 ≠ b2) (r : Rep) (s : Sl) (hsm : SmallR r) (q : Rep) (vl va vv vw vb : Value) (y2 y3 : Value) (e : Int) (older : List PanicEntry) (w : World)
    (h0 : BoxS w b0 r s) (h1 : BoxF w b1 25 13 (repF q vl va vv vw vb undef)) (h2 : Box1 w b2 30 y2) (h3 : Box1 w b3 35 y3) (hl : LiesR w w.heap.size s r) :
    CallsD Tryz.prog 33 #[.pointer (some ⟨b0, 0, none⟩), .pointer (some ⟨b1, 0, none⟩), .pointer (some ⟨b2, 0, none⟩), .pointer (some ⟨b3, 0, none⟩)] (.panicking ({ v := .iface 35 (.int .i64 e), recovered := false } :: older)) w fun x u' w' =>
      x = .returned (.tuple #[]) ∧ u' = .panicking ({ v := .iface 35 (.int .i64 e), recovered := true } :: older) ∧ ∃ s' w1, w' = told w1 b1 b2 b3 r s' (.slice none 0 0) e ∧ Below w.heap.size w w1 ∧ RowsS w.heap.size w1 r s' := by
  have hcop := copied_any r s hsm w hl
  have hrea := fun W => reason_any e W
  obtain ⟨c0, c1, c2, c3, c4, c5, c6, c7, c8, c9, c10, c11, c12⟩ := h0.rep (by omega)
  refine callsD_of_wpS Tryz.func33 rfl fun c₀ cs hu => ?_
  apply wpS_seq
  apply wpS_region
  simp [wpOpsS, go_sem, recoverD, hu, Tryz.ntmps33, Exit.thenS]
  refine wpS_of_wp ?_
  go_wp2_with (first
    | (go_at_call 34; refine hcop.mono ?_; rintro x w1 ⟨s1, rfl, hrw1, hb1⟩
       obtain ⟨d0, d1, d2, d3, d4, d5, d6, d7, d8, d9, d10, d11, d12⟩ := (h1.below hb1).rep (by omega)
       have dz := (h1.below hb1).unfrozen
       have f2 : Box1 (sets w1 b1 [(0, .int .i64 r.id), (1, .int .i64 r.n), (2, .int .i64 r.view), (3, .int .i64 r.normal), (4, .int .i64 r.how), (5, .slice s1.lo r.log.length s1.lc), (6, .int .i64 r.commit), (7, .slice s1.ao r.acked.length s1.ac), (8, .slice s1.vo r.votes.length s1.vc), (9, .slice s1.wo r.voters.length s1.wc), (10, .slice s1.bo r.best.length s1.bc), (11, .int .i64 r.bestView), (12, .int .i64 r.bestDone)]) b2 30 y2 := (sets_far u2 _ _).trans (below_box hb1 h2)
       have f3 : Box1 ((sets w1 b1 [(0, .int .i64 r.id), (1, .int .i64 r.n), (2, .int .i64 r.view), (3, .int .i64 r.normal), (4, .int .i64 r.how), (5, .slice s1.lo r.log.length s1.lc), (6, .int .i64 r.commit), (7, .slice s1.ao r.acked.length s1.ac), (8, .slice s1.vo r.votes.length s1.vc), (9, .slice s1.wo r.voters.length s1.wc), (10, .slice s1.bo r.best.length s1.bc), (11, .int .i64 r.bestView), (12, .int .i64 r.bestDone)]).setCell ⟨b2, 0, none⟩ (.slice none 0 0)) b3 35 y3 := box1_far ((sets_far u3 _ _).trans (below_box hb1 h3)) u4 _
       have k2 := box_cell f2 0 _ rfl
       have z2 := box_open f2 0
       have k3 := box_cell f3 0 _ rfl
       have z3 := box_open f3 0
       simp only [sets] at k2 z2 k3 z3
       clear f2 f3)
    | (go_at_call 35; refine (hrea _).mono ?_; rintro x w2 ⟨rfl, hq⟩; have hq' := hq.symm; clear hq; subst hq'))
  cases c₀
  simp only [bodyPostS, results, Tryz.results33] at *
  refine ⟨trivial, _, rfl, .tuple #[], by simp [go_sem], rfl, rfl, s1, w1, rfl, hb1, hrw1⟩
/-- Of a frame that returns. -/
theorem catchF_idle (p0 p1 p2 p3 : Addr) (w : World) :
    CallsD Tryz.prog 33 #[.pointer (some p0), .pointer (some p1), .pointer (some p2), .pointer (some p3)] .returning w fun e u' w' => e = .returned (.tuple #[]) ∧ u' = .returning ∧ w' = w := by
  refine callsD_of_wpS Tryz.func33 rfl fun c₀ cs hu => ?_
  apply wpS_seq
  apply wpS_region
  simp [wpOpsS, go_sem, recoverD, hu, Tryz.ntmps33, Exit.thenS]
  refine wpS_of_wp ?_
  go_wp2
  cases c₀
  simp only [bodyPostS, results, Tryz.results33] at *
  subst hu
  refine ⟨trivial, _, rfl, .tuple #[], by simp [go_sem], ?_⟩
  exact ⟨rfl, rfl, trivial⟩
abbrev Num.defF (b : Nat) : List Deferred := [{ target := Target.fn (Fn.func 33) #[.pointer (some ⟨b, 0, none⟩), .pointer (some ⟨b + 1, 0, none⟩), .pointer (some ⟨b + 1 + 1, 0, none⟩), .pointer (some ⟨b + 1 + 1 + 1, 0, none⟩)], args := #[] }]
/-- Behind the deferred call of a frame that returns. -/
theorem doorF_ret {R : Ending → World → Prop} (b : Nat) (tmps : Array Value) (h4 : tmps[4]? = some (.pointer (some ⟨b + 1, 0, none⟩))) (h5 : tmps[5]? = some (.pointer (some ⟨b + 1 + 1, 0, none⟩))) (h6 : tmps[6]? = some (.pointer (some ⟨b + 1 + 1 + 1, 0, none⟩))) (W : World) (r : Rep) (s : Sl) (x y : Value)
    (k1 : BoxS W (b + 1) r s) (k2 : Box1 W (b + 1 + 1) 30 x) (k3 : Box1 W (b + 1 + 1 + 1) 35 y) (h : R (.returned (.tuple #[repV r s, x, y])) W) :
    bodyPostD Tryz.prog Tryz.f22 R Exit.ret { tmps := tmps, defers := defF b } W := by
  obtain ⟨c0, c1, c2, c3, c4, c5, c6, c7, c8, c9, c10, c11, c12⟩ := k1.rep (by omega)
  have e2 := box_cell k2 0 _ rfl
  have e3 := box_cell k3 0 _ rfl
  refine leaves_cons (f := 33) (args := #[.pointer (some ⟨b, 0, none⟩), .pointer (some ⟨b + 1, 0, none⟩), .pointer (some ⟨b + 1 + 1, 0, none⟩), .pointer (some ⟨b + 1 + 1 + 1, 0, none⟩)]) (by simp) (by simp [go_sem]) ?_
  refine (catchF_idle _ _ _ _ _).mono ?_
  rintro e u' w'' ⟨rfl, rfl, rfl⟩
  exact ⟨_, by simp [results, Tryz.f22, h4, h5, h6, c0, c1, c2, c3, c4, c5, c6, c7, c8, c9, c10, c11, c12, e2, e3, go_sem], h⟩
/-- Behind the deferred call of a frame that panics. -/
theorem doorF_panic {R : Ending → World → Prop} (b : Nat) (tmps : Array Value) (h4 : tmps[4]? = some (.pointer (some ⟨b + 1, 0, none⟩))) (h5 : tmps[5]? = some (.pointer (some ⟨b + 1 + 1, 0, none⟩))) (h6 : tmps[6]? = some (.pointer (some ⟨b + 1 + 1 + 1, 0, none⟩))) (W : World) (r : Rep) (s : Sl) (hsm : SmallR r) (q : Rep) (vl va vv vw vb y2 y3 : Value) (e : Int)
    (k0 : BoxS W b r s) (k1 : BoxF W (b + 1) 25 13 (repF q vl va vv vw vb undef)) (k2 : Box1 W (b + 1 + 1) 30 y2) (k3 : Box1 W (b + 1 + 1 + 1) 35 y3) (hl : LiesR W W.heap.size s r)
    (h : ∀ s' w1, Below W.heap.size W w1 → RowsS W.heap.size w1 r s' → R (.returned (.tuple #[repV r s', .slice none 0 0, .int .i64 e])) (told w1 (b + 1) (b + 1 + 1) (b + 1 + 1 + 1) r s' (.slice none 0 0) e)) :
    bodyPostD Tryz.prog Tryz.f22 R (Exit.panic (boom e)) { tmps := tmps, defers := defF b } W := by
  refine leaves_cons (f := 33) (args := #[.pointer (some ⟨b, 0, none⟩), .pointer (some ⟨b + 1, 0, none⟩), .pointer (some ⟨b + 1 + 1, 0, none⟩), .pointer (some ⟨b + 1 + 1 + 1, 0, none⟩)]) (by simp) (by simp [go_sem]) ?_
  refine (catchF_panicking b (b + 1) (b + 1 + 1) (b + 1 + 1 + 1) (by omega) (by omega) (by omega) r s hsm q vl va vv vw vb y2 y3 e [] W k0 k1 k2 k3 hl).mono ?_
  rintro x u' w'' ⟨rfl, rfl, s', w1, rfl, hb1, hrw⟩
  obtain ⟨t1, t2, t3, _⟩ := told_is (by omega) (by omega) (by omega) (k1.below hb1) (below_box hb1 k2) (below_box hb1 k3) r s' (.slice none 0 0) e
  obtain ⟨c0, c1, c2, c3, c4, c5, c6, c7, c8, c9, c10, c11, c12⟩ := t1.rep (by omega)
  have e2 := box_cell t2 0 _ rfl
  have e3 := box_cell t3 0 _ rfl
  exact ⟨_, by simp [results, Tryz.f22, h4, h5, h6, c0, c1, c2, c3, c4, c5, c6, c7, c8, c9, c10, c11, c12, e2, e3, go_sem], h s' w1 hb1 hrw⟩
end Go.Proofs.YtajbdffepfjegaaGreat
namespace Go.Proofs.YtajbdffepfjegaaGreat
open Go.RowKit Num
open scoped Classical
set_option linter.unusedVariables false
set_option maxRecDepth 100000

theorem Num.LowB.drew {B : Nat} {p : Option Nat} {w W : World} (h : LowB B p w W) : LowB B p w W.drew := ⟨h.os, h.tape, h.output, h.size, h.block⟩
theorem x_drew {X : Option Obj → Prop} {p : Option Nat} {W : World} (h : ∀ k, p = some k → X W.heap[k]?) : ∀ k, p = some k → X W.drew.heap[k]? := h
theorem small_m0 {r : Rep} (h : SmallR r) : SmallM0 r := ⟨by have := h.ack; omega, by have := h.best; omega, by have := h.votes; omega, by have := h.voters; omega⟩
/-- The four boxes of the face. -/
structure Num.Four (w W : World) (r : Rep) (s : Sl) : Prop where
  b0 : BoxS W w.heap.size r s
  b1 : BoxF W (w.heap.size + 1) 25 13 (repF rep0 (.slice none 0 0) (.slice none 0 0) (.slice none 0 0) (.slice none 0 0) (.slice none 0 0) undef)
  b2 : Box1 W (w.heap.size + 1 + 1) 30 (.slice none 0 0)
  b3 : Box1 W (w.heap.size + 1 + 1 + 1) 35 (.int .i64 0)
theorem four_new (w : World) (r : Rep) (s : Sl) : Four w ((((w.alloc (repO r (.slice s.lo r.log.length s.lc) (.slice s.ao r.acked.length s.ac) (.slice s.vo r.votes.length s.vc) (.slice s.wo r.voters.length s.wc) (.slice s.bo r.best.length s.bc) 25)).alloc (repO0 25)).alloc (.cells #[.slice none 0 0] 30)).alloc (.cells #[.int .i64 0] 35)) r s :=
  ⟨(((box_rep w r (.slice s.lo r.log.length s.lc) (.slice s.ao r.acked.length s.ac) (.slice s.vo r.votes.length s.vc) (.slice s.wo r.voters.length s.wc) (.slice s.bo r.best.length s.bc) undef 25 w.heap.size rfl).alloc _).alloc _).alloc _, ((box_rep0 (w.alloc (repO r (.slice s.lo r.log.length s.lc) (.slice s.ao r.acked.length s.ac) (.slice s.vo r.votes.length s.vc) (.slice s.wo r.voters.length s.wc) (.slice s.bo r.best.length s.bc) 25)) undef 25 (w.heap.size + 1) (by simp)).alloc _).alloc _, alloc_box _ (heap_newB _ _ _ (by simp)), heap_newB _ _ _ (by simp)⟩
theorem Num.Four.kept {w W W' : World} {r : Rep} {s : Sl} (h : Four w W r s) (e : ∀ k, w.heap.size ≤ k → k < w.heap.size + 4 → W'.heap[k]? = W.heap[k]?) : Four w W' r s :=
  ⟨h.b0.kept (e _ (by omega) (by omega)), h.b1.kept (e _ (by omega) (by omega)), (e _ (by omega) (by omega)).trans h.b2, (e _ (by omega) (by omega)).trans h.b3⟩
theorem Num.Four.lt {w W : World} {r : Rep} {s : Sl} (h : Four w W r s) : w.heap.size + 4 ≤ W.heap.size := by
  have := (Array.getElem?_eq_some_iff.1 h.b3).1
  omega
theorem Num.Four.below {w W W' : World} {r : Rep} {s : Sl} (h : Four w W r s) (hb : Below W.heap.size W W') : Four w W' r s := h.kept fun k _ hk => hb.block k (by have := h.lt; omega)
/-- The copy in its box. -/
theorem turn_new {w w1 w2 : World} {r : Rep} {s2 : Sl} (hmay : May r) (h1 : w.heap.size + 4 ≤ w1.heap.size) (hb : Below w1.heap.size w1 w2) (hr : RowsS w1.heap.size w2 r s2) :
    Turn (w.heap.size + 4) (w2.alloc (.cells #[.int .i64 r.id, .int .i64 r.n, .int .i64 r.view, .int .i64 r.normal, .int .i64 r.how, .slice s2.lo r.log.length s2.lc, .int .i64 r.commit, .slice s2.ao r.acked.length s2.ac, .slice s2.vo r.votes.length s2.vc, .slice s2.wo r.voters.length s2.wc, .slice s2.bo r.best.length s2.bc, .int .i64 r.bestView, .int .i64 r.bestDone, .slice none 0 0] 65)) w2.heap.size r [] := by
  have hsz := hb.size
  have hbel := (Below.refl _ w2).alloc (Nat.le_refl _) (.cells #[.int .i64 r.id, .int .i64 r.n, .int .i64 r.view, .int .i64 r.normal, .int .i64 r.how, .slice s2.lo r.log.length s2.lc, .int .i64 r.commit, .slice s2.ao r.acked.length s2.ac, .slice s2.vo r.votes.length s2.vc, .slice s2.wo r.voters.length s2.wc, .slice s2.bo r.best.length s2.bc, .int .i64 r.bestView, .int .i64 r.bestDone, .slice none 0 0] 65)
  have hr' := hr.below hbel
  refine ⟨⟨_, _, _, _, _, .slice none 0 0, ⟨boxF_new w2 _ _ _ _ _ rfl rfl fun k hk => ?_, by omega, ⟨own_mono hr'.log h1, own_mono hr'.best h1, own_mono hr'.ack h1, own_mono hr'.vot h1, own_mono hr'.vor h1, hr'.a1, hr'.a2, hr'.a3, hr'.a4⟩⟩, OwnS.nil _ _ _ _ _⟩, by simp; omega, hmay.one, hmay.log.1, hmay.best.1.1, hmay.ack.1⟩
  match k, hk with
  | 0, _ => rfl
  | 1, _ => rfl
  | 2, _ => rfl
  | 3, _ => rfl
  | 4, _ => rfl
  | 5, _ => rfl
  | 6, _ => rfl
  | 7, _ => rfl
  | 8, _ => rfl
  | 9, _ => rfl
  | 10, _ => rfl
  | 11, _ => rfl
  | 12, _ => rfl
  | 13, _ => rfl
  | k + 14, hk => exact absurd hk (by omega)
/-- What is told beside an error. -/
def Num.Refused (w : World) (r : Rep) (e : Int) (p : Option Nat) (x : Ending) (w' : World) : Prop := ∃ s', x = .returned (.tuple #[repV r s', .slice none 0 0, .int .i64 e]) ∧ RowsS w.heap.size w' r s' ∧ LowB w.heap.size p w w'
theorem refused_told {w W w1 : World} {r : Rep} {s s' : Sl} {e : Int} {p : Option Nat} (h4 : Four w W r s) (hlow : LowB w.heap.size p w W) (hb1 : Below W.heap.size W w1) (hrw : RowsS W.heap.size w1 r s') : Refused w r e p (.returned (.tuple #[repV r s', .slice none 0 0, .int .i64 e])) (told w1 (w.heap.size + 1) (w.heap.size + 1 + 1) (w.heap.size + 1 + 1 + 1) r s' (.slice none 0 0) e) := by
  have h4' := h4.below hb1
  have hlt := h4.lt
  obtain ⟨t1, t2, t3, tk⟩ := told_is (by omega) (by omega) (by omega) h4'.b1 h4'.b2 h4'.b3 r s' (.slice none 0 0) e
  obtain ⟨z1, z2, z3, z4⟩ := told_size w1 (w.heap.size + 1) (w.heap.size + 1 + 1) (w.heap.size + 1 + 1 + 1) r s' (.slice none 0 0) e
  refine ⟨s', rfl, ?_, hlow.trans (LowB.trans (LowB.of_below (hb1.mono (by omega)) p) ⟨z2, z3, z4, Nat.le_of_eq z1.symm, fun k hk _ => tk k (by omega) (by omega) (by omega)⟩)⟩
  have hq := told_rowsR h4'.b1 h4'.b2 h4'.b3 (by omega) (by omega) (by omega) r s' (.slice none 0 0) e hrw
  exact ⟨own_mono hq.log (by omega), own_mono hq.best (by omega), own_mono hq.ack (by omega), own_mono hq.vot (by omega), own_mono hq.vor (by omega), hq.a1, hq.a2, hq.a3, hq.a4⟩
set_option maxRecDepth 100000 in
set_option maxHeartbeats 2000000 in
theorem face_arg (r : Rep) (s : Sl) (hsm : SmallR r) (hno : ¬ May r) (dv : Value) (p : Option Nat) (w : World) (hl : LiesR w w.heap.size s r) :
    Calls Tryz.prog 22 #[repV r s, dv] w fun x w' => Refused w r 1 p x w' := by
  have hmf : ∀ (fn : Fn) (first cap : Array Value) (w : World), (Instr.makeFunc fn first cap).run Tryz.prog w = .ok (.func fn first cap) w := fun _ _ _ _ => rfl
  have h4 := four_new w r s
  have hB : Below w.heap.size w ((((w.alloc (repO r (.slice s.lo r.log.length s.lc) (.slice s.ao r.acked.length s.ac) (.slice s.vo r.votes.length s.vc) (.slice s.wo r.voters.length s.wc) (.slice s.bo r.best.length s.bc) 25)).alloc (repO0 25)).alloc (.cells #[.slice none 0 0] 30)).alloc (.cells #[.int .i64 0] 35)) := ((((Below.refl _ w).alloc (Nat.le_refl _) _).alloc (by simp) _).alloc (by simp; omega) _).alloc (by simp; omega) _
  have hmay := may_any r s (small_m0 hsm) ((((w.alloc (repO r (.slice s.lo r.log.length s.lc) (.slice s.ao r.acked.length s.ac) (.slice s.vo r.votes.length s.vc) (.slice s.wo r.voters.length s.wc) (.slice s.bo r.best.length s.bc) 25)).alloc (repO0 25)).alloc (.cells #[.slice none 0 0] 30)).alloc (.cells #[.int .i64 0] 35)) (liesR_next hl hB hB.size)
  rw [tru_no hno] at hmay
  have hmust := fun W => must_no 1 W
  clear hno
  go_enter_defers Tryz.func22, Tryz.ntmps22
  go_wp2_with (first
    | (go_at_call 37; refine hmay.mono ?_; rintro e w1 ⟨rfl, hb1⟩)
    | (go_at_call 36; refine (hmust _).mono ?_; rintro e w2 ⟨rfl, hq⟩; have hq' := hq.symm; clear hq; subst hq'))
  have h41 := h4.below hb1
  have hw1 : Below w.heap.size w w1 := hB.trans (hb1.mono hB.size)
  refine doorF_panic w.heap.size _ rfl rfl rfl w1 r s hsm rep0 _ _ _ _ _ _ _ 1 h41.b0 h41.b1 h41.b2 h41.b3 (liesR_next hl hw1 hw1.size) ?_
  intro s' w2 hb2 hrw
  exact refused_told h41 (LowB.of_below hw1 p) hb2 hrw
end Go.Proofs.YtajbdffepfjegaaGreat
namespace Go.Proofs.YtajbdffepfjegaaGreat
open Go.RowKit Num
open scoped Classical
set_option linter.unusedVariables false
set_option maxRecDepth 100000

theorem rowsS_lies {B : Nat} {w : World} {r : Rep} {s : Sl} (h : RowsS B w r s) : LiesR w w.heap.size s r := by
  obtain ⟨lo, lc, e1, l1⟩ := ownE_lies h.log
  obtain ⟨bo, bc, e2, l2⟩ := ownE_lies h.best
  obtain ⟨ao, ac, e3, l3⟩ := ownN_lies h.ack
  obtain ⟨vo, vc, e4, l4⟩ := ownN_lies h.vot
  obtain ⟨wo, wc, e5, l5⟩ := ownN_lies h.vor
  simp only [Value.slice.injEq, true_and] at e1 e2 e3 e4 e5
  obtain ⟨e1, _⟩ := e1
  obtain ⟨e2, _⟩ := e2
  obtain ⟨e3, _⟩ := e3
  obtain ⟨e4, _⟩ := e4
  obtain ⟨e5, _⟩ := e5
  subst e1 e2 e3 e4 e5
  exact ⟨l1, l3, l4, l5, l2⟩
theorem ownO_liesM {B : Nat} {w : World} {ao : Option Addr} {n c : Nat} {l : Msgs} (h : OwnO B w (.slice ao n c) l) : LiesM w w.heap.size ao l := by
  obtain ⟨bo, bc, e, hl⟩ := ownO_lies h
  cases e
  exact hl
theorem ownO_deep {B B' : Nat} {w : World} {v : Value} {l : Msgs} (h : OwnO B' w v l) (hB : B ≤ B') : OwnO B w v l := h.mono hB (fun cs x h => by obtain ⟨c, e, h⟩ := h; exact ⟨c, e, own_mono h hB⟩)
theorem rowsS_deep {B B' : Nat} {w : World} {r : Rep} {s : Sl} (h : RowsS B' w r s) (hB : B ≤ B') : RowsS B w r s := ⟨own_mono h.log hB, own_mono h.best hB, own_mono h.ack hB, own_mono h.vot hB, own_mono h.vor hB, h.a1, h.a2, h.a3, h.a4⟩
/-- What the face tells. -/
def Num.FaceSays (w : World) (r : Rep) (o : Msgs) (E : Int) (x : Ending) (w' : World) : Prop := ∃ s' xo xc, x = .returned (.tuple #[repV r s', .slice xo o.length xc, .int .i64 E]) ∧ RowsS w.heap.size w' r s' ∧ OwnO w.heap.size w' (.slice xo o.length xc) o ∧ Below w.heap.size w w'
theorem says_refused {w w' : World} {r : Rep} {e : Int} {x : Ending} (h : Refused w r e none x w') : FaceSays w r [] e x w' := by
  obtain ⟨s', rfl, hr, hl⟩ := h
  exact ⟨s', none, 0, rfl, hr, OwnS.nil _ _ _ _ _, hl.below⟩
/-- The result's box is written whole. -/
theorem res_box {w V : World} {g : Nat} (hg : w.heap.size ≤ g) {q : Rep} {vl va vv vw vb : Value} (bz : BoxF V g 25 13 (repF q vl va vv vw vb undef)) (hV : Below w.heap.size w V) (r : Rep) (s : Sl) :
    BoxF (sets V g [(0, .int .i64 r.id), (1, .int .i64 r.n), (2, .int .i64 r.view), (3, .int .i64 r.normal), (4, .int .i64 r.how), (5, .slice s.lo r.log.length s.lc), (6, .int .i64 r.commit), (7, .slice s.ao r.acked.length s.ac), (8, .slice s.vo r.votes.length s.vc), (9, .slice s.wo r.voters.length s.wc), (10, .slice s.bo r.best.length s.bc), (11, .int .i64 r.bestView), (12, .int .i64 r.bestDone)]) g 25 13 (repF r (.slice s.lo r.log.length s.lc) (.slice s.ao r.acked.length s.ac) (.slice s.vo r.votes.length s.vc) (.slice s.wo r.voters.length s.wc) (.slice s.bo r.best.length s.bc) undef) ∧ Stay (fun _ => False) 25 V (sets V g [(0, .int .i64 r.id), (1, .int .i64 r.n), (2, .int .i64 r.view), (3, .int .i64 r.normal), (4, .int .i64 r.how), (5, .slice s.lo r.log.length s.lc), (6, .int .i64 r.commit), (7, .slice s.ao r.acked.length s.ac), (8, .slice s.vo r.votes.length s.vc), (9, .slice s.wo r.voters.length s.wc), (10, .slice s.bo r.best.length s.bc), (11, .int .i64 r.bestView), (12, .int .i64 r.bestDone)]) ∧ Below w.heap.size w (sets V g [(0, .int .i64 r.id), (1, .int .i64 r.n), (2, .int .i64 r.view), (3, .int .i64 r.normal), (4, .int .i64 r.how), (5, .slice s.lo r.log.length s.lc), (6, .int .i64 r.commit), (7, .slice s.ao r.acked.length s.ac), (8, .slice s.vo r.votes.length s.vc), (9, .slice s.wo r.voters.length s.wc), (10, .slice s.bo r.best.length s.bc), (11, .int .i64 r.bestView), (12, .int .i64 r.bestDone)]) :=
  ⟨box_whole bz (by omega) r (.slice s.lo r.log.length s.lc) (.slice s.ao r.acked.length s.ac) (.slice s.vo r.votes.length s.vc) (.slice s.wo r.voters.length s.wc) (.slice s.bo r.best.length s.bc), (sets_box _ bz).2, hV.trans (sets_below hg _ V)⟩
end Go.Proofs.YtajbdffepfjegaaGreat
