/-
  Replicas in memory: as they came in; as a box whose lists are rows of the call's own; what keeps them.
-/
import Derived.Test.YthnbaijkhhbelaaGreatRpM
import Derived.Laws.MakeOwn
namespace Go.Proofs.YthnbaijkhhbelaaGreat
open Go.RowKit Go.ChangeShapes Go.WideShapes Go.Joins Num
set_option linter.unusedVariables false
set_option maxRecDepth 100000

theorem Tryz.cellsInts : Tryz.prog.cellsOf 40 = 1 := by kernel_rfl
theorem Tryz.cellsRp : Tryz.prog.cellsOf 46 = 13 := by kernel_rfl
theorem Tryz.infoInt : (Tryz.prog.info? 3).map (fun i => (i.zero, i.size, i.bytes)) = some (some (.int .i64 0), 1, 8) := by kernel_rfl
theorem open_num {H : Type} {enc : TypeId × Value → H} {w : World} {base : Nat} {spare : Nat → Bool} {held : Bool} (a : Addr) (n : Nat) (cs : List Value) (x : DataW H × List MemPlace)
    (h1 : w.cells? base a 1 = some cs) (h2 : DataW.trod enc Tryz.prog w base spare held n 3 cs = some x) :
    ∃ k : Int, True ∧ NumAt w a k := by
  obtain ⟨_, hlen, hcell⟩ := World.cells?_some h1
  match cs, hlen with
  | [v0], _ =>
    have e0 := hcell 0 (by omega)
    simp [Addr.add] at e0
    obtain ⟨k0, q0, _, wk⟩ := DataW.trod_int Tryz.underlying3 h2
    simp at q0
    subst q0
    exact ⟨k0, trivial, e0⟩
def Num.Fit (n : Int) : Prop := -9223372036854775808 ≤ n ∧ n ≤ 9223372036854775807
structure Num.Rep.ok (r : Rep) : Prop where
  id : Fit r.id
  n : Fit r.n
  view : Fit r.view
  normal : Fit r.normal
  how : Fit r.how
  commit : Fit r.commit
  bestView : Fit r.bestView
  bestDone : Fit r.bestDone
/-- Where the lists of a replica lie, and how much room each has. -/
structure Num.Sl where
  lo : Option Addr
  lc : Nat
  ao : Option Addr
  ac : Nat
  vo : Option Addr
  vc : Nat
  wo : Option Addr
  wc : Nat
  bo : Option Addr
  bc : Nat
abbrev Num.repV (r : Rep) (s : Sl) : Value := .agg #[.int .i64 r.id, .int .i64 r.n, .int .i64 r.view, .int .i64 r.normal, .int .i64 r.how, .slice s.lo r.log.length s.lc, .int .i64 r.commit, .slice s.ao r.acked.length s.ac, .slice s.vo r.votes.length s.vc, .slice s.wo r.voters.length s.wc, .slice s.bo r.best.length s.bc, .int .i64 r.bestView, .int .i64 r.bestDone]
/-- A replica's lists lie in memory. -/
structure Num.LiesR (w : World) (B : Nat) (s : Sl) (r : Rep) : Prop where
  log : LiesE w B s.lo r.log
  ack : LiesN w B s.ao r.acked
  votes : LiesN w B s.vo r.votes
  voters : LiesN w B s.wo r.voters
  best : LiesE w B s.bo r.best
theorem liesN_wide {w w' : World} {B : Nat} {ao : Option Addr} {l : List Int} (h : LiesN w B ao l) (hb : Below B w w') {B' : Nat} (hB : B ≤ B') : LiesN w' B' ao l := (h.below NumAt.fast hb).mono hB fun _ _ h => h
theorem liesR_next {w w' : World} {B : Nat} {s : Sl} {r : Rep} (h : LiesR w B s r) (hb : Below B w w') {B' : Nat} (hB : B ≤ B') : LiesR w' B' s r :=
  ⟨liesE_next h.log hb hB, liesN_wide h.ack hb hB, liesN_wide h.votes hb hB, liesN_wide h.voters hb hB, liesE_next h.best hb hB⟩
theorem array13 {cs : Array Value} (h : cs.size = 13) : ∃ v0 v1 v2 v3 v4 v5 v6 v7 v8 v9 v10 v11 v12, cs = #[v0, v1, v2, v3, v4, v5, v6, v7, v8, v9, v10, v11, v12] := by
  obtain ⟨l⟩ := cs
  match l, h with
  | [v0, v1, v2, v3, v4, v5, v6, v7, v8, v9, v10, v11, v12], _ => exact ⟨v0, v1, v2, v3, v4, v5, v6, v7, v8, v9, v10, v11, v12, rfl⟩
set_option maxRecDepth 100000 in
set_option maxHeartbeats 2000000 in
/-- A replica that came in. -/
theorem open_rep {H : Type} {enc : TypeId × Value → H} {w : World} {base b0 : Nat} {r : Reach} {spare : Nat → Bool} {held : Bool} {v : Value} {d : DataW H} {p : List MemPlace}
    (hv : Value.okWide Tryz.prog w r b0 46 v) (h : DataW.Trod enc Tryz.prog w base spare held 46 v d p) :
    ∃ (q : Rep) (s : Sl), v = repV q s ∧ q.ok ∧ LiesR w w.heap.size s q := by
  obtain ⟨cs, rfl, hsz⟩ := okWide_struct Tryz.underlying46 hv
  obtain ⟨v0, v1, v2, v3, v4, v5, v6, v7, v8, v9, v10, v11, v12, rfl⟩ := array13 (hsz.trans Tryz.cellsRp)
  obtain ⟨fuel, hf0⟩ := h
  have h : DataW.trod enc Tryz.prog w base spare held fuel 46 [v0, v1, v2, v3, v4, v5, v6, v7, v8, v9, v10, v11, v12] = some (d, p) := by simpa [Value.cells] using hf0
  clear hf0
  obtain ⟨xs, m, _, _, _, hxl, hf⟩ := DataW.trod_struct Tryz.underlying46 h
  have inh : Inhabited Ent := ⟨⟨0, ByteArray.empty⟩⟩
  match xs, hxl with
  | [x0, x1, x2, x3, x4, x5, x6, x7, x8, x9, x10, x11, x12], _ =>
    have g0 := hf 0 _ rfl
    have g1 := hf 1 _ rfl
    have g2 := hf 2 _ rfl
    have g3 := hf 3 _ rfl
    have g4 := hf 4 _ rfl
    have g5 := hf 5 _ rfl
    have g6 := hf 6 _ rfl
    have g7 := hf 7 _ rfl
    have g8 := hf 8 _ rfl
    have g9 := hf 9 _ rfl
    have g10 := hf 10 _ rfl
    have g11 := hf 11 _ rfl
    have g12 := hf 12 _ rfl
    clear hf
    simp [Tryz.cellsInt] at g0
    simp [Tryz.cellsInt] at g1
    simp [Tryz.cellsInt] at g2
    simp [Tryz.cellsInt] at g3
    simp [Tryz.cellsInt] at g4
    simp [Tryz.cellsLog] at g5
    simp [Tryz.cellsInt] at g6
    simp [Tryz.cellsInts] at g7
    simp [Tryz.cellsInts] at g8
    simp [Tryz.cellsInts] at g9
    simp [Tryz.cellsLog] at g10
    simp [Tryz.cellsInt] at g11
    simp [Tryz.cellsInt] at g12
    obtain ⟨k0, q0, _, w0⟩ := DataW.trod_int Tryz.underlying3 g0
    obtain ⟨k1, q1, _, w1⟩ := DataW.trod_int Tryz.underlying3 g1
    obtain ⟨k2, q2, _, w2⟩ := DataW.trod_int Tryz.underlying3 g2
    obtain ⟨k3, q3, _, w3⟩ := DataW.trod_int Tryz.underlying3 g3
    obtain ⟨k4, q4, _, w4⟩ := DataW.trod_int Tryz.underlying3 g4
    obtain ⟨k6, q6, _, w6⟩ := DataW.trod_int Tryz.underlying3 g6
    obtain ⟨k11, q11, _, w11⟩ := DataW.trod_int Tryz.underlying3 g11
    obtain ⟨k12, q12, _, w12⟩ := DataW.trod_int Tryz.underlying3 g12
    obtain ⟨lo, lc, l5, q5, _, hl5, _⟩ := open_list EnAt (fun _ => True) 2 Tryz.cellsEn Tryz.underlying44 (fun p x h => cell_lt h.1) open_en g5
    obtain ⟨bo, bc, l10, q10, _, hl10, _⟩ := open_list EnAt (fun _ => True) 2 Tryz.cellsEn Tryz.underlying44 (fun p x h => cell_lt h.1) open_en g10
    obtain ⟨ao, ac, l7, q7, _, hl7, _⟩ := open_list NumAt (fun _ => True) 1 Tryz.cellsInt Tryz.underlying40 (fun p x h => cell_lt h) open_num g7
    obtain ⟨vo, vc, l8, q8, _, hl8, _⟩ := open_list NumAt (fun _ => True) 1 Tryz.cellsInt Tryz.underlying40 (fun p x h => cell_lt h) open_num g8
    obtain ⟨wo, wc, l9, q9, _, hl9, _⟩ := open_list NumAt (fun _ => True) 1 Tryz.cellsInt Tryz.underlying40 (fun p x h => cell_lt h) open_num g9
    simp only [List.cons.injEq, and_true] at q0 q1 q2 q3 q4 q6 q11 q12
    subst q0 q1 q2 q3 q4 q5 q6 q7 q8 q9 q10 q11 q12
    exact ⟨⟨k0, k1, k2, k3, k4, l5, k6, l7, l8, l9, l10, k11, k12⟩, ⟨lo, lc, ao, ac, vo, vc, wo, wc, bo, bc⟩, rfl, ⟨by have := bounds_i64 w0; unfold Fit; simp only; omega, by have := bounds_i64 w1; unfold Fit; simp only; omega, by have := bounds_i64 w2; unfold Fit; simp only; omega, by have := bounds_i64 w3; unfold Fit; simp only; omega, by have := bounds_i64 w4; unfold Fit; simp only; omega, by have := bounds_i64 w6; unfold Fit; simp only; omega, by have := bounds_i64 w11; unfold Fit; simp only; omega, by have := bounds_i64 w12; unfold Fit; simp only; omega⟩, ⟨hl5, hl7, hl8, hl9, hl10⟩⟩

/-! Rows of numbers. -/
abbrev Num.inCells (l : List Int) : List Value := l.map (Value.int .i64)
theorem inCells_one (l : List Int) : ∀ v ∈ inCells l, v.oneCell' = true := by
  intro v hv
  obtain ⟨x, _, rfl⟩ := List.mem_map.1 hv
  rfl
theorem ownN_lies {w : World} {B : Nat} {v : Value} {l : List Int} (h : w.ownsRow B 3 1 v l.length (inCells l)) : ∃ ao cap, v = .slice ao l.length cap ∧ LiesN w w.heap.size ao l := by
  rcases h.2 with ⟨hv, h0⟩ | ⟨g, cap, cur, hv, _, hg, hcap, _⟩
  · subst hv
    have : l = [] := List.eq_nil_of_length_eq_zero h0
    subst this
    exact ⟨none, 0, rfl, fun i x hx => by simp at hx⟩
  · subst hv
    refine ⟨_, cap, rfl, fun i x hx => ⟨_, rfl, (Array.getElem?_eq_some_iff.1 hg).1, ?_⟩⟩
    have h3 := h.cells (g := g) rfl i (.int .i64 x) (by simp [inCells, hx])
    rw [Nat.mul_one]
    exact h3
theorem liesN_none {w : World} {B : Nat} {l : List Int} (h : LiesN w B none l) : l = [] := by
  cases l with
  | nil => rfl
  | cons x l =>
    obtain ⟨a, e, _⟩ := h 0 x rfl
    cases e
theorem liesN_src {w : World} {B : Nat} {ao : Option Addr} {l : List Int} (h : LiesN w B ao l) : Held w ao l.length 1 (inCells l) :=
  ⟨by simp [inCells], inCells_one l, fun e => by subst e; rw [liesN_none h]; rfl, fun a e j u hj => by
    subst e
    simp [inCells] at hj
    obtain ⟨x, hx, rfl⟩ := hj
    obtain ⟨a', e, _, h3⟩ := h j x hx
    cases e
    rw [Nat.mul_one] at h3
    exact h3⟩
/-! Boxes told place by place. -/
def Num.BoxF (w : World) (g : Nat) (t : TypeId) (N : Nat) (f : Nat → Value) : Prop := ∃ cs : Array Value, w.heap[g]? = some (.cells cs t (0, 0)) ∧ cs.size = N ∧ ∀ k, k < N → cs[k]? = some (f k)
theorem Num.BoxF.cell {w : World} {g : Nat} {t : TypeId} {N : Nat} {f : Nat → Value} (h : BoxF w g t N f) (k : Nat) (hk : k < N) : w.cell? ⟨g, k, none⟩ = some (f k) := by
  obtain ⟨cs, h1, _, h3⟩ := h
  exact box_cell h1 k _ (h3 k hk)
theorem Num.BoxF.unfrozen {w : World} {g : Nat} {t : TypeId} {N : Nat} {f : Nat → Value} (h : BoxF w g t N f) (k : Nat) : w.frozen? ⟨g, k, none⟩ = false := by
  obtain ⟨cs, h1, _, _⟩ := h
  exact box_open h1 k
theorem Num.BoxF.lt {w : World} {g : Nat} {t : TypeId} {N : Nat} {f : Nat → Value} (h : BoxF w g t N f) : g < w.heap.size := by
  obtain ⟨cs, h1, _, _⟩ := h
  exact (Array.getElem?_eq_some_iff.1 h1).1
theorem Num.BoxF.kept {w w' : World} {g : Nat} {t : TypeId} {N : Nat} {f : Nat → Value} (h : BoxF w g t N f) (e : w'.heap[g]? = w.heap[g]?) : BoxF w' g t N f := by
  obtain ⟨cs, h1, h2, h3⟩ := h
  exact ⟨cs, e.trans h1, h2, h3⟩
theorem Num.BoxF.set {w : World} {g : Nat} {t : TypeId} {N : Nat} {f : Nat → Value} (h : BoxF w g t N f) (i : Nat) (v : Value) : BoxF (w.setCell ⟨g, i, none⟩ v) g t N (fun k => if k = i then v else f k) := by
  obtain ⟨cs, h1, h2, h3⟩ := h
  refine ⟨_, heap_setCell_same w g i cs t v h1, ?_, fun k hk => ?_⟩
  · simpa using h2
  · by_cases hki : k = i
    · subst hki
      simp [h2, hk]
    · show (cs.setIfInBounds i v)[k]? = some (if k = i then v else f k)
      rw [if_neg hki, Array.getElem?_setIfInBounds, if_neg (fun e => hki e.symm)]
      exact h3 k hk
theorem Num.BoxF.ext14 {w : World} {g : Nat} {t : TypeId} {N : Nat} {f f' : Nat → Value} (h : BoxF w g t N f) (hN : N ≤ 14)
    (e : f 0 = f' 0 ∧ f 1 = f' 1 ∧ f 2 = f' 2 ∧ f 3 = f' 3 ∧ f 4 = f' 4 ∧ f 5 = f' 5 ∧ f 6 = f' 6 ∧ f 7 = f' 7 ∧ f 8 = f' 8 ∧ f 9 = f' 9 ∧ f 10 = f' 10 ∧ f 11 = f' 11 ∧ f 12 = f' 12 ∧ f 13 = f' 13) : BoxF w g t N f' := by
  obtain ⟨cs, h1, h2, h3⟩ := h
  obtain ⟨e0, e1, e2, e3, e4, e5, e6, e7, e8, e9, e10, e11, e12, e13⟩ := e
  refine ⟨cs, h1, h2, fun k hk => (h3 k hk).trans (congrArg some ?_)⟩
  match k, Nat.lt_of_lt_of_le hk hN with
  | 0, _ => exact e0
  | 1, _ => exact e1
  | 2, _ => exact e2
  | 3, _ => exact e3
  | 4, _ => exact e4
  | 5, _ => exact e5
  | 6, _ => exact e6
  | 7, _ => exact e7
  | 8, _ => exact e8
  | 9, _ => exact e9
  | 10, _ => exact e10
  | 11, _ => exact e11
  | 12, _ => exact e12
  | 13, _ => exact e13
  | k + 14, hk => exact absurd hk (by omega)
theorem Num.BoxF.stay {w w' : World} {g : Nat} {t e : TypeId} {N : Nat} {f : Nat → Value} (h : BoxF w g t N f) (hs : Stay (fun _ => False) e w w') (ht : t ≠ e) : BoxF w' g t N f := by
  obtain ⟨cs, h1, h2, h3⟩ := h
  exact ⟨cs, stay_box hs h1 ht id, h2, h3⟩
theorem Num.BoxF.below {w w' : World} {g : Nat} {t : TypeId} {N : Nat} {f : Nat → Value} (h : BoxF w g t N f) (hb : Below w.heap.size w w') : BoxF w' g t N f := h.kept (hb.block g h.lt)
theorem Num.BoxF.stays {w : World} {g : Nat} {t : TypeId} {N : Nat} {f : Nat → Value} (h : BoxF w g t N f) (i : Nat) (u : Value) : Stay (fun _ => False) t w (w.setCell ⟨g, i, none⟩ u) := by
  obtain ⟨cs, h1, _, _⟩ := h
  refine ⟨by simp [World.setCell], fun k hk _ hn => Below.heap_setCell _ _ _ _ (fun e => ?_)⟩
  subst e
  exact hn _ _ h1
theorem boxF_new (w : World) (cs : Array Value) (t : TypeId) (N : Nat) (f : Nat → Value) (g : Nat) (hg : w.heap.size = g) (h1 : cs.size = N) (h2 : ∀ k, k < N → cs[k]? = some (f k)) : BoxF (w.alloc (.cells cs t)) g t N f :=
  ⟨cs, heap_newB w _ g hg, h1, h2⟩
/-- The cells of a replica's box. -/
def Num.repF (r : Rep) (vl va vv vw vb x : Value) : Nat → Value
  | 0 => .int .i64 r.id
  | 1 => .int .i64 r.n
  | 2 => .int .i64 r.view
  | 3 => .int .i64 r.normal
  | 4 => .int .i64 r.how
  | 5 => vl
  | 6 => .int .i64 r.commit
  | 7 => va
  | 8 => vv
  | 9 => vw
  | 10 => vb
  | 11 => .int .i64 r.bestView
  | 12 => .int .i64 r.bestDone
  | _ => x
/-- Two rows are not one. -/
def Num.Apart (u v : Value) : Prop := ∀ k, u.ownBlock = some k → v.ownBlock ≠ some k
theorem Num.Apart.symm {u v : Value} (h : Apart u v) : Apart v u := fun k h1 h2 => h k h2 h1
theorem apart_nil (v : Value) : Apart v (.slice none 0 0) := fun k _ h => by simp [Value.ownBlock] at h
theorem apart_new {w w' : World} {B e sz n : Nat} {u v : Value} {xs : List Value} {e' sz' n' : Nat} {ys : List Value} (hu : w.ownsRow B e sz u n xs) (hv : w'.ownsRow w.heap.size e' sz' v n' ys) : Apart u v := fun k h1 h2 => by
  have a := (hu.lt k h1).2
  have b := (hv.lt k h2).1
  omega
/-- The rows of a replica are the call's own. -/
structure Num.RowsR (B : Nat) (w : World) (log best : List Ent) (ack vot vor : List Int) (vl va vv vw vb : Value) : Prop where
  log : w.ownsRow B 78 2 vl log.length (enCells log)
  best : w.ownsRow B 78 2 vb best.length (enCells best)
  ack : w.ownsRow B 3 1 va ack.length (inCells ack)
  vot : w.ownsRow B 3 1 vv vot.length (inCells vot)
  vor : w.ownsRow B 3 1 vw vor.length (inCells vor)
  a1 : Apart vl vb
  a2 : Apart va vv
  a3 : Apart va vw
  a4 : Apart vv vw
theorem Num.RowsR.stay {B : Nat} {w w' : World} {log best : List Ent} {ack vot vor : List Int} {vl va vv vw vb : Value} (h : RowsR B w log best ack vot vor vl va vv vw vb) {t : TypeId} (hs : Stay (fun _ => False) t w w') (h1 : t ≠ 78) (h2 : t ≠ 3) : RowsR B w' log best ack vot vor vl va vv vw vb :=
  ⟨own_stay h.log hs h1.symm (fun _ h => h), own_stay h.best hs h1.symm (fun _ h => h), own_stay h.ack hs h2.symm (fun _ h => h), own_stay h.vot hs h2.symm (fun _ h => h), own_stay h.vor hs h2.symm (fun _ h => h), h.a1, h.a2, h.a3, h.a4⟩
theorem Num.RowsR.below {B : Nat} {w w' : World} {log best : List Ent} {ack vot vor : List Int} {vl va vv vw vb : Value} (h : RowsR B w log best ack vot vor vl va vv vw vb) (hb : Below w.heap.size w w') : RowsR B w' log best ack vot vor vl va vv vw vb :=
  ⟨own_below h.log hb, own_below h.best hb, own_below h.ack hb, own_below h.vot hb, own_below h.vor hb, h.a1, h.a2, h.a3, h.a4⟩
/-- Block g is a box (of type t, of N cells) of this replica; what is in it besides is x; its rows are the call's own, from B on. -/
structure Num.Hold (t : TypeId) (N : Nat) (x : Value) (B : Nat) (w : World) (g : Nat) (r : Rep) (vl va vv vw vb : Value) : Prop where
  box : BoxF w g t N (repF r vl va vv vw vb x)
  base : B ≤ g
  rows : RowsR B w r.log r.best r.acked r.votes r.voters vl va vv vw vb
/-- What lies below B, and rows of entries, stay. -/
structure Num.Keep (B : Nat) (w w' : World) : Prop where
  low : Below B w w'
  ent : ∀ (k : Nat) (cs : Array Value) (fr : Nat × Nat), w.heap[k]? = some (.cells cs 78 fr) → w'.heap[k]? = w.heap[k]?
theorem Num.Keep.refl (B : Nat) (w : World) : Keep B w w := ⟨Below.refl _ _, fun _ _ _ _ => rfl⟩
theorem Num.Keep.trans {B : Nat} {a b c : World} (h : Keep B a b) (k : Keep B b c) : Keep B a c :=
  ⟨h.low.trans k.low, fun i cs fr hi => (k.ent i cs fr ((h.ent i cs fr hi).trans hi)).trans (h.ent i cs fr hi)⟩
theorem Num.Keep.of_below {B : Nat} {w w' : World} (h : Below w.heap.size w w') (hB : B ≤ w.heap.size) : Keep B w w' := ⟨h.mono hB, fun k cs fr hk => h.block k (Array.getElem?_eq_some_iff.1 hk).1⟩
theorem Num.Keep.of_stay {B : Nat} {w w' : World} {e : TypeId} (h : Below B w w') (hs : Stay (fun _ => False) e w w') (he : e ≠ 78) : Keep B w w' :=
  ⟨h, fun k cs fr hk => hs.keep k (Array.getElem?_eq_some_iff.1 hk).1 id (fun cs' fr' h' => by rw [hk] at h'; cases h'; exact he rfl)⟩
theorem Num.Keep.drew {B : Nat} {a w : World} (h : Keep B a w) : Keep B a w.drew := ⟨h.low.drew, h.ent⟩
theorem Num.BoxF.keep {w : World} {g : Nat} {t : TypeId} {N : Nat} {f : Nat → Value} (h : BoxF w g t N f) (i : Nat) (u : Value) {B : Nat} (hB : B ≤ g) (ht : t ≠ 78) : Keep B w (w.setCell ⟨g, i, none⟩ u) :=
  .of_stay ((Below.refl _ _).setCell (p := ⟨g, i, none⟩) hB u) (h.stays i u) ht
/-- A log that came in, or is the call's own. -/
def Num.SrcE (B : Nat) (w : World) (bo : Option Addr) (c : Nat) (l : List Ent) : Prop := LiesE w B bo l ∨ w.ownsRow B 78 2 (.slice bo l.length c) l.length (enCells l)
theorem Num.SrcE.keep {B : Nat} {w w' : World} {bo : Option Addr} {c : Nat} {l : List Ent} (h : SrcE B w bo c l) (hk : Keep B w w') : SrcE B w' bo c l := by
  rcases h with h | h
  · exact .inl (liesE_next h hk.low (Nat.le_refl _))
  · refine .inr ⟨h.1, ?_⟩
    rcases h.2 with h0 | ⟨g, cap, cur, hv, hb, hg, r⟩
    · exact .inl h0
    · exact .inr ⟨g, cap, cur, hv, hb, (hk.ent g _ _ hg).trans hg, r⟩
theorem Num.SrcE.lies {B : Nat} {w : World} {bo : Option Addr} {c : Nat} {l : List Ent} (h : SrcE B w bo c l) (hB : B ≤ w.heap.size) : LiesE w w.heap.size bo l := by
  rcases h with h | h
  · exact h.mono hB fun _ _ h => h
  · obtain ⟨ao, cap, e, hl⟩ := ownE_lies h
    cases e
    exact hl
/-! Several places of a box, one behind the other. -/
def Num.sets (w : World) (g : Nat) : List (Nat × Value) → World
  | [] => w
  | (i, v) :: l => sets (w.setCell ⟨g, i, none⟩ v) g l
def Num.upds (f : Nat → Value) : List (Nat × Value) → Nat → Value
  | [] => f
  | (i, v) :: l => upds (fun k => if k = i then v else f k) l
theorem sets_box {g : Nat} {t : TypeId} {N : Nat} : ∀ (l : List (Nat × Value)) {w : World} {f : Nat → Value}, BoxF w g t N f → BoxF (sets w g l) g t N (upds f l) ∧ Stay (fun _ => False) t w (sets w g l)
  | [], w, f, h => ⟨h, Stay.refl _ _ _⟩
  | (i, v) :: l, w, f, h => by
    obtain ⟨h1, h2⟩ := sets_box l (h.set i v)
    exact ⟨h1, (h.stays i v).trans h2⟩
theorem sets_below {g : Nat} {B : Nat} (hB : B ≤ g) : ∀ (l : List (Nat × Value)) (w : World), Below B w (sets w g l)
  | [], w => Below.refl _ _
  | (i, v) :: l, w => ((Below.refl _ w).setCell (p := ⟨g, i, none⟩) hB v).trans (sets_below hB l _)
theorem sets_keep {g : Nat} {t : TypeId} {N : Nat} {w : World} {f : Nat → Value} {B : Nat} (hB : B ≤ g) (h : BoxF w g t N f) (ht : t ≠ 78) (l : List (Nat × Value)) : Keep B w (sets w g l) := .of_stay (sets_below hB l w) (sets_box l h).2 ht
theorem hold_sets {t : TypeId} {N : Nat} {x : Value} {B : Nat} {w : World} {g : Nat} {r : Rep} {vl va vv vw vb : Value} (h : Hold t N x B w g r vl va vv vw vb) (hN : N ≤ 14) (hE : t ≠ 78) (hI : t ≠ 3) (l : List (Nat × Value)) {r' : Rep} {vl' va' vv' vw' vb' x' : Value}
    (hr : RowsR B w r'.log r'.best r'.acked r'.votes r'.voters vl' va' vv' vw' vb')
    (e : ∀ f f' : Nat → Value, f = upds (repF r vl va vv vw vb x) l → f' = repF r' vl' va' vv' vw' vb' x' → f 0 = f' 0 ∧ f 1 = f' 1 ∧ f 2 = f' 2 ∧ f 3 = f' 3 ∧ f 4 = f' 4 ∧ f 5 = f' 5 ∧ f 6 = f' 6 ∧ f 7 = f' 7 ∧ f 8 = f' 8 ∧ f 9 = f' 9 ∧ f 10 = f' 10 ∧ f 11 = f' 11 ∧ f 12 = f' 12 ∧ f 13 = f' 13) :
    Hold t N x' B (sets w g l) g r' vl' va' vv' vw' vb' :=
  ⟨(sets_box l h.box).1.ext14 hN (e _ _ rfl rfl), h.base, hr.stay (sets_box l h.box).2 hE hI⟩
theorem ownO_stay {B : Nat} {w w' : World} {v : Value} {l : Msgs} (h : OwnO B w v l) {e : TypeId} (hs : Stay (fun _ => False) e w w') (h1 : 89 ≠ e) (h2 : 78 ≠ e) : OwnO B w' v l := by
  obtain ⟨css, a, b, c, d⟩ := h
  exact ⟨css, a, b, own_stay c hs h1 (fun _ h => h), fun i cs x hi hx => by
    obtain ⟨c, e1, h3⟩ := d i cs x hi hx
    exact ⟨c, e1, own_stay h3 hs h2 (fun _ h => h)⟩⟩
theorem Num.Hold.cells {t : TypeId} {N : Nat} {x : Value} {B : Nat} {w : World} {g : Nat} {r : Rep} {vl va vv vw vb : Value} (h : Hold t N x B w g r vl va vv vw vb) (hN : 13 ≤ N) :
    w.cell? ⟨g, 0, none⟩ = some (.int .i64 r.id) ∧ w.cell? ⟨g, 1, none⟩ = some (.int .i64 r.n) ∧ w.cell? ⟨g, 2, none⟩ = some (.int .i64 r.view) ∧ w.cell? ⟨g, 3, none⟩ = some (.int .i64 r.normal) ∧ w.cell? ⟨g, 4, none⟩ = some (.int .i64 r.how) ∧ w.cell? ⟨g, 5, none⟩ = some vl ∧ w.cell? ⟨g, 6, none⟩ = some (.int .i64 r.commit) ∧ w.cell? ⟨g, 7, none⟩ = some va ∧ w.cell? ⟨g, 8, none⟩ = some vv ∧ w.cell? ⟨g, 9, none⟩ = some vw ∧ w.cell? ⟨g, 10, none⟩ = some vb ∧ w.cell? ⟨g, 11, none⟩ = some (.int .i64 r.bestView) ∧ w.cell? ⟨g, 12, none⟩ = some (.int .i64 r.bestDone) :=
  ⟨h.box.cell 0 (by omega), h.box.cell 1 (by omega), h.box.cell 2 (by omega), h.box.cell 3 (by omega), h.box.cell 4 (by omega), h.box.cell 5 (by omega), h.box.cell 6 (by omega), h.box.cell 7 (by omega), h.box.cell 8 (by omega), h.box.cell 9 (by omega), h.box.cell 10 (by omega), h.box.cell 11 (by omega), h.box.cell 12 (by omega)⟩
theorem Num.Hold.below {t : TypeId} {N : Nat} {x : Value} {B : Nat} {w w' : World} {g : Nat} {r : Rep} {vl va vv vw vb : Value} (h : Hold t N x B w g r vl va vv vw vb) (hb : Below w.heap.size w w') : Hold t N x B w' g r vl va vv vw vb := ⟨h.box.below hb, h.base, h.rows.below hb⟩
theorem Num.Hold.stay {t : TypeId} {N : Nat} {x : Value} {B : Nat} {w w' : World} {g : Nat} {r : Rep} {vl va vv vw vb : Value} (h : Hold t N x B w g r vl va vv vw vb) {e : TypeId} (hs : Stay (fun _ => False) e w w') (h1 : t ≠ e) (h2 : e ≠ 78) (h3 : e ≠ 3) : Hold t N x B w' g r vl va vv vw vb := ⟨h.box.stay hs h1, h.base, h.rows.stay hs h2 h3⟩
/-! Numbers made anew. -/
theorem made_ints (N : Int) (hN : 0 ≤ N ∧ N ≤ 16) : ∃ cs : Array Value, cs.size = N.toNat ∧ cs.toList = List.replicate N.toNat (.int .i64 0) ∧ ∀ w : World,
    (Instr.makeSlice 40 (.int .i64 N) (.int .i64 N)).run Tryz.prog w = .ok (.slice (some ⟨w.heap.size, 0, none⟩) N.toNat N.toNat) (w.alloc (.cells cs 3)) := by
  obtain ⟨n, rfl⟩ := Int.eq_ofNat_of_zero_le hN.1
  have hi := Tryz.infoInt
  cases hq : Tryz.prog.info? 3 with
  | none =>
    rw [hq] at hi
    cases hi
  | some i =>
    rw [hq] at hi
    simp at hi
    obtain ⟨e1, e2, e3⟩ := hi
    refine ⟨madeCells #[.int .i64 0] n, size_madeCells _ _, ?_, fun w => ?_⟩
    · apply List.ext_getElem?
      intro k
      by_cases hk : k < n
      · simp [madeCells, hk]
        rw [Nat.mod_one]
        rfl
      · rw [List.getElem?_eq_none (by simp [madeCells]; omega), List.getElem?_eq_none (by simp; omega)]
    · have := run_make (P := Tryz.prog) w 40 3 i (.int .i64 0) Tryz.underlying40 hq e1 .i64 .i64 n n (by omega) (by omega) (by rw [e3]; omega) (by omega)
      rw [e2] at this
      simpa [Value.cells] using this
theorem own_zeros (w : World) (N : Nat) (hN : N ≤ 16) (cs : Array Value) (h1 : cs.size = N) (h2 : cs.toList = List.replicate N (.int .i64 0)) : (w.alloc (.cells cs 3)).ownsRow w.heap.size 3 1 (.slice (some ⟨w.heap.size, 0, none⟩) N N) N (List.replicate N (.int .i64 0)) :=
  ⟨by simp, .inr ⟨w.heap.size, N, cs, rfl, Nat.le_refl _, heap_new w _, Nat.le_refl _, by unfold maxLen; omega, by omega, by rw [h2, Nat.mul_one]; simp⟩⟩
theorem inCells_rep (n : Nat) (x : Int) : inCells (List.replicate n x) = List.replicate n (.int .i64 x) := by simp [inCells]
theorem inCells_set (l : List Int) (i : Nat) (x : Int) : (inCells l).set i (.int .i64 x) = inCells (l.set i x) := by simp [inCells, List.map_set]
def Num.rep0 : Rep := ⟨0, 0, 0, 0, 0, [], 0, [], [], [], [], 0, 0⟩
abbrev Num.repO (r : Rep) (vl va vv vw vb : Value) (t : TypeId) : Obj := .cells #[.int .i64 r.id, .int .i64 r.n, .int .i64 r.view, .int .i64 r.normal, .int .i64 r.how, vl, .int .i64 r.commit, va, vv, vw, vb, .int .i64 r.bestView, .int .i64 r.bestDone] t
abbrev Num.repO0 (t : TypeId) : Obj := .cells #[.int .i64 0, .int .i64 0, .int .i64 0, .int .i64 0, .int .i64 0, .slice none 0 0, .int .i64 0, .slice none 0 0, .slice none 0 0, .slice none 0 0, .slice none 0 0, .int .i64 0, .int .i64 0] t
theorem box_rep (w : World) (r : Rep) (vl va vv vw vb x : Value) (t : TypeId) (g : Nat) (hg : w.heap.size = g) : BoxF (w.alloc (repO r vl va vv vw vb t)) g t 13 (repF r vl va vv vw vb x) :=
  boxF_new w _ _ _ _ _ hg rfl fun k hk => by
    match k, hk with
    | 0, _ => rfl
    | 1, _ => rfl
    | 2, _ => rfl
    | 3, _ => rfl
    | 4, _ => rfl
    | 5, _ => rfl
    | 6, _ => rfl
    | 7, _ => rfl
    | 8, _ => rfl
    | 9, _ => rfl
    | 10, _ => rfl
    | 11, _ => rfl
    | 12, _ => rfl
    | k + 13, hk => exact absurd hk (by omega)
theorem box_rep0 (w : World) (x : Value) (t : TypeId) (g : Nat) (hg : w.heap.size = g) : BoxF (w.alloc (repO0 t)) g t 13 (repF rep0 (.slice none 0 0) (.slice none 0 0) (.slice none 0 0) (.slice none 0 0) (.slice none 0 0) x) := box_rep w rep0 _ _ _ _ _ x t g hg
theorem Num.BoxF.rep {w : World} {g : Nat} {t : TypeId} {N : Nat} {r : Rep} {vl va vv vw vb x : Value} (h : BoxF w g t N (repF r vl va vv vw vb x)) (hN : 13 ≤ N) :
    w.cell? ⟨g, 0, none⟩ = some (.int .i64 r.id) ∧ w.cell? ⟨g, 1, none⟩ = some (.int .i64 r.n) ∧ w.cell? ⟨g, 2, none⟩ = some (.int .i64 r.view) ∧ w.cell? ⟨g, 3, none⟩ = some (.int .i64 r.normal) ∧ w.cell? ⟨g, 4, none⟩ = some (.int .i64 r.how) ∧ w.cell? ⟨g, 5, none⟩ = some vl ∧ w.cell? ⟨g, 6, none⟩ = some (.int .i64 r.commit) ∧ w.cell? ⟨g, 7, none⟩ = some va ∧ w.cell? ⟨g, 8, none⟩ = some vv ∧ w.cell? ⟨g, 9, none⟩ = some vw ∧ w.cell? ⟨g, 10, none⟩ = some vb ∧ w.cell? ⟨g, 11, none⟩ = some (.int .i64 r.bestView) ∧ w.cell? ⟨g, 12, none⟩ = some (.int .i64 r.bestDone) :=
  ⟨h.cell 0 (by omega), h.cell 1 (by omega), h.cell 2 (by omega), h.cell 3 (by omega), h.cell 4 (by omega), h.cell 5 (by omega), h.cell 6 (by omega), h.cell 7 (by omega), h.cell 8 (by omega), h.cell 9 (by omega), h.cell 10 (by omega), h.cell 11 (by omega), h.cell 12 (by omega)⟩
theorem Num.BoxF.drew {w : World} {g : Nat} {t : TypeId} {N : Nat} {f : Nat → Value} (h : BoxF w g t N f) : BoxF w.drew g t N f := h.kept rfl
theorem Num.BoxF.alloc {w : World} {g : Nat} {t : TypeId} {N : Nat} {f : Nat → Value} (h : BoxF w g t N f) (o : Obj) : BoxF (w.alloc o) g t N f := h.kept (Below.heap_alloc w o g h.lt)
/-- All of a box is written anew. -/
theorem box_whole {w : World} {g : Nat} {t : TypeId} {N : Nat} {r : Rep} {vl va vv vw vb x : Value} (h : BoxF w g t N (repF r vl va vv vw vb x)) (hN : N ≤ 14) (q : Rep) (ul ua uv uw ub : Value) :
    BoxF (sets w g [(0, .int .i64 q.id), (1, .int .i64 q.n), (2, .int .i64 q.view), (3, .int .i64 q.normal), (4, .int .i64 q.how), (5, ul), (6, .int .i64 q.commit), (7, ua), (8, uv), (9, uw), (10, ub), (11, .int .i64 q.bestView), (12, .int .i64 q.bestDone)]) g t N (repF q ul ua uv uw ub x) :=
  (sets_box _ h).1.ext14 hN ⟨rfl, rfl, rfl, rfl, rfl, rfl, rfl, rfl, rfl, rfl, rfl, rfl, rfl, rfl⟩
end Go.Proofs.YthnbaijkhhbelaaGreat
