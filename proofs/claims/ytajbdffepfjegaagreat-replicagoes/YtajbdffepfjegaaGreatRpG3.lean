/-
  Joined:
  Replicas as plain data (11.1, 11.2): which may be; what it is to be clear, fresh, normal; what is sent.
  Replicas in memory: as they came in; as a box whose lists are rows of the call's own; what keeps them.
  What a replica makes of a message, plainly: numbers that rise, how many reach a place, logs behind one another.
-/
import Derived.Test.YtajbdffepfjegaaGreatRpG2
import Derived.Laws.MakeOwn
namespace Go.Proofs.YtajbdffepfjegaaGreat
open Go.RowKit Num
open scoped Classical
set_option linter.unusedVariables false
set_option maxRecDepth 100000

structure Num.Rep where
  id : Int
  n : Int
  view : Int
  normal : Int
  how : Int
  log : List Ent
  commit : Int
  acked : List Int
  votes : List Int
  voters : List Int
  best : List Ent
  bestView : Int
  bestDone : Int
/-- The time ahead of an entry; the number ahead of one. -/
def Num.prevT (l : List Ent) : Nat → Int
  | 0 => 0
  | i + 1 => match l[i]? with
    | some x => x.time
    | none => 0
def Num.prevI (l : List Int) : Nat → Int
  | 0 => -1
  | i + 1 => match l[i]? with
    | some x => x
    | none => -1
def Num.lastT (l : List Ent) : Int := prevT l l.length
def Num.EntOk (p : Int) (x : Ent) : Prop := p < x.time ∧ x.time < 1099511627776 ∧ x.data.size ≤ 20000
def Num.LogOk (l : List Ent) : Prop := l.length ≤ 1000 ∧ ∀ (i : Nat) x, l[i]? = some x → EntOk (prevT l i) x
def Num.IdsOk (l : List Int) (n : Int) : Prop := ∀ (i : Nat) x, l[i]? = some x → prevI l i < x ∧ x < n
def Num.AckOk (l : List Int) (n m : Int) : Prop := (l.length : Int) = n ∧ ∀ (i : Nat) x, l[i]? = some x → 0 ≤ x ∧ x ≤ m
def Num.OneOf (id n : Int) : Prop := (n = 1 ∨ n = 3 ∨ n = 5) ∧ 0 ≤ id ∧ id < n
def Num.ViewsOk (r : Rep) : Prop := (0 ≤ r.view ∧ r.view < 1099511627776) ∧ (0 ≤ r.normal ∧ r.normal ≤ r.view) ∧ (r.how = 0 ∨ r.how = 1 ∨ r.how = 2) ∧ (r.how = 0 → r.normal = r.view)
def Num.BestOk (r : Rep) : Prop := LogOk r.best ∧ (-1 ≤ r.bestView ∧ r.bestView < 1099511627776) ∧ (0 ≤ r.bestDone ∧ r.bestDone ≤ (r.best.length : Int))
structure Num.May (r : Rep) : Prop where
  one : OneOf r.id r.n
  views : ViewsOk r
  log : LogOk r.log
  com : 0 ≤ r.commit ∧ r.commit ≤ (r.log.length : Int)
  ack : AckOk r.acked r.n (r.log.length : Int)
  votes : IdsOk r.votes r.n
  voters : IdsOk r.voters r.n
  best : BestOk r
theorem prevT_at {l : List Ent} {i : Nat} {x : Ent} (h : l[i]? = some x) : prevT l (i + 1) = x.time := by
  show (match l[i]? with | some x => x.time | none => 0) = x.time
  rw [h]
theorem prevI_at {l : List Int} {i : Nat} {x : Int} (h : l[i]? = some x) : prevI l (i + 1) = x := by
  show (match l[i]? with | some x => x | none => -1) = x
  rw [h]
theorem prevT_in {l : List Ent} (h : ∀ (i : Nat) x, l[i]? = some x → EntOk (prevT l i) x) (i : Nat) : 0 ≤ prevT l i ∧ prevT l i < 1099511627776 := by
  induction i with
  | zero => exact ⟨Int.le_refl _, by show (0 : Int) < _; omega⟩
  | succ i ih =>
    show 0 ≤ (match l[i]? with | some x => x.time | none => 0) ∧ (match l[i]? with | some x => x.time | none => 0) < 1099511627776
    cases hx : l[i]? with
    | none => exact ⟨Int.le_refl _, by show (0 : Int) < _; omega⟩
    | some x =>
      have := h i x hx
      unfold EntOk at this
      exact ⟨by show 0 ≤ x.time; omega, this.2.1⟩
theorem ids_len {l : List Int} {n : Int} (h : IdsOk l n) (hn : 0 ≤ n) : (l.length : Int) ≤ n := by
  have hh : ∀ i, i < l.length → ∀ x, l[i]? = some x → (i : Int) ≤ x := by
    intro i
    induction i with
    | zero =>
      intro hi x hx
      have h2 : (-1 : Int) < x ∧ x < n := h 0 x hx
      omega
    | succ i ih =>
      intro hi x hx
      have h1 := ih (by omega) _ (List.getElem?_eq_getElem (by omega))
      have h2 := h _ x hx
      rw [prevI_at (List.getElem?_eq_getElem (show i < l.length by omega))] at h2
      omega
  by_cases h0 : l.length = 0
  · omega
  · have h1 := hh (l.length - 1) (by omega) _ (List.getElem?_eq_getElem (by omega))
    have h2 := h (l.length - 1) _ (List.getElem?_eq_getElem (by omega))
    omega
/-! What is done with one. -/
def Num.clearR (r : Rep) : Rep := { r with votes := [], voters := [], best := [], bestView := -1, bestDone := 0 }
def Num.ackL (n id : Nat) (k : Int) : List Int := (List.replicate n 0).set id k
def Num.freshR (r : Rep) : Rep := { r with acked := ackL r.n.toNat r.id.toNat (r.log.length : Int) }
def Num.comR (r : Rep) (log : List Ent) (c : Int) : Int := if r.n = 1 then (log.length : Int) else min (max r.commit c) (log.length : Int)
def Num.normalR (r : Rep) (log : List Ent) (view c : Int) : Rep := freshR (clearR { r with view := view, normal := view, how := 0, log := log, commit := comR r log c })
abbrev Num.msg (k i c m : Int) (log : List Ent) : Msg := ⟨k, 0, 0, 0, i, c, m, log⟩
def Num.toM (r : Rep) (m : Msg) (to : Int) : Msg := { m with a1 := r.id, a2 := to, a3 := r.view }
/-- To all others of those from a place on. -/
def Num.restM (r : Rep) (m : Msg) (k : Nat) : Msgs := ((List.range' k (r.n.toNat - k)).filter fun i : Nat => decide ((i : Int) ≠ r.id)).map fun i : Nat => toM r m (i : Int)
def Num.allM (r : Rep) (m : Msg) : Msgs := restM r m 0
def Num.changeR (r : Rep) (v : Int) : Rep := { clearR r with view := v, how := 1, votes := [r.id] }
def Num.raiseR (r : Rep) (c : Int) : Rep := { r with commit := min (max r.commit c) (r.log.length : Int) }
theorem restM_done (r : Rep) (m : Msg) (k : Nat) (h : r.n.toNat ≤ k) : restM r m k = [] := by
  unfold restM
  rw [show r.n.toNat - k = 0 by omega]
  rfl
theorem restM_self (r : Rep) (m : Msg) (k : Nat) (h : k < r.n.toNat) (hk : (k : Int) = r.id) : restM r m k = restM r m (k + 1) := by
  unfold restM
  rw [show r.n.toNat - k = (r.n.toNat - (k + 1)) + 1 by omega, List.range'_succ, List.filter_cons, if_neg (by simp [hk])]
theorem restM_next (r : Rep) (m : Msg) (k : Nat) (h : k < r.n.toNat) (hk : (k : Int) ≠ r.id) : restM r m k = toM r m (k : Int) :: restM r m (k + 1) := by
  unfold restM
  rw [show r.n.toNat - k = (r.n.toNat - (k + 1)) + 1 by omega, List.range'_succ, List.filter_cons, if_pos (by simp [hk])]
  rfl
theorem ackL_len (n id : Nat) (k : Int) : (ackL n id k).length = n := by simp [ackL]
theorem restM_len (r : Rep) (m : Msg) (k : Nat) : (restM r m k).length ≤ r.n.toNat := by
  unfold restM
  rw [List.length_map]
  exact Nat.le_trans (List.length_filter_le _ _) (by rw [List.length_range']; omega)
theorem restM_log {r : Rep} {m : Msg} {k : Nat} {x : Msg} (h : x ∈ restM r m k) : x.log = m.log := by
  unfold restM at h
  obtain ⟨i, _, rfl⟩ := List.mem_map.1 h
  rfl
end Go.Proofs.YtajbdffepfjegaaGreat
namespace Go.Proofs.YtajbdffepfjegaaGreat
open Go.RowKit Go.ChangeShapes Go.WideShapes Go.Joins Num
set_option linter.unusedVariables false
set_option maxRecDepth 100000

theorem Tryz.cellsInts : Tryz.prog.cellsOf 23 = 1 := by kernel_rfl
theorem Tryz.cellsRp : Tryz.prog.cellsOf 25 = 13 := by kernel_rfl
theorem Tryz.infoInt : (Tryz.prog.info? 3).map (fun i => (i.zero, i.size, i.bytes)) = some (some (.int .i64 0), 1, 8) := by kernel_rfl
theorem open_num {H : Type} {enc : TypeId × Value → H} {w : World} {base : Nat} {spare : Nat → Bool} {held : Bool} (a : Addr) (n : Nat) (cs : List Value) (x : DataW H × List MemPlace)
    (h1 : w.cells? base a 1 = some cs) (h2 : DataW.trod enc Tryz.prog w base spare held n 3 cs = some x) :
    ∃ k : Int, True ∧ NumAt w a k := by
  obtain ⟨_, hlen, hcell⟩ := World.cells?_some h1
  match cs, hlen with
  | [v0], _ =>
    have e0 := hcell 0 (by omega)
    simp [Addr.add] at e0
    obtain ⟨k0, q0, _, wk⟩ := DataW.trod_int Tryz.underlying3 h2
    simp at q0
    subst q0
    exact ⟨k0, trivial, e0⟩
def Num.Fit (n : Int) : Prop := -9223372036854775808 ≤ n ∧ n ≤ 9223372036854775807
structure Num.Rep.ok (r : Rep) : Prop where
  id : Fit r.id
  n : Fit r.n
  view : Fit r.view
  normal : Fit r.normal
  how : Fit r.how
  commit : Fit r.commit
  bestView : Fit r.bestView
  bestDone : Fit r.bestDone
/-- Where the lists of a replica lie, and how much room each has. -/
structure Num.Sl where
  lo : Option Addr
  lc : Nat
  ao : Option Addr
  ac : Nat
  vo : Option Addr
  vc : Nat
  wo : Option Addr
  wc : Nat
  bo : Option Addr
  bc : Nat
abbrev Num.repV (r : Rep) (s : Sl) : Value := .agg #[.int .i64 r.id, .int .i64 r.n, .int .i64 r.view, .int .i64 r.normal, .int .i64 r.how, .slice s.lo r.log.length s.lc, .int .i64 r.commit, .slice s.ao r.acked.length s.ac, .slice s.vo r.votes.length s.vc, .slice s.wo r.voters.length s.wc, .slice s.bo r.best.length s.bc, .int .i64 r.bestView, .int .i64 r.bestDone]
/-- A replica's lists lie in memory. -/
structure Num.LiesR (w : World) (B : Nat) (s : Sl) (r : Rep) : Prop where
  log : LiesE w B s.lo r.log
  ack : LiesN w B s.ao r.acked
  votes : LiesN w B s.vo r.votes
  voters : LiesN w B s.wo r.voters
  best : LiesE w B s.bo r.best
theorem liesN_wide {w w' : World} {B : Nat} {ao : Option Addr} {l : List Int} (h : LiesN w B ao l) (hb : Below B w w') {B' : Nat} (hB : B ≤ B') : LiesN w' B' ao l := (h.below NumAt.fast hb).mono hB fun _ _ h => h
theorem liesR_next {w w' : World} {B : Nat} {s : Sl} {r : Rep} (h : LiesR w B s r) (hb : Below B w w') {B' : Nat} (hB : B ≤ B') : LiesR w' B' s r :=
  ⟨liesE_next h.log hb hB, liesN_wide h.ack hb hB, liesN_wide h.votes hb hB, liesN_wide h.voters hb hB, liesE_next h.best hb hB⟩
theorem array13 {cs : Array Value} (h : cs.size = 13) : ∃ v0 v1 v2 v3 v4 v5 v6 v7 v8 v9 v10 v11 v12, cs = #[v0, v1, v2, v3, v4, v5, v6, v7, v8, v9, v10, v11, v12] := by
  obtain ⟨l⟩ := cs
  match l, h with
  | [v0, v1, v2, v3, v4, v5, v6, v7, v8, v9, v10, v11, v12], _ => exact ⟨v0, v1, v2, v3, v4, v5, v6, v7, v8, v9, v10, v11, v12, rfl⟩
set_option maxRecDepth 100000 in
set_option maxHeartbeats 2000000 in
/-- A replica that came in. -/
theorem open_rep {H : Type} {enc : TypeId × Value → H} {w : World} {base b0 : Nat} {r : Reach} {spare : Nat → Bool} {held : Bool} {v : Value} {d : DataW H} {p : List MemPlace}
    (hv : Value.okWide Tryz.prog w r b0 25 v) (h : DataW.Trod enc Tryz.prog w base spare held 25 v d p) :
    ∃ (q : Rep) (s : Sl), v = repV q s ∧ q.ok ∧ LiesR w w.heap.size s q := by
  obtain ⟨cs, rfl, hsz⟩ := okWide_struct Tryz.underlying25 hv
  obtain ⟨v0, v1, v2, v3, v4, v5, v6, v7, v8, v9, v10, v11, v12, rfl⟩ := array13 (hsz.trans Tryz.cellsRp)
  obtain ⟨fuel, hf0⟩ := h
  have h : DataW.trod enc Tryz.prog w base spare held fuel 25 [v0, v1, v2, v3, v4, v5, v6, v7, v8, v9, v10, v11, v12] = some (d, p) := by simpa [Value.cells] using hf0
  clear hf0
  obtain ⟨xs, m, _, _, _, hxl, hf⟩ := DataW.trod_struct Tryz.underlying25 h
  have inh : Inhabited Ent := ⟨⟨0, ByteArray.empty⟩⟩
  match xs, hxl with
  | [x0, x1, x2, x3, x4, x5, x6, x7, x8, x9, x10, x11, x12], _ =>
    have g0 := hf 0 _ rfl
    have g1 := hf 1 _ rfl
    have g2 := hf 2 _ rfl
    have g3 := hf 3 _ rfl
    have g4 := hf 4 _ rfl
    have g5 := hf 5 _ rfl
    have g6 := hf 6 _ rfl
    have g7 := hf 7 _ rfl
    have g8 := hf 8 _ rfl
    have g9 := hf 9 _ rfl
    have g10 := hf 10 _ rfl
    have g11 := hf 11 _ rfl
    have g12 := hf 12 _ rfl
    clear hf
    simp [Tryz.cellsInt] at g0
    simp [Tryz.cellsInt] at g1
    simp [Tryz.cellsInt] at g2
    simp [Tryz.cellsInt] at g3
    simp [Tryz.cellsInt] at g4
    simp [Tryz.cellsLog] at g5
    simp [Tryz.cellsInt] at g6
    simp [Tryz.cellsInts] at g7
    simp [Tryz.cellsInts] at g8
    simp [Tryz.cellsInts] at g9
    simp [Tryz.cellsLog] at g10
    simp [Tryz.cellsInt] at g11
    simp [Tryz.cellsInt] at g12
    obtain ⟨k0, q0, _, w0⟩ := DataW.trod_int Tryz.underlying3 g0
    obtain ⟨k1, q1, _, w1⟩ := DataW.trod_int Tryz.underlying3 g1
    obtain ⟨k2, q2, _, w2⟩ := DataW.trod_int Tryz.underlying3 g2
    obtain ⟨k3, q3, _, w3⟩ := DataW.trod_int Tryz.underlying3 g3
    obtain ⟨k4, q4, _, w4⟩ := DataW.trod_int Tryz.underlying3 g4
    obtain ⟨k6, q6, _, w6⟩ := DataW.trod_int Tryz.underlying3 g6
    obtain ⟨k11, q11, _, w11⟩ := DataW.trod_int Tryz.underlying3 g11
    obtain ⟨k12, q12, _, w12⟩ := DataW.trod_int Tryz.underlying3 g12
    obtain ⟨lo, lc, l5, q5, _, hl5, _⟩ := open_list EnAt (fun _ => True) 2 Tryz.cellsEn Tryz.underlying22 (fun p x h => cell_lt h.1) open_en g5
    obtain ⟨bo, bc, l10, q10, _, hl10, _⟩ := open_list EnAt (fun _ => True) 2 Tryz.cellsEn Tryz.underlying22 (fun p x h => cell_lt h.1) open_en g10
    obtain ⟨ao, ac, l7, q7, _, hl7, _⟩ := open_list NumAt (fun _ => True) 1 Tryz.cellsInt Tryz.underlying23 (fun p x h => cell_lt h) open_num g7
    obtain ⟨vo, vc, l8, q8, _, hl8, _⟩ := open_list NumAt (fun _ => True) 1 Tryz.cellsInt Tryz.underlying23 (fun p x h => cell_lt h) open_num g8
    obtain ⟨wo, wc, l9, q9, _, hl9, _⟩ := open_list NumAt (fun _ => True) 1 Tryz.cellsInt Tryz.underlying23 (fun p x h => cell_lt h) open_num g9
    simp only [List.cons.injEq, and_true] at q0 q1 q2 q3 q4 q6 q11 q12
    subst q0 q1 q2 q3 q4 q5 q6 q7 q8 q9 q10 q11 q12
    exact ⟨⟨k0, k1, k2, k3, k4, l5, k6, l7, l8, l9, l10, k11, k12⟩, ⟨lo, lc, ao, ac, vo, vc, wo, wc, bo, bc⟩, rfl, ⟨by have := bounds_i64 w0; unfold Fit; simp only; omega, by have := bounds_i64 w1; unfold Fit; simp only; omega, by have := bounds_i64 w2; unfold Fit; simp only; omega, by have := bounds_i64 w3; unfold Fit; simp only; omega, by have := bounds_i64 w4; unfold Fit; simp only; omega, by have := bounds_i64 w6; unfold Fit; simp only; omega, by have := bounds_i64 w11; unfold Fit; simp only; omega, by have := bounds_i64 w12; unfold Fit; simp only; omega⟩, ⟨hl5, hl7, hl8, hl9, hl10⟩⟩

/-! Rows of numbers. -/
abbrev Num.inCells (l : List Int) : List Value := l.map (Value.int .i64)
theorem inCells_one (l : List Int) : ∀ v ∈ inCells l, v.oneCell' = true := by
  intro v hv
  obtain ⟨x, _, rfl⟩ := List.mem_map.1 hv
  rfl
theorem ownN_lies {w : World} {B : Nat} {v : Value} {l : List Int} (h : w.ownsRow B 3 1 v l.length (inCells l)) : ∃ ao cap, v = .slice ao l.length cap ∧ LiesN w w.heap.size ao l := by
  rcases h.2 with ⟨hv, h0⟩ | ⟨g, cap, cur, hv, _, hg, hcap, _⟩
  · subst hv
    have : l = [] := List.eq_nil_of_length_eq_zero h0
    subst this
    exact ⟨none, 0, rfl, fun i x hx => by simp at hx⟩
  · subst hv
    refine ⟨_, cap, rfl, fun i x hx => ⟨_, rfl, (Array.getElem?_eq_some_iff.1 hg).1, ?_⟩⟩
    have h3 := h.cells (g := g) rfl i (.int .i64 x) (by simp [inCells, hx])
    rw [Nat.mul_one]
    exact h3
theorem liesN_none {w : World} {B : Nat} {l : List Int} (h : LiesN w B none l) : l = [] := by
  cases l with
  | nil => rfl
  | cons x l =>
    obtain ⟨a, e, _⟩ := h 0 x rfl
    cases e
theorem liesN_src {w : World} {B : Nat} {ao : Option Addr} {l : List Int} (h : LiesN w B ao l) : Held w ao l.length 1 (inCells l) :=
  ⟨by simp [inCells], inCells_one l, fun e => by subst e; rw [liesN_none h]; rfl, fun a e j u hj => by
    subst e
    simp [inCells] at hj
    obtain ⟨x, hx, rfl⟩ := hj
    obtain ⟨a', e, _, h3⟩ := h j x hx
    cases e
    rw [Nat.mul_one] at h3
    exact h3⟩
/-! Boxes told place by place. -/
def Num.BoxF (w : World) (g : Nat) (t : TypeId) (N : Nat) (f : Nat → Value) : Prop := ∃ cs : Array Value, w.heap[g]? = some (.cells cs t (0, 0)) ∧ cs.size = N ∧ ∀ k, k < N → cs[k]? = some (f k)
theorem Num.BoxF.cell {w : World} {g : Nat} {t : TypeId} {N : Nat} {f : Nat → Value} (h : BoxF w g t N f) (k : Nat) (hk : k < N) : w.cell? ⟨g, k, none⟩ = some (f k) := by
  obtain ⟨cs, h1, _, h3⟩ := h
  exact box_cell h1 k _ (h3 k hk)
theorem Num.BoxF.unfrozen {w : World} {g : Nat} {t : TypeId} {N : Nat} {f : Nat → Value} (h : BoxF w g t N f) (k : Nat) : w.frozen? ⟨g, k, none⟩ = false := by
  obtain ⟨cs, h1, _, _⟩ := h
  exact box_open h1 k
theorem Num.BoxF.lt {w : World} {g : Nat} {t : TypeId} {N : Nat} {f : Nat → Value} (h : BoxF w g t N f) : g < w.heap.size := by
  obtain ⟨cs, h1, _, _⟩ := h
  exact (Array.getElem?_eq_some_iff.1 h1).1
theorem Num.BoxF.kept {w w' : World} {g : Nat} {t : TypeId} {N : Nat} {f : Nat → Value} (h : BoxF w g t N f) (e : w'.heap[g]? = w.heap[g]?) : BoxF w' g t N f := by
  obtain ⟨cs, h1, h2, h3⟩ := h
  exact ⟨cs, e.trans h1, h2, h3⟩
theorem Num.BoxF.set {w : World} {g : Nat} {t : TypeId} {N : Nat} {f : Nat → Value} (h : BoxF w g t N f) (i : Nat) (v : Value) : BoxF (w.setCell ⟨g, i, none⟩ v) g t N (fun k => if k = i then v else f k) := by
  obtain ⟨cs, h1, h2, h3⟩ := h
  refine ⟨_, heap_setCell_same w g i cs t v h1, ?_, fun k hk => ?_⟩
  · simpa using h2
  · by_cases hki : k = i
    · subst hki
      simp [h2, hk]
    · show (cs.setIfInBounds i v)[k]? = some (if k = i then v else f k)
      rw [if_neg hki, Array.getElem?_setIfInBounds, if_neg (fun e => hki e.symm)]
      exact h3 k hk
theorem Num.BoxF.ext14 {w : World} {g : Nat} {t : TypeId} {N : Nat} {f f' : Nat → Value} (h : BoxF w g t N f) (hN : N ≤ 14)
    (e : f 0 = f' 0 ∧ f 1 = f' 1 ∧ f 2 = f' 2 ∧ f 3 = f' 3 ∧ f 4 = f' 4 ∧ f 5 = f' 5 ∧ f 6 = f' 6 ∧ f 7 = f' 7 ∧ f 8 = f' 8 ∧ f 9 = f' 9 ∧ f 10 = f' 10 ∧ f 11 = f' 11 ∧ f 12 = f' 12 ∧ f 13 = f' 13) : BoxF w g t N f' := by
  obtain ⟨cs, h1, h2, h3⟩ := h
  obtain ⟨e0, e1, e2, e3, e4, e5, e6, e7, e8, e9, e10, e11, e12, e13⟩ := e
  refine ⟨cs, h1, h2, fun k hk => (h3 k hk).trans (congrArg some ?_)⟩
  match k, Nat.lt_of_lt_of_le hk hN with
  | 0, _ => exact e0
  | 1, _ => exact e1
  | 2, _ => exact e2
  | 3, _ => exact e3
  | 4, _ => exact e4
  | 5, _ => exact e5
  | 6, _ => exact e6
  | 7, _ => exact e7
  | 8, _ => exact e8
  | 9, _ => exact e9
  | 10, _ => exact e10
  | 11, _ => exact e11
  | 12, _ => exact e12
  | 13, _ => exact e13
  | k + 14, hk => exact absurd hk (by omega)
theorem Num.BoxF.stay {w w' : World} {g : Nat} {t e : TypeId} {N : Nat} {f : Nat → Value} (h : BoxF w g t N f) (hs : Stay (fun _ => False) e w w') (ht : t ≠ e) : BoxF w' g t N f := by
  obtain ⟨cs, h1, h2, h3⟩ := h
  exact ⟨cs, stay_box hs h1 ht id, h2, h3⟩
theorem Num.BoxF.below {w w' : World} {g : Nat} {t : TypeId} {N : Nat} {f : Nat → Value} (h : BoxF w g t N f) (hb : Below w.heap.size w w') : BoxF w' g t N f := h.kept (hb.block g h.lt)
theorem Num.BoxF.stays {w : World} {g : Nat} {t : TypeId} {N : Nat} {f : Nat → Value} (h : BoxF w g t N f) (i : Nat) (u : Value) : Stay (fun _ => False) t w (w.setCell ⟨g, i, none⟩ u) := by
  obtain ⟨cs, h1, _, _⟩ := h
  refine ⟨by simp [World.setCell], fun k hk _ hn => Below.heap_setCell _ _ _ _ (fun e => ?_)⟩
  subst e
  exact hn _ _ h1
theorem boxF_new (w : World) (cs : Array Value) (t : TypeId) (N : Nat) (f : Nat → Value) (g : Nat) (hg : w.heap.size = g) (h1 : cs.size = N) (h2 : ∀ k, k < N → cs[k]? = some (f k)) : BoxF (w.alloc (.cells cs t)) g t N f :=
  ⟨cs, heap_newB w _ g hg, h1, h2⟩
/-- The cells of a replica's box. -/
def Num.repF (r : Rep) (vl va vv vw vb x : Value) : Nat → Value
  | 0 => .int .i64 r.id
  | 1 => .int .i64 r.n
  | 2 => .int .i64 r.view
  | 3 => .int .i64 r.normal
  | 4 => .int .i64 r.how
  | 5 => vl
  | 6 => .int .i64 r.commit
  | 7 => va
  | 8 => vv
  | 9 => vw
  | 10 => vb
  | 11 => .int .i64 r.bestView
  | 12 => .int .i64 r.bestDone
  | _ => x
/-- Two rows are not one. -/
def Num.Apart (u v : Value) : Prop := ∀ k, u.ownBlock = some k → v.ownBlock ≠ some k
theorem Num.Apart.symm {u v : Value} (h : Apart u v) : Apart v u := fun k h1 h2 => h k h2 h1
theorem apart_nil (v : Value) : Apart v (.slice none 0 0) := fun k _ h => by simp [Value.ownBlock] at h
theorem apart_new {w w' : World} {B e sz n : Nat} {u v : Value} {xs : List Value} {e' sz' n' : Nat} {ys : List Value} (hu : w.ownsRow B e sz u n xs) (hv : w'.ownsRow w.heap.size e' sz' v n' ys) : Apart u v := fun k h1 h2 => by
  have a := (hu.lt k h1).2
  have b := (hv.lt k h2).1
  omega
/-- The rows of a replica are the call's own. -/
structure Num.RowsR (B : Nat) (w : World) (log best : List Ent) (ack vot vor : List Int) (vl va vv vw vb : Value) : Prop where
  log : w.ownsRow B 48 2 vl log.length (enCells log)
  best : w.ownsRow B 48 2 vb best.length (enCells best)
  ack : w.ownsRow B 3 1 va ack.length (inCells ack)
  vot : w.ownsRow B 3 1 vv vot.length (inCells vot)
  vor : w.ownsRow B 3 1 vw vor.length (inCells vor)
  a1 : Apart vl vb
  a2 : Apart va vv
  a3 : Apart va vw
  a4 : Apart vv vw
theorem Num.RowsR.stay {B : Nat} {w w' : World} {log best : List Ent} {ack vot vor : List Int} {vl va vv vw vb : Value} (h : RowsR B w log best ack vot vor vl va vv vw vb) {t : TypeId} (hs : Stay (fun _ => False) t w w') (h1 : t ≠ 48) (h2 : t ≠ 3) : RowsR B w' log best ack vot vor vl va vv vw vb :=
  ⟨own_stay h.log hs h1.symm (fun _ h => h), own_stay h.best hs h1.symm (fun _ h => h), own_stay h.ack hs h2.symm (fun _ h => h), own_stay h.vot hs h2.symm (fun _ h => h), own_stay h.vor hs h2.symm (fun _ h => h), h.a1, h.a2, h.a3, h.a4⟩
theorem Num.RowsR.below {B : Nat} {w w' : World} {log best : List Ent} {ack vot vor : List Int} {vl va vv vw vb : Value} (h : RowsR B w log best ack vot vor vl va vv vw vb) (hb : Below w.heap.size w w') : RowsR B w' log best ack vot vor vl va vv vw vb :=
  ⟨own_below h.log hb, own_below h.best hb, own_below h.ack hb, own_below h.vot hb, own_below h.vor hb, h.a1, h.a2, h.a3, h.a4⟩
/-- Block g is a box (of type t, of N cells) of this replica; what is in it besides is x; its rows are the call's own, from B on. -/
structure Num.Hold (t : TypeId) (N : Nat) (x : Value) (B : Nat) (w : World) (g : Nat) (r : Rep) (vl va vv vw vb : Value) : Prop where
  box : BoxF w g t N (repF r vl va vv vw vb x)
  base : B ≤ g
  rows : RowsR B w r.log r.best r.acked r.votes r.voters vl va vv vw vb
/-- What lies below B, and rows of entries, stay. -/
structure Num.Keep (B : Nat) (w w' : World) : Prop where
  low : Below B w w'
  ent : ∀ (k : Nat) (cs : Array Value) (fr : Nat × Nat), w.heap[k]? = some (.cells cs 48 fr) → w'.heap[k]? = w.heap[k]?
theorem Num.Keep.refl (B : Nat) (w : World) : Keep B w w := ⟨Below.refl _ _, fun _ _ _ _ => rfl⟩
theorem Num.Keep.trans {B : Nat} {a b c : World} (h : Keep B a b) (k : Keep B b c) : Keep B a c :=
  ⟨h.low.trans k.low, fun i cs fr hi => (k.ent i cs fr ((h.ent i cs fr hi).trans hi)).trans (h.ent i cs fr hi)⟩
theorem Num.Keep.of_below {B : Nat} {w w' : World} (h : Below w.heap.size w w') (hB : B ≤ w.heap.size) : Keep B w w' := ⟨h.mono hB, fun k cs fr hk => h.block k (Array.getElem?_eq_some_iff.1 hk).1⟩
theorem Num.Keep.of_stay {B : Nat} {w w' : World} {e : TypeId} (h : Below B w w') (hs : Stay (fun _ => False) e w w') (he : e ≠ 48) : Keep B w w' :=
  ⟨h, fun k cs fr hk => hs.keep k (Array.getElem?_eq_some_iff.1 hk).1 id (fun cs' fr' h' => by rw [hk] at h'; cases h'; exact he rfl)⟩
theorem Num.Keep.drew {B : Nat} {a w : World} (h : Keep B a w) : Keep B a w.drew := ⟨h.low.drew, h.ent⟩
theorem Num.BoxF.keep {w : World} {g : Nat} {t : TypeId} {N : Nat} {f : Nat → Value} (h : BoxF w g t N f) (i : Nat) (u : Value) {B : Nat} (hB : B ≤ g) (ht : t ≠ 48) : Keep B w (w.setCell ⟨g, i, none⟩ u) :=
  .of_stay ((Below.refl _ _).setCell (p := ⟨g, i, none⟩) hB u) (h.stays i u) ht
/-- A log that came in, or is the call's own. -/
def Num.SrcE (B : Nat) (w : World) (bo : Option Addr) (c : Nat) (l : List Ent) : Prop := LiesE w B bo l ∨ w.ownsRow B 48 2 (.slice bo l.length c) l.length (enCells l)
theorem Num.SrcE.keep {B : Nat} {w w' : World} {bo : Option Addr} {c : Nat} {l : List Ent} (h : SrcE B w bo c l) (hk : Keep B w w') : SrcE B w' bo c l := by
  rcases h with h | h
  · exact .inl (liesE_next h hk.low (Nat.le_refl _))
  · refine .inr ⟨h.1, ?_⟩
    rcases h.2 with h0 | ⟨g, cap, cur, hv, hb, hg, r⟩
    · exact .inl h0
    · exact .inr ⟨g, cap, cur, hv, hb, (hk.ent g _ _ hg).trans hg, r⟩
theorem Num.SrcE.lies {B : Nat} {w : World} {bo : Option Addr} {c : Nat} {l : List Ent} (h : SrcE B w bo c l) (hB : B ≤ w.heap.size) : LiesE w w.heap.size bo l := by
  rcases h with h | h
  · exact h.mono hB fun _ _ h => h
  · obtain ⟨ao, cap, e, hl⟩ := ownE_lies h
    cases e
    exact hl
/-! Several places of a box, one behind the other. -/
def Num.sets (w : World) (g : Nat) : List (Nat × Value) → World
  | [] => w
  | (i, v) :: l => sets (w.setCell ⟨g, i, none⟩ v) g l
def Num.upds (f : Nat → Value) : List (Nat × Value) → Nat → Value
  | [] => f
  | (i, v) :: l => upds (fun k => if k = i then v else f k) l
theorem sets_box {g : Nat} {t : TypeId} {N : Nat} : ∀ (l : List (Nat × Value)) {w : World} {f : Nat → Value}, BoxF w g t N f → BoxF (sets w g l) g t N (upds f l) ∧ Stay (fun _ => False) t w (sets w g l)
  | [], w, f, h => ⟨h, Stay.refl _ _ _⟩
  | (i, v) :: l, w, f, h => by
    obtain ⟨h1, h2⟩ := sets_box l (h.set i v)
    exact ⟨h1, (h.stays i v).trans h2⟩
theorem sets_below {g : Nat} {B : Nat} (hB : B ≤ g) : ∀ (l : List (Nat × Value)) (w : World), Below B w (sets w g l)
  | [], w => Below.refl _ _
  | (i, v) :: l, w => ((Below.refl _ w).setCell (p := ⟨g, i, none⟩) hB v).trans (sets_below hB l _)
theorem sets_keep {g : Nat} {t : TypeId} {N : Nat} {w : World} {f : Nat → Value} {B : Nat} (hB : B ≤ g) (h : BoxF w g t N f) (ht : t ≠ 48) (l : List (Nat × Value)) : Keep B w (sets w g l) := .of_stay (sets_below hB l w) (sets_box l h).2 ht
theorem hold_sets {t : TypeId} {N : Nat} {x : Value} {B : Nat} {w : World} {g : Nat} {r : Rep} {vl va vv vw vb : Value} (h : Hold t N x B w g r vl va vv vw vb) (hN : N ≤ 14) (hE : t ≠ 48) (hI : t ≠ 3) (l : List (Nat × Value)) {r' : Rep} {vl' va' vv' vw' vb' x' : Value}
    (hr : RowsR B w r'.log r'.best r'.acked r'.votes r'.voters vl' va' vv' vw' vb')
    (e : ∀ f f' : Nat → Value, f = upds (repF r vl va vv vw vb x) l → f' = repF r' vl' va' vv' vw' vb' x' → f 0 = f' 0 ∧ f 1 = f' 1 ∧ f 2 = f' 2 ∧ f 3 = f' 3 ∧ f 4 = f' 4 ∧ f 5 = f' 5 ∧ f 6 = f' 6 ∧ f 7 = f' 7 ∧ f 8 = f' 8 ∧ f 9 = f' 9 ∧ f 10 = f' 10 ∧ f 11 = f' 11 ∧ f 12 = f' 12 ∧ f 13 = f' 13) :
    Hold t N x' B (sets w g l) g r' vl' va' vv' vw' vb' :=
  ⟨(sets_box l h.box).1.ext14 hN (e _ _ rfl rfl), h.base, hr.stay (sets_box l h.box).2 hE hI⟩
theorem ownO_stay {B : Nat} {w w' : World} {v : Value} {l : Msgs} (h : OwnO B w v l) {e : TypeId} (hs : Stay (fun _ => False) e w w') (h1 : 27 ≠ e) (h2 : 48 ≠ e) : OwnO B w' v l := by
  obtain ⟨css, a, b, c, d⟩ := h
  exact ⟨css, a, b, own_stay c hs h1 (fun _ h => h), fun i cs x hi hx => by
    obtain ⟨c, e1, h3⟩ := d i cs x hi hx
    exact ⟨c, e1, own_stay h3 hs h2 (fun _ h => h)⟩⟩
theorem Num.Hold.cells {t : TypeId} {N : Nat} {x : Value} {B : Nat} {w : World} {g : Nat} {r : Rep} {vl va vv vw vb : Value} (h : Hold t N x B w g r vl va vv vw vb) (hN : 13 ≤ N) :
    w.cell? ⟨g, 0, none⟩ = some (.int .i64 r.id) ∧ w.cell? ⟨g, 1, none⟩ = some (.int .i64 r.n) ∧ w.cell? ⟨g, 2, none⟩ = some (.int .i64 r.view) ∧ w.cell? ⟨g, 3, none⟩ = some (.int .i64 r.normal) ∧ w.cell? ⟨g, 4, none⟩ = some (.int .i64 r.how) ∧ w.cell? ⟨g, 5, none⟩ = some vl ∧ w.cell? ⟨g, 6, none⟩ = some (.int .i64 r.commit) ∧ w.cell? ⟨g, 7, none⟩ = some va ∧ w.cell? ⟨g, 8, none⟩ = some vv ∧ w.cell? ⟨g, 9, none⟩ = some vw ∧ w.cell? ⟨g, 10, none⟩ = some vb ∧ w.cell? ⟨g, 11, none⟩ = some (.int .i64 r.bestView) ∧ w.cell? ⟨g, 12, none⟩ = some (.int .i64 r.bestDone) :=
  ⟨h.box.cell 0 (by omega), h.box.cell 1 (by omega), h.box.cell 2 (by omega), h.box.cell 3 (by omega), h.box.cell 4 (by omega), h.box.cell 5 (by omega), h.box.cell 6 (by omega), h.box.cell 7 (by omega), h.box.cell 8 (by omega), h.box.cell 9 (by omega), h.box.cell 10 (by omega), h.box.cell 11 (by omega), h.box.cell 12 (by omega)⟩
theorem Num.Hold.below {t : TypeId} {N : Nat} {x : Value} {B : Nat} {w w' : World} {g : Nat} {r : Rep} {vl va vv vw vb : Value} (h : Hold t N x B w g r vl va vv vw vb) (hb : Below w.heap.size w w') : Hold t N x B w' g r vl va vv vw vb := ⟨h.box.below hb, h.base, h.rows.below hb⟩
theorem Num.Hold.stay {t : TypeId} {N : Nat} {x : Value} {B : Nat} {w w' : World} {g : Nat} {r : Rep} {vl va vv vw vb : Value} (h : Hold t N x B w g r vl va vv vw vb) {e : TypeId} (hs : Stay (fun _ => False) e w w') (h1 : t ≠ e) (h2 : e ≠ 48) (h3 : e ≠ 3) : Hold t N x B w' g r vl va vv vw vb := ⟨h.box.stay hs h1, h.base, h.rows.stay hs h2 h3⟩
/-! Numbers made anew. -/
theorem made_ints (N : Int) (hN : 0 ≤ N ∧ N ≤ 16) : ∃ cs : Array Value, cs.size = N.toNat ∧ cs.toList = List.replicate N.toNat (.int .i64 0) ∧ ∀ w : World,
    (Instr.makeSlice 23 (.int .i64 N) (.int .i64 N)).run Tryz.prog w = .ok (.slice (some ⟨w.heap.size, 0, none⟩) N.toNat N.toNat) (w.alloc (.cells cs 3)) := by
  obtain ⟨n, rfl⟩ := Int.eq_ofNat_of_zero_le hN.1
  have hi := Tryz.infoInt
  cases hq : Tryz.prog.info? 3 with
  | none =>
    rw [hq] at hi
    cases hi
  | some i =>
    rw [hq] at hi
    simp at hi
    obtain ⟨e1, e2, e3⟩ := hi
    refine ⟨madeCells #[.int .i64 0] n, size_madeCells _ _, ?_, fun w => ?_⟩
    · apply List.ext_getElem?
      intro k
      by_cases hk : k < n
      · simp [madeCells, hk]
        rw [Nat.mod_one]
        rfl
      · rw [List.getElem?_eq_none (by simp [madeCells]; omega), List.getElem?_eq_none (by simp; omega)]
    · have := run_make (P := Tryz.prog) w 23 3 i (.int .i64 0) Tryz.underlying23 hq e1 .i64 .i64 n n (by omega) (by omega) (by rw [e3]; omega) (by omega)
      rw [e2] at this
      simpa [Value.cells] using this
theorem own_zeros (w : World) (N : Nat) (hN : N ≤ 16) (cs : Array Value) (h1 : cs.size = N) (h2 : cs.toList = List.replicate N (.int .i64 0)) : (w.alloc (.cells cs 3)).ownsRow w.heap.size 3 1 (.slice (some ⟨w.heap.size, 0, none⟩) N N) N (List.replicate N (.int .i64 0)) :=
  ⟨by simp, .inr ⟨w.heap.size, N, cs, rfl, Nat.le_refl _, heap_new w _, Nat.le_refl _, by unfold maxLen; omega, by omega, by rw [h2, Nat.mul_one]; simp⟩⟩
theorem inCells_rep (n : Nat) (x : Int) : inCells (List.replicate n x) = List.replicate n (.int .i64 x) := by simp [inCells]
theorem inCells_set (l : List Int) (i : Nat) (x : Int) : (inCells l).set i (.int .i64 x) = inCells (l.set i x) := by simp [inCells, List.map_set]
def Num.rep0 : Rep := ⟨0, 0, 0, 0, 0, [], 0, [], [], [], [], 0, 0⟩
abbrev Num.repO (r : Rep) (vl va vv vw vb : Value) (t : TypeId) : Obj := .cells #[.int .i64 r.id, .int .i64 r.n, .int .i64 r.view, .int .i64 r.normal, .int .i64 r.how, vl, .int .i64 r.commit, va, vv, vw, vb, .int .i64 r.bestView, .int .i64 r.bestDone] t
abbrev Num.repO0 (t : TypeId) : Obj := .cells #[.int .i64 0, .int .i64 0, .int .i64 0, .int .i64 0, .int .i64 0, .slice none 0 0, .int .i64 0, .slice none 0 0, .slice none 0 0, .slice none 0 0, .slice none 0 0, .int .i64 0, .int .i64 0] t
theorem box_rep (w : World) (r : Rep) (vl va vv vw vb x : Value) (t : TypeId) (g : Nat) (hg : w.heap.size = g) : BoxF (w.alloc (repO r vl va vv vw vb t)) g t 13 (repF r vl va vv vw vb x) :=
  boxF_new w _ _ _ _ _ hg rfl fun k hk => by
    match k, hk with
    | 0, _ => rfl
    | 1, _ => rfl
    | 2, _ => rfl
    | 3, _ => rfl
    | 4, _ => rfl
    | 5, _ => rfl
    | 6, _ => rfl
    | 7, _ => rfl
    | 8, _ => rfl
    | 9, _ => rfl
    | 10, _ => rfl
    | 11, _ => rfl
    | 12, _ => rfl
    | k + 13, hk => exact absurd hk (by omega)
theorem box_rep0 (w : World) (x : Value) (t : TypeId) (g : Nat) (hg : w.heap.size = g) : BoxF (w.alloc (repO0 t)) g t 13 (repF rep0 (.slice none 0 0) (.slice none 0 0) (.slice none 0 0) (.slice none 0 0) (.slice none 0 0) x) := box_rep w rep0 _ _ _ _ _ x t g hg
theorem Num.BoxF.rep {w : World} {g : Nat} {t : TypeId} {N : Nat} {r : Rep} {vl va vv vw vb x : Value} (h : BoxF w g t N (repF r vl va vv vw vb x)) (hN : 13 ≤ N) :
    w.cell? ⟨g, 0, none⟩ = some (.int .i64 r.id) ∧ w.cell? ⟨g, 1, none⟩ = some (.int .i64 r.n) ∧ w.cell? ⟨g, 2, none⟩ = some (.int .i64 r.view) ∧ w.cell? ⟨g, 3, none⟩ = some (.int .i64 r.normal) ∧ w.cell? ⟨g, 4, none⟩ = some (.int .i64 r.how) ∧ w.cell? ⟨g, 5, none⟩ = some vl ∧ w.cell? ⟨g, 6, none⟩ = some (.int .i64 r.commit) ∧ w.cell? ⟨g, 7, none⟩ = some va ∧ w.cell? ⟨g, 8, none⟩ = some vv ∧ w.cell? ⟨g, 9, none⟩ = some vw ∧ w.cell? ⟨g, 10, none⟩ = some vb ∧ w.cell? ⟨g, 11, none⟩ = some (.int .i64 r.bestView) ∧ w.cell? ⟨g, 12, none⟩ = some (.int .i64 r.bestDone) :=
  ⟨h.cell 0 (by omega), h.cell 1 (by omega), h.cell 2 (by omega), h.cell 3 (by omega), h.cell 4 (by omega), h.cell 5 (by omega), h.cell 6 (by omega), h.cell 7 (by omega), h.cell 8 (by omega), h.cell 9 (by omega), h.cell 10 (by omega), h.cell 11 (by omega), h.cell 12 (by omega)⟩
theorem Num.BoxF.drew {w : World} {g : Nat} {t : TypeId} {N : Nat} {f : Nat → Value} (h : BoxF w g t N f) : BoxF w.drew g t N f := h.kept rfl
theorem Num.BoxF.alloc {w : World} {g : Nat} {t : TypeId} {N : Nat} {f : Nat → Value} (h : BoxF w g t N f) (o : Obj) : BoxF (w.alloc o) g t N f := h.kept (Below.heap_alloc w o g h.lt)
/-- All of a box is written anew. -/
theorem box_whole {w : World} {g : Nat} {t : TypeId} {N : Nat} {r : Rep} {vl va vv vw vb x : Value} (h : BoxF w g t N (repF r vl va vv vw vb x)) (hN : N ≤ 14) (q : Rep) (ul ua uv uw ub : Value) :
    BoxF (sets w g [(0, .int .i64 q.id), (1, .int .i64 q.n), (2, .int .i64 q.view), (3, .int .i64 q.normal), (4, .int .i64 q.how), (5, ul), (6, .int .i64 q.commit), (7, ua), (8, uv), (9, uw), (10, ub), (11, .int .i64 q.bestView), (12, .int .i64 q.bestDone)]) g t N (repF q ul ua uv uw ub x) :=
  (sets_box _ h).1.ext14 hN ⟨rfl, rfl, rfl, rfl, rfl, rfl, rfl, rfl, rfl, rfl, rfl, rfl, rfl, rfl⟩
end Go.Proofs.YtajbdffepfjegaaGreat
namespace Go.Proofs.YtajbdffepfjegaaGreat
open Go.RowKit Num
set_option linter.unusedVariables false
set_option maxRecDepth 100000

/-! Numbers that rise: one more. -/
def Num.addI : List Int → Int → List Int
  | [], k => [k]
  | a :: l, k => if k < a then k :: a :: l else a :: addI l k
theorem addI_len (l : List Int) (k : Int) : (addI l k).length = l.length + 1 := by
  induction l with
  | nil => rfl
  | cons a l ih =>
    unfold addI
    split
    · rfl
    · simp [ih]
/-- As a place tells it: those ahead are not greater, the one there is. -/
theorem addI_at (l : List Int) (k : Int) : ∀ j, j ≤ l.length → (∀ i x, i < j → l[i]? = some x → ¬ k < x) → (∀ x, l[j]? = some x → k < x) → addI l k = l.take j ++ k :: l.drop j := by
  induction l with
  | nil =>
    intro j hj _ _
    have : j = 0 := by simpa using hj
    subst this
    rfl
  | cons a l ih =>
    intro j hj h1 h2
    cases j with
    | zero =>
      have := h2 a rfl
      show (if k < a then k :: a :: l else a :: addI l k) = _
      rw [if_pos this]
      rfl
    | succ j =>
      have := h1 0 a (by omega) rfl
      show (if k < a then k :: a :: l else a :: addI l k) = _
      rw [if_neg this, ih j (by simpa using hj) (fun i x hi hx => h1 (i + 1) x (by omega) (by simpa using hx)) (fun x hx => h2 x (by simpa using hx))]
      rfl
theorem ids_mono {l : List Int} {n : Int} (h : IdsOk l n) : ∀ (d i : Nat) (x y : Int), l[i]? = some x → l[i + 1 + d]? = some y → x < y := by
  intro d
  induction d with
  | zero =>
    intro i x y hx hy
    have := (h (i + 1) y hy).1
    rw [prevI_at hx] at this
    exact this
  | succ d ih =>
    intro i x y hx hy
    have hlt : i + 1 + d < l.length := by
      have := (List.getElem?_eq_some_iff.1 hy).1
      omega
    have h1 := ih i x _ hx (List.getElem?_eq_getElem hlt)
    have h2 := (h (i + 1 + (d + 1)) y hy).1
    rw [show i + 1 + (d + 1) = i + 1 + d + 1 by omega, prevI_at (List.getElem?_eq_getElem hlt)] at h2
    omega
theorem ids_lt {l : List Int} {n : Int} (h : IdsOk l n) {i j : Nat} {x y : Int} (hij : i < j) (hx : l[i]? = some x) (hy : l[j]? = some y) : x < y := ids_mono h (j - i - 1) i x y hx (by rw [show i + 1 + (j - i - 1) = j by omega]; exact hy)
theorem ids_nonneg {l : List Int} {n : Int} (h : IdsOk l n) {i : Nat} {x : Int} (hx : l[i]? = some x) : 0 ≤ x ∧ x < n := by
  have h1 := h i x hx
  refine ⟨?_, h1.2⟩
  cases i with
  | zero => have : (-1 : Int) < x := h1.1; omega
  | succ i =>
    have hlt : i < l.length := by have := (List.getElem?_eq_some_iff.1 hx).1; omega
    have hh : ∀ (i : Nat) y, l[i]? = some y → 0 ≤ y := by
      intro i
      induction i with
      | zero => intro y hy; have : (-1 : Int) < y := (h 0 y hy).1; omega
      | succ i ih =>
        intro y hy
        have hlt : i < l.length := by have := (List.getElem?_eq_some_iff.1 hy).1; omega
        have h3 := ih _ (List.getElem?_eq_getElem hlt)
        have h4 := (h (i + 1) y hy).1
        rw [prevI_at (List.getElem?_eq_getElem hlt)] at h4
        omega
    exact hh (i + 1) x hx
/-- Rising, told pair by pair. -/
theorem ids_iff {l : List Int} {n : Int} : IdsOk l n ↔ l.Pairwise (· < ·) ∧ ∀ x ∈ l, 0 ≤ x ∧ x < n := by
  constructor
  · intro h
    refine ⟨List.pairwise_iff_getElem.2 fun i j hi hj hij => ids_lt h hij (List.getElem?_eq_getElem hi) (List.getElem?_eq_getElem hj), fun x hx => ?_⟩
    obtain ⟨i, hi, rfl⟩ := List.getElem_of_mem hx
    exact ids_nonneg h (List.getElem?_eq_getElem hi)
  · rintro ⟨hp, hm⟩ i x hx
    refine ⟨?_, (hm x (List.mem_of_getElem? hx)).2⟩
    cases i with
    | zero => have := (hm x (List.mem_of_getElem? hx)).1; show (-1 : Int) < x; omega
    | succ i =>
      obtain ⟨hlt, rfl⟩ := List.getElem?_eq_some_iff.1 hx
      rw [prevI_at (List.getElem?_eq_getElem (show i < l.length by omega))]
      exact List.pairwise_iff_getElem.1 hp i (i + 1) (by omega) hlt (by omega)
theorem addI_mem (l : List Int) (k x : Int) : x ∈ addI l k ↔ x = k ∨ x ∈ l := by
  induction l with
  | nil => simp [addI]
  | cons a l ih =>
    unfold addI
    split
    · simp
    · simp [ih]
      constructor
      · rintro (h | h | h)
        · exact .inr (.inl h)
        · exact .inl h
        · exact .inr (.inr h)
      · rintro (h | h | h)
        · exact .inr (.inl h)
        · exact .inl h
        · exact .inr (.inr h)
theorem addI_ids {l : List Int} {n k : Int} (h : IdsOk l n) (hk : k ∉ l) (h0 : 0 ≤ k ∧ k < n) : IdsOk (addI l k) n := by
  obtain ⟨hp, hm⟩ := ids_iff.1 h
  refine ids_iff.2 ⟨?_, fun x hx => ?_⟩
  · clear h hm
    induction l with
    | nil => simp [addI]
    | cons a l ih =>
      obtain ⟨h1, h2⟩ := List.pairwise_cons.1 hp
      have hka : k ≠ a := fun e => hk (by rw [e]; exact List.mem_cons_self ..)
      have hkl : k ∉ l := fun e => hk (List.mem_cons_of_mem _ e)
      unfold addI
      split
      · rename_i hlt
        refine List.pairwise_cons.2 ⟨fun x hx => ?_, hp⟩
        rcases List.mem_cons.1 hx with rfl | hx
        · exact hlt
        · have := h1 x hx; omega
      · rename_i hlt
        refine List.pairwise_cons.2 ⟨fun x hx => ?_, ih hkl h2⟩
        rcases (addI_mem l k x).1 hx with rfl | hx
        · omega
        · exact h1 x hx
  · rcases (addI_mem l k x).1 hx with rfl | hx
    · exact h0
    · exact hm x hx
/-! How many reach a place. -/
def Num.reachN (l : List Int) (i : Int) : Nat := (l.filter fun a => decide (i ≤ a)).length
def Num.mostN (n : Int) : Int := n / 2 + 1
/-- The greatest place behind c that most reach, of so many behind it. -/
def Num.bestC (l : List Int) (n c : Int) : Nat → Int
  | 0 => c
  | k + 1 => if mostN n ≤ (reachN l (c + (k + 1 : Nat)) : Int) then c + (k + 1 : Nat) else bestC l n c k
theorem bestC_is (l : List Int) (n c M : Int) (hM : ∀ i, i ≤ M ↔ mostN n ≤ (reachN l i : Int)) : ∀ k : Nat, bestC l n c k = if c < M then min M (c + k) else c := by
  intro k
  induction k with
  | zero =>
    show c = _
    split
    · omega
    · rfl
  | succ k ih =>
    show (if mostN n ≤ (reachN l (c + (k + 1 : Nat)) : Int) then c + (k + 1 : Nat) else bestC l n c k) = _
    rw [ih]
    by_cases h : c + ((k + 1 : Nat) : Int) ≤ M
    · rw [if_pos ((hM _).1 h), if_pos (by omega)]
      omega
    · rw [if_neg (fun e => h ((hM _).2 e))]
      split
      · omega
      · rfl
theorem reachN_perm {l l' : List Int} (h : l.Perm l') (i : Int) : reachN l i = reachN l' i := (h.filter _).length_eq
theorem reachN_le (l : List Int) (i : Int) : reachN l i ≤ l.length := List.length_filter_le _ _
theorem reachN_append (a b : List Int) (i : Int) : reachN (a ++ b) i = reachN a i + reachN b i := by simp [reachN, List.filter_append]
theorem reachN_all {l : List Int} {i : Int} (h : ∀ x ∈ l, i ≤ x) : reachN l i = l.length := by
  unfold reachN
  rw [List.filter_eq_self.2 (fun x hx => by simpa using h x hx)]
theorem reachN_none {l : List Int} {i : Int} (h : ∀ x ∈ l, x < i) : reachN l i = 0 := by
  unfold reachN
  rw [List.filter_eq_nil_iff.2 (fun x hx => by have := h x hx; simp; omega)]
  rfl
/-- The one in the middle of an odd number, all rising: most reach just what it reaches. -/
theorem mid_most {l s : List Int} {n : Int} (hp : s.Perm l) (hs : s.Pairwise (· ≤ ·)) (hl : (l.length : Int) = n) (hn : n = 1 ∨ n = 3 ∨ n = 5) {M : Int} (hM : s[(n / 2).toNat]? = some M) (i : Int) : i ≤ M ↔ mostN n ≤ (reachN l i : Int) := by
  have hsl : (s.length : Int) = n := by rw [hp.length_eq]; exact hl
  rw [← reachN_perm hp]
  obtain ⟨hlt, hMe⟩ := List.getElem?_eq_some_iff.1 hM
  have hsplit : s = s.take (n / 2).toNat ++ s.drop (n / 2).toNat := (List.take_append_drop _ _).symm
  have h1 : (s.take (n / 2).toNat).length = (n / 2).toNat := by rw [List.length_take]; omega
  have hpw := List.pairwise_iff_getElem.1 hs
  constructor
  · intro h
    have h2 : reachN (s.drop (n / 2).toNat) i = (s.drop (n / 2).toNat).length := reachN_all fun x hx => by
      obtain ⟨j, hj, rfl⟩ := List.getElem_of_mem hx
      rw [List.getElem_drop]
      rw [List.length_drop] at hj
      by_cases hj0 : j = 0
      · subst hj0
        simp only [Nat.add_zero]
        omega
      · have := hpw (n / 2).toNat ((n / 2).toNat + j) hlt (by omega) (by omega)
        omega
    rw [hsplit, reachN_append, h2, List.length_drop]
    unfold mostN
    omega
  · intro h
    refine Classical.byContradiction fun hc => ?_
    have hsplit2 : s = s.take ((n / 2).toNat + 1) ++ s.drop ((n / 2).toNat + 1) := (List.take_append_drop _ _).symm
    have h2 : reachN (s.take ((n / 2).toNat + 1)) i = 0 := reachN_none fun x hx => by
      obtain ⟨j, hj, rfl⟩ := List.getElem_of_mem hx
      rw [List.getElem_take]
      rw [List.length_take] at hj
      by_cases hj0 : j = (n / 2).toNat
      · subst hj0
        omega
      · have := hpw j (n / 2).toNat (by omega) hlt (by omega)
        omega
    rw [hsplit2, reachN_append, h2] at h
    have h3 := reachN_le (s.drop ((n / 2).toNat + 1)) i
    rw [List.length_drop] at h3
    unfold mostN at h
    omega
/-! What a replica makes of a message. -/
abbrev Num.oneM (r : Rep) (m : Msg) (to : Int) : Msgs := [toM r m to]
def Num.bestR (r : Rep) (frm was com : Int) (log : List Ent) : Rep :=
  let r1 := { r with voters := addI r.voters frm }
  let r2 := if r1.bestView < was ∨ was = r1.bestView ∧ r1.best.length < log.length then { r1 with best := log, bestView := was } else r1
  { r2 with bestDone := min (max r2.bestDone com) (r2.best.length : Int) }
def Num.statesR (r : Rep) (frm was com : Int) (log : List Ent) : Rep × Msgs :=
  if frm ∈ r.voters then (r, [])
  else if ((bestR r frm was com log).voters.length : Int) = mostN r.n then
    let q := normalR (bestR r frm was com log) (bestR r frm was com log).best r.view (bestR r frm was com log).bestDone
    (q, allM q (msg 6 0 q.commit 0 q.log))
  else (bestR r frm was com log, [])
/-- First it goes on to the view of the message, if that is greater. -/
def Num.upR (r : Rep) (v : Int) : Rep × Msgs := if r.view < v then (changeR r v, allM (changeR r v) (msg 4 0 0 0 [])) else (r, [])
def Num.voteR (r : Rep) (frm : Int) : Rep × Msgs :=
  if ((addI r.votes frm).length : Int) = mostN r.n then
    if r.view % r.n = r.id then statesR { r with votes := addI r.votes frm } r.id r.normal r.commit r.log
    else ({ r with votes := addI r.votes frm }, oneM r (msg 5 0 r.commit r.normal r.log) (r.view % r.n))
  else ({ r with votes := addI r.votes frm }, [])
def Num.changeH (r : Rep) (m : Msg) : Rep × Msgs :=
  if m.a3 < r.view then (r, [])
  else if (upR r m.a3).1.how = 1 ∧ m.a1 ∉ (upR r m.a3).1.votes then ((voteR (upR r m.a3).1 m.a1).1, (upR r m.a3).2 ++ (voteR (upR r m.a3).1 m.a1).2)
  else upR r m.a3
def Num.stateH (r : Rep) (m : Msg) : Rep × Msgs :=
  if m.a3 < r.view ∨ m.a3 % r.n ≠ r.id then (r, [])
  else if (upR r m.a3).1.how = 1 then ((statesR (upR r m.a3).1 m.a1 m.a6 m.a5 m.log).1, (upR r m.a3).2 ++ (statesR (upR r m.a3).1 m.a1 m.a6 m.a5 m.log).2)
  else upR r m.a3
/-- It tells how far its log reaches; it asks for what is behind a place. -/
abbrev Num.preM (r : Rep) (to : Int) : Msgs := oneM r (msg 2 (r.log.length : Int) 0 0 []) to
abbrev Num.askM (r : Rep) (to i : Int) : Msgs := oneM r (msg 7 i 0 0 []) to
def Num.viewH (r : Rep) (m : Msg) : Rep × Msgs :=
  if m.a3 < r.view ∨ m.a3 % r.n ≠ m.a1 ∨ (m.a3 = r.view ∧ r.how = 0) then (r, [])
  else (normalR r m.log m.a3 m.a5, preM (normalR r m.log m.a3 m.a5) m.a1)
/-- It is behind a primary. -/
def Num.behindR (r : Rep) (v : Int) : Rep := clearR { r with view := v, how := 2 }
def Num.nextR (r : Rep) (m : Msg) : Rep := if m.a4 = (r.log.length : Int) + 1 ∧ lastT r.log < lastT m.log ∧ r.log.length < 1000 then { r with log := r.log ++ m.log } else r
def Num.prepareH (r : Rep) (m : Msg) : Rep × Msgs :=
  if m.a3 < r.view ∨ m.a3 % r.n ≠ m.a1 then (r, [])
  else if m.a3 = r.view ∧ r.how = 0 then
    let q := raiseR (nextR r m) m.a5
    (q, if (q.log.length : Int) < m.a4 then askM q m.a1 (q.log.length : Int) else preM q m.a1)
  else (behindR r m.a3, askM (behindR r m.a3) m.a1 r.commit)
def Num.commitH (r : Rep) (m : Msg) : Rep × Msgs :=
  if m.a3 < r.view ∨ m.a3 % r.n ≠ m.a1 then (r, [])
  else if m.a3 = r.view ∧ r.how = 0 then
    let q := raiseR r m.a5
    (q, if (q.log.length : Int) < m.a5 then askM q m.a1 (q.log.length : Int) else [])
  else (behindR r m.a3, askM (behindR r m.a3) m.a1 r.commit)
def Num.ackedR (r : Rep) (m : Msg) (a : Int) : Rep := { r with acked := r.acked.set m.a1.toNat (min (max a m.a4) (r.log.length : Int)) }
def Num.reachedR (r : Rep) (best : Int) : Rep × Msgs :=
  if r.commit < best then ({ r with commit := best }, allM { r with commit := best } (msg 3 0 best 0 [])) else (r, [])
def Num.atI (l : List Int) (i : Int) : Int := match l[i.toNat]? with
  | some x => x
  | none => 0
def Num.preparedH (r : Rep) (m : Msg) : Rep × Msgs :=
  if m.a3 = r.view ∧ r.how = 0 ∧ r.view % r.n = r.id then
    let q := ackedR r m (atI r.acked m.a1)
    reachedR q (bestC q.acked q.n q.commit (q.log.length - q.commit.toNat))
  else (r, [])
def Num.askH (r : Rep) (m : Msg) : Rep × Msgs :=
  if m.a3 = r.view ∧ r.how = 0 ∧ m.a4 ≤ (r.log.length : Int) then (r, oneM r (msg 8 m.a4 r.commit 0 (r.log.drop m.a4.toNat)) m.a1) else (r, [])
open Classical in
def Num.logH (r : Rep) (m : Msg) [∀ l, Decidable (LogOk l)] : Rep × Msgs :=
  if m.a3 = r.view ∧ m.a4 ≤ (r.log.length : Int) then
    if r.how = 2 ∧ m.a4 ≤ r.commit ∧ r.commit ≤ m.a4 + (m.log.length : Int) then
      if LogOk (r.log.take m.a4.toNat ++ m.log) then
        let q := normalR r (r.log.take m.a4.toNat ++ m.log) r.view m.a5
        (q, preM q m.a1)
      else (r, [])
    else if r.how = 0 ∧ r.view % r.n ≠ r.id then
      if LogOk (r.log ++ m.log.drop (r.log.length - m.a4.toNat)) then
        let q := raiseR { r with log := r.log ++ m.log.drop (r.log.length - m.a4.toNat) } m.a5
        (q, preM q m.a1)
      else (r, [])
    else (r, [])
  else (r, [])
/-! Logs behind one another. -/
theorem prevT_app {a b : List Ent} (i : Nat) (hi : i < b.length) : prevT (a ++ b) (a.length + i) = if i = 0 then lastT a else prevT b i := by
  cases i with
  | zero =>
    rw [if_pos rfl]
    show prevT (a ++ b) a.length = prevT a a.length
    cases ha : a.length with
    | zero => rfl
    | succ k =>
      show (match (a ++ b)[k]? with | some x => x.time | none => 0) = (match a[k]? with | some x => x.time | none => 0)
      rw [List.getElem?_append_left (by omega)]
  | succ i =>
    rw [if_neg (by omega)]
    show (match (a ++ b)[a.length + i]? with | some x => x.time | none => 0) = (match b[i]? with | some x => x.time | none => 0)
    rw [List.getElem?_append_right (by omega)]
    simp
theorem prevT_left {a b : List Ent} (i : Nat) (hi : i ≤ a.length) : prevT (a ++ b) i = prevT a i := by
  cases i with
  | zero => rfl
  | succ i =>
    show (match (a ++ b)[i]? with | some x => x.time | none => 0) = (match a[i]? with | some x => x.time | none => 0)
    rw [List.getElem?_append_left (by omega)]
theorem logOk_append {a b : List Ent} (ha : LogOk a) (hb : LogOk b) : LogOk (a ++ b) ↔ a = [] ∨ b = [] ∨ (a.length + b.length ≤ 1000 ∧ ∃ y, b[0]? = some y ∧ lastT a < y.time) := by
  constructor
  · intro h
    by_cases ha0 : a = []
    · exact .inl ha0
    by_cases hb0 : b = []
    · exact .inr (.inl hb0)
    have hbl : 0 < b.length := by
      cases b with
      | nil => exact absurd rfl hb0
      | cons y b => simp
    refine .inr (.inr ⟨by have := h.1; rw [List.length_append] at this; exact this, _, List.getElem?_eq_getElem hbl, ?_⟩)
    have h2 := (h.2 a.length b[0] (by rw [List.getElem?_append_right (by omega)]; simp [hbl])).1
    have h3 := prevT_app (a := a) (b := b) 0 hbl
    rw [if_pos rfl, Nat.add_zero] at h3
    rw [h3] at h2
    exact h2
  · rintro (rfl | rfl | ⟨hlen, y, hy, hlt⟩)
    · simpa using hb
    · simpa using ha
    · refine ⟨by rw [List.length_append]; exact hlen, fun i x hx => ?_⟩
      by_cases hi : i < a.length
      · rw [List.getElem?_append_left hi] at hx
        rw [prevT_left i (by omega)]
        exact ha.2 i x hx
      · obtain ⟨k, rfl⟩ : ∃ k, i = a.length + k := ⟨i - a.length, by omega⟩
        rw [List.getElem?_append_right (by omega)] at hx
        rw [show a.length + k - a.length = k by omega] at hx
        have hk := (List.getElem?_eq_some_iff.1 hx).1
        rw [prevT_app k hk]
        have hb2 := hb.2 k x hx
        by_cases hk0 : k = 0
        · subst hk0
          rw [if_pos rfl]
          rw [hy] at hx
          cases hx
          exact ⟨hlt, hb2.2⟩
        · rw [if_neg hk0]
          exact hb2
theorem logOk_take {a : List Ent} (ha : LogOk a) (k : Nat) : LogOk (a.take k) := by
  refine ⟨by rw [List.length_take]; have := ha.1; omega, fun i x hx => ?_⟩
  have hi : i < k := by
    have := (List.getElem?_eq_some_iff.1 hx).1
    rw [List.length_take] at this
    omega
  rw [List.getElem?_take_of_lt hi] at hx
  have := prevT_left (a := a.take k) (b := a.drop k) i (by rw [List.length_take]; have := (List.getElem?_eq_some_iff.1 hx).1; omega)
  rw [List.take_append_drop] at this
  rw [← this]
  exact ha.2 i x hx
theorem logOk_drop {a : List Ent} (ha : LogOk a) (k : Nat) : LogOk (a.drop k) := by
  refine ⟨by rw [List.length_drop]; have := ha.1; omega, fun i x hx => ?_⟩
  rw [List.getElem?_drop] at hx
  have h1 := ha.2 (k + i) x hx
  cases i with
  | zero =>
    have h2 := prevT_in ha.2 (k + 0)
    exact ⟨by show (0 : Int) < x.time; have := h1.1; omega, h1.2⟩
  | succ i =>
    have hlt : k + i < a.length := by have := (List.getElem?_eq_some_iff.1 hx).1; omega
    have e1 := prevT_at (List.getElem?_eq_getElem hlt)
    have e2 : prevT (a.drop k) (i + 1) = a[k + i].time := prevT_at (by rw [List.getElem?_drop]; exact List.getElem?_eq_getElem hlt)
    rw [e2, ← e1]
    exact h1
/-! The place of a number among those that rise. -/
theorem place_ex {l : List Int} (hp : l.Pairwise (· < ·)) {k : Int} (hk : k ∉ l) : ∃ j, j ≤ l.length ∧ (∀ (i : Nat) x, i < j → l[i]? = some x → x < k) ∧ (∀ (i : Nat) x, j ≤ i → l[i]? = some x → k < x) := by
  induction l with
  | nil => exact ⟨0, by simp, fun i x hi hx => by simp at hx, fun i x hi hx => by simp at hx⟩
  | cons a l ih =>
    obtain ⟨h1, h2⟩ := List.pairwise_cons.1 hp
    have hka : k ≠ a := fun e => hk (by rw [e]; exact List.mem_cons_self ..)
    have hkl : k ∉ l := fun e => hk (List.mem_cons_of_mem _ e)
    by_cases hlt : k < a
    · refine ⟨0, by simp, fun i x hi hx => by omega, fun i x _ hx => ?_⟩
      cases i with
      | zero => simp at hx; omega
      | succ i => have := h1 x (List.mem_of_getElem? (show l[i]? = some x by simpa using hx)); omega
    · obtain ⟨j, hj, h3, h4⟩ := ih h2 hkl
      refine ⟨j + 1, by simpa using hj, fun i x hi hx => ?_, fun i x hi hx => ?_⟩
      · cases i with
        | zero => simp at hx; omega
        | succ i => exact h3 i x (by omega) (by simpa using hx)
      · cases i with
        | zero => omega
        | succ i => exact h4 i x (by omega) (by simpa using hx)
theorem addI_place {l : List Int} {k : Int} {j : Nat} (hj : j ≤ l.length) (h3 : ∀ (i : Nat) x, i < j → l[i]? = some x → x < k) (h4 : ∀ (i : Nat) x, j ≤ i → l[i]? = some x → k < x) : addI l k = l.take j ++ k :: l.drop j :=
  addI_at l k j hj (fun i x hi hx h => by have := h3 i x hi hx; omega) (fun x hx => h4 j x (Nat.le_refl _) hx)
end Go.Proofs.YtajbdffepfjegaaGreat
