/-
  Joined:
  A machine as plain data: what becomes of an entry, and what the machine is behind it (14.2). No program is named here.
  A machine in memory: its box, its store, what became of its entries, its map of each client's last one; what keeps it.
-/
import Derived.Test.YtclliljkmmpglaaGreatPl
import Derived.Test.YtclliljkmmpglaaGreatCod
import Derived.Test.YtclliljkmmpglaaGreatPScn
import Derived.Test.YtclliljkmmpglaaGreatSNew
import Derived.Test.YtclliljkmmpglaaGreatCMem
namespace Go.Proofs.YtclliljkmmpglaaGreat
open Num
set_option linter.unusedVariables false
set_option maxRecDepth 100000
/-- What became of an entry. -/
structure Num.Dn where
  client : Int
  seq : Int
  time : Int
  code : Int
/-- A machine. -/
structure Num.Mac where
  room : Int
  time : Int
  st : Sto
  dones : List Dn
  last : Int → Option (Int × Int)
  lim : Nat
/-- What a check finds: a kind, and a code. -/
def Num.whenV (b : Bool) (kind code : Int) : Int × Int := if b = true then (kind, code) else (0, 0)
def Num.againV (o : Option (Int × Int)) (seq : Int) : Int × Int := match o with
  | none => (0, 0)
  | some p => if p.1 < seq then (0, 0) else if seq = p.1 then (2, p.2) else (2, 6)
def Num.turnedB (vs : List Ver) (snap : Int) (keys : List ByteArray) (rngs : List Rng) : Bool := keys.any (fun k => decide (snap < lastT vs k)) || rngs.any (fun r => sinceV vs r.lo r.hi snap)
def Num.needsW (vs : List Ver) (t : Int) (x : Wrt) : Bool := lookB (getV vs x.key t) || !x.del
def Num.needsN (vs : List Ver) (t : Int) (ws : List Wrt) : Nat := (ws.filter (needsW vs t)).length
/-- What each check tells. -/
def Num.checkV (m : Mac) (t : Int) (c : Cmd) (form : Int) : Nat → Int × Int
  | 0 => whenV (decide (t ≤ m.time) || decide (1099511627776 ≤ t)) 1 1
  | 1 => whenV (decide (form ≠ 0)) 2 3
  | 2 => againV (m.last c.client) c.seq
  | 3 => whenV (decide (c.kind = 0)) 2 0
  | 4 => whenV (decide (t ≤ c.snap)) 3 1
  | 5 => whenV (decide (c.dead ≠ 0) && decide (c.dead < t)) 3 14
  | 6 => whenV (decide (t < c.aft)) 3 15
  | 7 => whenV (turnedB m.st.vs c.snap c.keys c.rngs) 3 13
  | _ => whenV (decide (m.room - (m.st.vs.length : Int) < (needsN m.st.vs t c.wrts : Int))) 3 4
/-- The first of nine that tells something. -/
def Num.judgeV (V : Nat → Int × Int) : Nat → Int × Int
  | 0 => (3, 0)
  | n + 1 => if (V (8 - n)).1 = 0 then judgeV V n else V (8 - n)
def Num.verd (m : Mac) (t : Int) (c : Cmd) (form : Int) : Int × Int := judgeV (checkV m t c form) 9
theorem judge_pass {V : Nat → Int × Int} {i : Nat} (hi : i < 9) (h : (V i).1 = 0) : judgeV V (9 - i) = judgeV V (9 - (i + 1)) := by
  rw [show 9 - i = (8 - i) + 1 by omega]
  unfold judgeV
  rw [show 8 - (8 - i) = i by omega, if_pos h, show 9 - (i + 1) = 8 - i by omega]
  cases h8 : 8 - i <;> rfl
theorem judge_hit {V : Nat → Int × Int} {i : Nat} (hi : i < 9) (h : (V i).1 ≠ 0) : judgeV V (9 - i) = V i := by
  rw [show 9 - i = (8 - i) + 1 by omega]
  unfold judgeV
  rw [show 8 - (8 - i) = i by omega, if_neg h]
theorem when_yes {b : Bool} (h : b = true) (kind code : Int) : whenV b kind code = (kind, code) := if_pos h
theorem when_no {b : Bool} (h : b = false) (kind code : Int) : whenV b kind code = (0, 0) := if_neg (by rw [h]; decide)
/-- A write's version. -/
def Num.wrtV (t : Int) (x : Wrt) : Ver := if x.del = true then ⟨x.key, t, ⟨#[]⟩, true⟩ else ⟨x.key, t, x.val, false⟩
def Num.writeS (t : Int) (st : Sto) (ws : List Wrt) : Sto := ws.foldl (fun s x => (putS s (wrtV t x)).2) st
def Num.keepL (last : Int → Option (Int × Int)) (client : Int) (o : Int × Int) : Int → Option (Int × Int) := if client < 1 then last else fun k => if k = client then some o else last k
def Num.doneV (m : Mac) (t : Int) (c : Cmd) (form : Int) : Dn := ⟨c.client, c.seq, t, (verd m t c form).2⟩
/-- The machine behind an entry. -/
def Num.nextM (m : Mac) (t : Int) (c : Cmd) (form : Int) : Mac :=
  if (verd m t c form).1 = 1 then m
  else if (verd m t c form).1 = 2 then ⟨m.room, t, m.st, m.dones ++ [doneV m t c form], m.last, m.lim⟩
  else ⟨m.room, t, if (verd m t c form).2 = 0 then writeS t m.st c.wrts else m.st, m.dones ++ [doneV m t c form], keepL m.last c.client (c.seq, (verd m t c form).2), m.lim + 1⟩
/-- The command that bytes are, and what is told of it: the one with nothing and 3, where they are none. -/
def Num.noCmd : Cmd := ⟨0, 0, 0, 0, [], [], [], 0, 0, 0, ⟨#[]⟩, 0, []⟩
theorem write_room (t : Int) (ws : List Wrt) : ∀ st : Sto, (writeS t st ws).room = st.room := by
  unfold writeS
  induction ws with
  | nil => intro st; rfl
  | cons x ws ih =>
    intro st
    rw [List.foldl_cons, ih, put_room]
theorem write_inv (t : Int) (ws : List Wrt) : ∀ st : Sto, InvS st → InvS (writeS t st ws) := by
  unfold writeS
  induction ws with
  | nil => intro st h; exact h
  | cons x ws ih =>
    intro st h
    rw [List.foldl_cons]
    exact ih _ (inv_put h _)
theorem put_top (s : Sto) (v : Ver) (h : s.top ≤ v.time) : (putS s v).2.top ≤ v.time := by
  unfold putS
  repeat' split
  all_goals first | exact h | exact Int.le_refl _
theorem wrtV_time (t : Int) (x : Wrt) : (wrtV t x).time = t := by
  unfold wrtV
  split <;> rfl
theorem wrtV_key (t : Int) (x : Wrt) : (wrtV t x).key = x.key := by
  unfold wrtV
  split <;> rfl
theorem write_top (t : Int) (ws : List Wrt) : ∀ st : Sto, st.top ≤ t → (writeS t st ws).top ≤ t := by
  unfold writeS
  induction ws with
  | nil => intro st h; exact h
  | cons x ws ih =>
    intro st h
    rw [List.foldl_cons]
    refine ih _ ?_
    have := put_top st (wrtV t x) (by rw [wrtV_time]; exact h)
    rw [wrtV_time] at this
    exact this
theorem write_take {t : Int} {st : Sto} {ws : List Wrt} {i : Nat} {x : Wrt} (h : ws[i]? = some x) : writeS t st (ws.take (i + 1)) = (putS (writeS t st (ws.take i)) (wrtV t x)).2 := by
  unfold writeS
  rw [List.take_add_one, h]
  simp [List.foldl_append]
end Go.Proofs.YtclliljkmmpglaaGreat
namespace Go.Proofs.YtclliljkmmpglaaGreat
open Go.RowKit Go.Maps Num
open scoped Classical
set_option linter.unusedVariables false
set_option maxRecDepth 100000

/-! What became of entries, in memory. -/
def Num.DnAt (w : World) (p : Addr) (d : Dn) : Prop := w.cell? p = some (.int .i64 d.client) ∧ w.cell? ⟨p.block, p.off + 1, none⟩ = some (.int .i64 d.seq) ∧ w.cell? ⟨p.block, p.off + 2, none⟩ = some (.int .i64 d.time) ∧ w.cell? ⟨p.block, p.off + 3, none⟩ = some (.int .i64 d.code)
abbrev Num.LiesDn (w : World) (B : Nat) (ao : Option Addr) (l : List Dn) : Prop := LiesG DnAt 4 w B ao l
def Num.dnC (d : Dn) : List Value := [.int .i64 d.client, .int .i64 d.seq, .int .i64 d.time, .int .i64 d.code]
def Num.dnCells (l : List Dn) : List Value := l.flatMap dnC
theorem dnCells_cons (x : Dn) (l : List Dn) : dnCells (x :: l) = dnC x ++ dnCells l := rfl
theorem dnCells_append (l r : List Dn) : dnCells (l ++ r) = dnCells l ++ dnCells r := by simp [dnCells]
theorem dnCells_len (l : List Dn) : (dnCells l).length = l.length * 4 := by
  induction l with
  | nil => rfl
  | cons x l ih =>
    rw [dnCells_cons, List.length_append, ih, List.length_cons]
    simp [dnC]
    omega
theorem dnCells_get (l : List Dn) : ∀ (i : Nat) x, l[i]? = some x → (dnCells l)[i * 4]? = some (.int .i64 x.client) ∧ (dnCells l)[i * 4 + 1]? = some (.int .i64 x.seq) ∧ (dnCells l)[i * 4 + 2]? = some (.int .i64 x.time) ∧ (dnCells l)[i * 4 + 3]? = some (.int .i64 x.code) := by
  induction l with
  | nil => intro i x h; simp at h
  | cons y l ih =>
    intro i x h
    rw [dnCells_cons]
    cases i with
    | zero =>
      simp at h
      subst h
      exact ⟨rfl, rfl, rfl, rfl⟩
    | succ i =>
      have h' : l[i]? = some x := by simpa using h
      obtain ⟨h1, h2, h3, h4⟩ := ih i x h'
      have e : ∀ j, (dnC y ++ dnCells l)[j + 4]? = (dnCells l)[j]? := fun j => by
        rw [List.getElem?_append_right (by simp [dnC])]
        simp [dnC]
      rw [show (i + 1) * 4 = i * 4 + 4 by omega, e, show i * 4 + 4 + 1 = (i * 4 + 1) + 4 by omega, e, show i * 4 + 4 + 2 = (i * 4 + 2) + 4 by omega, e, show i * 4 + 4 + 3 = (i * 4 + 3) + 4 by omega, e]
      exact ⟨h1, h2, h3, h4⟩
theorem one_dn (x : Dn) : ∀ v ∈ dnC x, v.oneCell' = true := by
  intro v hv
  simp [dnC] at hv
  rcases hv with rfl | rfl | rfl | rfl <;> rfl
theorem dnCells_one (l : List Dn) : ∀ v ∈ dnCells l, v.oneCell' = true := by
  intro v hv
  simp only [dnCells, List.mem_flatMap] at hv
  obtain ⟨y, _, hy⟩ := hv
  exact one_dn y v hy
theorem own_liesDn {w : World} {B : Nat} {v : Value} {l : List Dn} (h : w.ownsRow B 52 4 v l.length (dnCells l)) : ∃ ao cap, v = .slice ao l.length cap ∧ LiesDn w w.heap.size ao l := by
  rcases h.2 with ⟨hv, h0⟩ | ⟨g, cap, cur, hv, _, hg, hcap, _⟩
  · subst hv
    have : l = [] := List.eq_nil_of_length_eq_zero h0
    subst this
    exact ⟨none, 0, rfl, fun i x hx => by simp at hx⟩
  · subst hv
    refine ⟨_, cap, rfl, fun i x hx => ⟨_, rfl, (Array.getElem?_eq_some_iff.1 hg).1, ?_⟩⟩
    obtain ⟨h1, h2, h3, h4⟩ := dnCells_get l i x hx
    have g1 := h.cells (g := g) rfl _ _ h1
    have g2 := h.cells (g := g) rfl _ _ h2
    have g3 := h.cells (g := g) rfl _ _ h3
    have g4 := h.cells (g := g) rfl _ _ h4
    rw [Addr.add_lit] at g1 g2 g3 g4
    rw [Addr.add_lit]
    exact ⟨g1, g2, g3, g4⟩
theorem Tryz.infoDn : (Tryz.prog.info? 52).map (fun i => (i.zero, i.size, i.bytes)) = some (some (.agg #[.int .i64 0, .int .i64 0, .int .i64 0, .int .i64 0]), 4, 32) := by kernel_rfl
/-! The map of each client's last one. -/
theorem lawInt : Keyed Tryz.prog 3 := int_keyed Tryz.underlying3
def Num.litI (k : Int) : Lit := .int .i64 k
theorem litI_ne {a b : Int} (h : a ≠ b) : litI a ≠ litI b := fun e => h (by
  injection e)
theorem litI_key (k : Int) : WideAt.IsKeyLit (litI k) := trivial
def Num.outV (p : Int × Int) : Value := .agg #[.int .i64 p.1, .int .i64 p.2]
theorem zeroOut (w : World) : (zeroValue 103).run Tryz.prog w = .ok (.agg #[.int .i64 0, .int .i64 0]) w := by kernel_rfl
abbrev Num.OwnI (w : World) (gl n : Nat) (D : DataW Value) : Prop := w.ownsMap Tryz.prog 3 selfR gl n D
structure Num.LastG (B : Nat) (w : World) (gl n : Nat) (last : Int → Option (Int × Int)) (D : DataW Value) : Prop where
  lB : B ≤ gl
  map : OwnI w gl n D
  no : ∀ k, last k = none → Maps.has D (litI k) = false
  yes : ∀ k p, last k = some p → Maps.has D (litI k) = true
  at_ : ∀ k p, last k = some p → ∀ z, D.atKey (litI k) z = .held (outV p)
  ex : ∃ k p, last k = some p
def Num.LastAt (B : Nat) (w : World) (lv : Value) (last : Int → Option (Int × Int)) (n : Nat) : Prop := (∀ k, k < 1 → last k = none) ∧ ((lv = .map none ∧ ∀ k, last k = none) ∨ ∃ gl D, lv = .map (some gl) ∧ LastG B w gl n last D)
theorem key_int {v : Value} {l : Lit} (h : keyOf Tryz.prog 3 v = some l) : keyOf Tryz.prog 9 v = none := by
  have h1 := Tryz.underlying3
  have h2 := Tryz.underlying9
  unfold keyOf at h ⊢
  rw [h1] at h
  rw [h2]
  simp only at h ⊢
  cases v <;> simp [mapKey, h1] at h
  simp [mapKey, h2]
theorem lastG_map {B : Nat} {w : World} {gl n : Nat} {last : Int → Option (Int × Int)} {D : DataW Value} (h : LastG B w gl n last D) : ∃ es c, w.heap[gl]? = some (.map es c) ∧ PK (.map es c) := by
  obtain ⟨es, c, e, F, hs, hD⟩ := h.map
  refine ⟨es, c, e, ?_⟩
  obtain ⟨k, p, hk⟩ := h.ex
  have h1 := h.yes k p hk
  cases hes : es.toList with
  | nil =>
    rw [hD, hes] at h1
    simp [Maps.has] at h1
  | cons x r =>
    refine ⟨x, by rw [hes]; simp, ?_⟩
    obtain ⟨y, hy⟩ := F.reads x (by rw [hes]; simp)
    exact key_int (WideElems.rd_key hy)
theorem Num.LastG.same {B : Nat} {w w' : World} {gl n : Nat} {last : Int → Option (Int × Int)} {D : DataW Value} (h : LastG B w gl n last D) (hk : ∀ es c, w.heap[gl]? = some (.map es c) → PK (.map es c) → w'.heap[gl]? = some (.map es c)) : LastG B w' gl n last D := by
  refine ⟨h.lB, ?_, h.no, h.yes, h.at_, h.ex⟩
  obtain ⟨es0, c0, e0, hp⟩ := lastG_map h
  obtain ⟨es, c, e, r⟩ := h.map
  rw [e0] at e
  cases e
  exact ⟨es0, c0, hk _ _ e0 hp, r⟩
theorem Num.LastAt.same {B : Nat} {w w' : World} {lv : Value} {last : Int → Option (Int × Int)} {n : Nat} (h : LastAt B w lv last n) (hk : ∀ (i : Nat) es c, B ≤ i → w.heap[i]? = some (.map es c) → PK (.map es c) → w'.heap[i]? = some (.map es c)) : LastAt B w' lv last n := by
  refine ⟨h.1, ?_⟩
  rcases h.2 with h0 | ⟨gl, D, e, hg⟩
  · exact .inl h0
  · exact .inr ⟨gl, D, e, hg.same (fun es c => hk gl es c hg.lB)⟩
theorem Num.LastAt.mono {B : Nat} {w : World} {lv : Value} {last : Int → Option (Int × Int)} {n n' : Nat} (h : LastAt B w lv last n) (hn : n ≤ n') : LastAt B w lv last n' := by
  refine ⟨h.1, ?_⟩
  rcases h.2 with h0 | ⟨gl, D, e, hg⟩
  · exact .inl h0
  · exact .inr ⟨gl, D, e, ⟨hg.lB, hg.map.mono hn, hg.no, hg.yes, hg.at_, hg.ex⟩⟩
theorem Num.LastAt.drew {B : Nat} {w : World} {lv : Value} {last : Int → Option (Int × Int)} {n : Nat} (h : LastAt B w lv last n) : LastAt B w.drew lv last n := h.same fun i es c _ e _ => e
/-- 'last, had := m.last[client]'. -/
theorem run_last {B : Nat} {w : World} {lv : Value} {last : Int → Option (Int × Int)} {n : Nat} (h : LastAt B w lv last n) {k : Int} (hk : 0 ≤ k ∧ k ≤ 100) :
    (Instr.lookup 87 lv (.int .i64 k) true).run Tryz.prog w = .ok (.tuple #[outV ((last k).getD (0, 0)), .bool (last k).isSome]) w := by
  have hkey : keyOf Tryz.prog 3 (.int .i64 k) = some (litI k) := keyOf_int_mk Tryz.underlying3 (WalkArith.wf_i64 (by omega))
  rcases h.2 with ⟨rfl, h0⟩ | ⟨gl, D, rfl, hg⟩
  · rw [h0 k]
    exact Maps.look_nil true lawInt Tryz.underlying87 (zeroOut w) hkey
  · obtain ⟨v, ps, hrun, hv⟩ := hg.map.look_ok lawInt Tryz.underlying87 (zeroOut w) (zd := .held (.agg #[.int .i64 0, .int .i64 0])) (zp := []) rfl hkey
    rw [hrun]
    unfold selfR at hv
    have e : DataW.held v = D.atKey (litI k) (.held (.agg #[.int .i64 0, .int .i64 0])) := congrArg Prod.fst (Option.some.inj hv)
    cases hl : last k with
    | none =>
      rw [hg.no k hl]
      rw [atKey_of_not_has (hg.no k hl)] at e
      injection e with e
      rw [e]
      rfl
    | some p =>
      rw [hg.yes k p hl]
      rw [hg.at_ k p hl] at e
      injection e with e
      rw [e]
      rfl
/-! The whole. -/
/-- Block g is this machine; its list of what became of entries is dv. -/
structure Num.HoldM (B : Nat) (w : World) (g : Nat) (m : Mac) (gs : Nat) (ao : Option Addr) (cap : Nat) (lv : Value) : Prop where
  box : w.heap[g]? = some (.cells #[.int .i64 m.room, .int .i64 m.time, .pointer (some ⟨gs, 0, none⟩), .slice ao m.dones.length cap, lv] 89 (0, 0))
  gB : B ≤ g
  sto : HoldP B w gs m.st
  row : w.ownsRow B 52 4 (.slice ao m.dones.length cap) m.dones.length (dnCells m.dones)
  last : LastAt B w lv m.last m.lim
  room : m.st.room = m.room ∧ 1 ≤ m.room ∧ m.room ≤ 4096
  time : m.st.top ≤ m.time ∧ 0 ≤ m.time ∧ m.time < 1099511627776
/-- What a machine is made of. -/
def Num.AK (o : Obj) : Prop := match o with
  | .cells _ t _ => t = 89 ∨ t = 52
  | o => PK o
theorem Num.HoldM.kept {B : Nat} {w w' : World} {g gs cap : Nat} {m : Mac} {ao : Option Addr} {lv : Value} (h : HoldM B w g m gs ao cap lv) (hk : ∀ (i : Nat) (o : Obj), B ≤ i → w.heap[i]? = some o → SK o ∨ AK o → w'.heap[i]? = some o) : HoldM B w' g m gs ao cap lv :=
  ⟨hk g _ h.gB h.box (.inr (.inl rfl)), h.gB, h.sto.kept (fun i o hi e ho => hk i o hi e (.inl ho)), own_same h.row (fun i cur hi e => hk i _ hi e (.inr (.inr rfl))), h.last.same (fun i es c hi e hp => hk i _ hi e (.inr hp)), h.room, h.time⟩
theorem Num.HoldM.below {B : Nat} {w w' : World} {g gs cap : Nat} {m : Mac} {ao : Option Addr} {lv : Value} (h : HoldM B w g m gs ao cap lv) (hb : Below w.heap.size w w') : HoldM B w' g m gs ao cap lv := h.kept fun i o _ e _ => below_box hb e
theorem Num.HoldM.lt {B : Nat} {w : World} {g gs cap : Nat} {m : Mac} {ao : Option Addr} {lv : Value} (h : HoldM B w g m gs ao cap lv) : B ≤ g ∧ g < w.heap.size := ⟨h.gB, (Array.getElem?_eq_some_iff.1 h.box).1⟩
theorem Num.HoldM.few {B : Nat} {w : World} {g gs cap : Nat} {m : Mac} {ao : Option Addr} {lv : Value} (h : HoldM B w g m gs ao cap lv) : m.st.vs.length ≤ 4096 := by
  have h1 := h.sto.inv.2.2.1
  have h2 := h.room
  omega
theorem mac_cells {B : Nat} {w : World} {g gs cap : Nat} {m : Mac} {ao : Option Addr} {lv : Value} (h : HoldM B w g m gs ao cap lv) : w.cell? ⟨g, 0, none⟩ = some (.int .i64 m.room) ∧ w.cell? ⟨g, 1, none⟩ = some (.int .i64 m.time) ∧ w.cell? ⟨g, 2, none⟩ = some (.pointer (some ⟨gs, 0, none⟩)) ∧ w.cell? ⟨g, 3, none⟩ = some (.slice ao m.dones.length cap) ∧ w.cell? ⟨g, 4, none⟩ = some lv :=
  ⟨box_cell h.box 0 _ rfl, box_cell h.box 1 _ rfl, box_cell h.box 2 _ rfl, box_cell h.box 3 _ rfl, box_cell h.box 4 _ rfl⟩
end Go.Proofs.YtclliljkmmpglaaGreat
