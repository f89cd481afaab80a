/-
  Joined:
  A machine's steps in memory: its time, one entry more among what became of them, its store written, a client's last one.
  Contracts: a command's writes are done; a client's last one is kept.
  Contracts: a client's last one is kept.
-/
import Derived.Test.YtclliljkmmpglaaGreatApM
import Derived.Test.YtclliljkmmpglaaGreatCRd1
import Derived.Test.YtclliljkmmpglaaGreatApA
namespace Go.Proofs.YtclliljkmmpglaaGreat
open Go.RowKit Go.Maps Num
open scoped Classical
set_option linter.unusedVariables false
set_option maxRecDepth 100000

/-- What an entry that is done leaves as it was. -/
def Num.DK (o : Obj) : Prop := match o with
  | .cells _ t _ => t ≠ 129 ∧ t ≠ 131 ∧ t ≠ 89 ∧ t ≠ 52
  | _ => False
structure Num.TurnA (B : Nat) (rb : Option Nat) (w w' : World) : Prop where
  below : Below B w w'
  keep : ∀ (i : Nat) (o : Obj), w.heap[i]? = some o → DK o → w'.heap[i]? = some o
  row : ∀ (i : Nat) cur fr, w.heap[i]? = some (.cells cur 52 fr) → some i ≠ rb → w'.heap[i]? = some (.cells cur 52 fr)
theorem Num.TurnA.trans {B : Nat} {rb : Option Nat} {a b c : World} (h : TurnA B rb a b) (k : TurnA B rb b c) : TurnA B rb a c := ⟨h.below.trans k.below, fun i o e ho => k.keep i o (h.keep i o e ho) ho, fun i cur fr e hi => k.row i cur fr (h.row i cur fr e hi) hi⟩
theorem Num.TurnA.of_below {B : Nat} {rb : Option Nat} {w w' : World} (h : Below w.heap.size w w') (hB : B ≤ w.heap.size) : TurnA B rb w w' := ⟨h.mono hB, fun i o e _ => below_box h e, fun i cur fr e _ => below_box h e⟩
theorem Num.TurnA.of_turnP {B : Nat} {rb : Option Nat} {w w' : World} (h : TurnP B w w') : TurnA B rb w w' := ⟨h.below, fun i o e ho => h.keep i o e (by
  cases o with
  | cells cs t fr => exact ⟨ho.1, ho.2.1⟩
  | _ => exact ho.elim), fun i cur fr e _ => h.keep i _ e ⟨by decide, by decide⟩⟩
/-- The box of the machine is written. -/
theorem Num.TurnA.of_box {B : Nat} {rb : Option Nat} {w w' : World} {g : Nat} {cs : Array Value} (hg : w.heap[g]? = some (.cells cs 89 (0, 0))) (hB : B ≤ g) (h : w.grownBy w' (some g)) : TurnA B rb w w' := by
  have hk : ∀ (i : Nat) (o : Obj), w.heap[i]? = some o → (∀ c f, o ≠ .cells c 89 f) → w'.heap[i]? = some o := fun i o e ho => grown_keep h e (by
    intro e2
    cases e2
    rw [hg] at e
    cases e
    exact ho _ _ rfl)
  refine ⟨below_grown h hB (Nat.le_trans hB (Nat.le_of_lt (Array.getElem?_eq_some_iff.1 hg).1)), fun i o e ho => hk i o e ?_, fun i cur fr e _ => hk i _ e (by simp)⟩
  intro c f e2
  subst e2
  exact ho.2.2.1 rfl
/-- A machine whose box is another one. -/
theorem Num.HoldM.box_set {B : Nat} {w w' : World} {g gs cap : Nat} {m m' : Mac} {ao : Option Addr} {lv : Value} (h : HoldM B w g m gs ao cap lv) (hg : w.grownBy w' (some g)) (hs : m'.st = m.st) (hd : m'.dones = m.dones) (hl : m'.last = m.last) (hlim : m'.lim = m.lim) (hr : m'.room = m.room)
    (hb : w'.heap[g]? = some (.cells #[.int .i64 m'.room, .int .i64 m'.time, .pointer (some ⟨gs, 0, none⟩), .slice ao m'.dones.length cap, lv] 89 (0, 0))) (ht : m.time ≤ m'.time ∧ m'.time < 1099511627776) : HoldM B w' g m' gs ao cap lv := by
  have hk : ∀ (i : Nat) (o : Obj), w.heap[i]? = some o → (∀ c f, o ≠ .cells c 89 f) → w'.heap[i]? = some o := fun i o e ho => grown_keep hg e (by
    intro e2
    cases e2
    rw [h.box] at e
    cases e
    exact ho _ _ rfl)
  obtain ⟨r1, r2, r3⟩ := h.room
  obtain ⟨t1, t2, t3⟩ := h.time
  refine ⟨hb, h.gB, ?_, ?_, ?_, ?_, ?_⟩
  · rw [hs]
    exact h.sto.kept fun i o _ e ho => hk i o e (by
      intro c f e2
      subst e2
      rcases ho with e3 | e3 | e3 | e3 <;> exact absurd e3 (by decide))
  · rw [hd]
    exact own_same h.row fun i cur _ e => hk i _ e (by simp)
  · rw [hlim, hl]
    exact h.last.same fun i es c _ e _ => hk i _ e (by simp)
  · rw [hs, hr]
    exact ⟨r1, r2, r3⟩
  · rw [hs]
    exact ⟨by omega, by omega, ht.2⟩
theorem hold_time {B : Nat} {w : World} {g gs cap : Nat} {m : Mac} {ao : Option Addr} {lv : Value} (h : HoldM B w g m gs ao cap lv) (t : Int) (ht : m.time ≤ t ∧ t < 1099511627776) (rb : Option Nat) :
    HoldM B (w.setCell ⟨g, 1, none⟩ (.int .i64 t)) g ⟨m.room, t, m.st, m.dones, m.last, m.lim⟩ gs ao cap lv ∧ TurnA B rb w (w.setCell ⟨g, 1, none⟩ (.int .i64 t)) :=
  ⟨h.box_set (grown_set w g 1 _) rfl rfl rfl rfl rfl (set_heap h.box _) ht, .of_box h.box h.gB (grown_set w g 1 _)⟩
abbrev Num.dnBox (d : Dn) : Obj := .cells #[.int .i64 d.client, .int .i64 d.seq, .int .i64 d.time, .int .i64 d.code] 52
/-- One more among what became of entries. -/
theorem hold_app {B : Nat} {w : World} {g gs cap : Nat} {m : Mac} {ao : Option Addr} {lv : Value} (h : HoldM B w g m gs ao cap lv) (d : Dn) (hn : m.dones.length ≤ 4000) :
    ∃ g' C' w5, (Builtin.append_ #[45, 45] 45 #[.slice ao m.dones.length cap, .slice (some ⟨w.heap.size, 0, none⟩) 1 1]).run Tryz.prog (w.alloc (dnBox d)).drew = .ok (.slice (some ⟨g', 0, none⟩) (m.dones.length + 1) C') w5 ∧
      w5.cell? ⟨g, 3, none⟩ = some (.slice ao m.dones.length cap) ∧ w5.frozen? ⟨g, 3, none⟩ = false ∧
      HoldM B (w5.setCell ⟨g, 3, none⟩ (.slice (some ⟨g', 0, none⟩) (m.dones.length + 1) C')) g ⟨m.room, m.time, m.st, m.dones ++ [d], m.last, m.lim⟩ gs (some ⟨g', 0, none⟩) C' lv ∧
      TurnA B (Value.slice ao m.dones.length cap).ownBlock w (w5.setCell ⟨g, 3, none⟩ (.slice (some ⟨g', 0, none⟩) (m.dones.length + 1) C')) ∧
      ((Value.slice ao m.dones.length cap).ownBlock = some g' ∨ w.heap.size ≤ g') := by
  obtain ⟨i0, hi, hz0, hz1, hz2⟩ := info_parts Tryz.infoDn
  have hlt := h.lt
  have hBs : B ≤ w.heap.size := by omega
  have hbA : Below w.heap.size w (w.alloc (dnBox d)).drew := ((Below.refl _ w).alloc (Nat.le_refl _) _).drew
  have hA := h.below hbA
  have hsz : (w.alloc (dnBox d)).drew.heap.size = w.heap.size + 1 := by simp
  have hnb : (w.alloc (dnBox d)).drew.heap[w.heap.size]? = some (dnBox d) := heap_new w _
  have hcl : ∀ j u, (dnC d)[j]? = some u → (w.alloc (dnBox d)).drew.cell? ((⟨w.heap.size, 0, none⟩ : Addr).add j) = some u := by
    intro j u hj
    rw [Addr.add_lit, Nat.zero_add]
    exact box_cell hnb j u (by simpa [dnC] using hj)
  obtain ⟨v', w5, hr, h2, h3, _, h5⟩ := run_append_own_at (P := Tryz.prog) (w.alloc (dnBox d)).drew B 45 45 52 i0 _ 4 32 Tryz.underlying45 hi hz0 hz1 hz2 rfl (by decide) _ _ _ hA.row ⟨w.heap.size, 0, none⟩ 1 1 (dnC d) rfl hcl (one_dn d) (by unfold maxLen; omega) (by omega) (by rw [hsz]; omega)
  have hl : (m.dones ++ [d]).length = m.dones.length + 1 := by simp
  have hown' : w5.ownsRow B 52 4 v' (m.dones ++ [d]).length (dnCells (m.dones ++ [d])) := by
    rw [hl, dnCells_append]
    exact h2
  obtain ⟨g', C', rfl⟩ := own_some hown' (by rw [hl]; omega)
  rw [hl] at hr hown'
  -- all but the row
  have hk5 : ∀ (i : Nat) (o : Obj), (w.alloc (dnBox d)).drew.heap[i]? = some o → some i ≠ (Value.slice ao m.dones.length cap).ownBlock → w5.heap[i]? = some o := fun i o e hne => grown_keep h3 e hne
  have hrow : ∀ (i : Nat) (o : Obj), (w.alloc (dnBox d)).drew.heap[i]? = some o → (∀ c f, o ≠ .cells c 52 f) → w5.heap[i]? = some o := fun i o e ho => hk5 i o e (by
    rcases hA.row.2 with ⟨e1, _⟩ | ⟨q, cp, cur, e1, _, hq, _⟩
    · rw [e1]
      simp [Value.ownBlock]
    · rw [e1]
      intro e2
      simp [Value.ownBlock] at e2
      rw [e2, hq] at e
      cases e
      exact ho _ _ rfl)
  have hbx := hrow g _ hA.box (by simp)
  have hb5 : Below B w w5 := (hbA.mono hBs).trans (by
    rcases hA.row.2 with ⟨e1, _⟩ | ⟨q, cp, cur, e1, hq1, hq, _⟩
    · rw [e1] at h3
      exact ⟨h3.os, h3.tape, h3.output, h3.size, fun i hi => h3.block i (by rw [hsz]; omega) (by simp [Value.ownBlock])⟩
    · rw [e1] at h3
      exact below_grown h3 hq1 (by rw [hsz]; omega))
  have hset := set_heap (i := 3) hbx (.slice (some ⟨g', 0, none⟩) (m.dones.length + 1) C')
  have hk6 : ∀ (i : Nat) (o : Obj), w5.heap[i]? = some o → (∀ c f, o ≠ .cells c 89 f) → (w5.setCell ⟨g, 3, none⟩ (.slice (some ⟨g', 0, none⟩) (m.dones.length + 1) C')).heap[i]? = some o := fun i o e ho => grown_keep (grown_set w5 g 3 _) e (by
    intro e2
    cases e2
    rw [hbx] at e
    cases e
    exact ho _ _ rfl)
  refine ⟨g', C', w5, hr, box_cell hbx 3 _ rfl, box_open hbx 3, ⟨?_, hA.gB, ?_, ?_, ?_, hA.room, hA.time⟩, ⟨?_, ?_, ?_⟩, ?_⟩
  · rw [hl]
    exact hset
  · exact hA.sto.kept fun i o _ e ho => hk6 i o (hrow i o e (by
      intro c f e2
      subst e2
      rcases ho with e3 | e3 | e3 | e3 <;> exact absurd e3 (by decide))) (by
      intro c f e2
      subst e2
      rcases ho with e3 | e3 | e3 | e3 <;> exact absurd e3 (by decide))
  · rw [hl]
    exact own_same hown' fun i cur _ e => hk6 i _ e (by simp)
  · exact hA.last.same fun i es c _ e _ => hk6 i _ (hrow i _ e (by simp)) (by simp)
  · exact hb5.trans (below_grown (grown_set w5 g 3 _) hA.gB (Nat.le_trans hBs hb5.size))
  · intro i o e ho
    refine hk6 i o (hrow i o (below_box hbA e) ?_) ?_
    · intro c f e2
      subst e2
      exact ho.2.2.2 rfl
    · intro c f e2
      subst e2
      exact ho.2.2.1 rfl
  · intro i cur fr e hne
    exact hk6 i _ (hk5 i _ (below_box hbA e) hne) (by simp)
  · rcases h5 with h5 | h5
    · exact .inl (by rw [← h5]; simp [Value.ownBlock])
    · simp [Value.ownBlock] at h5
      exact .inr (by omega)
theorem hold_appN {B : Nat} {w : World} {g gs cap : Nat} {m : Mac} {ao : Option Addr} {lv : Value} (h : HoldM B w g m gs ao cap lv) (d : Dn) (hn : m.dones.length ≤ 4000) (N L : Nat) (hN : w.heap.size = N) (hL : m.dones.length = L) (rb : Option Nat) (hrb : (Value.slice ao L cap).ownBlock = rb) :
    ∃ g' C' w5, (Builtin.append_ #[45, 45] 45 #[.slice ao L cap, .slice (some ⟨N, 0, none⟩) 1 1]).run Tryz.prog (w.alloc (dnBox d)).drew = .ok (.slice (some ⟨g', 0, none⟩) (L + 1) C') w5 ∧
      w5.cell? ⟨g, 3, none⟩ = some (.slice ao L cap) ∧ w5.frozen? ⟨g, 3, none⟩ = false ∧
      HoldM B (w5.setCell ⟨g, 3, none⟩ (.slice (some ⟨g', 0, none⟩) (L + 1) C')) g ⟨m.room, m.time, m.st, m.dones ++ [d], m.last, m.lim⟩ gs (some ⟨g', 0, none⟩) C' lv ∧
      TurnA B rb w (w5.setCell ⟨g, 3, none⟩ (.slice (some ⟨g', 0, none⟩) (L + 1) C')) ∧ (rb = some g' ∨ N ≤ g') := by
  subst hN
  subst hL
  subst hrb
  exact hold_app h d hn
/-- Its store is another one. -/
theorem Num.HoldM.stored {B : Nat} {w w' : World} {g gs cap : Nat} {m : Mac} {ao : Option Addr} {lv : Value} (h : HoldM B w g m gs ao cap lv) (hT : TurnP B w w') {st : Sto} (hs : HoldP B w' gs st) (hr : st.room = m.st.room) (ht : st.top ≤ m.time) : HoldM B w' g ⟨m.room, m.time, st, m.dones, m.last, m.lim⟩ gs ao cap lv :=
  ⟨hT.keep g _ h.box ⟨by decide, by decide⟩, h.gB, hs, own_same h.row fun i cur _ e => hT.keep i _ e ⟨by decide, by decide⟩, h.last.same fun i es c _ e hp => hT.keep i _ e hp, ⟨hr.trans h.room.1, h.room.2⟩, ⟨ht, h.time.2⟩⟩
theorem Num.HoldP.kept_far {B : Nat} {w w' : World} {g : Nat} {st : Sto} (h : HoldP B w g st) (hc : ∀ (i : Nat) (cs : Array Value) (t : TypeId) (fr : Nat × Nat), w.heap[i]? = some (.cells cs t fr) → SK (.cells cs t fr) → w'.heap[i]? = some (.cells cs t fr)) (hm : ∀ (i : Nat) es c, w.heap[i]? = some (.map es c) → ¬ PK (.map es c) → w'.heap[i]? = some (.map es c)) : HoldP B w' g st := by
  obtain ⟨gm, D, blk, capf, ao, cap, ps, h⟩ := h
  exact ⟨gm, D, blk, capf, ao, cap, ps, ⟨⟨hc _ _ _ _ h.box (.inl rfl), h.gB, h.mB, ownM_same h.map (fun es c e => hm gm es c e (ownM_not h.map e)), rows_same h.rows (fun i cur _ e => hc _ _ _ _ e (.inr (.inl rfl))), ownPs_same h.pages (fun i cur _ e => hc _ _ _ _ e (.inr (.inr (.inr rfl)))) (fun i cur _ e => hc _ _ _ _ e (.inr (.inr (.inl rfl))))⟩, h.keys, h.size, h.inv, h.small⟩⟩
/-- A client's last one. -/
theorem hold_keep {B : Nat} {w w' : World} {g gs cap gl : Nat} {m : Mac} {ao : Option Addr} {lv : Value} {D : DataW Value} (h : HoldM B w g m gs ao cap lv) (hbox : w'.heap[g]? = some (.cells #[.int .i64 m.room, .int .i64 m.time, .pointer (some ⟨gs, 0, none⟩), .slice ao m.dones.length cap, .map (some gl)] 89 (0, 0)))
    (hcell : ∀ (i : Nat) (cs : Array Value) (t : TypeId) (fr : Nat × Nat), w.heap[i]? = some (.cells cs t fr) → i ≠ g → w'.heap[i]? = some (.cells cs t fr)) (hmp : ∀ (i : Nat) es c, w.heap[i]? = some (.map es c) → ¬ PK (.map es c) → w'.heap[i]? = some (.map es c)) (hbel : Below B w w') (hB : B ≤ gl) (client : Int) (hc : 1 ≤ client) (o : Int × Int)
    (hmap : OwnI w' gl (m.lim + 1) (D.put (litI client) (.held (outV o)))) (hD : Maps.IsMap D) (hno : ∀ k, m.last k = none → Maps.has D (litI k) = false) (hyes : ∀ k p, m.last k = some p → Maps.has D (litI k) = true) (hat : ∀ k p, m.last k = some p → ∀ z, D.atKey (litI k) z = .held (outV p)) (rb : Option Nat) :
    HoldM B w' g ⟨m.room, m.time, m.st, m.dones, keepL m.last client o, m.lim + 1⟩ gs ao cap (.map (some gl)) ∧ TurnA B rb w w' := by
  have hkp : ∀ k, keepL m.last client o k = if k = client then some o else m.last k := fun k => by
    unfold keepL
    rw [if_neg (by omega)]
  have hfar : ∀ (i : Nat) (cs : Array Value) (t : TypeId) (fr : Nat × Nat), w.heap[i]? = some (.cells cs t fr) → t ≠ 89 → w'.heap[i]? = some (.cells cs t fr) := fun i cs t fr e ht => hcell i cs t fr e (by
    rintro rfl
    rw [h.box] at e
    cases e
    exact ht rfl)
  refine ⟨⟨hbox, h.gB, h.sto.kept_far (fun i cs t fr e ho => hfar i cs t fr e (by rcases ho with e3 | e3 | e3 | e3 <;> rw [e3] <;> decide)) hmp, own_same h.row fun i cur _ e => hfar _ _ _ _ e (by decide), ⟨?_, .inr ⟨gl, _, rfl, ⟨hB, hmap, ?_, ?_, ?_, ⟨client, o, (hkp client).trans (if_pos rfl)⟩⟩⟩⟩, h.room, h.time⟩, ⟨hbel, ?_, fun i cur fr e _ => hfar _ _ _ _ e (by decide)⟩⟩
  · intro k hk1
    show keepL m.last client o k = none
    rw [hkp, if_neg (by omega)]
    exact h.last.1 k hk1
  · intro k hk1
    have hk2 : keepL m.last client o k = none := hk1
    rw [hkp] at hk2
    by_cases e : k = client
    · rw [if_pos e] at hk2
      cases hk2
    · rw [if_neg e] at hk2
      rw [has_put_other (litI_ne e)]
      exact hno k hk2
  · intro k p hk1
    have hk2 : keepL m.last client o k = some p := hk1
    rw [hkp] at hk2
    by_cases e : k = client
    · subst e
      exact has_put_same hD (litI_key k) _
    · rw [if_neg e] at hk2
      rw [has_put_other (litI_ne e)]
      exact hyes k p hk2
  · intro k p hk1 z
    have hk2 : keepL m.last client o k = some p := hk1
    rw [hkp] at hk2
    by_cases e : k = client
    · subst e
      rw [if_pos rfl] at hk2
      cases hk2
      exact atKey_put_same hD (litI_key k) _ _
    · rw [if_neg e] at hk2
      rw [atKey_put_other (litI_ne e)]
      exact hat k p hk2 z
  · intro i ob e ho
    cases ob with
    | cells cs t fr => exact hfar _ _ _ _ e ho.2.2.1
    | _ => exact ho.elim
end Go.Proofs.YtclliljkmmpglaaGreat
namespace Go.Proofs.YtclliljkmmpglaaGreat
open Go.RowKit Go.Maps Num
open scoped Classical
set_option linter.unusedVariables false
set_option maxRecDepth 100000

theorem ownW_turn {B B' : Nat} {w w' : World} {v : Value} {l : List Wrt} (h : OwnW B w v l) (hT : TurnP B' w w') : OwnW B w' v l := by
  obtain ⟨css, e1, e2, e3, e4⟩ := h
  exact ⟨css, e1, e2, own_same e3 (fun i cur _ e => hT.keep i _ e ⟨by decide, by decide⟩), e4⟩
set_option maxRecDepth 100000 in
set_option maxHeartbeats 2000000 in
theorem write_any (B g gs cap C : Nat) (m : Mac) (ao : Option Addr) (lv : Value) (ws : List Wrt) (wo : Option Addr) (wc : Nat) (hks : ∀ x ∈ ws, x.key.size ≤ 1000) (hlen : ws.length ≤ 200) (w : World) (h : HoldM B w g m gs ao cap lv) (hl : OwnW C w (.slice wo ws.length wc) ws) :
    Calls Tryz.prog 38 #[.pointer (some ⟨g, 0, none⟩), .int .i64 m.time, .slice wo ws.length wc] w fun e w' => e = .returned (.tuple #[]) ∧ HoldM B w' g ⟨m.room, m.time, writeS m.time m.st ws, m.dones, m.last, m.lim⟩ gs ao cap lv ∧ TurnP B w w' := by
  have hB : B ≤ w.heap.size := Nat.le_trans h.lt.1 (Nat.le_of_lt h.lt.2)
  have htop := h.time.1
  have hst : ∀ (k : Nat) (wr : World), HoldM B wr g ⟨m.room, m.time, writeS m.time m.st (ws.take k), m.dones, m.last, m.lim⟩ gs ao cap lv → (writeS m.time m.st (ws.take k)).vs.length ≤ 4096 := fun k wr h => h.few
  go_enter Tryz.func38, Tryz.ntmps38
  go_wp2
  go_loopw [10] (fun i wr => ∃ k : Nat, k ≤ ws.length ∧ i = .int .i64 (k : Int) ∧ HoldM B wr g ⟨m.room, m.time, writeS m.time m.st (ws.take k), m.dones, m.last, m.lim⟩ gs ao cap lv ∧ OwnW C wr (.slice wo ws.length wc) ws ∧ TurnP B w wr) (fun i _ => ws.length - (intOf i).toNat)
  case atStart => exact ⟨0, by omega, rfl, h, hl, Turns.of_below (Below.refl _ _) hB⟩
  case round =>
    obtain ⟨k, hk, rfl, hM, hO, hT⟩ := hrel
    by_cases hkl : k < ws.length
    · have HX : Hid (ws[k]? = some (ws[k]'hkl)) := List.getElem?_eq_getElem hkl
      obtain ⟨ao2, cap2, e9, hlie⟩ := ownW_lies hO
      cases e9
      obtain ⟨a, rfl, hblk, e0, e1, e2⟩ := hlie k _ HX.out
      have hxs := hks _ (List.mem_of_getElem? HX.out)
      generalize (ws[k]'hkl) = x at *
      have HN : Hid (writeS m.time m.st (ws.take (k + 1)) = (putS (writeS m.time m.st (ws.take k)) (wrtV m.time x)).2) := write_take HX.out
      have hfew := hM.few
      have hst0 : (writeS m.time m.st (ws.take k)).top ≤ m.time := write_top _ _ _ htop
      simp only at hfew
      generalize writeS m.time m.st (ws.take k) = st at *
      obtain ⟨W, hWW⟩ : ∃ W, wr.alloc (.cells #[.string x.key, .string x.val, .bool x.del] 72) = W := ⟨_, rfl⟩
      have hbA : Below wr.heap.size wr W := by rw [← hWW]; exact (Below.refl _ wr).alloc (Nat.le_refl _) _
      have hxb : W.heap[wr.heap.size]? = some (.cells #[.string x.key, .string x.val, .bool x.del] 72 (0, 0)) := by rw [← hWW]; exact heap_new wr _
      have hMd := (hM.below hbA).below (Below.refl _ W).drew
      have hMW := hMd
      have hTd : TurnP B wr W.drew := Turns.of_below (below_next hbA (Nat.le_refl _) (Below.refl _ W).drew) (Nat.le_trans hM.lt.1 (Nat.le_of_lt hM.lt.2))
      have c2 := (mac_cells (hM.below hbA)).2.2.1
      have x0 := box_cell hxb 0 _ rfl
      have x1 := box_cell hxb 1 _ rfl
      have x2 := box_cell hxb 2 _ rfl
      clear hM HX hlie hxb htop hst
      cases hD : x.del with
      | true =>
        have HV : Hid (writeS m.time m.st (ws.take (k + 1)) = (putS st ⟨x.key, m.time, ⟨#[]⟩, true⟩).2) := HN.out.trans (by rw [show wrtV m.time x = ⟨x.key, m.time, ⟨#[]⟩, true⟩ from if_pos hD])
        have hput := sdel_any B gs st m.time x.key (key_max hxs) (by omega) W.drew hMd.sto
        rw [hD] at x2
        clear HN hD hMd hfew
        go_wp2_with fail
        try rw [hWW]
        go_region_with (first | (go_at_call 83; refine hput.mono ?_; rintro e w1 ⟨rfl, hs1, hT1⟩))
        all_goals go_wp2
        all_goals go_roundw
        all_goals first
          | (case rel =>
              refine ⟨k + 1, by omega, by go_num, ?_, ownW_turn (ownW_turn hO hTd) hT1, hT.trans (hTd.trans hT1)⟩
              rw [HV.out]
              exact hMW.stored hT1 hs1 (put_room _ _) (put_top _ _ hst0))
          | (case measure => simp [intOf]; omega)
      | false =>
        have HV : Hid (writeS m.time m.st (ws.take (k + 1)) = (putS st ⟨x.key, m.time, x.val, false⟩).2) := HN.out.trans (by rw [show wrtV m.time x = ⟨x.key, m.time, x.val, false⟩ from if_neg (by rw [hD]; decide)])
        have hput := sput_any B gs st m.time x.key x.val (key_max hxs) (by omega) W.drew hMd.sto
        rw [hD] at x2
        clear HN hD hMd hfew
        go_wp2_with fail
        try rw [hWW]
        go_region_with (first | (go_at_call 84; refine hput.mono ?_; rintro e w1 ⟨rfl, hs1, hT1⟩))
        all_goals go_wp2
        all_goals go_roundw
        all_goals first
          | (case rel =>
              refine ⟨k + 1, by omega, by go_num, ?_, ownW_turn (ownW_turn hO hTd) hT1, hT.trans (hTd.trans hT1)⟩
              rw [HV.out]
              exact hMW.stored hT1 hs1 (put_room _ _) (put_top _ _ hst0))
          | (case measure => simp [intOf]; omega)
    · have hke : k = ws.length := by omega
      subst hke
      rw [List.take_length] at hM
      go_wp2
      go_end0
      exact ⟨rfl, hM, hT⟩
end Go.Proofs.YtclliljkmmpglaaGreat
namespace Go.Proofs.YtclliljkmmpglaaGreat
open Go.RowKit Go.Maps Num
open scoped Classical
set_option linter.unusedVariables false
set_option maxRecDepth 100000

abbrev Num.outBox (o : Int × Int) : Obj := .cells #[.int .i64 o.1, .int .i64 o.2] 103
theorem key_client {client : Int} (hc : 1 ≤ client ∧ client ≤ 100) : keyOf Tryz.prog 3 (.int .i64 client) = some (litI client) := keyOf_int_mk Tryz.underlying3 (WalkArith.wf_i64 (by omega))
theorem map_some (gl : Nat) (W : World) : (binOp BinOp.eql 87 (.map (some gl)) (.map none)).run Tryz.prog W = .ok (.bool false) W := by kernel_rfl
theorem map_nil (W : World) : (binOp BinOp.eql 87 (.map none) (.map none)).run Tryz.prog W = .ok (.bool true) W := by kernel_rfl
set_option maxRecDepth 100000 in
set_option maxHeartbeats 1000000 in
theorem keep_old (B g gs cap gl : Nat) (m : Mac) (ao : Option Addr) (client : Int) (o : Int × Int) (hc : 1 ≤ client ∧ client ≤ 100) (hlim : m.lim ≤ 100000) (rb : Option Nat) (w : World) (h : HoldM B w g m gs ao cap (.map (some gl))) :
    Calls Tryz.prog 39 #[.pointer (some ⟨g, 0, none⟩), .int .i64 client, .agg #[.int .i64 o.1, .int .i64 o.2]] w fun e w' => e = .returned (.tuple #[]) ∧ HoldM B w' g ⟨m.room, m.time, m.st, m.dones, keepL m.last client o, m.lim + 1⟩ gs ao cap (.map (some gl)) ∧ TurnA B rb w w' := by
  obtain ⟨W, hW⟩ : ∃ W, w.alloc (outBox o) = W := ⟨_, rfl⟩
  have hb : Below w.heap.size w W := by rw [← hW]; exact (Below.refl _ w).alloc (Nat.le_refl _) _
  have hob : W.heap[w.heap.size]? = some (outBox o) := by rw [← hW]; exact heap_new w _
  have hT0 : TurnA B rb w W.drew := .of_below (below_next hb (Nat.le_refl _) (Below.refl _ W).drew) (Nat.le_trans h.lt.1 (Nat.le_of_lt h.lt.2))
  have h := (h.below hb).below (Below.refl _ W).drew
  have hnil := map_some gl
  have c4 : W.cell? ⟨g, 4, none⟩ = some (.map (some gl)) := (mac_cells h).2.2.2.2
  have o0 := box_cell hob 0 _ rfl
  have o1 := box_cell hob 1 _ rfl
  obtain ⟨D, hG⟩ : ∃ D, LastG B W.drew gl m.lim m.last D := by
    rcases h.last.2 with ⟨e, _⟩ | ⟨gl', D, e, hG⟩
    · cases e
    · cases e
      exact ⟨D, hG⟩
  obtain ⟨es, ec, hes, hpk⟩ := lastG_map hG
  obtain ⟨w5, hrun, hm5, ht5⟩ := hG.map.store lawInt Tryz.underlying87 (by unfold maxLen; omega) (key_client hc) (val := .agg #[.int .i64 o.1, .int .i64 o.2]) (d := .held (outV o)) (ps := []) rfl
  have hg5 := ht5.grown
  have hend := hold_keep h (grown_keep hg5 h.box (by
      intro e2
      cases e2
      rw [h.box] at hes
      cases hes)) (fun i cs t fr e _ => grown_keep hg5 e (by
      intro e2
      cases e2
      rw [hes] at e
      cases e)) (fun i es' c' e hn => grown_keep hg5 e (by
      intro e2
      cases e2
      rw [hes] at e
      cases e
      exact hn hpk)) (below_grown hg5 hG.lB (Nat.le_trans h.lt.1 (Nat.le_of_lt h.lt.2))) hG.lB client hc.1 o hm5 hG.map.isMap hG.no hG.yes hG.at_ rb
  have hlt1 : decide (client < 1) = false := decide_eq_false (by omega)
  clear h hob hG hes hm5 ht5 hg5 hb hpk
  go_enter Tryz.func39, Tryz.ntmps39
  go_wp2
  try rw [hW]
  go_region
  all_goals go_wp2
  all_goals go_end0
  all_goals exact ⟨rfl, hend.1, hT0.trans hend.2⟩
set_option maxRecDepth 100000 in
set_option maxHeartbeats 1000000 in
theorem keep_new (B g gs cap : Nat) (m : Mac) (ao : Option Addr) (client : Int) (o : Int × Int) (hc : 1 ≤ client ∧ client ≤ 100) (hlim : m.lim ≤ 100000) (rb : Option Nat) (w : World) (h : HoldM B w g m gs ao cap (.map none)) :
    Calls Tryz.prog 39 #[.pointer (some ⟨g, 0, none⟩), .int .i64 client, .agg #[.int .i64 o.1, .int .i64 o.2]] w fun e w' => e = .returned (.tuple #[]) ∧ (∃ gl, HoldM B w' g ⟨m.room, m.time, m.st, m.dones, keepL m.last client o, m.lim + 1⟩ gs ao cap (.map (some gl))) ∧ TurnA B rb w w' := by
  have hmm := @run_makeMap Tryz.prog
  have hlt0 := h.lt
  have hnil := map_nil
  have hb : Below w.heap.size w (w.alloc (outBox o)) := (Below.refl _ w).alloc (Nat.le_refl _) _
  have hob := heap_new w (outBox o)
  have hT0 : TurnA B rb w (w.alloc (outBox o)) := .of_below hb (Nat.le_trans h.lt.1 (Nat.le_of_lt h.lt.2))
  have h := h.below hb
  have hlast : ∀ k, m.last k = none := by
    rcases h.last.2 with ⟨_, h0⟩ | ⟨gl', D, e, hG⟩
    · exact h0
    · cases e
  have hlt := h.lt
  have c4 := (mac_cells h).2.2.2.2
  have hsz : (w.alloc (outBox o)).heap.size = w.heap.size + 1 := by simp
  have hbx2 := alloc_box (.map #[] 0) h.box
  have c4' := box_cell hbx2 4 _ rfl
  have f4' := box_open hbx2 4
  have hob2 := alloc_box (.map #[] 0) hob
  have hmade := World.ownsMap_made (H := Value) (w.alloc (outBox o)) Tryz.prog 3 selfR
  have hne : (w.alloc (outBox o)).heap.size ≠ g := by omega
  obtain ⟨X, hX⟩ : ∃ X, ((w.alloc (outBox o)).alloc (.map #[] 0)).setCell ⟨g, 4, none⟩ (.map (some (w.heap.size + 1))) = X := ⟨_, rfl⟩
  have hmX : OwnI X.drew (w.heap.size + 1) 0 (.map []) := by
    rw [← hX, ← hsz]
    exact (hmade.setCell (by simpa using hne) _).drew
  have hbX : X.heap[g]? = some (.cells #[.int .i64 m.room, .int .i64 m.time, .pointer (some ⟨gs, 0, none⟩), .slice ao m.dones.length cap, .map (some (w.heap.size + 1))] 89 (0, 0)) := by
    rw [← hX]
    exact set_heap (i := 4) hbx2 _
  have hoX : X.heap[w.heap.size]? = some (outBox o) := by
    rw [← hX, Below.heap_setCell _ _ _ _ (by show w.heap.size ≠ g; omega)]
    exact hob2
  have x4 := box_cell hbX 4 _ rfl
  have x0 := box_cell hoX 0 _ rfl
  have x1 := box_cell hoX 1 _ rfl
  obtain ⟨w5, hrun, hm5, ht5⟩ := hmX.store lawInt Tryz.underlying87 (by decide) (key_client hc) (val := .agg #[.int .i64 o.1, .int .i64 o.2]) (d := .held (outV o)) (ps := []) rfl
  have hg5 := ht5.grown
  have hkX : ∀ (i : Nat) (ob : Obj), (w.alloc (outBox o)).heap[i]? = some ob → i ≠ g → X.heap[i]? = some ob := fun i ob e hi => by
    rw [← hX, Below.heap_setCell _ _ _ _ hi]
    exact alloc_box _ e
  have hbel : Below B (w.alloc (outBox o)) w5 := by
    have h1 : Below B (w.alloc (outBox o)) X := by
      rw [← hX]
      exact (((Below.refl _ _).alloc (Nat.le_refl _) _).mono (by omega)).trans (below_grown (grown_set _ g 4 _) h.gB (by simp; omega))
    exact (h1.trans ((Below.refl _ X).drew.mono (Nat.le_trans (by omega) h1.size))).trans (below_grown hg5 (by omega) (Nat.le_trans (by omega : B ≤ (w.alloc (outBox o)).heap.size) h1.size))
  have hend := hold_keep (gl := w.heap.size + 1) (D := .map []) h (grown_keep hg5 hbX (by
      intro e2
      cases e2
      omega)) (fun i cs t fr e hi => grown_keep hg5 (hkX i _ e hi) (by
      intro e2
      cases e2
      have := (Array.getElem?_eq_some_iff.1 e).1
      omega)) (fun i es' c' e hn => grown_keep hg5 (hkX i _ e (by
        rintro rfl
        rw [h.box] at e
        cases e)) (by
      intro e2
      cases e2
      have := (Array.getElem?_eq_some_iff.1 e).1
      omega)) hbel (by omega) client hc.1 o (hm5.mono (by omega)) hmX.isMap (fun k _ => rfl) (fun k p hk => by rw [hlast k] at hk; cases hk) (fun k p hk => by rw [hlast k] at hk; cases hk) rb
  have hlt1 : decide (client < 1) = false := decide_eq_false (by omega)
  clear h hob hob2 hmX hm5 ht5 hg5 hb hbX hoX hkX hbel hmade hbx2
  go_enter Tryz.func39, Tryz.ntmps39
  go_wp2
  try rw [hX]
  go_region
  all_goals go_wp2
  all_goals go_end0
  all_goals exact ⟨rfl, ⟨_, hend.1⟩, hT0.trans hend.2⟩
set_option maxRecDepth 100000 in
theorem keep_no (g : Nat) (client : Int) (o : Int × Int) (hc : client < 1) (w : World) :
    Calls Tryz.prog 39 #[.pointer (some ⟨g, 0, none⟩), .int .i64 client, .agg #[.int .i64 o.1, .int .i64 o.2]] w fun e w' => e = .returned (.tuple #[]) ∧ Below w.heap.size w w' := by
  have hlt1 : decide (client < 1) = true := decide_eq_true hc
  have hb : Below w.heap.size w (w.alloc (outBox o)) := (Below.refl _ w).alloc (Nat.le_refl _) _
  go_enter Tryz.func39, Tryz.ntmps39
  go_wp2
  exact bodyPost_ret (results_none rfl _ _ _) rfl ⟨rfl, hb⟩
theorem Num.LastAt.lim_mono {B : Nat} {w : World} {g gs cap : Nat} {m : Mac} {ao : Option Addr} {lv : Value} (h : HoldM B w g m gs ao cap lv) : HoldM B w g ⟨m.room, m.time, m.st, m.dones, m.last, m.lim + 1⟩ gs ao cap lv := ⟨h.box, h.gB, h.sto, h.row, h.last.mono (Nat.le_succ _), h.room, h.time⟩
/-- 14.2: the client's last one. -/
theorem keep_any (B g gs cap : Nat) (m : Mac) (ao : Option Addr) (lv : Value) (client : Int) (o : Int × Int) (hc : 0 ≤ client ∧ client ≤ 100) (hlim : m.lim ≤ 100000) (rb : Option Nat) (w : World) (h : HoldM B w g m gs ao cap lv) :
    Calls Tryz.prog 39 #[.pointer (some ⟨g, 0, none⟩), .int .i64 client, .agg #[.int .i64 o.1, .int .i64 o.2]] w fun e w' => e = .returned (.tuple #[]) ∧ (∃ lv', HoldM B w' g ⟨m.room, m.time, m.st, m.dones, keepL m.last client o, m.lim + 1⟩ gs ao cap lv') ∧ TurnA B rb w w' := by
  by_cases hc1 : client < 1
  · refine (keep_no g client o hc1 w).mono ?_
    rintro e w' ⟨rfl, hb⟩
    refine ⟨rfl, ⟨lv, ?_⟩, .of_below hb (Nat.le_trans h.lt.1 (Nat.le_of_lt h.lt.2))⟩
    rw [show keepL m.last client o = m.last from if_pos hc1]
    exact LastAt.lim_mono (h.below hb)
  · rcases h.last.2 with ⟨rfl, _⟩ | ⟨gl, D, rfl, _⟩
    · refine (keep_new B g gs cap m ao client o (by omega) hlim rb w h).mono ?_
      rintro e w' ⟨rfl, ⟨gl, hh⟩, hT⟩
      exact ⟨rfl, ⟨_, hh⟩, hT⟩
    · refine (keep_old B g gs cap gl m ao client o (by omega) hlim rb w h).mono ?_
      rintro e w' ⟨rfl, hh, hT⟩
      exact ⟨rfl, ⟨_, hh⟩, hT⟩
end Go.Proofs.YtclliljkmmpglaaGreat
