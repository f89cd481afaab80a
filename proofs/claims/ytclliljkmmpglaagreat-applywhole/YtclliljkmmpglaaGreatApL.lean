/-
  Contracts: an entry is done (14.2), way by way.
-/
import Derived.Test.YtclliljkmmpglaaGreatApK
import Derived.Test.YtclliljkmmpglaaGreatApH
namespace Go.Proofs.YtclliljkmmpglaaGreat
open Go.RowKit Go.Maps Num
open scoped Classical
set_option linter.unusedVariables false
set_option maxRecDepth 100000

abbrev Num.dnV (d : Dn) : Value := .agg #[.int .i64 d.client, .int .i64 d.seq, .int .i64 d.time, .int .i64 d.code]
abbrev Num.enBox (t : Int) (x : ByteArray) : Obj := .cells #[.int .i64 t, .string x] 34
abbrev Num.st4 (W : World) (b : Nat) (d : Dn) : World := (((W.setCell ⟨b, 0, none⟩ (.int .i64 d.client)).setCell ⟨b, 1, none⟩ (.int .i64 d.seq)).setCell ⟨b, 2, none⟩ (.int .i64 d.time)).setCell ⟨b, 3, none⟩ (.int .i64 d.code)
theorem res4 {W : World} {b : Nat} {a0 a1 a2 a3 : Value} (h : W.heap[b]? = some (.cells #[a0, a1, a2, a3] 52 (0, 0))) (d : Dn) : (st4 W b d).heap[b]? = some (dnBox d) ∧ W.grownBy (st4 W b d) (some b) :=
  ⟨set_heap (i := 3) (set_heap (i := 2) (set_heap (i := 1) (set_heap (i := 0) h _) _) _) _, ((((grown_set W b 0 _).trans (grown_set _ b 1 _)).trans (grown_set _ b 2 _)).trans (grown_set _ b 3 _))⟩
theorem Num.HoldM.res {B : Nat} {w w' : World} {g gs cap b : Nat} {m : Mac} {ao : Option Addr} {lv : Value} {cs : Array Value} (h : HoldM B w g m gs ao cap lv) (hg : w.grownBy w' (some b)) (hb : w.heap[b]? = some (.cells cs 52 (0, 0))) (hne : some b ≠ (Value.slice ao m.dones.length cap).ownBlock) : HoldM B w' g m gs ao cap lv := by
  have hk : ∀ (i : Nat) (o : Obj), w.heap[i]? = some o → (∀ c f, o ≠ .cells c 52 f) → w'.heap[i]? = some o := fun i o e ho => grown_keep hg e (by
    intro e2
    cases e2
    rw [hb] at e
    cases e
    exact ho _ _ rfl)
  exact ⟨hk _ _ h.box (by simp), h.gB, h.sto.kept fun i o _ e ho => hk i o e (by
      intro c f e2
      subst e2
      rcases ho with e3 | e3 | e3 | e3 <;> exact absurd e3 (by decide)), h.row.kept hg (.inr (fun e => hne e.symm)), h.last.same fun i es c _ e _ => hk i _ e (by simp), h.room, h.time⟩
theorem Num.TurnA.res {B : Nat} {rb : Option Nat} {w W R : World} {b : Nat} (h : TurnA B rb w W) (hg : W.grownBy R (some b)) (hb : w.heap.size ≤ b) (hB : B ≤ w.heap.size) : TurnA B rb w R := by
  have hk : ∀ (i : Nat) (o : Obj), i < w.heap.size → W.heap[i]? = some o → R.heap[i]? = some o := fun i o hi e => grown_keep hg e (by
    intro e2
    cases e2
    omega)
  exact ⟨h.below.trans (below_grown hg (by omega) (Nat.le_trans hB h.below.size)), fun i o e ho => hk i o (Array.getElem?_eq_some_iff.1 e).1 (h.keep i o e ho), fun i cur fr e hi => hk i _ (Array.getElem?_eq_some_iff.1 e).1 (h.row i cur fr e hi)⟩
theorem own_old {B : Nat} {w : World} {g gs cap : Nat} {m : Mac} {ao : Option Addr} {lv : Value} (h : HoldM B w g m gs ao cap lv) {b : Nat} (hb : w.heap.size ≤ b) : some b ≠ (Value.slice ao m.dones.length cap).ownBlock := by
  intro e
  have := (h.row.lt b e.symm).2
  omega
/-- What an entry leaves. -/
def Num.DoEnds (B g gs : Nat) (m m' : Mac) (ao : Option Addr) (cap : Nat) (d : Dn) (w : World) (e : Ending) (w' : World) : Prop :=
  e = .returned (dnV d) ∧ (∃ ao' cap' lv', HoldM B w' g m' gs ao' cap' lv' ∧ (∀ b, some b = (Value.slice ao' m'.dones.length cap').ownBlock → some b = (Value.slice ao m.dones.length cap).ownBlock ∨ w.heap.size ≤ b)) ∧ TurnA B (Value.slice ao m.dones.length cap).ownBlock w w'
abbrev Num.doW0 (w : World) (t : Int) (x : ByteArray) : World := (w.alloc (enBox t x)).alloc (.cells #[.int .i64 0, .int .i64 0, .int .i64 0, .int .i64 0] 52)
/-- The boxes of Do, as long as they stay. -/
structure Num.DoBx (V : World) (n b v : Nat) (t : Int) (x : ByteArray) (s : Cs) (c : Cmd) (p : Int × Int) (d : Dn) : Prop where
  be : V.heap[n]? = some (enBox t x)
  br : V.heap[n + 1]? = some (.cells #[.int .i64 0, .int .i64 0, .int .i64 0, .int .i64 0] 52 (0, 0))
  bc : V.heap[b]? = some (cmCells s c)
  bv : V.heap[v]? = some (.cells #[.int .i64 p.1, .int .i64 p.2] 96 (0, 0))
  bd : V.heap[v + 1]? = some (dnBox d)
theorem do_bx {w w1 w3 : World} {t : Int} {x : ByteArray} {s : Cs} {c : Cmd} {p : Int × Int} {d : Dn} (hb1 : Below (doW0 w t x).heap.size (doW0 w t x) w1) (hb3 : Below (w1.alloc (cmCells s c)).heap.size (w1.alloc (cmCells s c)) w3) :
    DoBx ((w3.alloc (.cells #[.int .i64 p.1, .int .i64 p.2] 96)).alloc (dnBox d)) w.heap.size w1.heap.size w3.heap.size t x s c p d := by
  have hA : Below w1.heap.size w1 (w1.alloc (cmCells s c)) := (Below.refl _ w1).alloc (Nat.le_refl _) _
  have h0 : (doW0 w t x).heap[w.heap.size]? = some (enBox t x) := alloc_box _ (heap_new w _)
  have h1 : (doW0 w t x).heap[w.heap.size + 1]? = some (.cells #[.int .i64 0, .int .i64 0, .int .i64 0, .int .i64 0] 52 (0, 0)) := heap_newB _ _ _ (by simp)
  exact ⟨alloc_box _ (alloc_box _ (below_box hb3 (below_box hA (below_box hb1 h0)))), alloc_box _ (alloc_box _ (below_box hb3 (below_box hA (below_box hb1 h1)))), alloc_box _ (alloc_box _ (below_box hb3 (heap_new w1 _))), alloc_box _ (heap_new w3 _), heap_newB _ _ _ (by simp)⟩
theorem Num.DoBx.turn {B : Nat} {rb : Option Nat} {V V' : World} {n b v : Nat} {t : Int} {x : ByteArray} {s : Cs} {c : Cmd} {p : Int × Int} {d : Dn} (h : DoBx V n b v t x s c p d) (hT : TurnA B rb V V') (h1 : some (n + 1) ≠ rb) (h2 : some (v + 1) ≠ rb) : DoBx V' n b v t x s c p d :=
  ⟨hT.keep _ _ h.be ⟨by decide, by decide, by decide, by decide⟩, hT.row _ _ _ h.br h1, hT.keep _ _ h.bc ⟨by decide, by decide, by decide, by decide⟩, hT.keep _ _ h.bv ⟨by decide, by decide, by decide, by decide⟩, hT.row _ _ _ h.bd h2⟩
theorem do_below {w w1 w3 : World} {t : Int} {x : ByteArray} {s : Cs} {c : Cmd} {p : Int × Int} {d : Dn} (hb1 : Below (doW0 w t x).heap.size (doW0 w t x) w1) (hb3 : Below (w1.alloc (cmCells s c)).heap.size (w1.alloc (cmCells s c)) w3) :
    Below w.heap.size w ((w3.alloc (.cells #[.int .i64 p.1, .int .i64 p.2] 96)).alloc (dnBox d)) ∧ w.heap.size + 2 ≤ w1.heap.size ∧ w1.heap.size < w3.heap.size := by
  have hA : Below w1.heap.size w1 (w1.alloc (cmCells s c)) := (Below.refl _ w1).alloc (Nat.le_refl _) _
  have h0 : Below w.heap.size w (doW0 w t x) := ((Below.refl _ w).alloc (Nat.le_refl _) _).alloc (by simp) _
  have h1 := below_next h0 (Nat.le_refl _) hb1
  have h2 := below_next h1 (Nat.le_refl _) hA
  have h3 := below_next h2 (Nat.le_refl _) hb3
  have e1 := hb1.size
  have e3 := hb3.size
  simp at e1 e3
  exact ⟨(h3.alloc h3.size _).alloc (by simp; have := h3.size; omega) _, by omega, by omega⟩
theorem ownW_A {B C : Nat} {rb : Option Nat} {w w' : World} {v : Value} {l : List Wrt} (h : OwnW C w v l) (hT : TurnA B rb w w') : OwnW C w' v l := by
  obtain ⟨css, e1, e2, e3, e4⟩ := h
  exact ⟨css, e1, e2, own_same e3 (fun i cur _ e => hT.keep i _ e ⟨by decide, by decide, by decide, by decide⟩), e4⟩
theorem do_wrts {w1 w3 : World} {C : Nat} {s : Cs} {c : Cmd} (p1 p2 : Int) (d : Dn) (hO : OwnC C w1 s c) (hb3 : Below (w1.alloc (cmCells s c)).heap.size (w1.alloc (cmCells s c)) w3) : OwnW C ((w3.alloc (.cells #[.int .i64 p1, .int .i64 p2] 96)).alloc (dnBox d)) (.slice s.wo c.wrts.length s.wc) c.wrts := by
  obtain ⟨css, e1, e2, e3, e4⟩ := hO.wrts
  exact ⟨css, e1, e2, own_same e3 (fun i cur _ e => alloc_box _ (alloc_box _ (below_box hb3 (alloc_box _ e)))), e4⟩
/-- The cells that Do reads. -/
theorem do_w3 {w w1 w3 : World} {t : Int} {x : ByteArray} {s : Cs} {c : Cmd} (p1 p2 : Int) (hb1 : Below (doW0 w t x).heap.size (doW0 w t x) w1) (hb3 : Below (w1.alloc (cmCells s c)).heap.size (w1.alloc (cmCells s c)) w3) :
    (w3.alloc (.cells #[.int .i64 p1, .int .i64 p2] 96)).cell? ⟨w.heap.size, 0, none⟩ = some (.int .i64 t) ∧ (w3.alloc (.cells #[.int .i64 p1, .int .i64 p2] 96)).cell? ⟨w1.heap.size, 1, none⟩ = some (.int .i64 c.client) ∧ (w3.alloc (.cells #[.int .i64 p1, .int .i64 p2] 96)).cell? ⟨w1.heap.size, 2, none⟩ = some (.int .i64 c.seq) ∧ (w3.alloc (.cells #[.int .i64 p1, .int .i64 p2] 96)).cell? ⟨w3.heap.size, 1, none⟩ = some (.int .i64 p2) := by
  have hA : Below w1.heap.size w1 (w1.alloc (cmCells s c)) := (Below.refl _ w1).alloc (Nat.le_refl _) _
  have h0 : (doW0 w t x).heap[w.heap.size]? = some (enBox t x) := alloc_box _ (heap_new w _)
  have hc := alloc_box (.cells #[.int .i64 p1, .int .i64 p2] 96) (below_box hb3 (heap_new w1 (cmCells s c)))
  exact ⟨box_cell (alloc_box _ (below_box hb3 (below_box hA (below_box hb1 h0)))) 0 _ rfl, box_cell hc 1 _ rfl, box_cell hc 2 _ rfl, box_cell (heap_new w3 _) 1 _ rfl⟩
theorem bx_cells {V : World} {n b v : Nat} {t : Int} {x : ByteArray} {s : Cs} {c : Cmd} {p1 p2 : Int} {d : Dn} (h : DoBx V n b v t x s c (p1, p2) d) :
    (V.cell? ⟨v, 0, none⟩ = some (.int .i64 p1) ∧ V.cell? ⟨v, 1, none⟩ = some (.int .i64 p2)) ∧ (V.cell? ⟨v + 1, 0, none⟩ = some (.int .i64 d.client) ∧ V.cell? ⟨v + 1, 1, none⟩ = some (.int .i64 d.seq) ∧ V.cell? ⟨v + 1, 2, none⟩ = some (.int .i64 d.time) ∧ V.cell? ⟨v + 1, 3, none⟩ = some (.int .i64 d.code)) ∧
    (V.cell? ⟨n + 1, 0, none⟩ = some (.int .i64 0) ∧ V.cell? ⟨n + 1, 1, none⟩ = some (.int .i64 0) ∧ V.cell? ⟨n + 1, 2, none⟩ = some (.int .i64 0) ∧ V.cell? ⟨n + 1, 3, none⟩ = some (.int .i64 0)) ∧ (V.frozen? ⟨n + 1, 0, none⟩ = false ∧ V.frozen? ⟨n + 1, 1, none⟩ = false ∧ V.frozen? ⟨n + 1, 2, none⟩ = false ∧ V.frozen? ⟨n + 1, 3, none⟩ = false) ∧
    V.cell? ⟨n, 0, none⟩ = some (.int .i64 t) ∧ V.cell? ⟨b, 1, none⟩ = some (.int .i64 c.client) ∧ V.cell? ⟨b, 2, none⟩ = some (.int .i64 c.seq) ∧ V.cell? ⟨b, 6, none⟩ = some (.slice s.wo c.wrts.length s.wc) :=
  ⟨⟨box_cell h.bv 0 _ rfl, box_cell h.bv 1 _ rfl⟩, ⟨box_cell h.bd 0 _ rfl, box_cell h.bd 1 _ rfl, box_cell h.bd 2 _ rfl, box_cell h.bd 3 _ rfl⟩, ⟨box_cell h.br 0 _ rfl, box_cell h.br 1 _ rfl, box_cell h.br 2 _ rfl, box_cell h.br 3 _ rfl⟩, ⟨box_open h.br 0, box_open h.br 1, box_open h.br 2, box_open h.br 3⟩, box_cell h.be 0 _ rfl, box_cell h.bc 1 _ rfl, box_cell h.bc 2 _ rfl, box_cell h.bc 6 _ rfl⟩
set_option maxRecDepth 100000 in
set_option maxHeartbeats 4000000 in
theorem do_1 (B g gs cap : Nat) (m : Mac) (ao : Option Addr) (lv : Value) (t : Int) (x : ByteArray) (c : Cmd) (form : Int) (hG : GetIs x c form) (P2 : Int) (hP : verd m t c form = (1, P2))
    (hget : ∀ w, Calls Tryz.prog 35 #[.string x] w fun e w' => ∃ t : Cs, e = .returned (.tuple #[cmV t c, .int .i64 form]) ∧ OwnC w.heap.size w' t c ∧ Below w.heap.size w w') (w : World) (h : HoldM B w g m gs ao cap lv) :
    Calls Tryz.prog 15 #[.pointer (some ⟨g, 0, none⟩), .agg #[.int .i64 t, .string x]] w fun e w' => DoEnds B g gs m m ao cap ⟨c.client, c.seq, t, P2⟩ w e w' := by
  have hok := getIs_ok hG
  have hb0 : Below w.heap.size w (doW0 w t x) := ((Below.refl _ w).alloc (Nat.le_refl _) _).alloc (by simp) _
  have e1 : (doW0 w t x).cell? ⟨w.heap.size, 1, none⟩ = some (.string x) := box_cell (alloc_box _ (heap_new w (enBox t x))) 1 _ rfl
  have hgw : w.heap.size ≠ g := by have := h.lt; omega
  have hB := Nat.le_trans h.lt.1 (Nat.le_of_lt h.lt.2)
  have hnew := fun b hb => own_old h (b := b) hb
  have HJ : Hid (∀ w1 (s : Cs), Below (doW0 w t x).heap.size (doW0 w t x) w1 → OwnC (doW0 w t x).heap.size w1 s c → ∀ n, (w1.alloc (cmCells s c)).heap.size = n → ∀ X, (∃ ty, X = (chkW (w1.alloc (cmCells s c)) g t s c form).alloc (.cells (chkV (w1.alloc (cmCells s c)).heap.size ((w1.alloc (cmCells s c)).heap.size + 1) ((w1.alloc (cmCells s c)).heap.size + 2) ((w1.alloc (cmCells s c)).heap.size + 3)) ty (0, 0))) → Calls Tryz.prog 36 #[.slice (some ⟨n + 4, 0, none⟩) 9 9] X fun e w' => e = .returned (.agg #[.int .i64 1, .int .i64 P2]) ∧ Below (w1.alloc (cmCells s c)).heap.size (w1.alloc (cmCells s c)) w') := by
    intro w1 s hb1 hO n hn X hX
    have := jud_n B g gs cap m ao lv t s c form hok (w1.alloc (cmCells s c)) ((h.below (below_next hb0 (Nat.le_refl _) hb1)).below ((Below.refl _ w1).alloc (Nat.le_refl _) _)) (liesC_next hO.lies ((Below.refl _ w1).alloc (Nat.le_refl _) _)) n hn X hX
    rw [hP] at this
    exact this
  have hpub : ∀ V, Below w.heap.size w V → HoldM B V g m gs ao cap lv := fun V hV => h.below hV
  clear h hP hG hok
  go_enter Tryz.func15, Tryz.ntmps15
  go_wp2_with (first
    | (go_at_call 35; refine (hget _).mono ?_; rintro e w1 ⟨s, rfl, hO, hb1⟩; have q0 : (w1.alloc (cmCells s c)).cell? ⟨w.heap.size, 0, none⟩ = some (.int .i64 t) := box_cell (alloc_box _ (below_box hb1 (alloc_box _ (heap_new w (enBox t x))))) 0 _ rfl; obtain ⟨n1, hn1⟩ : ∃ n, Hid ((w1.alloc (cmCells s c)).heap.size = n) := ⟨_, rfl⟩)
    | (go_at_call 37; refine (checks_n g t s c form _ n1 hn1.out).mono ?_; rintro e w2 ⟨rfl, hw2⟩; have hjd := HJ.out w1 s hb1 hO n1 hn1.out w2 hw2; clear hw2 HJ hn1 q0)
    | (go_at_call 36; refine hjd.mono ?_; rintro e w3 ⟨rfl, hb3⟩; clear hjd; obtain ⟨y0, y1, y2, y3⟩ := do_w3 1 P2 hb1 hb3; have hbx := do_bx (p := (1, P2)) (d := ⟨c.client, c.seq, t, P2⟩) hb1 hb3; obtain ⟨hbw, hs1, hs3⟩ := do_below (p := (1, P2)) (d := ⟨c.client, c.seq, t, P2⟩) hb1 hb3; obtain ⟨⟨v0, v1⟩, ⟨d0, d1, d2, d3⟩, ⟨r0, r1, r2, r3⟩, ⟨f0, f1, f2, f3⟩, n0, _, _, _⟩ := bx_cells hbx; have HBX : Hid _ := hbx; have HBW : Hid _ := hbw; have HB1 : Hid _ := hb1; have HB3 : Hid _ := hb3; clear hbx hbw hb1 hb3))
  have hbx := HBX.out
  obtain ⟨hR, hgR⟩ := res4 hbx.br ⟨c.client, c.seq, t, P2⟩
  have z0 := box_cell hR 0 _ rfl
  have z1 := box_cell hR 1 _ rfl
  have z2 := box_cell hR 2 _ rfl
  have z3 := box_cell hR 3 _ rfl
  refine bodyPost_ret (v := dnV ⟨c.client, c.seq, t, P2⟩) (by simp [results, Tryz.results15, go_sem, z0, z1, z2, z3]) rfl ⟨rfl, ⟨ao, cap, lv, (hpub _ HBW.out).res hgR hbx.br (hnew _ (by omega)), fun b hb => .inl hb⟩, (TurnA.of_below HBW.out hB).res hgR (by omega) hB⟩
end Go.Proofs.YtclliljkmmpglaaGreat
