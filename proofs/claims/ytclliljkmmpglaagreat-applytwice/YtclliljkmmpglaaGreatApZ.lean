/-
  What ApplyTwice asks: the answer to a client's first command; what becomes of what is said again, as plain data.
-/
import Derived.Test.YtclliljkmmpglaaGreatApT
import Derived.Test.YtclliljkmmpglaaGreatApU
namespace Go.Proofs.YtclliljkmmpglaaGreat
open Go.RowKit Go.Maps Num
open scoped Classical
set_option linter.unusedVariables false
set_option maxRecDepth 100000

set_option maxRecDepth 100000 in
set_option maxHeartbeats 1000000 in
theorem answer_first (B g gs cap : Nat) (m : Mac) (ao : Option Addr) (lv : Value) (d : Dn) (rest : List Dn) (hd : m.dones = d :: rest) (hc : 1 ≤ d.client) (h3 : d.code ≠ 6) (w : World) (h : HoldM B w g m gs ao cap lv) :
    Calls Tryz.prog 31 #[.pointer (some ⟨g, 0, none⟩), .int .i64 d.client, .int .i64 d.seq] w fun e w' => e = .returned (.tuple #[dnV d, .bool true]) ∧ Below w.heap.size w w' := by
  obtain ⟨W, hW⟩ : ∃ W, w.alloc (dnBox ⟨0, 0, 0, 0⟩) = W := ⟨_, rfl⟩
  have hb : Below w.heap.size w W := by rw [← hW]; exact (Below.refl _ w).alloc (Nat.le_refl _) _
  have hrb : W.heap[w.heap.size]? = some (dnBox ⟨0, 0, 0, 0⟩) := by rw [← hW]; exact heap_new w _
  have h := h.below hb
  have c3 := (mac_cells h).2.2.2.1
  obtain ⟨ao1, cap1, e1, hl⟩ := own_liesDn h.row
  cases e1
  obtain ⟨a, rfl, hblk, e0, e1, e2, e3⟩ := hl 0 d (by rw [hd]; rfl)
  rw [Nat.zero_mul, addr_zero] at e0 e1 e2 e3
  have hlen : (0 : Int) < (m.dones.length : Int) := by rw [hd]; simp
  have hlenN : decide (0 < m.dones.length) = true := decide_eq_true (by omega)
  have z0 : decide (d.client < 1) = false := decide_eq_false (by omega)
  have z1 : (d.code != 6) = true := bne_iff_ne.2 h3
  have hrb2 := alloc_box (dnBox d) hrb
  have r0 := box_cell hrb2 0 _ rfl
  have r1 := box_cell hrb2 1 _ rfl
  have r2 := box_cell hrb2 2 _ rfl
  have r3 := box_cell hrb2 3 _ rfl
  have f0 := box_open hrb2 0
  have f1 := box_open hrb2 1
  have f2 := box_open hrb2 2
  have f3 := box_open hrb2 3
  obtain ⟨hR, hgR⟩ := res4 hrb2 d
  have y0 := box_cell hR 0 _ rfl
  have y1 := box_cell hR 1 _ rfl
  have y2 := box_cell hR 2 _ rfl
  have y3 := box_cell hR 3 _ rfl
  have HB : Hid (Below w.heap.size w (st4 (W.alloc (dnBox d)) w.heap.size d)) := (hb.alloc hb.size _).trans (below_grown hgR (Nat.le_refl _) (by simp; have := hb.size; omega))
  clear h hl hd hR hgR hrb hrb2
  go_enter Tryz.func31, Tryz.ntmps31
  go_wp2
  try rw [hW]
  go_loopw [22] (fun i wr => i = .int .i64 0 ∧ wr = W) (fun i _ => 0)
  case atStart => exact ⟨rfl, rfl⟩
  case round =>
    obtain ⟨rfl, rfl⟩ := hrel
    go_wp2
    exact bodyPost_ret (v := .tuple #[dnV d, .bool true]) (by simp [results, Tryz.results31, go_sem, y0, y1, y2, y3]) rfl ⟨rfl, HB.out⟩
/-! What is said again. -/
def Num.lessC (c : Cmd) : Cmd := ⟨c.kind, c.client, c.seq - 1, c.snap, c.keys, c.rngs, c.wrts, c.dead, c.aft, c.held, c.text, c.code, c.rows⟩
theorem less_ok {c : Cmd} (h : CmdOk c) (h1 : 1 ≤ c.seq) : CmdOk (lessC c) := by
  have hs := h.nums.seq
  unfold TimeC at hs
  exact ⟨⟨by show TimeC (c.seq - 1); unfold TimeC; omega, h.nums.snap, h.nums.dead, h.nums.aft, h.nums.held, h.nums.kind, h.nums.client, h.nums.code⟩, h.text, h.keys, h.rngs, h.wrts, h.rows⟩
theorem less_len (c : Cmd) : (cmdB (lessC c)).length = (cmdB c).length := by
  unfold cmdB lessC
  simp only [List.length_append, num8_len]
theorem tw_first {c : Cmd} (hc : 1 ≤ c.client) (hk : c.kind ≠ 0) : verd (newM 500) 5 c 0 = (3, codeV (newM 500) 5 c) := verd_5 (by show ¬ ((5 : Int) ≤ 0 ∨ _); omega) rfl hk
theorem code_six (m : Mac) (t : Int) (c : Cmd) : codeV m t c ≠ 6 := by
  unfold codeV
  repeat' split
  all_goals decide
/-- A machine in which a client's last one is this. -/
structure Num.TwM (m m1 : Mac) (t : Int) (d : Dn) (n : Nat) : Prop where
  st : m.st = m1.st
  room : m.room = m1.room
  last : m.last = m1.last
  time : m.time = t
  dones : ∃ rest, m.dones = d :: rest
  len : m.dones.length ≤ n
  lim : m.lim = m1.lim
theorem tw_again {m m1 : Mac} {t t' : Int} {d : Dn} {n : Nat} {c : Cmd} {q p k : Int} (h : TwM m m1 t d n) (ht : t < t' ∧ t' < 1099511627776) (hl : m1.last c.client = some (q, p)) (hv : againV (some (q, p)) c.seq = (2, k)) :
    TwM (nextM m t' c 0) m1 t' d (n + 1) ∧ doneV m t' c 0 = ⟨c.client, c.seq, t', k⟩ := by
  have hz : againV (m.last c.client) c.seq = (2, k) := by rw [h.last, hl]; exact hv
  have e : verd m t' c 0 = (2, k) := by
    rw [verd_3 (by rw [h.time]; omega) (by rw [hz]; show (2 : Int) ≠ 0; decide), hz]
  unfold nextM doneV
  rw [e]
  simp only [if_neg (by decide : ¬ (2 : Int) = 1), if_pos]
  refine ⟨⟨h.st, h.room, h.last, rfl, ?_, ?_, h.lim⟩, trivial⟩
  · obtain ⟨rest, hr⟩ := h.dones
    exact ⟨rest ++ [_], by show m.dones ++ [_] = _; rw [hr]; rfl⟩
  · show (m.dones ++ _).length ≤ _
    have := h.len
    simp
    omega
theorem tw_same (q p : Int) : againV (some (q, p)) q = (2, p) := by simp [againV]
theorem tw_less (q p : Int) : againV (some (q, p)) (q - 1) = (2, 6) := by
  unfold againV
  simp only
  rw [if_neg (by omega), if_neg (by omega)]
theorem tw_begin {c : Cmd} (hc : 1 ≤ c.client) (hk : c.kind ≠ 0) : TwM (nextM (newM 500) 5 c 0) (nextM (newM 500) 5 c 0) 5 ⟨c.client, c.seq, 5, codeV (newM 500) 5 c⟩ 1 ∧ (nextM (newM 500) 5 c 0).last c.client = some (c.seq, codeV (newM 500) 5 c) ∧ (nextM (newM 500) 5 c 0).lim ≤ 1 ∧ doneV (newM 500) 5 c 0 = ⟨c.client, c.seq, 5, codeV (newM 500) 5 c⟩ := by
  have e := tw_first hc hk
  have ed : doneV (newM 500) 5 c 0 = ⟨c.client, c.seq, 5, codeV (newM 500) 5 c⟩ := by
    unfold doneV
    rw [e]
  unfold nextM
  rw [e, ed]
  simp only [if_neg (by decide : ¬ (3 : Int) = 1), if_neg (by decide : ¬ (3 : Int) = 2)]
  refine ⟨⟨rfl, rfl, rfl, rfl, ⟨[], rfl⟩, Nat.le_refl _, rfl⟩, ?_, Nat.le_refl _, trivial⟩
  show keepL _ c.client _ c.client = _
  unfold keepL
  rw [if_neg (by omega)]
  simp
theorem twDo (B g gs cap : Nat) (m m1 : Mac) (ao : Option Addr) (lv : Value) (t t' : Int) (d : Dn) (n : Nat) (c : Cmd) (q p k : Int) (h : TwM m m1 t d n) (hn : n ≤ 100) (hlim : m1.lim ≤ 1) (ht : t < t' ∧ t' < 1099511627776) (hl : m1.last c.client = some (q, p)) (hv : againV (some (q, p)) c.seq = (2, k)) (h1 : CmdOk c) (h2 : CmdIn c) (h3 : (cmdB c).length ≤ 19996) (W : World) (hM : HoldM B W g m gs ao cap lv) :
    Calls Tryz.prog 15 #[.pointer (some ⟨g, 0, none⟩), enV t' (bytesC c)] W fun e w' => e = .returned (.agg #[.int .i64 c.client, .int .i64 c.seq, .int .i64 t', .int .i64 k]) ∧ (∃ m' ao' cap' lv', TwM m' m1 t' d (n + 1) ∧ HoldM B w' g m' gs ao' cap' lv' ∧ (∀ b, b < W.heap.size → some b ≠ (Value.slice ao m.dones.length cap).ownBlock → some b ≠ (Value.slice ao' m'.dones.length cap').ownBlock)) ∧ TurnA B (Value.slice ao m.dones.length cap).ownBlock W w' := by
  obtain ⟨e1, e2⟩ := tw_again h ht hl hv
  have := do_any B g gs cap m ao lv t' (bytesC c) c 0 (one_get h1 h2 h3) (by have := h.len; omega) (by rw [h.lim]; omega) W hM
  rw [e2] at this
  refine this.mono ?_
  rintro e w' ⟨rfl, ⟨ao', cap', lv', hM', hnr⟩, hT⟩
  exact ⟨rfl, ⟨_, ao', cap', lv', e1, hM', fun b hb hne e => (hnr b e).elim (fun h9 => hne h9) (fun h9 => by omega)⟩, hT⟩
theorem get_late {l : List Ver} {t u : Int} (h : ∀ v ∈ l, v.time ≤ t) (htu : t ≤ u) (k : ByteArray) : getV l k u = getV l k t := by
  have e : verT l k u = verT l k t := by
    unfold verT
    refine List.filter_congr fun v hv => ?_
    have := h v hv
    rw [decide_eq_true this, decide_eq_true (by omega : v.time ≤ u)]
  unfold getV lastV
  rw [e]
theorem scan_ex {B : Nat} {w : World} {g : Nat} {st : Sto} (h : HoldP B w g st) (t : Int) (lo hi : ByteArray) : ∃ r, ScanIs st.vs t lo hi r := by
  obtain ⟨gm, D, blk, capf, ao, cap, ps, h⟩ := h
  exact ⟨_, scan_is h.keys t lo hi⟩
theorem ownPr_A {B C : Nat} {rb : Option Nat} {w w' : World} {v : Value} {n : Nat} {cs : List Value} (h : w.ownsRow C 124 2 v n cs) (hT : TurnA B rb w w') : w'.ownsRow C 124 2 v n cs := own_same h fun i cur _ e => hT.keep i _ e ⟨by decide, by decide, by decide, by decide⟩
end Go.Proofs.YtclliljkmmpglaaGreat
