/-
  Joined:
  Contracts: New (14.1), Do (14.2), Time, Store (14.3) of a machine, whole.
  Contracts of layer 14's statements' own: an error's number, a command at a time.
  Commands of one write, as plain data: which may be, how long their bytes are; what becomes of them in small machines.
-/
import Derived.Test.YtclliljkmmpglaaGreatApN
import Derived.Test.YtclliljkmmpglaaGreatApP
import Derived.Test.YtclliljkmmpglaaGreatCRPut
namespace Go.Proofs.YtclliljkmmpglaaGreat
open Go.RowKit Go.Maps Num
open scoped Classical
set_option linter.unusedVariables false
set_option maxRecDepth 100000

theorem verd_1 {m : Mac} {t : Int} {c : Cmd} {form : Int} (h : t ≤ m.time ∨ 1099511627776 ≤ t) : verd m t c form = (1, 1) := by
  have h0 : (decide (t ≤ m.time) || decide (1099511627776 ≤ t)) = true := by simpa using h
  simp [verd, judgeV, checkV, whenV, h0]
theorem verd_2 {m : Mac} {t : Int} {c : Cmd} {form : Int} (h : ¬ (t ≤ m.time ∨ 1099511627776 ≤ t)) (h1 : form ≠ 0) : verd m t c form = (2, 3) := by
  have h0 : (decide (t ≤ m.time) || decide (1099511627776 ≤ t)) = false := by simpa using h
  simp [verd, judgeV, checkV, whenV, h0, h1]
theorem verd_3 {m : Mac} {t : Int} {c : Cmd} (h : ¬ (t ≤ m.time ∨ 1099511627776 ≤ t)) (h1 : (againV (m.last c.client) c.seq).1 ≠ 0) : verd m t c 0 = againV (m.last c.client) c.seq := by
  have h0 : (decide (t ≤ m.time) || decide (1099511627776 ≤ t)) = false := by simpa using h
  simp [verd, judgeV, checkV, whenV, h0, h1]
def Num.codeV (m : Mac) (t : Int) (c : Cmd) : Int := if t ≤ c.snap then 1 else if c.dead ≠ 0 ∧ c.dead < t then 14 else if t < c.aft then 15 else if turnedB m.st.vs c.snap c.keys c.rngs = true then 13 else if m.room - (m.st.vs.length : Int) < (needsN m.st.vs t c.wrts : Int) then 4 else 0
theorem verd_4 {m : Mac} {t : Int} {c : Cmd} (h : ¬ (t ≤ m.time ∨ 1099511627776 ≤ t)) (h1 : (againV (m.last c.client) c.seq).1 = 0) (h2 : c.kind = 0) : verd m t c 0 = (2, 0) := by
  have h0 : (decide (t ≤ m.time) || decide (1099511627776 ≤ t)) = false := by simpa using h
  simp [verd, judgeV, checkV, whenV, h0, h1, h2]
theorem verd_5 {m : Mac} {t : Int} {c : Cmd} (h : ¬ (t ≤ m.time ∨ 1099511627776 ≤ t)) (h1 : (againV (m.last c.client) c.seq).1 = 0) (h2 : c.kind ≠ 0) : verd m t c 0 = (3, codeV m t c) := by
  have h0 : (decide (t ≤ m.time) || decide (1099511627776 ≤ t)) = false := by simpa using h
  unfold codeV
  by_cases a1 : t ≤ c.snap
  · simp [verd, judgeV, checkV, whenV, h0, h1, h2, a1]
  · by_cases a2 : c.dead ≠ 0 ∧ c.dead < t
    · have a2' : (decide (c.dead ≠ 0) && decide (c.dead < t)) = true := by simpa using a2
      rw [if_neg a1, if_pos a2]
      simp only [verd, judgeV, checkV, whenV, h0, h1, h2, a1, a2', Nat.sub_self, Nat.reduceSub]
      simp
    · have a2' : (decide (c.dead ≠ 0) && decide (c.dead < t)) = false := by
        cases hb : (decide (c.dead ≠ 0) && decide (c.dead < t)) with
        | false => rfl
        | true => exact absurd (by simpa using hb) a2
      by_cases a3 : t < c.aft
      · rw [if_neg a1, if_neg a2, if_pos a3]
        simp only [verd, judgeV, checkV, whenV, h0, h1, h2, a1, a2', a3, Nat.sub_self, Nat.reduceSub]
        simp
      · by_cases a4 : turnedB m.st.vs c.snap c.keys c.rngs = true
        · rw [if_neg a1, if_neg a2, if_neg a3, if_pos a4]
          simp only [verd, judgeV, checkV, whenV, h0, h1, h2, a1, a2', a3, a4, Nat.sub_self, Nat.reduceSub]
          simp
        · by_cases a5 : m.room - (m.st.vs.length : Int) < (needsN m.st.vs t c.wrts : Int)
          · rw [if_neg a1, if_neg a2, if_neg a3, if_neg a4, if_pos a5]
            simp only [verd, judgeV, checkV, whenV, h0, h1, h2, a1, a2', a3, a4, a5, Nat.sub_self, Nat.reduceSub]
            simp
          · rw [if_neg a1, if_neg a2, if_neg a3, if_neg a4, if_neg a5]
            simp only [verd, judgeV, checkV, whenV, h0, h1, h2, a1, a2', a3, a4, a5, Nat.sub_self, Nat.reduceSub]
            simp
theorem again_kind (o : Option (Int × Int)) (q : Int) : (againV o q).1 = 0 ∨ (againV o q).1 = 2 := by
  unfold againV
  split
  · exact .inl rfl
  · split
    · exact .inl rfl
    · split
      · exact .inr rfl
      · exact .inr rfl
theorem verd_kind (m : Mac) (t : Int) (c : Cmd) (form : Int) : (verd m t c form).1 = 1 ∨ ((m.time < t ∧ t < 1099511627776) ∧ ((verd m t c form).1 = 2 ∨ (verd m t c form).1 = 3)) := by
  by_cases h : t ≤ m.time ∨ 1099511627776 ≤ t
  · exact .inl (by rw [verd_1 h])
  · refine .inr ⟨by omega, ?_⟩
    by_cases hf : form = 0
    · subst hf
      rcases again_kind (m.last c.client) c.seq with h1 | h1
      · by_cases h2 : c.kind = 0
        · exact .inl (by rw [verd_4 h h1 h2])
        · exact .inr (by rw [verd_5 h h1 h2])
      · exact .inl (by rw [verd_3 h (by rw [h1]; decide)]; exact h1)
    · exact .inl (by rw [verd_2 h hf])
/-- 14.2, whole. -/
theorem do_any (B g gs cap : Nat) (m : Mac) (ao : Option Addr) (lv : Value) (t : Int) (x : ByteArray) (c : Cmd) (form : Int) (hG : GetIs x c form) (hn : m.dones.length ≤ 4000) (hlim : m.lim ≤ 100000) (w : World) (h : HoldM B w g m gs ao cap lv) :
    Calls Tryz.prog 15 #[.pointer (some ⟨g, 0, none⟩), .agg #[.int .i64 t, .string x]] w fun e w' => DoEnds B g gs m (nextM m t c form) ao cap (doneV m t c form) w e w' := by
  have hget : ∀ w, Calls Tryz.prog 35 #[.string x] w fun e w' => ∃ t : Cs, e = .returned (.tuple #[cmV t c, .int .i64 form]) ∧ OwnC w.heap.size w' t c ∧ Below w.heap.size w w' := by
    obtain ⟨c', f', h1, h2⟩ := gget_any x
    obtain ⟨rfl, rfl⟩ := getIs_one hG h1
    exact h2
  unfold nextM doneV
  have hk := verd_kind m t c form
  obtain ⟨v, hv⟩ : ∃ v, verd m t c form = v := ⟨_, rfl⟩
  obtain ⟨k, p⟩ := v
  rw [hv] at hk
  rw [hv]
  simp only at hk ⊢
  rcases hk with rfl | ⟨ht, rfl | rfl⟩
  · rw [if_pos rfl]
    exact do_1 B g gs cap m ao lv t x c form hG p hv hget w h
  · rw [if_neg (by decide), if_pos rfl]
    exact do_2 B g gs cap m ao lv t x c form hG p hn ⟨by omega, ht.2⟩ hv hget w h
  · rw [if_neg (by decide), if_neg (by decide)]
    by_cases hp : p = 0
    · subst hp
      rw [if_pos rfl]
      exact do_4 B g gs cap m ao lv t x c form hG hn hlim ⟨by omega, ht.2⟩ hv hget w h
    · rw [if_neg hp]
      exact do_3 B g gs cap m ao lv t x c form hG p hp hn hlim ⟨by omega, ht.2⟩ hv hget w h
def Num.newM (room : Int) : Mac := ⟨room, 0, ⟨room, 0, []⟩, [], fun _ => none, 0⟩
theorem hold_newM {B : Nat} {w : World} {gs : Nat} (room : Int) (h1 : 1 ≤ room) (h2 : room ≤ 4096) (h : HoldP B w gs ⟨room, 0, []⟩) (hB : B ≤ w.heap.size) :
    HoldM B (w.alloc (.cells #[.int .i64 room, .int .i64 0, .pointer (some ⟨gs, 0, none⟩), .slice none 0 0, .map none] 89)) w.heap.size (newM room) gs none 0 (.map none) :=
  ⟨heap_new w _, hB, h.below ((Below.refl _ w).alloc (Nat.le_refl _) _), World.ownsRow_nil _ _ _ _, ⟨fun _ _ => rfl, .inl ⟨rfl, fun _ => rfl⟩⟩, ⟨rfl, h1, h2⟩, ⟨Int.le_refl _, Int.le_refl _, by show (0 : Int) < 1099511627776; decide⟩⟩
set_option maxRecDepth 100000 in
theorem anew_yes (room : Int) (h1 : 1 ≤ room) (h2 : room ≤ 4096) (w : World) : Calls Tryz.prog 11 #[.int .i64 room] w fun e w' => ∃ g gs, e = .returned (.tuple #[.pointer (some ⟨g, 0, none⟩), .int .i64 0]) ∧ HoldM w.heap.size w' g (newM room) gs none 0 (.map none) ∧ Below w.heap.size w w' := by
  have hnew := new_yes room h1 h2 w
  go_enter Tryz.func11, Tryz.ntmps11
  go_wp2_with (first | (go_at_call 33; refine hnew.mono ?_; rintro e w1 ⟨gs, rfl, hs, hb1⟩; have hM := hold_newM room h1 h2 hs hb1.size))
  go_ret2
  exact ⟨_, _, rfl, hM, hb1.alloc hb1.size _⟩
set_option maxRecDepth 100000 in
theorem anew_no (room : Int) (h : room < 1 ∨ 4096 < room) (w : World) : Calls Tryz.prog 11 #[.int .i64 room] w fun e w' => e = .returned (.tuple #[.pointer none, .int .i64 1]) ∧ Below w.heap.size w w' := by
  have hnew := new_no room h w
  go_enter Tryz.func11, Tryz.ntmps11
  go_wp2_with (first | (go_at_call 33; refine hnew.mono ?_; rintro e w1 ⟨rfl, rfl⟩))
  go_ret2
  exact ⟨rfl, Below.refl _ _⟩
theorem atime_any (B g gs cap : Nat) (m : Mac) (ao : Option Addr) (lv : Value) (w : World) (h : HoldM B w g m gs ao cap lv) : Calls Tryz.prog 18 #[.pointer (some ⟨g, 0, none⟩)] w fun e w' => e = .returned (.int .i64 m.time) ∧ w' = w := by
  obtain ⟨c0, c1, c2, c3, c4⟩ := mac_cells h
  clear h
  go_enter Tryz.func18, Tryz.ntmps18
  go_wp2
  go_ret
  exact ⟨rfl, rfl⟩
theorem astore_any (B g gs cap : Nat) (m : Mac) (ao : Option Addr) (lv : Value) (w : World) (h : HoldM B w g m gs ao cap lv) : Calls Tryz.prog 20 #[.pointer (some ⟨g, 0, none⟩)] w fun e w' => e = .returned (.pointer (some ⟨gs, 0, none⟩)) ∧ w' = w := by
  obtain ⟨c0, c1, c2, c3, c4⟩ := mac_cells h
  clear h
  go_enter Tryz.func20, Tryz.ntmps20
  go_wp2
  go_ret
  exact ⟨rfl, rfl⟩
end Go.Proofs.YtclliljkmmpglaaGreat
namespace Go.Proofs.YtclliljkmmpglaaGreat
open Go.RowKit Go.Maps Num
open scoped Classical
set_option linter.unusedVariables false
set_option maxRecDepth 100000

theorem num_any14 (n : Int) (w : World) : Calls Tryz.prog 13 #[.int .i64 n] w fun e w' => e = .returned (.int .i64 n) ∧ w' = w := by
  go_enter Tryz.func13, Tryz.ntmps13
  go_wp2
  go_ret
  exact ⟨rfl, rfl⟩
theorem ent_box {w W0 w1 : World} {s : Cs} {c : Cmd} (hW : (w.alloc (cmCells s c)).alloc (.cells #[.int .i64 0, .string ⟨#[]⟩] 34) = W0) (hb : Below W0.heap.size W0 w1) (t : Int) (x : ByteArray) :
    w1.cell? ⟨w.heap.size + 1, 0, none⟩ = some (.int .i64 0) ∧ w1.cell? ⟨w.heap.size + 1, 1, none⟩ = some (.string ⟨#[]⟩) ∧ w1.frozen? ⟨w.heap.size + 1, 0, none⟩ = false ∧ w1.frozen? ⟨w.heap.size + 1, 1, none⟩ = false ∧
    ((w1.setCell ⟨w.heap.size + 1, 0, none⟩ (.int .i64 t)).setCell ⟨w.heap.size + 1, 1, none⟩ (.string x)).cell? ⟨w.heap.size + 1, 0, none⟩ = some (.int .i64 t) ∧ ((w1.setCell ⟨w.heap.size + 1, 0, none⟩ (.int .i64 t)).setCell ⟨w.heap.size + 1, 1, none⟩ (.string x)).cell? ⟨w.heap.size + 1, 1, none⟩ = some (.string x) ∧
    Below w.heap.size w ((w1.setCell ⟨w.heap.size + 1, 0, none⟩ (.int .i64 t)).setCell ⟨w.heap.size + 1, 1, none⟩ (.string x)) := by
  subst hW
  have b1 := below_box hb (heap_newB (w.alloc (cmCells s c)) (.cells #[.int .i64 0, .string ⟨#[]⟩] 34) (w.heap.size + 1) (by simp))
  have s1 := set_heap (i := 0) b1 (.int .i64 t)
  have s2 := set_heap (i := 1) s1 (.string x)
  have hbw : Below w.heap.size w w1 := below_next (((Below.refl _ w).alloc (Nat.le_refl _) _).alloc (by simp) _) (Nat.le_refl _) hb
  exact ⟨box_cell b1 0 _ rfl, box_cell b1 1 _ rfl, box_open b1 0, box_open b1 1, box_cell s2 0 _ rfl, box_cell s2 1 _ rfl, (hbw.trans (below_grown (grown_set _ _ 0 _) (by omega) hbw.size)).trans (below_grown (grown_set _ _ 1 _) (by omega) (by simpa using hbw.size))⟩
abbrev Num.enV (t : Int) (x : ByteArray) : Value := .agg #[.int .i64 t, .string x]
def Num.bytesC (c : Cmd) : ByteArray := str (sealL (cmdB c))
set_option maxRecDepth 100000 in
set_option maxHeartbeats 1000000 in
theorem entry_any (t : Int) (s : Cs) (c : Cmd) (hok : CmdOk c) (hin : CmdIn c) (hlen : (cmdB c).length ≤ 19996) (w : World) (hl : LiesC w w.heap.size s c) :
    Calls Tryz.prog 28 #[.int .i64 t, cmV s c] w fun e w' => e = .returned (enV t (bytesC c)) ∧ Below w.heap.size w w' := by
  have hbW : Below w.heap.size w ((w.alloc (cmCells s c)).alloc (.cells #[.int .i64 0, .string ⟨#[]⟩] 34)) := ((Below.refl _ w).alloc (Nat.le_refl _) _).alloc (by simp) _
  have hput := refPut_yes c hok hin (by omega) s _ (liesC_next hl hbW)
  rw [show putR c = .tuple #[.string (bytesC c), .int .i64 0] from if_pos hlen] at hput
  obtain ⟨k0, k1, k2, k3, k4, k5, k6, k7, k8, k9, k10, k11, k12⟩ := cm_cells (alloc_box (.cells #[.int .i64 0, .string ⟨#[]⟩] 34) (heap_new w (cmCells s c)))
  have HE : Hid (∀ w1, Below ((w.alloc (cmCells s c)).alloc (.cells #[.int .i64 0, .string ⟨#[]⟩] 34)).heap.size ((w.alloc (cmCells s c)).alloc (.cells #[.int .i64 0, .string ⟨#[]⟩] 34)) w1 → _) := fun w1 hb => ent_box rfl hb t (bytesC c)
  clear hl hbW
  go_enter Tryz.func28, Tryz.ntmps28
  go_wp2_with (first | (go_at_call 29; refine hput.mono ?_; rintro e w1 ⟨rfl, hb1⟩; obtain ⟨z0, z1, g0, g1, y0, y1, hy⟩ := HE.out w1 hb1))
  exact bodyPost_ret (v := enV t (bytesC c)) (by simp [results, Tryz.results28, go_sem, y0, y1]) rfl ⟨rfl, hy⟩
theorem lies_oneS {W : World} {b B : Nat} {a : ByteArray} {ty : TypeId} (h : W.heap[b]? = some (.cells #[.string a] ty (0, 0))) (hB : b < B) : LiesS W B (some ⟨b, 0, none⟩) [a] := by
  intro i x hx
  cases i with
  | zero =>
    simp at hx
    subst hx
    exact ⟨_, rfl, hB, box_cell h 0 _ rfl⟩
  | succ i => simp at hx
theorem lies_oneW {W : World} {b B : Nat} {x : Wrt} {ty : TypeId} (h : W.heap[b]? = some (.cells #[.string x.key, .string x.val, .bool x.del] ty (0, 0))) (hB : b < B) : LiesW W B (some ⟨b, 0, none⟩) [x] := by
  intro i y hy
  cases i with
  | zero =>
    simp at hy
    subst hy
    exact ⟨_, rfl, hB, box_cell h 0 _ rfl, box_cell h 1 _ rfl, box_cell h 2 _ rfl⟩
  | succ i => simp at hy
theorem lies_oneQ {W : World} {b B : Nat} {x : Rng} {ty : TypeId} (h : W.heap[b]? = some (.cells #[.string x.lo, .string x.hi] ty (0, 0))) (hB : b < B) : LiesQ W B (some ⟨b, 0, none⟩) [x] := by
  intro i y hy
  cases i with
  | zero =>
    simp at hy
    subst hy
    exact ⟨_, rfl, hB, box_cell h 0 _ rfl, box_cell h 1 _ rfl⟩
  | succ i => simp at hy
theorem lies_noneG {α : Type} {At : World → Addr → α → Prop} {sz B : Nat} {w : World} {ao : Option Addr} : LiesG At sz w B ao [] := fun i x hx => by simp at hx
end Go.Proofs.YtclliljkmmpglaaGreat
namespace Go.Proofs.YtclliljkmmpglaaGreat
open Go.RowKit Go.Maps Num
open scoped Classical
set_option linter.unusedVariables false
set_option maxRecDepth 100000

def Num.oneC (client seq snap : Int) (ks : List ByteArray) (rs : List Rng) (x : Wrt) (dead aft : Int) : Cmd := ⟨2, client, seq, snap, ks, rs, [x], dead, aft, 0, ⟨#[]⟩, 0, []⟩
theorem rises_one {k : ByteArray} (h : k.size ≤ 1000) : RisesT [k] := by
  intro i hi x hx
  cases i with
  | zero =>
    simp at hx
    subst hx
    exact ⟨by omega, fun j y e => by omega⟩
  | succ i => simp at hi
theorem keys_least {l : List ByteArray} (hl : l.length ≤ 1) (h : ∀ k ∈ l, k.size ≤ 1000) : KeysOk' l := by
  match l, hl with
  | [], _ => exact ⟨by simp, rises0⟩
  | [k], _ => exact ⟨by simp, rises_one (h k (by simp))⟩
theorem one_ok {client seq snap : Int} {ks : List ByteArray} {rs : List Rng} {x : Wrt} {dead aft : Int} (hc : 0 ≤ client ∧ client ≤ 100) (h1 : TimeC seq) (h2 : TimeC snap) (h3 : TimeC dead) (h4 : TimeC aft) (hk : ks.length ≤ 1) (hks : ∀ k ∈ ks, k.size ≤ 10) (hr : rs.length ≤ 1) (hrs : ∀ r ∈ rs, r.lo.size ≤ 10 ∧ r.hi.size ≤ 10) (hx : x.key.size ≤ 10 ∧ x.val.size ≤ 10 ∧ x.del = false) : CmdOk (oneC client seq snap ks rs x dead aft) := by
  have ht : TimeC 0 := by unfold TimeC; omega
  refine ⟨⟨h1, h2, h3, h4, ht, by show (0 : Int) ≤ 2 ∧ (2 : Int) ≤ 5; omega, hc, by show (0 : Int) ≤ 0 ∧ (0 : Int) ≤ 21; omega⟩, by show ((0 : Nat) : Int) ≤ 1000; omega, ?_, ⟨?_, ?_⟩, ⟨?_, ?_, ?_⟩, ⟨by show ¬ 200 < ((0 : Nat) : Int); omega, fun x h => by cases h⟩⟩
  · exact keys_least hk (fun k hk' => Nat.le_trans (hks k hk') (by decide))
  · show ¬ 50 < (rs.length : Int)
    omega
  · intro r hr'
    have := hrs r hr'
    exact ⟨by omega, by omega⟩
  · show ¬ 200 < (([x] : List Wrt).length : Int)
    simp
  · intro y hy
    have e : y = x := by simpa [oneC] using hy
    subst e
    exact ⟨by omega, fun h => by rw [hx.2.2] at h; cases h⟩
  · exact keys_least (l := [x].map Wrt.key) (by simp) (fun k hk' => by
      have e : k = x.key := by simpa using hk'
      subst e
      omega)
theorem one_in (client seq snap : Int) (ks : List ByteArray) (rs : List Rng) (x : Wrt) (dead aft : Int) : CmdIn (oneC client seq snap ks rs x dead aft) := fun l h => by cases h
theorem one_len {client seq snap : Int} {ks : List ByteArray} {rs : List Rng} {x : Wrt} {dead aft : Int} (hk : ks.length ≤ 1) (hks : ∀ k ∈ ks, k.size ≤ 10) (hr : rs.length ≤ 1) (hrs : ∀ r ∈ rs, r.lo.size ≤ 10 ∧ r.hi.size ≤ 10) (hx : x.key.size ≤ 10 ∧ x.val.size ≤ 10 ∧ x.del = false) : (cmdB (oneC client seq snap ks rs x dead aft)).length ≤ 19996 := by
  have e1 : (ks.flatMap txtB).length ≤ 100 := by
    match ks, hk with
    | [], _ => simp
    | [k], _ =>
      have := hks k (by simp)
      simp [txt_len]
      omega
  have e2 : (rs.flatMap rngB).length ≤ 100 := by
    match rs, hr with
    | [], _ => simp
    | [r], _ =>
      have := hrs r (by simp)
      simp [rngB, txt_len]
      omega
  have e3 : (([x] : List Wrt).flatMap wrtB).length ≤ 100 := by
    simp [wrtB, txt_len, num8_len]
    omega
  unfold cmdB lstB oneC
  simp only [List.length_append, num8_len, txt_len]
  have e4 : (([] : List (List Val)).flatMap rowB').length = 0 := rfl
  have e5 : (⟨#[]⟩ : ByteArray).size = 0 := rfl
  omega
theorem one_get {c : Cmd} (h1 : CmdOk c) (h2 : CmdIn c) (h3 : (cmdB c).length ≤ 19996) : GetIs (bytesC c) c 0 := .inl ⟨rfl, h1, h2, h3, rfl⟩
/-! Small stores. -/
theorem get_nil (k : ByteArray) (t : Int) : getV [] k t = none := rfl
theorem last_nil (k : ByteArray) : lastT [] k = 0 := rfl
theorem since_nil (lo hi : ByteArray) (t : Int) : sinceV [] lo hi t = false := rfl
theorem put_one (room : Int) (h : 1 ≤ room) (v : Ver) (h1 : 1 ≤ v.time) (h2 : v.time < 1099511627776) (hg : v.gone = false) : (putS ⟨room, 0, []⟩ v).2 = ⟨room, v.time, [v]⟩ := by
  unfold putS
  rw [if_neg (by show ¬ (v.time < 1 ∨ 1099511627776 ≤ v.time ∨ v.time < 0); omega), if_neg (by rw [hg]; simp), if_neg (by show ¬ lastAt (lastA [] v.key) v.time = true; simp [lastA, lastAt]), if_neg (by show ¬ room ≤ ((0 : Nat) : Int); omega)]
  rfl
theorem last_one (v : Ver) : lastT [v] v.key = v.time := by
  have e : isKey v.key v = true := isKey_iff.2 rfl
  simp [lastT, lastA, e]
theorem last_else (v : Ver) (k : ByteArray) (h : v.key ≠ k) : lastT [v] k = 0 := by
  have e : isKey k v = false := isKey_no h
  simp [lastT, lastA, e]
end Go.Proofs.YtclliljkmmpglaaGreat
