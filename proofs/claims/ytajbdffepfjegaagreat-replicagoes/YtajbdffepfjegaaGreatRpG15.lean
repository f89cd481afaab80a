/-
  Joined:
  Contracts of a replica at work: may a message come to it?
  Contracts of a replica at work: what takes each kind of message.
-/
import Derived.Test.YtajbdffepfjegaaGreatRpKh
import Derived.Test.YtajbdffepfjegaaGreatRpG1
import Derived.Deep.QuietTactic
import Derived.BigRegion
namespace Go.Proofs.YtajbdffepfjegaaGreat
open Go.RowKit Num
open scoped Classical
set_option linter.unusedVariables false
set_option maxRecDepth 100000

theorem int_size (h : 3 < Tryz.prog.types.size) : (Tryz.prog.types[3]'h).size = 1 := by kernel_rfl
theorem idx_0 (a b c d : Value) (W : World) : Sem.run Tryz.prog (Instr.index 77 (.agg #[a, b, c, d]) (.int .i64 0)) W = .ok a W := by kernel_rfl
theorem idx_1 (a b c d : Value) (W : World) : Sem.run Tryz.prog (Instr.index 77 (.agg #[a, b, c, d]) (.int .i64 1)) W = .ok b W := by kernel_rfl
theorem idx_2 (a b c d : Value) (W : World) : Sem.run Tryz.prog (Instr.index 77 (.agg #[a, b, c, d]) (.int .i64 2)) W = .ok c W := by kernel_rfl
theorem idx_3 (a b c d : Value) (W : World) : Sem.run Tryz.prog (Instr.index 77 (.agg #[a, b, c, d]) (.int .i64 3)) W = .ok d W := by kernel_rfl
def Num.TimeOk (n : Int) : Prop := 0 ≤ n ∧ n ≤ 1099511627775
/-- May a message come? -/
structure Num.MsgOk (r : Rep) (m : Msg) : Prop where
  nums : TimeOk m.a3 ∧ TimeOk m.a4 ∧ TimeOk m.a5 ∧ TimeOk m.a6
  one : OneOf m.a1 r.n
  oth : m.a1 ≠ r.id
  to : m.a2 = r.id
  log : LogOk m.log
  pre : m.a0 ≠ 1 ∨ m.log.length = 1
set_option maxRecDepth 100000 in
set_option maxHeartbeats 1000000 in
theorem mayCome_any (B g : Nat) (r : Rep) (o : Msgs) (m : Msg) (bo : Option Addr) (c : Nat)   (w : World) (h : Turn B w g r o) (hs : SrcE B w bo c m.log) :
    Calls Tryz.prog 40 #[.pointer (some ⟨g, 0, none⟩), msV m bo c] w fun e w' => e = .returned (.bool (tru (MsgOk r m))) ∧ Below w.heap.size w w' := by
  have hT := tm_new h #[.int .i64 m.a0, .int .i64 m.a1, .int .i64 m.a2, .int .i64 m.a3, .int .i64 m.a4, .int .i64 m.a5, .int .i64 m.a6, .slice bo m.log.length c]
  have hgw : w.heap.size ≠ g := hT.ne
  have hlow : Below w.heap.size w (w.alloc (.cells #[.int .i64 m.a0, .int .i64 m.a1, .int .i64 m.a2, .int .i64 m.a3, .int .i64 m.a4, .int .i64 m.a5, .int .i64 m.a6, .slice bo m.log.length c] 27)) := (Below.refl _ w).alloc (Nat.le_refl _) _
  have hK := Keep.of_below hlow h.base
  have hs := hs.keep hK
  have hB := h.base
  go_enter Tryz.func40, Tryz.ntmps40
  go_wp2
  clear h
  have hmlt : w.heap.size < (w.alloc (.cells #[.int .i64 m.a0, .int .i64 m.a1, .int .i64 m.a2, .int .i64 m.a3, .int .i64 m.a4, .int .i64 m.a5, .int .i64 m.a6, .slice bo m.log.length c] 27)).heap.size := by simp
  have hmb : (w.alloc (.cells #[.int .i64 m.a0, .int .i64 m.a1, .int .i64 m.a2, .int .i64 m.a3, .int .i64 m.a4, .int .i64 m.a5, .int .i64 m.a6, .slice bo m.log.length c] 27)).heap[w.heap.size]? = some (.cells #[.int .i64 m.a0, .int .i64 m.a1, .int .i64 m.a2, .int .i64 m.a3, .int .i64 m.a4, .int .i64 m.a5, .int .i64 m.a6, .slice bo m.log.length c] 27 (0, 0)) := hT.box
  obtain ⟨MB, hMB⟩ : ∃ M : Nat × Obj, M = (w.heap.size, .cells #[.int .i64 m.a0, .int .i64 m.a1, .int .i64 m.a2, .int .i64 m.a3, .int .i64 m.a4, .int .i64 m.a5, .int .i64 m.a6, .slice bo m.log.length c] 27 (0, 0)) := ⟨_, rfl⟩
  have HMX : Hid (∀ (w3 : World) (r' : Rep) (o' : Msgs), TM MB B w3 g r' o' → w3.heap[w.heap.size]? = some (.cells #[.int .i64 m.a0, .int .i64 m.a1, .int .i64 m.a2, .int .i64 m.a3, .int .i64 m.a4, .int .i64 m.a5, .int .i64 m.a6, .slice bo m.log.length c] 27 (0, 0))) := fun w3 r' o' h3 => by
    have := h3.box
    rw [hMB] at this
    exact this
  rw [← hMB] at hT
  clear hMB
  generalize (w.alloc (.cells #[.int .i64 m.a0, .int .i64 m.a1, .int .i64 m.a2, .int .i64 m.a3, .int .i64 m.a4, .int .i64 m.a5, .int .i64 m.a6, .slice bo m.log.length c] 27)) = W at *
  obtain ⟨sk, xok, xck, ⟨k0, k1, k2, k3, k4, k5, k6, k7, k8, k9, k10, k11, k12, k13⟩, kz, _, kH, _⟩ := hT.turn.cells
  obtain ⟨c0, c1, c2, c3, c4, c5, c6, c7⟩ := msg_cells hmb
  have hif := fun n W => isFrom_any 0 n 1099511627775 W
  have hon := fun W => oneOf_any m.a1 r.n W
  have hty := int_size
  go_loop [17] (fun i => ∃ k : Nat, k ≤ 4 ∧ i = .int .i64 (k : Int) ∧ Hid ((1 ≤ k → TimeOk m.a3) ∧ (2 ≤ k → TimeOk m.a4) ∧ (3 ≤ k → TimeOk m.a5) ∧ (4 ≤ k → TimeOk m.a6))) (fun i => 4 - (intOf i).toNat)
  case atStart => exact ⟨0, by omega, rfl, ⟨fun h => by omega, fun h => by omega, fun h => by omega, fun h => by omega⟩⟩
  case round =>
    obtain ⟨k, hk, rfl, HK⟩ := hrel
    have hk5 : k = 0 ∨ k = 1 ∨ k = 2 ∨ k = 3 ∨ k = 4 := by omega
    rcases hk5 with rfl | rfl | rfl | rfl | rfl
    · have hx := hif m.a3
      by_cases hok : TimeOk m.a3
      · have hok2 : 0 ≤ m.a3 ∧ m.a3 ≤ 1099511627775 := hok
        rw [tru_yes hok2] at hx
        have HOK : Hid (TimeOk m.a3) := hok
        clear hok hok2 hif
        have hix := fun W => idx_0 (.int .i64 m.a3) (.int .i64 m.a4) (.int .i64 m.a5) (.int .i64 m.a6) W
        go_wp2_with (first
          | (go_at_call 39; refine (hx _).mono ?_; rintro e wn ⟨rfl, hq⟩; have hq' := hq.symm; clear hq; subst hq'))
        go_round
        case rel => exact ⟨1, by omega, by go_num, ⟨fun _ => HOK.out, fun h => by omega, fun h => by omega, fun h => by omega⟩⟩
        case measure => simp [intOf]
      · have hok2 : ¬ (0 ≤ m.a3 ∧ m.a3 ≤ 1099511627775) := hok
        rw [tru_no hok2] at hx
        have HE : Hid (tru (MsgOk r m) = false) := tru_no (fun h => hok h.nums.1)
        clear hok hok2 hif
        have hix := fun W => idx_0 (.int .i64 m.a3) (.int .i64 m.a4) (.int .i64 m.a5) (.int .i64 m.a6) W
        go_wp2_with (first
          | (go_at_call 39; refine (hx _).mono ?_; rintro e wn ⟨rfl, hq⟩; have hq' := hq.symm; clear hq; subst hq'))
        go_ret
        exact ⟨by rw [HE.out]; rfl, hlow⟩
    · have hx := hif m.a4
      by_cases hok : TimeOk m.a4
      · have hok2 : 0 ≤ m.a4 ∧ m.a4 ≤ 1099511627775 := hok
        rw [tru_yes hok2] at hx
        have HOK : Hid (TimeOk m.a4) := hok
        clear hok hok2 hif
        have hix := fun W => idx_1 (.int .i64 m.a3) (.int .i64 m.a4) (.int .i64 m.a5) (.int .i64 m.a6) W
        go_wp2_with (first
          | (go_at_call 39; refine (hx _).mono ?_; rintro e wn ⟨rfl, hq⟩; have hq' := hq.symm; clear hq; subst hq'))
        go_round
        case rel => exact ⟨2, by omega, by go_num, ⟨fun _ => HK.out.1 (by omega), fun _ => HOK.out, fun h => by omega, fun h => by omega⟩⟩
        case measure => simp [intOf]
      · have hok2 : ¬ (0 ≤ m.a4 ∧ m.a4 ≤ 1099511627775) := hok
        rw [tru_no hok2] at hx
        have HE : Hid (tru (MsgOk r m) = false) := tru_no (fun h => hok h.nums.2.1)
        clear hok hok2 hif
        have hix := fun W => idx_1 (.int .i64 m.a3) (.int .i64 m.a4) (.int .i64 m.a5) (.int .i64 m.a6) W
        go_wp2_with (first
          | (go_at_call 39; refine (hx _).mono ?_; rintro e wn ⟨rfl, hq⟩; have hq' := hq.symm; clear hq; subst hq'))
        go_ret
        exact ⟨by rw [HE.out]; rfl, hlow⟩
    · have hx := hif m.a5
      by_cases hok : TimeOk m.a5
      · have hok2 : 0 ≤ m.a5 ∧ m.a5 ≤ 1099511627775 := hok
        rw [tru_yes hok2] at hx
        have HOK : Hid (TimeOk m.a5) := hok
        clear hok hok2 hif
        have hix := fun W => idx_2 (.int .i64 m.a3) (.int .i64 m.a4) (.int .i64 m.a5) (.int .i64 m.a6) W
        go_wp2_with (first
          | (go_at_call 39; refine (hx _).mono ?_; rintro e wn ⟨rfl, hq⟩; have hq' := hq.symm; clear hq; subst hq'))
        go_round
        case rel => exact ⟨3, by omega, by go_num, ⟨fun _ => HK.out.1 (by omega), fun _ => HK.out.2.1 (by omega), fun _ => HOK.out, fun h => by omega⟩⟩
        case measure => simp [intOf]
      · have hok2 : ¬ (0 ≤ m.a5 ∧ m.a5 ≤ 1099511627775) := hok
        rw [tru_no hok2] at hx
        have HE : Hid (tru (MsgOk r m) = false) := tru_no (fun h => hok h.nums.2.2.1)
        clear hok hok2 hif
        have hix := fun W => idx_2 (.int .i64 m.a3) (.int .i64 m.a4) (.int .i64 m.a5) (.int .i64 m.a6) W
        go_wp2_with (first
          | (go_at_call 39; refine (hx _).mono ?_; rintro e wn ⟨rfl, hq⟩; have hq' := hq.symm; clear hq; subst hq'))
        go_ret
        exact ⟨by rw [HE.out]; rfl, hlow⟩
    · have hx := hif m.a6
      by_cases hok : TimeOk m.a6
      · have hok2 : 0 ≤ m.a6 ∧ m.a6 ≤ 1099511627775 := hok
        rw [tru_yes hok2] at hx
        have HOK : Hid (TimeOk m.a6) := hok
        clear hok hok2 hif
        have hix := fun W => idx_3 (.int .i64 m.a3) (.int .i64 m.a4) (.int .i64 m.a5) (.int .i64 m.a6) W
        go_wp2_with (first
          | (go_at_call 39; refine (hx _).mono ?_; rintro e wn ⟨rfl, hq⟩; have hq' := hq.symm; clear hq; subst hq'))
        go_round
        case rel => exact ⟨4, by omega, by go_num, ⟨fun _ => HK.out.1 (by omega), fun _ => HK.out.2.1 (by omega), fun _ => HK.out.2.2.1 (by omega), fun _ => HOK.out⟩⟩
        case measure => simp [intOf]
      · have hok2 : ¬ (0 ≤ m.a6 ∧ m.a6 ≤ 1099511627775) := hok
        rw [tru_no hok2] at hx
        have HE : Hid (tru (MsgOk r m) = false) := tru_no (fun h => hok h.nums.2.2.2)
        clear hok hok2 hif
        have hix := fun W => idx_3 (.int .i64 m.a3) (.int .i64 m.a4) (.int .i64 m.a5) (.int .i64 m.a6) W
        go_wp2_with (first
          | (go_at_call 39; refine (hx _).mono ?_; rintro e wn ⟨rfl, hq⟩; have hq' := hq.symm; clear hq; subst hq'))
        go_ret
        exact ⟨by rw [HE.out]; rfl, hlow⟩
    · have HA : Hid (TimeOk m.a3 ∧ TimeOk m.a4 ∧ TimeOk m.a5 ∧ TimeOk m.a6) := ⟨HK.out.1 (by omega), HK.out.2.1 (by omega), HK.out.2.2.1 (by omega), HK.out.2.2.2 (by omega)⟩
      clear HK hif
      by_cases h1 : OneOf m.a1 r.n
      · by_cases h2 : m.a1 = r.id
        · have HE : Hid (tru (MsgOk r m) = false) := tru_no (fun h => h.oth h2)
          have h2b : (m.a1 != r.id) = false := by simp [h2]
          have H2 : Hid (m.a1 = r.id) := h2
          clear h2
          rw [tru_yes h1] at hon
          go_wp2_with fail
          go_quiet (first | (go_at_call 30; refine Calls.quiet_of_same (hon _)))
          have hlV := below_drewN hlow nq
          have hsV := hs.keep (keep_drewN nq hT.base)
          have hTV := hT.drewN nq
          have k0v := (cell_drewN W nq _).trans k0
          have c0v := (cell_drewN W nq _).trans c0
          have c2v := (cell_drewN W nq _).trans c2
          have c7v := (cell_drewN W nq _).trans c7
          have HLL : Hid (LiesE (W.drewN nq) (W.drewN nq).heap.size bo m.log) := hsV.lies hTV.base
          clear hsV hTV
          generalize W.drewN nq = V at *
          have hlog := fun z : Low V => mayLog_any m.log bo c z.wd (liesE_next HLL.out z.low z.low.size)
          have g0 := fun z : Low V => (z.cell (cell_lt k0v)).trans k0v
          have f0 := fun z : Low V => (z.cell (cell_lt c0v)).trans c0v
          have f2 := fun z : Low V => (z.cell (cell_lt c2v)).trans c2v
          have f7 := fun z : Low V => (z.cell (cell_lt c7v)).trans c7v
          go_wp2_with fail
          refine wp_region_low (by kernel_rfl) (by kernel_rfl) fun hsome => ?_
          repeat (go_big_quiet_step (first
            | (go_at_call 55; refine Calls.low_of (hlog _))))
          refine wpQuiet_nil ?_
          rintro _ ⟨z, rfl⟩
          have hz := z.low
          go_wp2
          go_ret
          exact ⟨by rw [HE.out]; rfl, below_next hlV (Nat.le_refl _) hz⟩
        · have h2b : (m.a1 != r.id) = true := by simp [h2]
          by_cases h3 : m.a2 = r.id
          · have h3b : (m.a2 == r.id) = true := by simp [h3]
            have H3 : Hid (m.a2 = r.id) := h3
            clear h3
            by_cases h4 : LogOk m.log
            · by_cases h5 : m.a0 = 1
              · have h5b : (m.a0 != 1) = false := by simp [h5]
                have H5 : Hid (m.a0 = 1) := h5
                clear h5
                by_cases h6 : m.log.length = 1
                · have HE : Hid (tru (MsgOk r m) = true) := tru_yes ⟨HA.out, h1, h2, H3.out, h4, .inr h6⟩
                  have h6b : ((m.log.length : Int) == 1) = true := by simp [h6]
                  have H6 : Hid (m.log.length = 1) := h6
                  clear h6
                  rw [tru_yes h1] at hon
                  go_wp2_with fail
                  go_quiet (first | (go_at_call 30; refine Calls.quiet_of_same (hon _)))
                  have hlV := below_drewN hlow nq
                  have hsV := hs.keep (keep_drewN nq hT.base)
                  have hTV := hT.drewN nq
                  have k0v := (cell_drewN W nq _).trans k0
                  have c0v := (cell_drewN W nq _).trans c0
                  have c2v := (cell_drewN W nq _).trans c2
                  have c7v := (cell_drewN W nq _).trans c7
                  have HLL : Hid (LiesE (W.drewN nq) (W.drewN nq).heap.size bo m.log) := hsV.lies hTV.base
                  clear hsV hTV
                  generalize W.drewN nq = V at *
                  have hlog := fun z : Low V => mayLog_any m.log bo c z.wd (liesE_next HLL.out z.low z.low.size)
                  rw [tru_yes h4] at hlog
                  have g0 := fun z : Low V => (z.cell (cell_lt k0v)).trans k0v
                  have f0 := fun z : Low V => (z.cell (cell_lt c0v)).trans c0v
                  have f2 := fun z : Low V => (z.cell (cell_lt c2v)).trans c2v
                  have f7 := fun z : Low V => (z.cell (cell_lt c7v)).trans c7v
                  go_wp2_with fail
                  refine wp_region_low (by kernel_rfl) (by kernel_rfl) fun hsome => ?_
                  repeat (go_big_quiet_step (first
                    | (go_at_call 55; refine Calls.low_of (hlog _))))
                  refine wpQuiet_nil ?_
                  rintro _ ⟨z, rfl⟩
                  have hz := z.low
                  go_wp2
                  go_ret
                  exact ⟨by rw [HE.out]; rfl, below_next hlV (Nat.le_refl _) hz⟩
                · have HE : Hid (tru (MsgOk r m) = false) := tru_no (fun h => by rcases h.pre with h | h; exact h H5.out; exact h6 h)
                  have h6b : ((m.log.length : Int) == 1) = false := by simp; omega
                  have h6c : ¬ (m.log.length : Int) = 1 := by omega
                  rw [tru_yes h1] at hon
                  go_wp2_with fail
                  go_quiet (first | (go_at_call 30; refine Calls.quiet_of_same (hon _)))
                  have hlV := below_drewN hlow nq
                  have hsV := hs.keep (keep_drewN nq hT.base)
                  have hTV := hT.drewN nq
                  have k0v := (cell_drewN W nq _).trans k0
                  have c0v := (cell_drewN W nq _).trans c0
                  have c2v := (cell_drewN W nq _).trans c2
                  have c7v := (cell_drewN W nq _).trans c7
                  have HLL : Hid (LiesE (W.drewN nq) (W.drewN nq).heap.size bo m.log) := hsV.lies hTV.base
                  clear hsV hTV
                  generalize W.drewN nq = V at *
                  have hlog := fun z : Low V => mayLog_any m.log bo c z.wd (liesE_next HLL.out z.low z.low.size)
                  rw [tru_yes h4] at hlog
                  have g0 := fun z : Low V => (z.cell (cell_lt k0v)).trans k0v
                  have f0 := fun z : Low V => (z.cell (cell_lt c0v)).trans c0v
                  have f2 := fun z : Low V => (z.cell (cell_lt c2v)).trans c2v
                  have f7 := fun z : Low V => (z.cell (cell_lt c7v)).trans c7v
                  go_wp2_with fail
                  refine wp_region_low (by kernel_rfl) (by kernel_rfl) fun hsome => ?_
                  repeat (go_big_quiet_step (first
                    | (go_at_call 55; refine Calls.low_of (hlog _))))
                  refine wpQuiet_nil ?_
                  rintro _ ⟨z, rfl⟩
                  have hz := z.low
                  go_wp2
                  go_ret
                  exact ⟨by rw [HE.out]; rfl, below_next hlV (Nat.le_refl _) hz⟩
              · have HE : Hid (tru (MsgOk r m) = true) := tru_yes ⟨HA.out, h1, h2, H3.out, h4, .inl h5⟩
                have h5b : (m.a0 != 1) = true := by simp [h5]
                rw [tru_yes h1] at hon
                go_wp2_with fail
                go_quiet (first | (go_at_call 30; refine Calls.quiet_of_same (hon _)))
                have hlV := below_drewN hlow nq
                have hsV := hs.keep (keep_drewN nq hT.base)
                have hTV := hT.drewN nq
                have k0v := (cell_drewN W nq _).trans k0
                have c0v := (cell_drewN W nq _).trans c0
                have c2v := (cell_drewN W nq _).trans c2
                have c7v := (cell_drewN W nq _).trans c7
                have HLL : Hid (LiesE (W.drewN nq) (W.drewN nq).heap.size bo m.log) := hsV.lies hTV.base
                clear hsV hTV
                generalize W.drewN nq = V at *
                have hlog := fun z : Low V => mayLog_any m.log bo c z.wd (liesE_next HLL.out z.low z.low.size)
                rw [tru_yes h4] at hlog
                have g0 := fun z : Low V => (z.cell (cell_lt k0v)).trans k0v
                have f0 := fun z : Low V => (z.cell (cell_lt c0v)).trans c0v
                have f2 := fun z : Low V => (z.cell (cell_lt c2v)).trans c2v
                have f7 := fun z : Low V => (z.cell (cell_lt c7v)).trans c7v
                go_wp2_with fail
                refine wp_region_low (by kernel_rfl) (by kernel_rfl) fun hsome => ?_
                repeat (go_big_quiet_step (first
                  | (go_at_call 55; refine Calls.low_of (hlog _))))
                refine wpQuiet_nil ?_
                rintro _ ⟨z, rfl⟩
                have hz := z.low
                go_wp2
                go_ret
                exact ⟨by rw [HE.out]; rfl, below_next hlV (Nat.le_refl _) hz⟩
            · have HE : Hid (tru (MsgOk r m) = false) := tru_no (fun h => h4 h.log)
              rw [tru_yes h1] at hon
              go_wp2_with fail
              go_quiet (first | (go_at_call 30; refine Calls.quiet_of_same (hon _)))
              have hlV := below_drewN hlow nq
              have hsV := hs.keep (keep_drewN nq hT.base)
              have hTV := hT.drewN nq
              have k0v := (cell_drewN W nq _).trans k0
              have c0v := (cell_drewN W nq _).trans c0
              have c2v := (cell_drewN W nq _).trans c2
              have c7v := (cell_drewN W nq _).trans c7
              have HLL : Hid (LiesE (W.drewN nq) (W.drewN nq).heap.size bo m.log) := hsV.lies hTV.base
              clear hsV hTV
              generalize W.drewN nq = V at *
              have hlog := fun z : Low V => mayLog_any m.log bo c z.wd (liesE_next HLL.out z.low z.low.size)
              rw [tru_no h4] at hlog
              have g0 := fun z : Low V => (z.cell (cell_lt k0v)).trans k0v
              have f0 := fun z : Low V => (z.cell (cell_lt c0v)).trans c0v
              have f2 := fun z : Low V => (z.cell (cell_lt c2v)).trans c2v
              have f7 := fun z : Low V => (z.cell (cell_lt c7v)).trans c7v
              go_wp2_with fail
              refine wp_region_low (by kernel_rfl) (by kernel_rfl) fun hsome => ?_
              repeat (go_big_quiet_step (first
                | (go_at_call 55; refine Calls.low_of (hlog _))))
              refine wpQuiet_nil ?_
              rintro _ ⟨z, rfl⟩
              have hz := z.low
              go_wp2
              go_ret
              exact ⟨by rw [HE.out]; rfl, below_next hlV (Nat.le_refl _) hz⟩
          · have HE : Hid (tru (MsgOk r m) = false) := tru_no (fun h => h3 h.to)
            have h3b : (m.a2 == r.id) = false := by simp [h3]
            rw [tru_yes h1] at hon
            go_wp2_with fail
            go_quiet (first | (go_at_call 30; refine Calls.quiet_of_same (hon _)))
            have hlV := below_drewN hlow nq
            have hsV := hs.keep (keep_drewN nq hT.base)
            have hTV := hT.drewN nq
            have k0v := (cell_drewN W nq _).trans k0
            have c0v := (cell_drewN W nq _).trans c0
            have c2v := (cell_drewN W nq _).trans c2
            have c7v := (cell_drewN W nq _).trans c7
            have HLL : Hid (LiesE (W.drewN nq) (W.drewN nq).heap.size bo m.log) := hsV.lies hTV.base
            clear hsV hTV
            generalize W.drewN nq = V at *
            have hlog := fun z : Low V => mayLog_any m.log bo c z.wd (liesE_next HLL.out z.low z.low.size)
            have g0 := fun z : Low V => (z.cell (cell_lt k0v)).trans k0v
            have f0 := fun z : Low V => (z.cell (cell_lt c0v)).trans c0v
            have f2 := fun z : Low V => (z.cell (cell_lt c2v)).trans c2v
            have f7 := fun z : Low V => (z.cell (cell_lt c7v)).trans c7v
            go_wp2_with fail
            refine wp_region_low (by kernel_rfl) (by kernel_rfl) fun hsome => ?_
            repeat (go_big_quiet_step (first
              | (go_at_call 55; refine Calls.low_of (hlog _))))
            refine wpQuiet_nil ?_
            rintro _ ⟨z, rfl⟩
            have hz := z.low
            go_wp2
            go_ret
            exact ⟨by rw [HE.out]; rfl, below_next hlV (Nat.le_refl _) hz⟩
      · have HE : Hid (tru (MsgOk r m) = false) := tru_no (fun h => h1 h.one)
        rw [tru_no h1] at hon
        go_wp2_with fail
        go_quiet (first | (go_at_call 30; refine Calls.quiet_of_same (hon _)))
        have hlV := below_drewN hlow nq
        have hsV := hs.keep (keep_drewN nq hT.base)
        have hTV := hT.drewN nq
        have k0v := (cell_drewN W nq _).trans k0
        have c0v := (cell_drewN W nq _).trans c0
        have c2v := (cell_drewN W nq _).trans c2
        have c7v := (cell_drewN W nq _).trans c7
        have HLL : Hid (LiesE (W.drewN nq) (W.drewN nq).heap.size bo m.log) := hsV.lies hTV.base
        clear hsV hTV
        generalize W.drewN nq = V at *
        have hlog := fun z : Low V => mayLog_any m.log bo c z.wd (liesE_next HLL.out z.low z.low.size)
        have g0 := fun z : Low V => (z.cell (cell_lt k0v)).trans k0v
        have f0 := fun z : Low V => (z.cell (cell_lt c0v)).trans c0v
        have f2 := fun z : Low V => (z.cell (cell_lt c2v)).trans c2v
        have f7 := fun z : Low V => (z.cell (cell_lt c7v)).trans c7v
        go_wp2_with fail
        refine wp_region_low (by kernel_rfl) (by kernel_rfl) fun hsome => ?_
        repeat (go_big_quiet_step (first
          | (go_at_call 55; refine Calls.low_of (hlog _))))
        refine wpQuiet_nil ?_
        rintro _ ⟨z, rfl⟩
        have hz := z.low
        go_wp2
        go_ret
        exact ⟨by rw [HE.out]; rfl, below_next hlV (Nat.le_refl _) hz⟩
end Go.Proofs.YtajbdffepfjegaaGreat
namespace Go.Proofs.YtajbdffepfjegaaGreat
open Go.RowKit Num
open scoped Classical
set_option linter.unusedVariables false
set_option maxRecDepth 100000
/-- What takes each kind, in their order. -/
abbrev Num.kindsV (g : Nat) : Array Value := #[.func (.func 59) #[.pointer (some ⟨g, 0, none⟩)] #[], .func (.func 60) #[.pointer (some ⟨g, 0, none⟩)] #[], .func (.func 61) #[.pointer (some ⟨g, 0, none⟩)] #[], .func (.func 62) #[.pointer (some ⟨g, 0, none⟩)] #[], .func (.func 63) #[.pointer (some ⟨g, 0, none⟩)] #[], .func (.func 64) #[.pointer (some ⟨g, 0, none⟩)] #[], .func (.func 65) #[.pointer (some ⟨g, 0, none⟩)] #[], .func (.func 66) #[.pointer (some ⟨g, 0, none⟩)] #[]]
set_option maxRecDepth 100000 in
set_option maxHeartbeats 1000000 in
theorem kinds_any (g : Nat) (w : World) :
    Calls Tryz.prog 38 #[.pointer (some ⟨g, 0, none⟩)] w fun e w' => e = .returned (.slice (some ⟨w.heap.size, 0, none⟩) 8 8) ∧ ∃ t, w' = w.alloc (.cells (kindsV g) t (0, 0)) := by
  have hmf : ∀ (fn : Fn) (first cap : Array Value) (w : World), (Instr.makeFunc fn first cap).run Tryz.prog w = .ok (.func fn first cap) w := fun _ _ _ _ => rfl
  go_enter Tryz.func38, Tryz.ntmps38
  go_wp2
  go_ret
  exact ⟨rfl, _, rfl⟩
end Go.Proofs.YtajbdffepfjegaaGreat
