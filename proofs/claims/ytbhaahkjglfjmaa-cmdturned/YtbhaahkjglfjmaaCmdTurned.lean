/-
  Proved: for every command, place and byte the law CmdTurned returns true: the bytes of a command that has some, of which one is turned, are refused by cmd.Get, with nothing told (13.4), and the document's example holds; the command reads behind the call as before. No condition.
-/
import Derived.Test.YtbhaahkjglfjmaaRows
import Derived.Test.YtbhaahkjglfjmaaCPut
import Derived.Test.YtbhaahkjglfjmaaCGreat
import Derived.Test.YtbhaahkjglfjmaaCGetB
import Derived.Test.YtbhaahkjglfjmaaSByt
import Derived.Test.YtbhaahkjglfjmaaCSpoil
import Derived.WalkKit
import Derived.ProofKit
import Derived.OpenShut
import Derived.ShutString
import Derived.Lib.SmallJoins
namespace Go.Proofs.Ytbhaahkjglfjmaa.cmdTurned
open Go.ChangeShapes Go.WideShapes Go.ChangeAt Go.RowKit Go.Joins Num
open Go.ChangeMaps (open_string shut_string)
set_option linter.unusedVariables false

theorem own : ownKnob Try.prog.godebug = none := by kernel_rfl

open scoped Classical
set_option maxRecDepth 100000
set_option maxHeartbeats 4000000
theorem turn_ne (c : UInt8) (f : Nat) (hf : f < 256) : ∃ d : UInt8, d ≠ c ∧ bits .xor .u8 (c.toNat : Int) (1 + (f : Int) % 255) = (d.toNat : Int) := by
  have hb := c.toNat_lt
  have h := u8_xor_nat c.toNat (1 + f % 255) (by omega) (by omega)
  have hlt : c.toNat ^^^ (1 + f % 255) < 256 := Nat.xor_lt_two_pow (n := 8) (by omega) (by omega)
  refine ⟨UInt8.ofNat (c.toNat ^^^ (1 + f % 255)), ?_, ?_⟩
  · intro e
    have e2 := congrArg UInt8.toNat e
    rw [UInt8.toNat_ofNat', Nat.mod_eq_of_lt hlt] at e2
    have e3 : c.toNat ^^^ (c.toNat ^^^ (1 + f % 255)) = 0 := by rw [e2, Nat.xor_self]
    rw [← Nat.xor_assoc, Nat.xor_self, Nat.zero_xor] at e3
    omega
  · rw [UInt8.toNat_ofNat', Nat.mod_eq_of_lt hlt, ← h]
    rfl
theorem core_bad (c0 : Cmd) (s0 : Cs) (w : World) (hl0 : LiesC w w.heap.size s0 c0) (a1 : Int) (f2 : Nat) (E : Int) (hE : ¬ E = 0)
    (hg : ∀ w, LiesC w w.heap.size s0 c0 → Calls Try.prog 8 #[.agg #[.int .i64 c0.kind, .int .i64 c0.client, .int .i64 c0.seq, .int .i64 c0.snap, .slice s0.ko c0.keys.length s0.kc, .slice s0.ro c0.rngs.length s0.rc, .slice s0.wo c0.wrts.length s0.wc, .int .i64 c0.dead, .int .i64 c0.aft, .int .i64 c0.held, .string c0.text, .int .i64 c0.code, .slice s0.xo c0.rows.length s0.xc]] w fun e w' => e = .returned (.bool false) ∧ Below w.heap.size w w')
    (h1 : ∀ w, LiesC w w.heap.size s0 c0 → Calls Try.prog 12 #[.agg #[.int .i64 c0.kind, .int .i64 c0.client, .int .i64 c0.seq, .int .i64 c0.snap, .slice s0.ko c0.keys.length s0.kc, .slice s0.ro c0.rngs.length s0.rc, .slice s0.wo c0.wrts.length s0.wc, .int .i64 c0.dead, .int .i64 c0.aft, .int .i64 c0.held, .string c0.text, .int .i64 c0.code, .slice s0.xo c0.rows.length s0.xc]] w fun e w' => e = .returned (.tuple #[.string ⟨#[]⟩, .int .i64 E]) ∧ Below w.heap.size w w') :
    Calls Try.prog 7 #[.agg #[.int .i64 c0.kind, .int .i64 c0.client, .int .i64 c0.seq, .int .i64 c0.snap, .slice s0.ko c0.keys.length s0.kc, .slice s0.ro c0.rngs.length s0.rc, .slice s0.wo c0.wrts.length s0.wc, .int .i64 c0.dead, .int .i64 c0.aft, .int .i64 c0.held, .string c0.text, .int .i64 c0.code, .slice s0.xo c0.rows.length s0.xc], .int .i64 a1, .int .u8 (f2 : Int)] w fun e w' => e = .returned (.bool true) ∧ Below w.heap.size w w' := by
  have hbx := heap_new w (.cells #[.int .i64 c0.kind, .int .i64 c0.client, .int .i64 c0.seq, .int .i64 c0.snap, .slice s0.ko c0.keys.length s0.kc, .slice s0.ro c0.rngs.length s0.rc, .slice s0.wo c0.wrts.length s0.wc, .int .i64 c0.dead, .int .i64 c0.aft, .int .i64 c0.held, .string c0.text, .int .i64 c0.code, .slice s0.xo c0.rows.length s0.xc] 27)
  have hla := liesC_alloc hl0 (.cells #[.int .i64 c0.kind, .int .i64 c0.client, .int .i64 c0.seq, .int .i64 c0.snap, .slice s0.ko c0.keys.length s0.kc, .slice s0.ro c0.rngs.length s0.rc, .slice s0.wo c0.wrts.length s0.wc, .int .i64 c0.dead, .int .i64 c0.aft, .int .i64 c0.held, .string c0.text, .int .i64 c0.code, .slice s0.xo c0.rows.length s0.xc] 27)
  have hE1 : (E == 0) = false := by simp [hE]
  have hE2 : (E != 0) = true := by simp [hE]
  go_enter Try.func7, Try.ntmps7
  go_wp2_with (first
    | (go_at_call 8; refine (hg _ hla).mono ?_; rintro e w1 ⟨rfl, hb1⟩; have b1 := below_box hb1 hbx; have xc0 := box_cell b1 0 _ rfl; have xc1 := box_cell b1 1 _ rfl; have xc2 := box_cell b1 2 _ rfl; have xc3 := box_cell b1 3 _ rfl; have xc4 := box_cell b1 4 _ rfl; have xc5 := box_cell b1 5 _ rfl; have xc6 := box_cell b1 6 _ rfl; have xc7 := box_cell b1 7 _ rfl; have xc8 := box_cell b1 8 _ rfl; have xc9 := box_cell b1 9 _ rfl; have xc10 := box_cell b1 10 _ rfl; have xc11 := box_cell b1 11 _ rfl; have xc12 := box_cell b1 12 _ rfl; have hl1 := liesC_next hla hb1)
    | (go_at_call 12; refine (h1 _ hl1).mono ?_; rintro e w2 ⟨rfl, hb2⟩)
    | (go_at_call 14; refine (num_any _ _).mono ?_; rintro e w4 ⟨rfl, hw4⟩; have hq4 := hw4.symm; clear hw4; subst hq4)
    | (go_at_call 11; refine (awake_any _).mono ?_; rintro e w5 ⟨rfl, hb5⟩))
  go_ret
  exact ⟨rfl, below_next (below_next (below_box0 hb1) (Nat.le_refl _) hb2) (Nat.le_refl _) hb5⟩
theorem core (c0 : Cmd) (s0 : Cs) (w : World) (hl0 : LiesC w w.heap.size s0 c0) (A : ByteArray) (hA1 : 0 < A.size) (hA2 : A.size ≤ 30000) (a1 : Int) (f2 : Nat) (hf2 : f2 < 256)
    (hg : ∀ w, LiesC w w.heap.size s0 c0 → Calls Try.prog 8 #[.agg #[.int .i64 c0.kind, .int .i64 c0.client, .int .i64 c0.seq, .int .i64 c0.snap, .slice s0.ko c0.keys.length s0.kc, .slice s0.ro c0.rngs.length s0.rc, .slice s0.wo c0.wrts.length s0.wc, .int .i64 c0.dead, .int .i64 c0.aft, .int .i64 c0.held, .string c0.text, .int .i64 c0.code, .slice s0.xo c0.rows.length s0.xc]] w fun e w' => e = .returned (.bool false) ∧ Below w.heap.size w w')
    (h1 : ∀ w, LiesC w w.heap.size s0 c0 → Calls Try.prog 12 #[.agg #[.int .i64 c0.kind, .int .i64 c0.client, .int .i64 c0.seq, .int .i64 c0.snap, .slice s0.ko c0.keys.length s0.kc, .slice s0.ro c0.rngs.length s0.rc, .slice s0.wo c0.wrts.length s0.wc, .int .i64 c0.dead, .int .i64 c0.aft, .int .i64 c0.held, .string c0.text, .int .i64 c0.code, .slice s0.xo c0.rows.length s0.xc]] w fun e w' => e = .returned (.tuple #[.string A, .int .i64 0]) ∧ Below w.heap.size w w')
    (h3 : ∀ (k : Nat) (hk : k < A.data.toList.length) (d : UInt8), d ≠ A.data.toList[k] → ∀ w, Calls Try.prog 15 #[.string (str (A.data.toList.set k d))] w fun e w' => e = .returned (.tuple #[.agg #[.int .i64 0, .int .i64 0, .int .i64 0, .int .i64 0, .slice none 0 0, .slice none 0 0, .slice none 0 0, .int .i64 0, .int .i64 0, .int .i64 0, .string ⟨#[]⟩, .int .i64 0, .slice none 0 0], .int .i64 3]) ∧ Below w.heap.size w w') :
    Calls Try.prog 7 #[.agg #[.int .i64 c0.kind, .int .i64 c0.client, .int .i64 c0.seq, .int .i64 c0.snap, .slice s0.ko c0.keys.length s0.kc, .slice s0.ro c0.rngs.length s0.rc, .slice s0.wo c0.wrts.length s0.wc, .int .i64 c0.dead, .int .i64 c0.aft, .int .i64 c0.held, .string c0.text, .int .i64 c0.code, .slice s0.xo c0.rows.length s0.xc], .int .i64 a1, .int .u8 (f2 : Int)] w fun e w' => e = .returned (.bool true) ∧ Below w.heap.size w w' := by
  have hbx := heap_new w (.cells #[.int .i64 c0.kind, .int .i64 c0.client, .int .i64 c0.seq, .int .i64 c0.snap, .slice s0.ko c0.keys.length s0.kc, .slice s0.ro c0.rngs.length s0.rc, .slice s0.wo c0.wrts.length s0.wc, .int .i64 c0.dead, .int .i64 c0.aft, .int .i64 c0.held, .string c0.text, .int .i64 c0.code, .slice s0.xo c0.rows.length s0.xc] 27)
  have hla := liesC_alloc hl0 (.cells #[.int .i64 c0.kind, .int .i64 c0.client, .int .i64 c0.seq, .int .i64 c0.snap, .slice s0.ko c0.keys.length s0.kc, .slice s0.ro c0.rngs.length s0.rc, .slice s0.wo c0.wrts.length s0.wc, .int .i64 c0.dead, .int .i64 c0.aft, .int .i64 c0.held, .string c0.text, .int .i64 c0.code, .slice s0.xo c0.rows.length s0.xc] 27)
  have hd : A.data.toList.length = A.size := rfl
  obtain ⟨u, k, hu, hk, hkm⟩ := place_mod a1 A.size hA1
  obtain ⟨d, hdn, hx⟩ := turn_ne (A.data.toList[k]'(by omega)) f2 hf2
  have h3' := h3 k (by omega) d hdn
  clear h3
  have hrow : ∀ w1, Below w.heap.size w w1 → ∃ cap W, (convert 9 46 (.string A)).run Try.prog w1 = .ok (.slice (some ⟨w1.heap.size, 0, none⟩) A.size cap) W ∧
      W.cell? ⟨w1.heap.size, k, none⟩ = some (.int .u8 ((A.data.toList[k]'(by omega)).toNat : Int)) ∧ W.frozen? ⟨w1.heap.size, k, none⟩ = false ∧
      (convert 46 9 (.slice (some ⟨w1.heap.size, 0, none⟩) A.size cap)).run Try.prog (W.setCell ⟨w1.heap.size, k, none⟩ (.int .u8 (d.toNat : Int))) = .ok (.string (str (A.data.toList.set k d))) (W.setCell ⟨w1.heap.size, k, none⟩ (.int .u8 (d.toNat : Int))) ∧
      Below w.heap.size w (W.setCell ⟨w1.heap.size, k, none⟩ (.int .u8 (d.toNat : Int))) := by
    intro w1 hb1
    obtain ⟨cap, W, hcv, hbW, hby⟩ := bytes_fresh A w1
    have hset := hby.set k (by omega) d _ rfl
    exact ⟨cap, W, hcv, (hby k (by omega)).1, (hby k (by omega)).2, hset.conv cap A.size (by rw [List.length_set, hd]), (below_next hb1 (Nat.le_refl _) hbW).setCell hb1.size _⟩
  generalize A.data.toList[k] = c at *
  generalize str (A.data.toList.set k d) = A2 at *
  have hne : A.toList.isEmpty = false := by
    rw [List.isEmpty_eq_false_iff]
    intro e
    rw [Lib.toList_data] at e
    have : A.data.toList.length = 0 := by rw [e]; rfl
    omega
  go_enter Try.func7, Try.ntmps7
  go_wp2_with (first
    | (go_at_call 8; refine (hg _ hla).mono ?_; rintro e w1 ⟨rfl, hb1⟩; have b1 := below_box hb1 hbx; have xc0 := box_cell b1 0 _ rfl; have xc1 := box_cell b1 1 _ rfl; have xc2 := box_cell b1 2 _ rfl; have xc3 := box_cell b1 3 _ rfl; have xc4 := box_cell b1 4 _ rfl; have xc5 := box_cell b1 5 _ rfl; have xc6 := box_cell b1 6 _ rfl; have xc7 := box_cell b1 7 _ rfl; have xc8 := box_cell b1 8 _ rfl; have xc9 := box_cell b1 9 _ rfl; have xc10 := box_cell b1 10 _ rfl; have xc11 := box_cell b1 11 _ rfl; have xc12 := box_cell b1 12 _ rfl; have hl1 := liesC_next hla hb1)
    | (go_at_call 12; refine (h1 _ hl1).mono ?_; rintro e w3 ⟨rfl, hb3⟩; obtain ⟨cap, W, hcv, hk1, hk2, hconv, hb4⟩ := hrow w3 (below_next (below_box0 hb1) (Nat.le_refl _) hb3); clear hrow)
    | (go_at_call 15; refine (h3' _).mono ?_; rintro e w5 ⟨rfl, hb5⟩)
    | (go_at_call 14; refine (num_any _ _).mono ?_; rintro e w6 ⟨rfl, hw6⟩; have hq6 := hw6.symm; clear hw6; subst hq6)
    | (go_at_call 16; refine (same0 _).mono ?_; rintro e w8 ⟨rfl, hb8⟩)
    | (go_at_call 11; refine (awake_any _).mono ?_; rintro e w7 ⟨rfl, hb7⟩))
  go_ret
  exact ⟨rfl, below_next (below_next (below_next hb4 (Nat.le_refl _) hb5) (Nat.le_refl _) (below_box0 hb8)) (Nat.le_refl _) hb7⟩

theorem walk (c0 : Cmd) (hin0 : CmdIn c0) (s0 : Cs) (a1 : Int) (ha1 : -9223372036854775808 ≤ a1 ∧ a1 ≤ 9223372036854775807) (f2 : Nat) (hf2 : f2 < 256) (w : World) (hl0 : LiesC w w.heap.size s0 c0) :
    Calls Try.prog 7 #[.agg #[.int .i64 c0.kind, .int .i64 c0.client, .int .i64 c0.seq, .int .i64 c0.snap, .slice s0.ko c0.keys.length s0.kc, .slice s0.ro c0.rngs.length s0.rc, .slice s0.wo c0.wrts.length s0.wc, .int .i64 c0.dead, .int .i64 c0.aft, .int .i64 c0.held, .string c0.text, .int .i64 c0.code, .slice s0.xo c0.rows.length s0.xc], .int .i64 a1, .int .u8 (f2 : Int)] w fun e w' => e = .returned (.bool true) ∧ Below w.heap.size w w' := by
  have hg := fun w h => great_any c0 s0 w h
  have hla := liesC_alloc hl0 (.cells #[.int .i64 c0.kind, .int .i64 c0.client, .int .i64 c0.seq, .int .i64 c0.snap, .slice s0.ko c0.keys.length s0.kc, .slice s0.ro c0.rngs.length s0.rc, .slice s0.wo c0.wrts.length s0.wc, .int .i64 c0.dead, .int .i64 c0.aft, .int .i64 c0.held, .string c0.text, .int .i64 c0.code, .slice s0.xo c0.rows.length s0.xc] 27)
  by_cases q : ¬ SmallC c0
  · rw [tru_yes q] at hg
    go_enter Try.func7, Try.ntmps7
    go_wp2_with (first
      | (go_at_call 8; refine (hg _ hla).mono ?_; rintro e w1 ⟨rfl, hb1⟩)
      | (go_at_call 11; refine (awake_any _).mono ?_; rintro e w5 ⟨rfl, hb5⟩))
    go_ret
    exact ⟨rfl, below_next (below_box0 hb1) (Nat.le_refl _) hb5⟩
  · rw [tru_no q] at hg
    have hsm : SmallC c0 := Classical.not_not.1 q
    clear hla
    by_cases hx : CmdOk c0
    · have hlen := cmd_len hx hsm
      by_cases hz : (cmdB c0).length ≤ 19996
      · have hA : (str (sealL (cmdB c0))).size = (cmdB c0).length + 4 := by rw [str_size, sealL_len]
        refine core c0 s0 w hl0 _ (by omega) (by omega) a1 f2 hf2 hg (dput_yes c0 hx hz s0) ?_
        intro k hk d hdn w
        simp only [str_data] at hk hdn ⊢
        refine dget_none _ (by rw [str_size, List.length_set, sealL_len]; omega) ?_ w
        rw [str_data]
        exact open_turned (cmdB c0) k hk d hdn
      · exact core_bad c0 s0 w hl0 a1 f2 2 (by omega) hg (dput_long c0 hx (by omega) (by omega) s0)
    · exact core_bad c0 s0 w hl0 a1 f2 1 (by omega) hg (dput_no c0 hx s0)

set_option maxRecDepth 100000 in
theorem lifted (os : Os) (started : os.Started) (H : Type) (enc : TypeId × Value → H) :
    ReturnsInHanded {} Try.checked os 7 .any (Rows.cmdTurnedSpec.pre6 enc Try.prog Try.f7 Rows.cmdTurnedRow.domain false) (Rows.cmdTurnedSpec.post enc Try.prog Try.f7 false true false false) := by
  refine returnsInHanded_of_change (C := Try.checked) own started (by kernel_rfl) Try.func7
    (ChangeSpec.witness6 (enc := enc) (C := Try.checked) false ⟨#[], #[.agg #[.int .i64 0, .int .i64 0, .int .i64 0, .int .i64 0, .slice none 0 0, .slice none 0 0, .slice none 0 0, .int .i64 0, .int .i64 0, .int .i64 0, .string ⟨#[]⟩, .int .i64 0, .slice none 0 0], .int .i64 0, .int .u8 0], []⟩ 8 (by kernel_rfl) (by kernel_rfl) (by kernel_rfl) (by kernel_rfl)) ?_
  intro W base args ds gs before hval0 hW hcnd _
  have hval : ∀ (j : Nat) t v, Try.f7.params[j]? = some t → args[j]? = some v → Value.okWide Try.prog W .any base t v := hval0
  have hW' := hW
  have hWk := hW
  obtain ⟨p, q, hA0, hV, rfl, hfz, hnd⟩ := hW
  have hA : DataW.TrodAll enc Try.prog W 0 (fun _ => true) true Try.f7.params.toList args.toList ds p := hA0
  rw [Try.params7] at hA hval
  obtain ⟨v0, vs0, d0, ds0, p0, q0, hargs, rfl, rfl, h0, rt0⟩ := trodAll_cons hA
  obtain ⟨v1, vs1, d1, ds1, p1, q1, rfl, rfl, rfl, h1, rt1⟩ := trodAll_cons rt0
  obtain ⟨v2, vs2, d2, ds2, p2, q2, rfl, rfl, rfl, h2, rt2⟩ := trodAll_cons rt1
  obtain ⟨rfl, rfl, rfl⟩ := trodAll_nil rt2
  obtain rfl : args = #[v0, v1, v2] := by cases args; simp_all
  obtain ⟨rfl, rfl⟩ := trodVars_none hV
  have hk0 := h0
  obtain ⟨c0, s0, rfl, hin0, hlies0⟩ := open_cmd (hval 0 27 v0 rfl rfl) h0
  have hlt0 : ∀ x ∈ p0, x.block < W.heap.size := fun x hx => by simpa using hWk.lt x (by simp [hx])
  obtain ⟨a1, rfl, rfl, rfl, wa1⟩ := open_int Try.underlying3 (hval 1 3 v1 rfl rfl) h1
  have ba1 := bounds_i64 wa1
  obtain ⟨g2, rfl, rfl, rfl, wf2⟩ := open_int Try.underlying5 (hval 2 5 v2 rfl rfl) h2
  have bf2 := bounds_u8 wf2
  obtain ⟨f2, rfl⟩ := Int.eq_ofNat_of_zero_le bf2.1
  clear hA0 hval0
  simp only [List.append_nil] at hW'

  refine (walk c0 hin0 s0 a1 (by omega) f2 (by omega) W hlies0).mono fun e W' ⟨he, hg⟩ => ?_
  subst he
  exact ⟨_, rfl, _, _, _, [], _, [], hW', trodAll_cons_mk (shut_bool Try.underlying4 _) trodAll_mk0, (trodAll_cons_mk (Below.trod Try.laidOut (by kernel_rfl) (of_decide_eq_true (by kernel_rfl)) hk0 hg hlt0) (trodAll_cons_mk (shut_int Try.underlying3 wa1) (trodAll_cons_mk (shut_int Try.underlying5 wf2) trodAll_mk0))), rfl, hg.frame _, fun h => by cases h⟩

theorem over : Rows.cmdTurnedRow.holds Try.pinned (OpenSpec.ofChange Rows.cmdTurnedSpec) :=
  OpenClaim.holds_of_wide 7 Try.f7 rfl rfl rfl rfl rfl rfl rfl ⟨rfl, rfl, rfl, rfl, rfl⟩ rfl rfl rfl rfl rfl (by kernel_rfl) Try.func7 (by kernel_rfl)
    (of_decide_eq_true (by kernel_rfl)) (by unfold Func.isWrapper; first | (rw [if_pos (by decide +kernel)]; kernel_rfl) | (rw [if_neg (by decide +kernel)]; exact ⟨rfl, rfl⟩))
    (fun os started H enc _ => lifted os started H enc)

theorem proved : Rows.CmdTurnedSaid :=
  over
#print axioms proved
end Go.Proofs.Ytbhaahkjglfjmaa.cmdTurned
