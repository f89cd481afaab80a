/-
  Contracts: the bytes of a command, or that it is refused (13.2): of the program; the document's example; an error's number.
-/
import Derived.Test.YtclliljkmmpglaaGreatBase
import Derived.Test.YtclliljkmmpglaaGreatCMayC
import Derived.Test.YtclliljkmmpglaaGreatSeal
namespace Go.Proofs.YtclliljkmmpglaaGreat
open Go.RowKit Num
open scoped Classical
set_option linter.unusedVariables false
set_option maxRecDepth 100000

set_option maxRecDepth 100000 in
set_option maxHeartbeats 2000000 in
theorem dput_yes (c : Cmd) (hx : CmdOk c) (hlen : (cmdB c).length ≤ 19996) (s : Cs) (w : World) (hl : LiesC w w.heap.size s c) :
    Calls Tryz.prog 69 #[.agg #[.int .i64 c.kind, .int .i64 c.client, .int .i64 c.seq, .int .i64 c.snap, .slice s.ko c.keys.length s.kc, .slice s.ro c.rngs.length s.rc, .slice s.wo c.wrts.length s.wc, .int .i64 c.dead, .int .i64 c.aft, .int .i64 c.held, .string c.text, .int .i64 c.code, .slice s.xo c.rows.length s.xc]] w fun e w' => e = .returned (.tuple #[.string (str (sealL (cmdB c))), .int .i64 0]) ∧ Below w.heap.size w w' := by
  have hbx := heap_new w (.cells #[.int .i64 c.kind, .int .i64 c.client, .int .i64 c.seq, .int .i64 c.snap, .slice s.ko c.keys.length s.kc, .slice s.ro c.rngs.length s.rc, .slice s.wo c.wrts.length s.wc, .int .i64 c.dead, .int .i64 c.aft, .int .i64 c.held, .string c.text, .int .i64 c.code, .slice s.xo c.rows.length s.xc] 41)
  have hla := liesC_alloc hl (.cells #[.int .i64 c.kind, .int .i64 c.client, .int .i64 c.seq, .int .i64 c.snap, .slice s.ko c.keys.length s.kc, .slice s.ro c.rngs.length s.rc, .slice s.wo c.wrts.length s.wc, .int .i64 c.dead, .int .i64 c.aft, .int .i64 c.held, .string c.text, .int .i64 c.code, .slice s.xo c.rows.length s.xc] 41)
  have hm := may_cmd c s _ hla
  rw [tru_yes hx] at hm
  have hp : ∀ w5, Below (w.alloc (.cells #[.int .i64 c.kind, .int .i64 c.client, .int .i64 c.seq, .int .i64 c.snap, .slice s.ko c.keys.length s.kc, .slice s.ro c.rngs.length s.rc, .slice s.wo c.wrts.length s.wc, .int .i64 c.dead, .int .i64 c.aft, .int .i64 c.held, .string c.text, .int .i64 c.code, .slice s.xo c.rows.length s.xc] 41)).heap.size (w.alloc (.cells #[.int .i64 c.kind, .int .i64 c.client, .int .i64 c.seq, .int .i64 c.snap, .slice s.ko c.keys.length s.kc, .slice s.ro c.rngs.length s.rc, .slice s.wo c.wrts.length s.wc, .int .i64 c.dead, .int .i64 c.aft, .int .i64 c.held, .string c.text, .int .i64 c.code, .slice s.xo c.rows.length s.xc] 41)) w5 → Calls Tryz.prog 117 #[.slice none 0 0, .agg #[.int .i64 c.kind, .int .i64 c.client, .int .i64 c.seq, .int .i64 c.snap, .slice s.ko c.keys.length s.kc, .slice s.ro c.rngs.length s.rc, .slice s.wo c.wrts.length s.wc, .int .i64 c.dead, .int .i64 c.aft, .int .i64 c.held, .string c.text, .int .i64 c.code, .slice s.xo c.rows.length s.xc]] w5 fun e w' => ∃ v', e = .returned v' ∧ Cur w5.heap.size w5 w' v' (cmdB c) := fun w5 hb5 => by
    have hc : Cur w5.heap.size w5 w5 (.slice none 0 0) [] := ⟨World.ownsRow_nil _ _ _ _, Below.refl _ _, Stay.refl _ _ _, Nat.le_refl _⟩
    exact dcmd_any c s hc (liesC_next hla hb5) (by simp; omega)
  have hz : (str (cmdB c)).size ≤ 900000 := by rw [str_size]; omega
  have hs := sealput_any (str (cmdB c)) hz
  rw [str_data] at hs
  have hS : ¬ 20000 < ((str (sealL (cmdB c))).size : Int) := by rw [str_size, sealL_len]; omega
  clear hx hl hla hz
  generalize sealL (cmdB c) = S at *
  go_enter Tryz.func69, Tryz.ntmps69
  go_wp2_with (first
    | (go_at_call 115; refine hm.mono ?_; rintro e w5 ⟨rfl, hb5⟩; have b5 := below_box hb5 hbx; have c0 := box_cell b5 0 _ rfl; have c1 := box_cell b5 1 _ rfl; have c2 := box_cell b5 2 _ rfl; have c3 := box_cell b5 3 _ rfl; have c4 := box_cell b5 4 _ rfl; have c5 := box_cell b5 5 _ rfl; have c6 := box_cell b5 6 _ rfl; have c7 := box_cell b5 7 _ rfl; have c8 := box_cell b5 8 _ rfl; have c9 := box_cell b5 9 _ rfl; have c10 := box_cell b5 10 _ rfl; have c11 := box_cell b5 11 _ rfl; have c12 := box_cell b5 12 _ rfl)
    | (go_at_call 117; refine (hp _ hb5).mono ?_; rintro e w6 ⟨v6, rfl, h6⟩; have hconv := conv_own w6 _ _ _ _ h6.own)
    | (go_at_call 116; refine (hs _).mono ?_; rintro e w7 ⟨rfl, hb7⟩))
  go_ret2
  exact ⟨rfl, below_next (below_next (below_box0 hb5) (Nat.le_refl _) h6.low) (Nat.le_refl _) hb7⟩
set_option maxRecDepth 100000 in
set_option maxHeartbeats 2000000 in
theorem dput_long (c : Cmd) (hx : CmdOk c) (hlen : 19996 < (cmdB c).length) (hlen2 : (cmdB c).length ≤ 800000) (s : Cs) (w : World) (hl : LiesC w w.heap.size s c) :
    Calls Tryz.prog 69 #[.agg #[.int .i64 c.kind, .int .i64 c.client, .int .i64 c.seq, .int .i64 c.snap, .slice s.ko c.keys.length s.kc, .slice s.ro c.rngs.length s.rc, .slice s.wo c.wrts.length s.wc, .int .i64 c.dead, .int .i64 c.aft, .int .i64 c.held, .string c.text, .int .i64 c.code, .slice s.xo c.rows.length s.xc]] w fun e w' => e = .returned (.tuple #[.string ⟨#[]⟩, .int .i64 2]) ∧ Below w.heap.size w w' := by
  have hbx := heap_new w (.cells #[.int .i64 c.kind, .int .i64 c.client, .int .i64 c.seq, .int .i64 c.snap, .slice s.ko c.keys.length s.kc, .slice s.ro c.rngs.length s.rc, .slice s.wo c.wrts.length s.wc, .int .i64 c.dead, .int .i64 c.aft, .int .i64 c.held, .string c.text, .int .i64 c.code, .slice s.xo c.rows.length s.xc] 41)
  have hla := liesC_alloc hl (.cells #[.int .i64 c.kind, .int .i64 c.client, .int .i64 c.seq, .int .i64 c.snap, .slice s.ko c.keys.length s.kc, .slice s.ro c.rngs.length s.rc, .slice s.wo c.wrts.length s.wc, .int .i64 c.dead, .int .i64 c.aft, .int .i64 c.held, .string c.text, .int .i64 c.code, .slice s.xo c.rows.length s.xc] 41)
  have hm := may_cmd c s _ hla
  rw [tru_yes hx] at hm
  have hp : ∀ w5, Below (w.alloc (.cells #[.int .i64 c.kind, .int .i64 c.client, .int .i64 c.seq, .int .i64 c.snap, .slice s.ko c.keys.length s.kc, .slice s.ro c.rngs.length s.rc, .slice s.wo c.wrts.length s.wc, .int .i64 c.dead, .int .i64 c.aft, .int .i64 c.held, .string c.text, .int .i64 c.code, .slice s.xo c.rows.length s.xc] 41)).heap.size (w.alloc (.cells #[.int .i64 c.kind, .int .i64 c.client, .int .i64 c.seq, .int .i64 c.snap, .slice s.ko c.keys.length s.kc, .slice s.ro c.rngs.length s.rc, .slice s.wo c.wrts.length s.wc, .int .i64 c.dead, .int .i64 c.aft, .int .i64 c.held, .string c.text, .int .i64 c.code, .slice s.xo c.rows.length s.xc] 41)) w5 → Calls Tryz.prog 117 #[.slice none 0 0, .agg #[.int .i64 c.kind, .int .i64 c.client, .int .i64 c.seq, .int .i64 c.snap, .slice s.ko c.keys.length s.kc, .slice s.ro c.rngs.length s.rc, .slice s.wo c.wrts.length s.wc, .int .i64 c.dead, .int .i64 c.aft, .int .i64 c.held, .string c.text, .int .i64 c.code, .slice s.xo c.rows.length s.xc]] w5 fun e w' => ∃ v', e = .returned v' ∧ Cur w5.heap.size w5 w' v' (cmdB c) := fun w5 hb5 => by
    have hc : Cur w5.heap.size w5 w5 (.slice none 0 0) [] := ⟨World.ownsRow_nil _ _ _ _, Below.refl _ _, Stay.refl _ _ _, Nat.le_refl _⟩
    exact dcmd_any c s hc (liesC_next hla hb5) (by simp; omega)
  have hz : (str (cmdB c)).size ≤ 900000 := by rw [str_size]; omega
  have hs := sealput_any (str (cmdB c)) hz
  rw [str_data] at hs
  have hS : 20000 < ((str (sealL (cmdB c))).size : Int) := by rw [str_size, sealL_len]; omega
  clear hx hl hla hz
  generalize sealL (cmdB c) = S at *
  go_enter Tryz.func69, Tryz.ntmps69
  go_wp2_with (first
    | (go_at_call 115; refine hm.mono ?_; rintro e w5 ⟨rfl, hb5⟩; have b5 := below_box hb5 hbx; have c0 := box_cell b5 0 _ rfl; have c1 := box_cell b5 1 _ rfl; have c2 := box_cell b5 2 _ rfl; have c3 := box_cell b5 3 _ rfl; have c4 := box_cell b5 4 _ rfl; have c5 := box_cell b5 5 _ rfl; have c6 := box_cell b5 6 _ rfl; have c7 := box_cell b5 7 _ rfl; have c8 := box_cell b5 8 _ rfl; have c9 := box_cell b5 9 _ rfl; have c10 := box_cell b5 10 _ rfl; have c11 := box_cell b5 11 _ rfl; have c12 := box_cell b5 12 _ rfl)
    | (go_at_call 117; refine (hp _ hb5).mono ?_; rintro e w6 ⟨v6, rfl, h6⟩; have hconv := conv_own w6 _ _ _ _ h6.own)
    | (go_at_call 116; refine (hs _).mono ?_; rintro e w7 ⟨rfl, hb7⟩))
  go_ret2
  exact ⟨rfl, below_next (below_next (below_box0 hb5) (Nat.le_refl _) h6.low) (Nat.le_refl _) hb7⟩
theorem dput_no (c : Cmd) (hx : ¬ CmdOk c) (s : Cs) (w : World) (hl : LiesC w w.heap.size s c) :
    Calls Tryz.prog 69 #[.agg #[.int .i64 c.kind, .int .i64 c.client, .int .i64 c.seq, .int .i64 c.snap, .slice s.ko c.keys.length s.kc, .slice s.ro c.rngs.length s.rc, .slice s.wo c.wrts.length s.wc, .int .i64 c.dead, .int .i64 c.aft, .int .i64 c.held, .string c.text, .int .i64 c.code, .slice s.xo c.rows.length s.xc]] w fun e w' => e = .returned (.tuple #[.string ⟨#[]⟩, .int .i64 1]) ∧ Below w.heap.size w w' := by
  have hla := liesC_alloc hl (.cells #[.int .i64 c.kind, .int .i64 c.client, .int .i64 c.seq, .int .i64 c.snap, .slice s.ko c.keys.length s.kc, .slice s.ro c.rngs.length s.rc, .slice s.wo c.wrts.length s.wc, .int .i64 c.dead, .int .i64 c.aft, .int .i64 c.held, .string c.text, .int .i64 c.code, .slice s.xo c.rows.length s.xc] 41)
  have hm := may_cmd c s _ hla
  rw [tru_no hx] at hm
  clear hx hl hla
  go_enter Tryz.func69, Tryz.ntmps69
  go_wp2_with (first
    | (go_at_call 115; refine hm.mono ?_; rintro e w5 ⟨rfl, hb5⟩))
  go_ret2
  exact ⟨rfl, below_box0 hb5⟩

/-- The command without anything. -/
def Num.cmd0 : Cmd := ⟨0, 0, 0, 0, [], [], [], 0, 0, 0, ⟨#[]⟩, 0, []⟩
def Num.cs0 : Cs := ⟨none, 0, none, 0, none, 0, none, 0⟩
theorem rises0 : RisesT [] := fun i h => absurd h (Nat.not_lt_zero _)
theorem cmd0_ok : CmdOk cmd0 := by
  have ht : TimeC 0 := by unfold TimeC; omega
  exact ⟨⟨ht, ht, ht, ht, ht, by show (0 : Int) ≤ 0 ∧ (0 : Int) ≤ 5; omega, by show (0 : Int) ≤ 0 ∧ (0 : Int) ≤ 100; omega, by show (0 : Int) ≤ 0 ∧ (0 : Int) ≤ 21; omega⟩, by show ((0 : Nat) : Int) ≤ 1000; omega, ⟨by show ¬ 200 < ((0 : Nat) : Int); omega, rises0⟩, ⟨by show ¬ 50 < ((0 : Nat) : Int); omega, fun x h => by cases h⟩, ⟨by show ¬ 200 < ((0 : Nat) : Int); omega, fun x h => (by cases h), by show ¬ 200 < ((0 : Nat) : Int); omega, rises0⟩, ⟨by show ¬ 200 < ((0 : Nat) : Int); omega, fun x h => by cases h⟩⟩
theorem lies0 {α : Type} {At : World → Addr → α → Prop} {sz : Nat} {w : World} {B : Nat} : LiesG At sz w B none [] := fun i x hx => by simp at hx
theorem liesC0 (w : World) : LiesC w w.heap.size cs0 cmd0 := ⟨lies0, lies0, lies0, lies0⟩
theorem cmd0_len : (cmdB cmd0).length = 104 := by
  simp [cmdB, lstB, cmd0, txtB, num8_len]
end Go.Proofs.YtclliljkmmpglaaGreat
