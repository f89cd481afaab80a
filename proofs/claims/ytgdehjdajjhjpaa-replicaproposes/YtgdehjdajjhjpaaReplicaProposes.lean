/-
  What any replica makes of something new is the document's, and what was handed in stays (11.3): for every replica, time and data.
-/
import Derived.Test.YtgdehjdajjhjpaaRows
import Derived.Test.YtgdehjdajjhjpaaRpAwk
import Derived.Test.YtgdehjdajjhjpaaRpGrt
import Derived.Test.YtgdehjdajjhjpaaRpRPz
import Derived.Test.YtgdehjdajjhjpaaMsCmp
import Derived.WalkKit
import Derived.ProofKit
import Derived.OpenShut
import Derived.ShutString
import Derived.Lib.SmallJoins
namespace Go.Proofs.Ytgdehjdajjhjpaa.replicaProposes
open Go.ChangeShapes Go.WideShapes Go.ChangeAt Go.RowKit Go.Joins Num
open Go.ChangeMaps (open_string shut_string)
set_option linter.unusedVariables false

theorem own : ownKnob Try.prog.godebug = none := by kernel_rfl
open scoped Classical

theorem walk (r0 : Rep) (s0 : Sl) (hok0 : r0.ok) (a1 : Int) (ha1 : -9223372036854775808 ≤ a1 ∧ a1 ≤ 9223372036854775807) (s2 : ByteArray) (ws2 : s2.size ≤ maxLen) (w : World) (hl0 : LiesR w w.heap.size s0 r0) :
    Calls Try.prog 5 #[repV r0 s0, .int .i64 a1, .string s2] w fun e w' => e = .returned (.bool true) ∧ Below w.heap.size w w' := by
  have hb0 : Below w.heap.size w (w.alloc (repO r0 (.slice s0.lo r0.log.length s0.lc) (.slice s0.ao r0.acked.length s0.ac) (.slice s0.vo r0.votes.length s0.vc) (.slice s0.wo r0.voters.length s0.wc) (.slice s0.bo r0.best.length s0.bc) 25)) := (Below.refl _ w).alloc (Nat.le_refl _) _
  have hG := great_any r0 s0 (w.alloc (repO r0 (.slice s0.lo r0.log.length s0.lc) (.slice s0.ao r0.acked.length s0.ac) (.slice s0.vo r0.votes.length s0.vc) (.slice s0.wo r0.voters.length s0.wc) (.slice s0.bo r0.best.length s0.bc) 25)) (liesR_next hl0 hb0 hb0.size)
  have bx := box_rep w r0 (.slice s0.lo r0.log.length s0.lc) (.slice s0.ao r0.acked.length s0.ac) (.slice s0.vo r0.votes.length s0.vc) (.slice s0.wo r0.voters.length s0.wc) (.slice s0.bo r0.best.length s0.bc) undef 25 w.heap.size rfl
  have hA := fun W => awake_any W
  cases hg : greatB r0 with
  | true =>
    rw [hg] at hG
    clear hg
    go_enter Try.func5, Try.ntmps5
    go_wp2_with (first
      | (go_at_call 12; refine hG.mono ?_; rintro e w1 ⟨rfl, hb1⟩; have hw1 := hb0.trans (hb1.mono hb0.size))
      | (go_at_call 11; refine (hA _).mono ?_; rintro e w9 ⟨rfl, hb9⟩; have hw9 := below_next hw1 (Nat.le_refl _) hb9))
    go_ret
    exact ⟨rfl, hw9⟩
  | false =>
    have hsm := great_small hg
    rw [hg] at hG
    by_cases hd : s2.size ≤ 30000
    · have hd2 : ¬ (30000 : Int) < (s2.size : Int) := by omega
      have hpro := fun W h => propose_any r0 s0 hsm a1 s2 W h
      have hrpro := fun W h => rpropose_any r0 s0 hsm a1 s2 W h
      have hcop := fun W h => rcopy_any r0 s0 hsm W h
      obtain ⟨z1, z2, z3, z4, z5⟩ := pro_small (t := a1) (d := s2) hsm
      obtain ⟨z6, z7⟩ := pro_smallM (t := a1) (d := s2) hsm
      have hnum := fun n W => num_any n W
      have hsame2 := fun s u W h1 h2 => same_any r0 s u (by have := hsm.log; omega) (by have := hsm.best; omega) (by have := hsm.ack; omega) (by have := hsm.votes; omega) (by have := hsm.voters; omega) W h1 h2
      generalize (proR r0 a1 s2).1 = q at *
      generalize (proR r0 a1 s2).2.1 = o at *
      generalize (proR r0 a1 s2).2.2.1 = K at *
      generalize (proR r0 a1 s2).2.2.2 = E at *
      have hsame := fun s u W h1 h2 => same_any q s u z1 z2 z3 z4 z5 W h1 h2
      have hmsg := fun ao bo ac bc W h1 h2 => msgs_same ao bo ac bc o z6 z7 W h1 h2
      clear z1 z2 z3 z4 z5 z6 z7 hsm hg hd
      go_enter Try.func5, Try.ntmps5
      go_wp2_with (first
        | (go_at_call 12; refine hG.mono ?_; rintro e w1 ⟨rfl, hb1⟩
           have hw1 := hb0.trans (hb1.mono hb0.size)
           have k1 := bx.below hb1
           have l1 := liesR_next hl0 hw1 hw1.size
           obtain ⟨c0, c1, c2, c3, c4, c5, c6, c7, c8, c9, c10, c11, c12⟩ := k1.rep (by omega)
           have hS1 := hcop w1 l1
           clear bx hG hcop)
        | (go_at_call 15; refine hS1.mono ?_; rintro e w2 ⟨u2, rfl, hR2, hb2⟩
           have hA2 := (Below.refl _ w2).alloc (Nat.le_refl _) (repO r0 (.slice u2.lo r0.log.length u2.lc) (.slice u2.ao r0.acked.length u2.ac) (.slice u2.vo r0.votes.length u2.vc) (.slice u2.wo r0.voters.length u2.wc) (.slice u2.bo r0.best.length u2.bc) 25)
           have hc2 := below_next hb2 (Nat.le_refl _) hA2
           have hw2 := below_next hw1 (Nat.le_refl _) hc2
           have m2 := box_rep w2 r0 (.slice u2.lo r0.log.length u2.lc) (.slice u2.ao r0.acked.length u2.ac) (.slice u2.vo r0.votes.length u2.vc) (.slice u2.wo r0.voters.length u2.wc) (.slice u2.bo r0.best.length u2.bc) undef 25 w2.heap.size rfl
           have hR2 := liesR_next (rowsS_lies hR2) hA2 hA2.size
           have k2 := k1.below hc2
           have l2 := liesR_next l1 hc2 hc2.size
           obtain ⟨f0, f1, f2, f3, f4, f5, f6, f7, f8, f9, f10, f11, f12⟩ := k2.rep (by omega)
           have hS2 := hpro _ l2)
        | (go_at_call 16; refine hS2.mono ?_; rintro e w3 ⟨s3, xo3, xc3, rfl, hR3, hM3, hb3⟩
           have hA3 := (Below.refl _ w3).alloc (Nat.le_refl _) (repO q (.slice s3.lo q.log.length s3.lc) (.slice s3.ao q.acked.length s3.ac) (.slice s3.vo q.votes.length s3.vc) (.slice s3.wo q.voters.length s3.wc) (.slice s3.bo q.best.length s3.bc) 25)
           have hc3 := below_next hb3 (Nat.le_refl _) hA3
           have hw3 := below_next hw2 (Nat.le_refl _) hc3
           have m3 := box_rep w3 q (.slice s3.lo q.log.length s3.lc) (.slice s3.ao q.acked.length s3.ac) (.slice s3.vo q.votes.length s3.vc) (.slice s3.wo q.voters.length s3.wc) (.slice s3.bo q.best.length s3.bc) undef 25 w3.heap.size rfl
           have hR3 := liesR_next hR3 hA3 hA3.size
           have hM3 := liesM_next hM3 hA3 hA3.size
           have m2 := m2.below hc3
           have hR2 := liesR_next hR2 hc3 hc3.size
           have k3 := k2.below hc3
           have l3 := liesR_next l2 hc3 hc3.size
           obtain ⟨h0, h1, h2, h3, h4, h5, h6, h7, h8, h9, h10, h11, h12⟩ := k3.rep (by omega)
           have hS3 := hrpro _ l3)
        | (go_at_call 17; refine hS3.mono ?_; rintro e w4 ⟨s4, xo4, xc4, rfl, hR4, hM4, hb4⟩
           have hA4 := (Below.refl _ w4).alloc (Nat.le_refl _) (repO q (.slice s4.lo q.log.length s4.lc) (.slice s4.ao q.acked.length s4.ac) (.slice s4.vo q.votes.length s4.vc) (.slice s4.wo q.voters.length s4.wc) (.slice s4.bo q.best.length s4.bc) 25)
           have hc4 := below_next hb4 (Nat.le_refl _) hA4
           have hw4 := below_next hw3 (Nat.le_refl _) hc4
           have m4 := box_rep w4 q (.slice s4.lo q.log.length s4.lc) (.slice s4.ao q.acked.length s4.ac) (.slice s4.vo q.votes.length s4.vc) (.slice s4.wo q.voters.length s4.wc) (.slice s4.bo q.best.length s4.bc) undef 25 w4.heap.size rfl
           have hR4 := liesR_next hR4 hA4 hA4.size
           have hM4 := liesM_next hM4 hA4 hA4.size
           have hR3 := liesR_next hR3 hc4 hc4.size
           have hM3 := liesM_next hM3 hc4 hc4.size
           have m3 := m3.below hc4
           have m2 := m2.below hc4
           have hR2 := liesR_next hR2 hc4 hc4.size
           have k4 := k3.below hc4
           have l4 := liesR_next l3 hc4 hc4.size
           obtain ⟨qa0, qa1, qa2, qa3, qa4, qa5, qa6, qa7, qa8, qa9, qa10, qa11, qa12⟩ := m3.rep (by omega)
           obtain ⟨qb0, qb1, qb2, qb3, qb4, qb5, qb6, qb7, qb8, qb9, qb10, qb11, qb12⟩ := m4.rep (by omega)
           have hQ := hsame s3 s4 _ hR3 hR4)
        | (go_at_call 9; have tk := hQ; refine hQ.mono ?_; rintro e w6 ⟨rfl, hb6⟩
           have hw6 := below_next hw4 (Nat.le_refl _) hb6
           have hX := hmsg xo3 xo4 xc3 xc4 _ (liesM_next hM3 hb6 hb6.size) (liesM_next hM4 hb6 hb6.size)
           clear tk hQ)
        | (go_at_call 18; refine hX.mono ?_; rintro e w7 ⟨rfl, hb7⟩
           have hw7 := below_next hw6 (Nat.le_refl _) hb7
           have hb67 := below_next hb6 (Nat.le_refl _) hb7
           obtain ⟨qu0, qu1, qu2, qu3, qu4, qu5, qu6, qu7, qu8, qu9, qu10, qu11, qu12⟩ := (k4.below hb67).rep (by omega)
           obtain ⟨qv0, qv1, qv2, qv3, qv4, qv5, qv6, qv7, qv8, qv9, qv10, qv11, qv12⟩ := (m2.below hb67).rep (by omega)
           have hQ2 := hsame2 s0 u2 _ (liesR_next l4 hb67 hb67.size) (liesR_next hR2 hb67 hb67.size)
           clear hX)
        | (go_at_call 9; refine hQ2.mono ?_; rintro e w8 ⟨rfl, hb8⟩
           have hw8 := below_next hw7 (Nat.le_refl _) hb8)
        | (go_at_call 10; refine (hnum _ _).mono ?_; rintro e wn ⟨rfl, hq⟩; have hq' := hq.symm; clear hq; subst hq')
        | (go_at_call 11; refine (hA _).mono ?_; rintro e w9 ⟨rfl, hb9⟩; have hw9 := below_next hw8 (Nat.le_refl _) hb9))
      go_ret
      exact ⟨rfl, hw9⟩
    · have hd2 : (30000 : Int) < (s2.size : Int) := by omega
      clear hg hsm
      go_enter Try.func5, Try.ntmps5
      go_wp2_with (first
        | (go_at_call 12; refine hG.mono ?_; rintro e w1 ⟨rfl, hb1⟩; have hw1 := hb0.trans (hb1.mono hb0.size))
        | (go_at_call 11; refine (hA _).mono ?_; rintro e w9 ⟨rfl, hb9⟩; have hw9 := below_next hw1 (Nat.le_refl _) hb9))
      go_ret
      exact ⟨rfl, hw9⟩

set_option maxRecDepth 100000 in
theorem lifted (os : Os) (started : os.Started) (H : Type) (enc : TypeId × Value → H) :
    ReturnsInHanded {} Try.checked os 5 .any (Rows.replicaProposesSpec.pre6 enc Try.prog Try.f5 Rows.replicaProposesRow.domain false) (Rows.replicaProposesSpec.post enc Try.prog Try.f5 false true false false) := by
  refine returnsInHanded_of_change (C := Try.checked) own started (by kernel_rfl) Try.func5
    (ChangeSpec.witness6 (enc := enc) (C := Try.checked) false ⟨#[], #[.agg #[.int .i64 0, .int .i64 0, .int .i64 0, .int .i64 0, .int .i64 0, .slice none 0 0, .int .i64 0, .slice none 0 0, .slice none 0 0, .slice none 0 0, .slice none 0 0, .int .i64 0, .int .i64 0], .int .i64 0, .string ByteArray.empty], []⟩ 8 (by kernel_rfl) (by kernel_rfl) (by kernel_rfl) (by kernel_rfl)) ?_
  intro W base args ds gs before hval0 hW hcnd _
  have hval : ∀ (j : Nat) t v, Try.f5.params[j]? = some t → args[j]? = some v → Value.okWide Try.prog W .any base t v := hval0
  have hW' := hW
  have hWk := hW
  obtain ⟨p, q, hA0, hV, rfl, hfz, hnd⟩ := hW
  have hA : DataW.TrodAll enc Try.prog W 0 (fun _ => true) true Try.f5.params.toList args.toList ds p := hA0
  rw [Try.params5] at hA hval
  obtain ⟨v0, vs0, d0, ds0, p0, q0, hargs, rfl, rfl, h0, rt0⟩ := trodAll_cons hA
  obtain ⟨v1, vs1, d1, ds1, p1, q1, rfl, rfl, rfl, h1, rt1⟩ := trodAll_cons rt0
  obtain ⟨v2, vs2, d2, ds2, p2, q2, rfl, rfl, rfl, h2, rt2⟩ := trodAll_cons rt1
  obtain ⟨rfl, rfl, rfl⟩ := trodAll_nil rt2
  obtain rfl : args = #[v0, v1, v2] := by cases args; simp_all
  obtain ⟨rfl, rfl⟩ := trodVars_none hV
  have hk0 := h0
  obtain ⟨r0, s0, rfl, hok0, hlies0⟩ := open_rep (hval 0 25 v0 rfl rfl) h0
  have hlt0 : ∀ x ∈ p0, x.block < W.heap.size := fun x hx => by simpa using hWk.lt x (by simp [hx])
  obtain ⟨a1, rfl, rfl, rfl, wa1⟩ := open_int Try.underlying3 (hval 1 3 v1 rfl rfl) h1
  have ba1 := bounds_i64 wa1
  obtain ⟨s2, rfl, rfl, rfl, ws2⟩ := open_string Try.underlying9 (hval 2 9 v2 rfl rfl) h2
  clear hA0 hval0
  simp only [List.append_nil] at hW'

  refine (walk r0 s0 hok0 a1 (by omega) s2 ws2 W hlies0).mono fun e W' ⟨he, hg⟩ => ?_
  subst he
  exact ⟨_, rfl, _, _, _, [], _, [], hW', trodAll_cons_mk (shut_bool Try.underlying4 _) trodAll_mk0, (trodAll_cons_mk (Below.trod Try.laidOut (by kernel_rfl) (of_decide_eq_true (by kernel_rfl)) hk0 hg hlt0) (trodAll_cons_mk (shut_int Try.underlying3 wa1) (trodAll_cons_mk (shut_string Try.underlying9 ws2) trodAll_mk0))), rfl, hg.frame _, fun h => by cases h⟩

theorem over : Rows.replicaProposesRow.holds Try.pinned (OpenSpec.ofChange Rows.replicaProposesSpec) :=
  OpenClaim.holds_of_wide 5 Try.f5 rfl rfl rfl rfl rfl rfl rfl ⟨rfl, rfl, rfl, rfl, rfl⟩ rfl rfl rfl rfl rfl (by kernel_rfl) Try.func5 (by kernel_rfl)
    (of_decide_eq_true (by kernel_rfl)) (by unfold Func.isWrapper; first | (rw [if_pos (by decide +kernel)]; kernel_rfl) | (rw [if_neg (by decide +kernel)]; exact ⟨rfl, rfl⟩))
    (fun os started H enc _ => lifted os started H enc)

theorem proved : Rows.ReplicaProposesSaid :=
  over
#print axioms proved
end Go.Proofs.Ytgdehjdajjhjpaa.replicaProposes
