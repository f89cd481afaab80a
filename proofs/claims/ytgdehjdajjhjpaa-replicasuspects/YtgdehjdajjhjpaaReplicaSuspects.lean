/-
  What any replica makes of a doubt, and of a new beginning, is the document's (11.4, 11.6): for every replica.
-/
import Derived.Test.YtgdehjdajjhjpaaRows
import Derived.Test.YtgdehjdajjhjpaaRpAwk
import Derived.Test.YtgdehjdajjhjpaaRpGrt
import Derived.Test.YtgdehjdajjhjpaaRpRSu
import Derived.Test.YtgdehjdajjhjpaaMsCmp
import Derived.WalkKit
import Derived.ProofKit
import Derived.OpenShut
import Derived.ShutString
import Derived.Lib.SmallJoins
namespace Go.Proofs.Ytgdehjdajjhjpaa.replicaSuspects
open Go.ChangeShapes Go.WideShapes Go.ChangeAt Go.RowKit Go.Joins Num
open Go.ChangeMaps (open_string shut_string)
set_option linter.unusedVariables false

theorem own : ownKnob Try.prog.godebug = none := by kernel_rfl
open scoped Classical

theorem walk (r0 : Rep) (s0 : Sl) (hok0 : r0.ok) (w : World) (hl0 : LiesR w w.heap.size s0 r0) :
    Calls Try.prog 6 #[repV r0 s0] w fun e w' => e = .returned (.bool true) ∧ Below w.heap.size w w' := by
  have hb0 : Below w.heap.size w (w.alloc (repO r0 (.slice s0.lo r0.log.length s0.lc) (.slice s0.ao r0.acked.length s0.ac) (.slice s0.vo r0.votes.length s0.vc) (.slice s0.wo r0.voters.length s0.wc) (.slice s0.bo r0.best.length s0.bc) 25)) := (Below.refl _ w).alloc (Nat.le_refl _) _
  have hG := great_any r0 s0 (w.alloc (repO r0 (.slice s0.lo r0.log.length s0.lc) (.slice s0.ao r0.acked.length s0.ac) (.slice s0.vo r0.votes.length s0.vc) (.slice s0.wo r0.voters.length s0.wc) (.slice s0.bo r0.best.length s0.bc) 25)) (liesR_next hl0 hb0 hb0.size)
  have bx := box_rep w r0 (.slice s0.lo r0.log.length s0.lc) (.slice s0.ao r0.acked.length s0.ac) (.slice s0.vo r0.votes.length s0.vc) (.slice s0.wo r0.voters.length s0.wc) (.slice s0.bo r0.best.length s0.bc) undef 25 w.heap.size rfl
  have hA := fun W => awake_any W
  cases hg : greatB r0 with
  | true =>
    rw [hg] at hG
    clear hg
    go_enter Try.func6, Try.ntmps6
    go_wp2_with (first
      | (go_at_call 12; refine hG.mono ?_; rintro e w1 ⟨rfl, hb1⟩; have hw1 := hb0.trans (hb1.mono hb0.size))
      | (go_at_call 11; refine (hA _).mono ?_; rintro e w9 ⟨rfl, hb9⟩; have hw9 := below_next hw1 (Nat.le_refl _) hb9))
    go_ret
    exact ⟨rfl, hw9⟩
  | false =>
    have hsm := great_small hg
    rw [hg] at hG
    have hsus := fun W h => suspect_any r0 s0 hsm W h
    have hrsus := fun W h => rsuspect_any r0 s0 hsm W h
    have hres := fun W h => restart_any2 r0 s0 hsm W h
    have hrres := fun W h => rrestart_any r0 s0 hsm W h
    obtain ⟨z1, z2, z3, z4, z5⟩ := sus_small hsm
    obtain ⟨z6, z7⟩ := sus_smallM hsm
    obtain ⟨y1, y2, y3, y4, y5⟩ := res_small hsm
    have hnum := fun n W => num_any n W
    generalize (susR r0).1 = q at *
    generalize (susR r0).2.1 = o at *
    generalize (susR r0).2.2 = E at *
    generalize (resR r0).1 = p at *
    generalize (resR r0).2 = F at *
    have hsame := fun s u W h1 h2 => same_any q s u z1 z2 z3 z4 z5 W h1 h2
    have hsame2 := fun s u W h1 h2 => same_any p s u y1 y2 y3 y4 y5 W h1 h2
    have hmsg := fun ao bo ac bc W h1 h2 => msgs_same ao bo ac bc o z6 z7 W h1 h2
    clear z1 z2 z3 z4 z5 z6 z7 y1 y2 y3 y4 y5 hsm hg
    go_enter Try.func6, Try.ntmps6
    go_wp2_with (first
      | (go_at_call 12; refine hG.mono ?_; rintro e w1 ⟨rfl, hb1⟩
         have hw1 := hb0.trans (hb1.mono hb0.size)
         have k1 := bx.below hb1
         have l1 := liesR_next hl0 hw1 hw1.size
         obtain ⟨c0, c1, c2, c3, c4, c5, c6, c7, c8, c9, c10, c11, c12⟩ := k1.rep (by omega)
         have hS := hsus w1 l1
         clear bx hG hsus)
      | (go_at_call 19; refine hS.mono ?_; rintro e w2 ⟨s2, xo2, xc2, rfl, hR2, hM2, hb2⟩
         have hA2 := (Below.refl _ w2).alloc (Nat.le_refl _) (repO q (.slice s2.lo q.log.length s2.lc) (.slice s2.ao q.acked.length s2.ac) (.slice s2.vo q.votes.length s2.vc) (.slice s2.wo q.voters.length s2.wc) (.slice s2.bo q.best.length s2.bc) 25)
         have hc2 := below_next hb2 (Nat.le_refl _) hA2
         have hw2 := below_next hw1 (Nat.le_refl _) hc2
         have m2 := box_rep w2 q (.slice s2.lo q.log.length s2.lc) (.slice s2.ao q.acked.length s2.ac) (.slice s2.vo q.votes.length s2.vc) (.slice s2.wo q.voters.length s2.wc) (.slice s2.bo q.best.length s2.bc) undef 25 w2.heap.size rfl
         have hR2 := liesR_next hR2 hA2 hA2.size
         have hM2 := liesM_next hM2 hA2 hA2.size
         have k2 := k1.below hc2
         have l2 := liesR_next l1 hc2 hc2.size
         obtain ⟨e0, e1, e2, e3, e4, e5, e6, e7, e8, e9, e10, e11, e12⟩ := k2.rep (by omega)
         have hS2 := hrsus _ l2
         skip)
      | (go_at_call 20; refine hS2.mono ?_; rintro e w3 ⟨s3, xo3, xc3, rfl, hR3, hM3, hb3⟩
         have hA3 := (Below.refl _ w3).alloc (Nat.le_refl _) (repO q (.slice s3.lo q.log.length s3.lc) (.slice s3.ao q.acked.length s3.ac) (.slice s3.vo q.votes.length s3.vc) (.slice s3.wo q.voters.length s3.wc) (.slice s3.bo q.best.length s3.bc) 25)
         have hc3 := below_next hb3 (Nat.le_refl _) hA3
         have hw3 := below_next hw2 (Nat.le_refl _) hc3
         have m3 := box_rep w3 q (.slice s3.lo q.log.length s3.lc) (.slice s3.ao q.acked.length s3.ac) (.slice s3.vo q.votes.length s3.vc) (.slice s3.wo q.voters.length s3.wc) (.slice s3.bo q.best.length s3.bc) undef 25 w3.heap.size rfl
         have hR3 := liesR_next hR3 hA3 hA3.size
         have hM3 := liesM_next hM3 hA3 hA3.size
         have hR2 := liesR_next hR2 hc3 hc3.size
         have m2 := m2.below hc3
         have hM2 := liesM_next hM2 hc3 hc3.size
         have k3 := k2.below hc3
         have l3 := liesR_next l2 hc3 hc3.size
         obtain ⟨f0, f1, f2, f3, f4, f5, f6, f7, f8, f9, f10, f11, f12⟩ := k3.rep (by omega)
         have hS3 := hres _ l3
         skip)
      | (go_at_call 21; refine hS3.mono ?_; rintro e w4 ⟨s4, rfl, hR4, hb4⟩
         have hA4 := (Below.refl _ w4).alloc (Nat.le_refl _) (repO p (.slice s4.lo p.log.length s4.lc) (.slice s4.ao p.acked.length s4.ac) (.slice s4.vo p.votes.length s4.vc) (.slice s4.wo p.voters.length s4.wc) (.slice s4.bo p.best.length s4.bc) 25)
         have hc4 := below_next hb4 (Nat.le_refl _) hA4
         have hw4 := below_next hw3 (Nat.le_refl _) hc4
         have m4 := box_rep w4 p (.slice s4.lo p.log.length s4.lc) (.slice s4.ao p.acked.length s4.ac) (.slice s4.vo p.votes.length s4.vc) (.slice s4.wo p.voters.length s4.wc) (.slice s4.bo p.best.length s4.bc) undef 25 w4.heap.size rfl
         have hR4 := liesR_next hR4 hA4 hA4.size
         have hR2 := liesR_next hR2 hc4 hc4.size
         have m2 := m2.below hc4
         have hM2 := liesM_next hM2 hc4 hc4.size
         have hR3 := liesR_next hR3 hc4 hc4.size
         have m3 := m3.below hc4
         have hM3 := liesM_next hM3 hc4 hc4.size
         have k4 := k3.below hc4
         have l4 := liesR_next l3 hc4 hc4.size
         obtain ⟨g0, g1, g2, g3, g4, g5, g6, g7, g8, g9, g10, g11, g12⟩ := k4.rep (by omega)
         have hS4 := hrres _ l4
         skip)
      | (go_at_call 22; refine hS4.mono ?_; rintro e w5 ⟨s5, rfl, hR5, hb5⟩
         have hA5 := (Below.refl _ w5).alloc (Nat.le_refl _) (repO p (.slice s5.lo p.log.length s5.lc) (.slice s5.ao p.acked.length s5.ac) (.slice s5.vo p.votes.length s5.vc) (.slice s5.wo p.voters.length s5.wc) (.slice s5.bo p.best.length s5.bc) 25)
         have hc5 := below_next hb5 (Nat.le_refl _) hA5
         have hw5 := below_next hw4 (Nat.le_refl _) hc5
         have m5 := box_rep w5 p (.slice s5.lo p.log.length s5.lc) (.slice s5.ao p.acked.length s5.ac) (.slice s5.vo p.votes.length s5.vc) (.slice s5.wo p.voters.length s5.wc) (.slice s5.bo p.best.length s5.bc) undef 25 w5.heap.size rfl
         have hR5 := liesR_next hR5 hA5 hA5.size
         have hR2 := liesR_next hR2 hc5 hc5.size
         have m2 := m2.below hc5
         have hM2 := liesM_next hM2 hc5 hc5.size
         have hR3 := liesR_next hR3 hc5 hc5.size
         have m3 := m3.below hc5
         have hM3 := liesM_next hM3 hc5 hc5.size
         have hR4 := liesR_next hR4 hc5 hc5.size
         have m4 := m4.below hc5
         obtain ⟨a0, a1, a2, a3, a4, a5, a6, a7, a8, a9, a10, a11, a12⟩ := m2.rep (by omega)
         obtain ⟨b0, b1, b2, b3, b4, b5, b6, b7, b8, b9, b10, b11, b12⟩ := m3.rep (by omega)
         have hQ := hsame s2 s3 _ hR2 hR3
         skip)
      | (go_at_call 9; have tk := hQ; refine hQ.mono ?_; rintro e w6 ⟨rfl, hb6⟩
         have hw6 := below_next hw5 (Nat.le_refl _) hb6
         have hX := hmsg xo2 xo3 xc2 xc3 _ (liesM_next hM2 hb6 hb6.size) (liesM_next hM3 hb6 hb6.size)
         clear tk hQ)
      | (go_at_call 18; refine hX.mono ?_; rintro e w7 ⟨rfl, hb7⟩
         have hw7 := below_next hw6 (Nat.le_refl _) hb7
         have hb67 := below_next hb6 (Nat.le_refl _) hb7
         obtain ⟨u0, u1, u2, u3, u4, u5, u6, u7, u8, u9, u10, u11, u12⟩ := (m4.below hb67).rep (by omega)
         obtain ⟨v0, v1, v2, v3, v4, v5, v6, v7, v8, v9, v10, v11, v12⟩ := (m5.below hb67).rep (by omega)
         have hQ2 := hsame2 s4 s5 _ (liesR_next hR4 hb67 hb67.size) (liesR_next hR5 hb67 hb67.size)
         clear hX)
      | (go_at_call 9; refine hQ2.mono ?_; rintro e w8 ⟨rfl, hb8⟩
         have hw8 := below_next hw7 (Nat.le_refl _) hb8)
      | (go_at_call 10; refine (hnum _ _).mono ?_; rintro e wn ⟨rfl, hq⟩; have hq' := hq.symm; clear hq; subst hq')
      | (go_at_call 11; refine (hA _).mono ?_; rintro e w9 ⟨rfl, hb9⟩; have hw9 := below_next hw8 (Nat.le_refl _) hb9))
    go_ret
    exact ⟨rfl, hw9⟩

set_option maxRecDepth 100000 in
theorem lifted (os : Os) (started : os.Started) (H : Type) (enc : TypeId × Value → H) :
    ReturnsInHanded {} Try.checked os 6 .any (Rows.replicaSuspectsSpec.pre6 enc Try.prog Try.f6 Rows.replicaSuspectsRow.domain false) (Rows.replicaSuspectsSpec.post enc Try.prog Try.f6 false true false false) := by
  refine returnsInHanded_of_change (C := Try.checked) own started (by kernel_rfl) Try.func6
    (ChangeSpec.witness6 (enc := enc) (C := Try.checked) false ⟨#[], #[.agg #[.int .i64 0, .int .i64 0, .int .i64 0, .int .i64 0, .int .i64 0, .slice none 0 0, .int .i64 0, .slice none 0 0, .slice none 0 0, .slice none 0 0, .slice none 0 0, .int .i64 0, .int .i64 0]], []⟩ 8 (by kernel_rfl) (by kernel_rfl) (by kernel_rfl) (by kernel_rfl)) ?_
  intro W base args ds gs before hval0 hW hcnd _
  have hval : ∀ (j : Nat) t v, Try.f6.params[j]? = some t → args[j]? = some v → Value.okWide Try.prog W .any base t v := hval0
  have hW' := hW
  have hWk := hW
  obtain ⟨p, q, hA0, hV, rfl, hfz, hnd⟩ := hW
  have hA : DataW.TrodAll enc Try.prog W 0 (fun _ => true) true Try.f6.params.toList args.toList ds p := hA0
  rw [Try.params6] at hA hval
  obtain ⟨v0, vs0, d0, ds0, p0, q0, hargs, rfl, rfl, h0, rt0⟩ := trodAll_cons hA
  obtain ⟨rfl, rfl, rfl⟩ := trodAll_nil rt0
  obtain rfl : args = #[v0] := by cases args; simp_all
  obtain ⟨rfl, rfl⟩ := trodVars_none hV
  have hk0 := h0
  obtain ⟨r0, s0, rfl, hok0, hlies0⟩ := open_rep (hval 0 25 v0 rfl rfl) h0
  have hlt0 : ∀ x ∈ p0, x.block < W.heap.size := fun x hx => by simpa using hWk.lt x (by simp [hx])
  clear hA0 hval0
  simp only [List.append_nil] at hW'

  refine (walk r0 s0 hok0 W hlies0).mono fun e W' ⟨he, hg⟩ => ?_
  subst he
  exact ⟨_, rfl, _, _, _, [], _, [], hW', trodAll_cons_mk (shut_bool Try.underlying4 _) trodAll_mk0, (trodAll_cons_mk (Below.trod Try.laidOut (by kernel_rfl) (of_decide_eq_true (by kernel_rfl)) hk0 hg hlt0) trodAll_mk0), rfl, hg.frame _, fun h => by cases h⟩

theorem over : Rows.replicaSuspectsRow.holds Try.pinned (OpenSpec.ofChange Rows.replicaSuspectsSpec) :=
  OpenClaim.holds_of_wide 6 Try.f6 rfl rfl rfl rfl rfl rfl rfl ⟨rfl, rfl, rfl, rfl, rfl⟩ rfl rfl rfl rfl rfl (by kernel_rfl) Try.func6 (by kernel_rfl)
    (of_decide_eq_true (by kernel_rfl)) (by unfold Func.isWrapper; first | (rw [if_pos (by decide +kernel)]; kernel_rfl) | (rw [if_neg (by decide +kernel)]; exact ⟨rfl, rfl⟩))
    (fun os started H enc _ => lifted os started H enc)

theorem proved : Rows.ReplicaSuspectsSaid :=
  over
#print axioms proved
end Go.Proofs.Ytgdehjdajjhjpaa.replicaSuspects
