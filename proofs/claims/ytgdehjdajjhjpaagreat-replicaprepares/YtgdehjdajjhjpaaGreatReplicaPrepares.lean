/-
  A new entry is taken in its turn, asked for, or not looked at (11.5): for every replica and every message of that kind.
-/
import Derived.Test.YtgdehjdajjhjpaaGreatRows
import Derived.Test.YtgdehjdajjhjpaaGreatRpOpn
import Derived.Test.YtgdehjdajjhjpaaGreatRpLp
import Derived.Test.YtgdehjdajjhjpaaGreatRpQ1
import Derived.WalkKit
import Derived.ProofKit
import Derived.OpenShut
import Derived.ShutString
import Derived.Lib.SmallJoins
namespace Go.Proofs.YtgdehjdajjhjpaaGreat.replicaPrepares
open Go.ChangeShapes Go.WideShapes Go.ChangeAt Go.RowKit Go.Joins Num
open Go.ChangeMaps (open_string shut_string)
set_option linter.unusedVariables false
set_option maxRecDepth 100000

theorem own : ownKnob Tryz.prog.godebug = none := by kernel_rfl
open scoped Classical

theorem walk (r0 : Rep) (s0 : Sl) (hok0 : r0.ok) (hwd0 : WideM0 r0) (m1 : Msg) (ao1 : Option Addr) (cap1 : Nat) (hcp1 : m1.log.length ≤ cap1) (w : World) (hl0 : LiesR w w.heap.size s0 r0) (hl1 : LiesE w w.heap.size ao1 m1.log) :
    Calls Tryz.prog 4 #[repV r0 s0, .agg #[.int .i64 m1.a0, .int .i64 m1.a1, .int .i64 m1.a2, .int .i64 m1.a3, .int .i64 m1.a4, .int .i64 m1.a5, .int .i64 m1.a6, .slice ao1 m1.log.length cap1]] w fun e w' => e = .returned (.bool true) ∧ Below w.heap.size w w' := by
  have hb0 : Below w.heap.size w ((w.alloc (repO r0 (.slice s0.lo r0.log.length s0.lc) (.slice s0.ao r0.acked.length s0.ac) (.slice s0.vo r0.votes.length s0.vc) (.slice s0.wo r0.voters.length s0.wc) (.slice s0.bo r0.best.length s0.bc) 25)).alloc (.cells #[.int .i64 m1.a0, .int .i64 m1.a1, .int .i64 m1.a2, .int .i64 m1.a3, .int .i64 m1.a4, .int .i64 m1.a5, .int .i64 m1.a6, .slice ao1 m1.log.length cap1] 27)) := ((Below.refl _ w).alloc (Nat.le_refl _) _).alloc (by simp) _
  have bx := (box_rep w r0 (.slice s0.lo r0.log.length s0.lc) (.slice s0.ao r0.acked.length s0.ac) (.slice s0.vo r0.votes.length s0.vc) (.slice s0.wo r0.voters.length s0.wc) (.slice s0.bo r0.best.length s0.bc) undef 25 w.heap.size rfl).alloc (.cells #[.int .i64 m1.a0, .int .i64 m1.a1, .int .i64 m1.a2, .int .i64 m1.a3, .int .i64 m1.a4, .int .i64 m1.a5, .int .i64 m1.a6, .slice ao1 m1.log.length cap1] 27)
  have hm0 : ((w.alloc (repO r0 (.slice s0.lo r0.log.length s0.lc) (.slice s0.ao r0.acked.length s0.ac) (.slice s0.vo r0.votes.length s0.vc) (.slice s0.wo r0.voters.length s0.wc) (.slice s0.bo r0.best.length s0.bc) 25)).alloc (.cells #[.int .i64 m1.a0, .int .i64 m1.a1, .int .i64 m1.a2, .int .i64 m1.a3, .int .i64 m1.a4, .int .i64 m1.a5, .int .i64 m1.a6, .slice ao1 m1.log.length cap1] 27)).heap[w.heap.size + 1]? = some (.cells #[.int .i64 m1.a0, .int .i64 m1.a1, .int .i64 m1.a2, .int .i64 m1.a3, .int .i64 m1.a4, .int .i64 m1.a5, .int .i64 m1.a6, .slice ao1 m1.log.length cap1] 27 (0, 0)) := heap_newB _ _ _ (by simp)
  have hof : Calls Tryz.prog 7 #[repV r0 s0, msV m1 ao1 cap1, .int .i64 1] ((w.alloc (repO r0 (.slice s0.lo r0.log.length s0.lc) (.slice s0.ao r0.acked.length s0.ac) (.slice s0.vo r0.votes.length s0.vc) (.slice s0.wo r0.voters.length s0.wc) (.slice s0.bo r0.best.length s0.bc) 25)).alloc (.cells #[.int .i64 m1.a0, .int .i64 m1.a1, .int .i64 m1.a2, .int .i64 m1.a3, .int .i64 m1.a4, .int .i64 m1.a5, .int .i64 m1.a6, .slice ao1 m1.log.length cap1] 27)) fun e w' => e = .returned (.bool true) ∧ Below ((w.alloc (repO r0 (.slice s0.lo r0.log.length s0.lc) (.slice s0.ao r0.acked.length s0.ac) (.slice s0.vo r0.votes.length s0.vc) (.slice s0.wo r0.voters.length s0.wc) (.slice s0.bo r0.best.length s0.bc) 25)).alloc (.cells #[.int .i64 m1.a0, .int .i64 m1.a1, .int .i64 m1.a2, .int .i64 m1.a3, .int .i64 m1.a4, .int .i64 m1.a5, .int .i64 m1.a6, .slice ao1 m1.log.length cap1] 27)).heap.size ((w.alloc (repO r0 (.slice s0.lo r0.log.length s0.lc) (.slice s0.ao r0.acked.length s0.ac) (.slice s0.vo r0.votes.length s0.vc) (.slice s0.wo r0.voters.length s0.wc) (.slice s0.bo r0.best.length s0.bc) 25)).alloc (.cells #[.int .i64 m1.a0, .int .i64 m1.a1, .int .i64 m1.a2, .int .i64 m1.a3, .int .i64 m1.a4, .int .i64 m1.a5, .int .i64 m1.a6, .slice ao1 m1.log.length cap1] 27)) w' := by
    by_cases hn : 1 < m1.log.length
    · exact of_one_b r0 s0 m1 ao1 cap1 hwd0 hn hcp1 (fun m' W h1 h2 hl hm => takes_k1 r0 s0 m' ao1 cap1 h1 W hl hm) ((w.alloc (repO r0 (.slice s0.lo r0.log.length s0.lc) (.slice s0.ao r0.acked.length s0.ac) (.slice s0.vo r0.votes.length s0.vc) (.slice s0.wo r0.voters.length s0.wc) (.slice s0.bo r0.best.length s0.bc) 25)).alloc (.cells #[.int .i64 m1.a0, .int .i64 m1.a1, .int .i64 m1.a2, .int .i64 m1.a3, .int .i64 m1.a4, .int .i64 m1.a5, .int .i64 m1.a6, .slice ao1 m1.log.length cap1] 27)) (liesR_next hl0 hb0 hb0.size) (liesE_next hl1 hb0 hb0.size)
    · exact of_one_a r0 s0 m1 ao1 cap1 hwd0 hn (fun m' W h1 h2 hl hm => takes_k1 r0 s0 m' ao1 cap1 h1 W hl hm) ((w.alloc (repO r0 (.slice s0.lo r0.log.length s0.lc) (.slice s0.ao r0.acked.length s0.ac) (.slice s0.vo r0.votes.length s0.vc) (.slice s0.wo r0.voters.length s0.wc) (.slice s0.bo r0.best.length s0.bc) 25)).alloc (.cells #[.int .i64 m1.a0, .int .i64 m1.a1, .int .i64 m1.a2, .int .i64 m1.a3, .int .i64 m1.a4, .int .i64 m1.a5, .int .i64 m1.a6, .slice ao1 m1.log.length cap1] 27)) (liesR_next hl0 hb0 hb0.size) (liesE_next hl1 hb0 hb0.size)
  obtain ⟨a0, a1, a2, a3, a4, a5, a6, a7, a8, a9, a10, a11, a12⟩ := bx.rep (by omega)
  obtain ⟨c0, c1, c2, c3, c4, c5, c6, c7⟩ := msg_cellsS hm0
  clear bx hm0 hl0 hl1
  go_enter Tryz.func4, Tryz.ntmps4
  go_wp2_with (first
    | (go_at_call 7; refine hof.mono ?_; rintro e w1 ⟨rfl, hb1⟩))
  go_ret
  exact ⟨rfl, below_next hb0 (Nat.le_refl _) hb1⟩

set_option maxRecDepth 100000 in
theorem lifted (os : Os) (started : os.Started) (H : Type) (enc : TypeId × Value → H) :
    ReturnsInHanded {} Tryz.checked os 4 .any (Rows.replicaPreparesSpec.pre6 enc Tryz.prog Tryz.f4 Rows.replicaPreparesRow.domain false) (Rows.replicaPreparesSpec.post enc Tryz.prog Tryz.f4 false true false false) := by
  refine returnsInHanded_of_change (C := Tryz.checked) own started (by kernel_rfl) Tryz.func4
    (ChangeSpec.witness6 (enc := enc) (C := Tryz.checked) false ⟨#[], #[.agg #[.int .i64 0, .int .i64 0, .int .i64 0, .int .i64 0, .int .i64 0, .slice none 0 0, .int .i64 0, .slice none 0 0, .slice none 0 0, .slice none 0 0, .slice none 0 0, .int .i64 0, .int .i64 0], .agg #[.int .i64 0, .int .i64 0, .int .i64 0, .int .i64 0, .int .i64 0, .int .i64 0, .int .i64 0, .slice none 0 0]], []⟩ 8 (by kernel_rfl) (by kernel_rfl) (by kernel_rfl) (by kernel_rfl)) ?_
  intro W base args ds gs before hval0 hW hcnd _
  have hval : ∀ (j : Nat) t v, Tryz.f4.params[j]? = some t → args[j]? = some v → Value.okWide Tryz.prog W .any base t v := hval0
  have hW' := hW
  have hWk := hW
  obtain ⟨p, q, hA0, hV, rfl, hfz, hnd⟩ := hW
  have hA : DataW.TrodAll enc Tryz.prog W 0 (fun _ => true) true Tryz.f4.params.toList args.toList ds p := hA0
  rw [Tryz.params4] at hA hval
  obtain ⟨v0, vs0, d0, ds0, p0, q0, hargs, rfl, rfl, h0, rt0⟩ := trodAll_cons hA
  obtain ⟨v1, vs1, d1, ds1, p1, q1, rfl, rfl, rfl, h1, rt1⟩ := trodAll_cons rt0
  obtain ⟨rfl, rfl, rfl⟩ := trodAll_nil rt1
  obtain rfl : args = #[v0, v1] := by cases args; simp_all
  obtain ⟨rfl, rfl⟩ := trodVars_none hV
  have hk0 := h0
  obtain ⟨r0, s0, rfl, hok0, hwd0, hlies0⟩ := open_repB (hval 0 25 v0 rfl rfl) h0
  have hlt0 : ∀ x ∈ p0, x.block < W.heap.size := fun x hx => by simpa using hWk.lt x (by simp [hx])
  have hk1 := h1
  obtain ⟨m1, ao1, cap1, rfl, _, hcp1, hlies1⟩ := open_msgB (hval 1 27 v1 rfl rfl) h1
  have hlt1 : ∀ x ∈ p1, x.block < W.heap.size := fun x hx => by simpa using hWk.lt x (by simp [hx])
  clear hA0 hval0
  simp only [List.append_nil] at hW'

  refine (walk r0 s0 hok0 hwd0 m1 ao1 cap1 hcp1 W hlies0 hlies1).mono fun e W' ⟨he, hg⟩ => ?_
  subst he
  exact ⟨_, rfl, _, _, _, [], _, [], hW', trodAll_cons_mk (shut_bool Tryz.underlying4 _) trodAll_mk0, (trodAll_cons_mk (Below.trod Tryz.laidOut (by kernel_rfl) (of_decide_eq_true (by kernel_rfl)) hk0 hg hlt0) (trodAll_cons_mk (Below.trod Tryz.laidOut (by kernel_rfl) (of_decide_eq_true (by kernel_rfl)) hk1 hg hlt1) trodAll_mk0)), rfl, hg.frame _, fun h => by cases h⟩

theorem over : Rows.replicaPreparesRow.holds Tryz.pinned (OpenSpec.ofChange Rows.replicaPreparesSpec) :=
  OpenClaim.holds_of_wide 4 Tryz.f4 rfl rfl rfl rfl rfl rfl rfl ⟨rfl, rfl, rfl, rfl, rfl⟩ rfl rfl rfl rfl rfl (by kernel_rfl) Tryz.func4 (by kernel_rfl)
    (of_decide_eq_true (by kernel_rfl)) (by unfold Func.isWrapper; first | (rw [if_pos (by decide +kernel)]; kernel_rfl) | (rw [if_neg (by decide +kernel)]; exact ⟨rfl, rfl⟩))
    (fun os started H enc _ => lifted os started H enc)

theorem proved : Rows.ReplicaPreparesSaid :=
  over
#print axioms proved
end Go.Proofs.YtgdehjdajjhjpaaGreat.replicaPrepares
