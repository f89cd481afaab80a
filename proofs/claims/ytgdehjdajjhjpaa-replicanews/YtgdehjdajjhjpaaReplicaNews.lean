/-
  Which replicas can be made is the document's (11.1): for every id and n.
-/
import Derived.Test.YtgdehjdajjhjpaaRows
import Derived.Test.YtgdehjdajjhjpaaRpAwk
import Derived.WalkKit
import Derived.ProofKit
import Derived.OpenShut
import Derived.ShutString
import Derived.Lib.SmallJoins
namespace Go.Proofs.Ytgdehjdajjhjpaa.replicaNews
open Go.ChangeShapes Go.WideShapes Go.ChangeAt Go.RowKit Go.Joins Num
open Go.ChangeMaps (open_string shut_string)
set_option linter.unusedVariables false

theorem own : ownKnob Try.prog.godebug = none := by kernel_rfl
theorem news_both (id n : Int) : ∃ (q : Rep) (e : Int), (q.log.length ≤ 1000000 ∧ q.best.length ≤ 1000000 ∧ q.acked.length ≤ 1000000 ∧ q.votes.length ≤ 1000000 ∧ q.voters.length ≤ 1000000) ∧
    (∀ W : World, Calls Try.prog 7 #[.int .i64 id, .int .i64 n] W fun x W' => ∃ s, x = .returned (.tuple #[repV q s, .int .i64 e]) ∧ LiesR W' W'.heap.size s q ∧ Below W.heap.size W W') ∧
    (∀ W : World, Calls Try.prog 8 #[.int .i64 id, .int .i64 n] W fun x W' => ∃ s, x = .returned (.tuple #[repV q s, .int .i64 e]) ∧ LiesR W' W'.heap.size s q ∧ Below W.heap.size W W') := by
  by_cases h : OneOf id n
  · exact ⟨newR id n, 0, ⟨Nat.zero_le _, Nat.zero_le _, by have := h.1; simp [newR]; omega, Nat.zero_le _, Nat.zero_le _⟩, fun W => new_yes id n h W, fun W => rnew_yes id n h W⟩
  · exact ⟨rep0, 1, ⟨Nat.zero_le _, Nat.zero_le _, Nat.zero_le _, Nat.zero_le _, Nat.zero_le _⟩, fun W => (new_no id n h W).mono fun e w' q => ⟨_, q.1, ⟨fun i x hx => by simp [rep0] at hx, fun i x hx => by simp [rep0] at hx, fun i x hx => by simp [rep0] at hx, fun i x hx => by simp [rep0] at hx, fun i x hx => by simp [rep0] at hx⟩, q.2⟩,
      fun W => (rnew_no id n h W).mono fun e w' q => ⟨_, q.1, ⟨fun i x hx => by simp [rep0] at hx, fun i x hx => by simp [rep0] at hx, fun i x hx => by simp [rep0] at hx, fun i x hx => by simp [rep0] at hx, fun i x hx => by simp [rep0] at hx⟩, q.2⟩⟩

theorem walk (a0 : Int) (ha0 : -9223372036854775808 ≤ a0 ∧ a0 ≤ 9223372036854775807) (a1 : Int) (ha1 : -9223372036854775808 ≤ a1 ∧ a1 ≤ 9223372036854775807) (w : World) :
    Calls Try.prog 3 #[.int .i64 a0, .int .i64 a1] w fun e w' => e = .returned (.bool true) ∧ Below w.heap.size w w' := by
  obtain ⟨q, E, ⟨l1, l2, l3, l4, l5⟩, hn, hr⟩ := news_both a0 a1
  have hnum := fun n W => num_any n W
  have haw := fun W => awake_any W
  go_enter Try.func3, Try.ntmps3
  go_wp2_with (first
    | (go_at_call 7; refine (hn _).mono ?_; rintro e w1 ⟨s1, rfl, hl1, hb1⟩; clear hn)
    | (go_at_call 8; refine (hr _).mono ?_; rintro e w2 ⟨s2, rfl, hl2, hb2⟩; have hb2' := below_box0 hb2; have hb12 := below_next hb1 (Nat.le_refl _) hb2'; have hl1' := liesR_next hl1 hb2' hb2'.size; have hs := fun ob : Obj => same_any q s1 s2 l1 l2 l3 l4 l5 (w2.alloc ob) (liesR_next hl1' ((Below.refl _ w2).alloc (Nat.le_refl _) ob) ((Below.refl _ w2).alloc (Nat.le_refl _) ob).size) (liesR_next hl2 ((Below.refl _ w2).alloc (Nat.le_refl _) ob) ((Below.refl _ w2).alloc (Nat.le_refl _) ob).size); have bx := below_box hb2 (heap_new w1 _); have c0 := fun ob : Obj => alloc_cell ob (box_cell bx 0 _ rfl); have c1 := fun ob : Obj => alloc_cell ob (box_cell bx 1 _ rfl); have c2 := fun ob : Obj => alloc_cell ob (box_cell bx 2 _ rfl); have c3 := fun ob : Obj => alloc_cell ob (box_cell bx 3 _ rfl); have c4 := fun ob : Obj => alloc_cell ob (box_cell bx 4 _ rfl); have c5 := fun ob : Obj => alloc_cell ob (box_cell bx 5 _ rfl); have c6 := fun ob : Obj => alloc_cell ob (box_cell bx 6 _ rfl); have c7 := fun ob : Obj => alloc_cell ob (box_cell bx 7 _ rfl); have c8 := fun ob : Obj => alloc_cell ob (box_cell bx 8 _ rfl); have c9 := fun ob : Obj => alloc_cell ob (box_cell bx 9 _ rfl); have c10 := fun ob : Obj => alloc_cell ob (box_cell bx 10 _ rfl); have c11 := fun ob : Obj => alloc_cell ob (box_cell bx 11 _ rfl); have c12 := fun ob : Obj => alloc_cell ob (box_cell bx 12 _ rfl); clear hr bx)
    | (go_at_call 9; refine (hs _).mono ?_; rintro e w3 ⟨rfl, hb3⟩; clear hs)
    | (go_at_call 10; refine (hnum _ _).mono ?_; rintro e wn ⟨rfl, hq⟩; have hq' := hq.symm; clear hq; subst hq')
    | (go_at_call 11; refine (haw _).mono ?_; rintro e w4 ⟨rfl, hb4⟩))
  go_ret
  exact ⟨rfl, below_next (below_next hb12 (Nat.le_refl _) (below_box0 hb3)) (Nat.le_refl _) hb4⟩

set_option maxRecDepth 100000 in
theorem lifted (os : Os) (started : os.Started) (H : Type) (enc : TypeId × Value → H) :
    ReturnsInHanded {} Try.checked os 3 .any (Rows.replicaNewsSpec.pre6 enc Try.prog Try.f3 Rows.replicaNewsRow.domain false) (Rows.replicaNewsSpec.post enc Try.prog Try.f3 false true false false) := by
  refine returnsInHanded_of_change (C := Try.checked) own started (by kernel_rfl) Try.func3
    (ChangeSpec.witness6 (enc := enc) (C := Try.checked) false ⟨#[], #[.int .i64 0, .int .i64 0], []⟩ 8 (by kernel_rfl) (by kernel_rfl) (by kernel_rfl) (by kernel_rfl)) ?_
  intro W base args ds gs before hval0 hW hcnd _
  have hval : ∀ (j : Nat) t v, Try.f3.params[j]? = some t → args[j]? = some v → Value.okWide Try.prog W .any base t v := hval0
  have hW' := hW
  have hWk := hW
  obtain ⟨p, q, hA0, hV, rfl, hfz, hnd⟩ := hW
  have hA : DataW.TrodAll enc Try.prog W 0 (fun _ => true) true Try.f3.params.toList args.toList ds p := hA0
  rw [Try.params3] at hA hval
  obtain ⟨v0, vs0, d0, ds0, p0, q0, hargs, rfl, rfl, h0, rt0⟩ := trodAll_cons hA
  obtain ⟨v1, vs1, d1, ds1, p1, q1, rfl, rfl, rfl, h1, rt1⟩ := trodAll_cons rt0
  obtain ⟨rfl, rfl, rfl⟩ := trodAll_nil rt1
  obtain rfl : args = #[v0, v1] := by cases args; simp_all
  obtain ⟨rfl, rfl⟩ := trodVars_none hV
  obtain ⟨a0, rfl, rfl, rfl, wa0⟩ := open_int Try.underlying3 (hval 0 3 v0 rfl rfl) h0
  have ba0 := bounds_i64 wa0
  obtain ⟨a1, rfl, rfl, rfl, wa1⟩ := open_int Try.underlying3 (hval 1 3 v1 rfl rfl) h1
  have ba1 := bounds_i64 wa1
  clear hA0 hval0
  simp only [List.append_nil] at hW'

  refine (walk a0 (by omega) a1 (by omega) W).mono fun e W' ⟨he, hg⟩ => ?_
  subst he
  exact ⟨_, rfl, _, _, _, [], _, [], hW', trodAll_cons_mk (shut_bool Try.underlying4 _) trodAll_mk0, (trodAll_cons_mk (shut_int Try.underlying3 wa0) (trodAll_cons_mk (shut_int Try.underlying3 wa1) trodAll_mk0)), rfl, hg.frame _, fun h => by cases h⟩

theorem over : Rows.replicaNewsRow.holds Try.pinned (OpenSpec.ofChange Rows.replicaNewsSpec) :=
  OpenClaim.holds_of_wide 3 Try.f3 rfl rfl rfl rfl rfl rfl rfl ⟨rfl, rfl, rfl, rfl, rfl⟩ rfl rfl rfl rfl rfl (by kernel_rfl) Try.func3 (by kernel_rfl)
    (of_decide_eq_true (by kernel_rfl)) (by unfold Func.isWrapper; first | (rw [if_pos (by decide +kernel)]; kernel_rfl) | (rw [if_neg (by decide +kernel)]; exact ⟨rfl, rfl⟩))
    (fun os started H enc _ => lifted os started H enc)

theorem proved : Rows.ReplicaNewsSaid :=
  over
#print axioms proved
end Go.Proofs.Ytgdehjdajjhjpaa.replicaNews
