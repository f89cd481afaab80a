/-
  Proved: for every list of values the law TupleBack returns true: what tuple.Put tells is read back by tuple.Get as those values; what may not be is refused without bytes (3.1, 3.2); the values read behind the call as before. No condition.
-/
import Derived.Test.YtpjhkfebdgiejaaRows
import Derived.Test.YtpjhkfebdgiejaaTAwake
import Derived.Test.YtpjhkfebdgiejaaTOpen
import Derived.Test.YtpjhkfebdgiejaaTBackM
import Derived.Test.YtpjhkfebdgiejaaTSame
import Derived.WalkKit
import Derived.ProofKit
import Derived.OpenShut
import Derived.ShutString
import Derived.Lib.SmallJoins
namespace Go.Proofs.Ytpjhkfebdgiejaa.tupleBack
open Go.ChangeShapes Go.WideShapes Go.ChangeAt Go.RowKit Go.Joins Num
open Go.ChangeMaps (open_string shut_string)
set_option linter.unusedVariables false

theorem own : ownKnob Try.prog.godebug = none := by kernel_rfl
theorem cellsV : Try.prog.cellsOf 38 = 4 := by kernel_rfl

theorem core_bad (ao0 : Option Addr) (cap0 : Nat) (l0 : List Val) (w : World) (hl0 : Lies w w.heap.size ao0 l0) (E : Int) (hE : ¬ E = 0)
    (hg0 : ∀ w, Lies w w.heap.size ao0 l0 → Calls Try.prog 9 #[.slice ao0 l0.length cap0] w fun e w' => e = .returned (.bool false) ∧ w' = w)
    (hp0 : ∀ w, Lies w w.heap.size ao0 l0 → Calls Try.prog 11 #[.slice ao0 l0.length cap0] w fun e w' => e = .returned (.tuple #[.string ⟨#[]⟩, .int .i64 E]) ∧ Below w.heap.size w w') :
    Calls Try.prog 6 #[.slice ao0 l0.length cap0] w fun e w' => e = .returned (.bool true) ∧ Below w.heap.size w w' := by
  go_enter Try.func6, Try.ntmps6
  go_wp2_with (first
    | (go_at_call 9; refine (hg0 _ hl0).mono ?_; rintro e w1 ⟨rfl, rfl⟩)
    | (go_at_call 11; refine (hp0 _ hl0).mono ?_; rintro e w1 ⟨rfl, hb1⟩)
    | (go_at_call 13; refine (num_any _ _).mono ?_; rintro e w4 ⟨rfl, rfl⟩)
    | (go_at_call 10; refine (awake_any _).mono ?_; rintro e w3 ⟨rfl, hb3⟩))
  go_ret
  exact ⟨rfl, below_next hb1 (Nat.le_refl _) hb3⟩
theorem core_ok (ao0 : Option Addr) (cap0 : Nat) (l0 : List Val) (h16 : l0.length ≤ 16) (w : World) (hl0 : Lies w w.heap.size ao0 l0) (T : ByteArray)
    (hg0 : ∀ w, Lies w w.heap.size ao0 l0 → Calls Try.prog 9 #[.slice ao0 l0.length cap0] w fun e w' => e = .returned (.bool false) ∧ w' = w)
    (hp0 : ∀ w, Lies w w.heap.size ao0 l0 → Calls Try.prog 11 #[.slice ao0 l0.length cap0] w fun e w' => e = .returned (.tuple #[.string T, .int .i64 0]) ∧ Below w.heap.size w w')
    (hget : ∀ w, Calls Try.prog 14 #[.string T] w fun e w' => ∃ ao cap, e = .returned (.tuple #[.slice ao l0.length cap, .int .i64 0]) ∧ Lies w' w'.heap.size ao l0 ∧ Below w.heap.size w w') :
    Calls Try.prog 6 #[.slice ao0 l0.length cap0] w fun e w' => e = .returned (.bool true) ∧ Below w.heap.size w w' := by
  go_enter Try.func6, Try.ntmps6
  go_wp2_with (first
    | (go_at_call 9; refine (hg0 _ hl0).mono ?_; rintro e w1 ⟨rfl, rfl⟩)
    | (go_at_call 11; refine (hp0 _ hl0).mono ?_; rintro e w1 ⟨rfl, hb1⟩; have hl1 := lies_next hl0 hb1)
    | (go_at_call 14; refine (hget _).mono ?_; rintro e w2 ⟨ao2, cap2, rfl, hm2, hb2⟩; have hl2 := lies_next hl1 hb2)
    | (go_at_call 16; refine (same_any _ _ _ _ l0 (by omega) _ hl2 hm2).mono ?_; rintro e w5 ⟨rfl, hb5⟩)
    | (go_at_call 13; refine (num_any _ _).mono ?_; rintro e w4 ⟨rfl, rfl⟩)
    | (go_at_call 10; refine (awake_any _).mono ?_; rintro e w3 ⟨rfl, hb3⟩))
  go_ret
  exact ⟨rfl, below_next (below_next (below_next hb1 (Nat.le_refl _) hb2) (Nat.le_refl _) hb5) (Nat.le_refl _) hb3⟩

theorem walk (ao0 : Option Addr) (cap0 : Nat) (l0 : List Val) (hlen0 : l0.length ≤ maxLen) (hok0 : ∀ x ∈ l0, x.ok) (w : World) (hl0 : Lies w w.heap.size ao0 l0) :
    Calls Try.prog 6 #[.slice ao0 l0.length cap0] w fun e w' => e = .returned (.bool true) ∧ Below w.heap.size w w' := by
  have hg0 := long_any ao0 cap0 l0 hlen0
  cases hlg : longB l0 with
  | true =>
    rw [hlg] at hg0
    go_enter Try.func6, Try.ntmps6
    go_wp2_with (first
      | (go_at_call 9; refine (hg0 _ hl0).mono ?_; rintro e w1 ⟨rfl, rfl⟩)
      | (go_at_call 10; refine (awake_any _).mono ?_; rintro e w3 ⟨rfl, hb3⟩))
    go_ret
    exact ⟨rfl, hb3⟩
  | false =>
    rw [hlg] at hg0
    have hp0 := tupPut_any ao0 cap0 l0 hok0
    by_cases h16 : 16 < l0.length
    · rw [(tup_long h16).1, (tup_long h16).2] at hp0
      exact core_bad ao0 cap0 l0 w hl0 2 (by decide) hg0 hp0
    · cases hm : mayAll l0 with
      | false =>
        rw [(tup_bad h16 hm).1, (tup_bad h16 hm).2] at hp0
        exact core_bad ao0 cap0 l0 w hl0 1 (by decide) hg0 hp0
      | true =>
        rw [(tup_ok h16 hm).1, (tup_ok h16 hm).2] at hp0
        have hlp := length_putAll l0 l0.length (by rw [List.take_length]; exact hm)
        rw [List.take_length] at hlp
        have hget := get_lies (str (putAll l0)) (by show (putAll l0).length ≤ 900000; omega) l0 (vals_put l0 hok0 hm (by omega))
        exact core_ok ao0 cap0 l0 (by omega) w hl0 _ hg0 hp0 hget

set_option maxRecDepth 100000 in
theorem lifted (os : Os) (started : os.Started) (H : Type) (enc : TypeId × Value → H) :
    ReturnsInHanded {} Try.checked os 6 .any (Rows.tupleBackSpec.pre6 enc Try.prog Try.f6 Rows.tupleBackRow.domain false) (Rows.tupleBackSpec.post enc Try.prog Try.f6 false true false false) := by
  refine returnsInHanded_of_change (C := Try.checked) own started (by kernel_rfl) Try.func6
    (ChangeSpec.witness6 (enc := enc) (C := Try.checked) false ⟨#[], #[.slice none 0 0], []⟩ 8 (by kernel_rfl) (by kernel_rfl) (by kernel_rfl) (by kernel_rfl)) ?_
  intro W base args ds gs before hval0 hW hcnd _
  have hval : ∀ (j : Nat) t v, Try.f6.params[j]? = some t → args[j]? = some v → Value.okWide Try.prog W .any base t v := hval0
  have hW' := hW
  have hWk := hW
  obtain ⟨p, q, hA0, hV, rfl, hfz, hnd⟩ := hW
  have hA : DataW.TrodAll enc Try.prog W 0 (fun _ => true) true Try.f6.params.toList args.toList ds p := hA0
  rw [Try.params6] at hA hval
  obtain ⟨v0, vs0, d0, ds0, p0, q0, hargs, rfl, rfl, h0, r0⟩ := trodAll_cons hA
  obtain ⟨rfl, rfl, rfl⟩ := trodAll_nil r0
  obtain rfl : args = #[v0] := by cases args; simp_all
  obtain ⟨rfl, rfl⟩ := trodVars_none hV
  have hk0 := h0
  obtain ⟨ao0, cap0, l0, rfl, hlen0, hok0, hlies0⟩ := open_vals (hval 0 22 v0 rfl rfl) h0
  have hlt0 : ∀ x ∈ p0, x.block < W.heap.size := fun x hx => by simpa using hWk.lt x (by simp [hx])
  clear hA0 hval0
  simp only [List.append_nil] at hW'

  refine (walk ao0 cap0 l0 hlen0 hok0 W hlies0).mono fun e W' ⟨he, hg⟩ => ?_
  subst he
  exact ⟨_, rfl, _, _, _, [], _, [], hW', trodAll_cons_mk (shut_bool Try.underlying4 _) trodAll_mk0, (trodAll_cons_mk (Below.trod Try.laidOut (by kernel_rfl) (of_decide_eq_true (by kernel_rfl)) hk0 hg hlt0) trodAll_mk0), rfl, hg.frame _, fun h => by cases h⟩

theorem over : Rows.tupleBackRow.holds Try.pinned (OpenSpec.ofChange Rows.tupleBackSpec) :=
  OpenClaim.holds_of_wide 6 Try.f6 rfl rfl rfl rfl rfl rfl rfl ⟨rfl, rfl, rfl, rfl, rfl⟩ rfl rfl rfl rfl rfl (by kernel_rfl) Try.func6 (by kernel_rfl)
    (of_decide_eq_true (by kernel_rfl)) (by unfold Func.isWrapper; first | (rw [if_pos (by decide +kernel)]; kernel_rfl) | (rw [if_neg (by decide +kernel)]; exact ⟨rfl, rfl⟩))
    (fun os started H enc _ => lifted os started H enc)

theorem proved : Rows.TupleBackSaid :=
  over
#print axioms proved
end Go.Proofs.Ytpjhkfebdgiejaa.tupleBack
