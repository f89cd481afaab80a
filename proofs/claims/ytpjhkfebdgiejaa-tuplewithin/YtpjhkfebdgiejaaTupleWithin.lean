/-
  Proved: for every two texts the law TupleWithin returns true: a text begins with another one just if it is not below that, and below what tuple.After tells of it; where After tells that there is none, that other one is bytes ff alone (3.4); the texts read behind the call as before. No condition.
-/
import Derived.Test.YtpjhkfebdgiejaaRows
import Derived.Test.YtpjhkfebdgiejaaTAwake
import Derived.Test.YtpjhkfebdgiejaaTWithM
import Derived.WalkKit
import Derived.ProofKit
import Derived.OpenShut
import Derived.ShutString
import Derived.Lib.SmallJoins
namespace Go.Proofs.Ytpjhkfebdgiejaa.tupleWithin
open Go.ChangeShapes Go.WideShapes Go.ChangeAt Go.RowKit Go.Joins Num
open Go.ChangeMaps (open_string shut_string)
set_option linter.unusedVariables false

theorem own : ownKnob Try.prog.godebug = none := by kernel_rfl
theorem cellsV : Try.prog.cellsOf 38 = 4 := by kernel_rfl

theorem toList_data (s : ByteArray) : s.toList = s.data.toList := ByteArray.toList_eq s
theorem toList_str (l : List UInt8) : (str l).toList = l := by rw [toList_data]; rfl
theorem pre_eq (s t : ByteArray) : ((t.extract 0 s.size).toList == s.toList) = s.data.toList.isPrefixOf t.data.toList := by
  rw [toList_data, toList_data, head_data]
  rw [Bool.eq_iff_iff, beq_iff_eq, List.isPrefixOf_iff_prefix, List.prefix_iff_eq_take]
  exact eq_comm
theorem pre_no (s t : ByteArray) (h : ¬ s.size ≤ t.size) : s.data.toList.isPrefixOf t.data.toList = false := by
  rw [Bool.eq_false_iff]
  intro hp
  have := (List.isPrefixOf_iff_prefix.1 hp).length_le
  exact h this
theorem all_255 {s : ByteArray} (h : aft s.data.toList = none) (k : Nat) (hk : k < s.size) : s[k] = 255 :=
  aft_none_all _ h _ (by
    have : s[k] = s.data.toList[k]'(by simpa using hk) := rfl
    rw [this]
    exact List.getElem_mem _)

theorem walk (s0 : ByteArray) (ws0 : s0.size ≤ maxLen) (s1 : ByteArray) (ws1 : s1.size ≤ maxLen) (w : World) :
    Calls Try.prog 8 #[.string s0, .string s1] w fun e w' => e = .returned (.bool true) ∧ Below w.heap.size w w' := by
  by_cases hz0 : 2000 < (s0.size : Int)
  · go_enter Try.func8, Try.ntmps8
    go_wp2_with (first
      | (go_at_call 10; refine (awake_any _).mono ?_; rintro e w3 ⟨rfl, hb3⟩))
    go_ret
    exact ⟨rfl, hb3⟩
  by_cases hz1 : 2000 < (s1.size : Int)
  · go_enter Try.func8, Try.ntmps8
    go_wp2_with (first
      | (go_at_call 10; refine (awake_any _).mono ?_; rintro e w3 ⟨rfl, hb3⟩))
    go_ret
    exact ⟨rfl, hb3⟩
  have h1 := after_any s0 (by omega)
  have hw := within_eq s0.data.toList s1.data.toList
  cases hv : aft s0.data.toList with
  | none =>
    have hall := fun k hk => all_255 hv k hk
    rw [hv, show aftV none = .tuple #[.string ⟨#[]⟩, .bool false] from rfl] at h1
    rw [hv] at hw
    by_cases hle : s0.size ≤ s1.size
    · have hE : ((s1.extract 0 s0.size).toList == s0.toList) = !Op.bytesLess s1.toList s0.toList := by
        rw [pre_eq, hw, toList_data, toList_data, Bool.and_true]
      clear hw hv
      go_enter Try.func8, Try.ntmps8
      go_wp2_with (first
        | (go_at_call 17; refine (h1 _).mono ?_; rintro e w1 ⟨rfl, hb1⟩))
      go_loopw [8] (fun i wr => ∃ k : Nat, k ≤ s0.size ∧ i = .int .i64 (k : Int) ∧ wr = w1) (fun i _ => s0.size - (intOf i).toNat)
      case atStart => exact ⟨0, by omega, rfl, rfl⟩
      case round =>
        obtain ⟨k, hk, rfl, rfl⟩ := hrel
        by_cases hks : k < s0.size
        · have hb := hall k hks
          clear hall
          go_wp2
          go_roundw
          case rel => exact ⟨k + 1, by omega, by go_num, trivial⟩
          case measure => simp [intOf]; omega
        · have hke : k = s0.size := by omega
          subst hke
          clear hall
          go_wp2_with (first
            | (go_at_call 10; refine (awake_any _).mono ?_; rintro e w3 ⟨rfl, hb3⟩))
          all_goals
            go_ret
            exact ⟨rfl, below_next hb1 (Nat.le_refl _) hb3⟩
    · have hL : Op.bytesLess s1.toList s0.toList = true := by
        rw [pre_no s0 s1 hle, ← toList_data, ← toList_data] at hw
        simpa using hw.symm
      clear hw hv
      go_enter Try.func8, Try.ntmps8
      go_wp2_with (first
        | (go_at_call 17; refine (h1 _).mono ?_; rintro e w1 ⟨rfl, hb1⟩))
      go_loopw [8] (fun i wr => ∃ k : Nat, k ≤ s0.size ∧ i = .int .i64 (k : Int) ∧ wr = w1) (fun i _ => s0.size - (intOf i).toNat)
      case atStart => exact ⟨0, by omega, rfl, rfl⟩
      case round =>
        obtain ⟨k, hk, rfl, rfl⟩ := hrel
        by_cases hks : k < s0.size
        · have hb := hall k hks
          clear hall
          go_wp2
          go_roundw
          case rel => exact ⟨k + 1, by omega, by go_num, trivial⟩
          case measure => simp [intOf]; omega
        · have hke : k = s0.size := by omega
          subst hke
          clear hall
          go_wp2_with (first
            | (go_at_call 10; refine (awake_any _).mono ?_; rintro e w3 ⟨rfl, hb3⟩))
          all_goals
            go_ret
            exact ⟨rfl, below_next hb1 (Nat.le_refl _) hb3⟩
  | some T =>
    rw [hv, show aftV (some T) = .tuple #[.string (str T), .bool true] from rfl] at h1
    rw [hv] at hw
    by_cases hle : s0.size ≤ s1.size
    · have hE : ((s1.extract 0 s0.size).toList == s0.toList) = (!Op.bytesLess s1.toList s0.toList && Op.bytesLess s1.toList (str T).toList) := by
        rw [pre_eq, hw, toList_data, toList_data, toList_str]
      clear hw hv
      go_enter Try.func8, Try.ntmps8
      go_wp2_with (first
        | (go_at_call 17; refine (h1 _).mono ?_; rintro e w1 ⟨rfl, hb1⟩)
        | (go_at_call 10; refine (awake_any _).mono ?_; rintro e w3 ⟨rfl, hb3⟩))
      all_goals
        go_ret
        exact ⟨rfl, below_next hb1 (Nat.le_refl _) hb3⟩
    · cases hL : Op.bytesLess s1.toList s0.toList with
      | true =>
        clear hw hv
        go_enter Try.func8, Try.ntmps8
        go_wp2_with (first
          | (go_at_call 17; refine (h1 _).mono ?_; rintro e w1 ⟨rfl, hb1⟩)
          | (go_at_call 10; refine (awake_any _).mono ?_; rintro e w3 ⟨rfl, hb3⟩))
        all_goals
          go_ret
          exact ⟨rfl, below_next hb1 (Nat.le_refl _) hb3⟩
      | false =>
        have hL2 : Op.bytesLess s1.toList (str T).toList = false := by
          rw [pre_no s0 s1 hle, ← toList_data, ← toList_data, hL] at hw
          rw [toList_str]
          simpa using hw.symm
        clear hw hv
        go_enter Try.func8, Try.ntmps8
        go_wp2_with (first
          | (go_at_call 17; refine (h1 _).mono ?_; rintro e w1 ⟨rfl, hb1⟩)
          | (go_at_call 10; refine (awake_any _).mono ?_; rintro e w3 ⟨rfl, hb3⟩))
        all_goals
          go_ret
          exact ⟨rfl, below_next hb1 (Nat.le_refl _) hb3⟩

set_option maxRecDepth 100000 in
theorem lifted (os : Os) (started : os.Started) (H : Type) (enc : TypeId × Value → H) :
    ReturnsInHanded {} Try.checked os 8 .any (Rows.tupleWithinSpec.pre6 enc Try.prog Try.f8 Rows.tupleWithinRow.domain false) (Rows.tupleWithinSpec.post enc Try.prog Try.f8 false true false false) := by
  refine returnsInHanded_of_change (C := Try.checked) own started (by kernel_rfl) Try.func8
    (ChangeSpec.witness6 (enc := enc) (C := Try.checked) false ⟨#[], #[.string ByteArray.empty, .string ByteArray.empty], []⟩ 8 (by kernel_rfl) (by kernel_rfl) (by kernel_rfl) (by kernel_rfl)) ?_
  intro W base args ds gs before hval0 hW hcnd _
  have hval : ∀ (j : Nat) t v, Try.f8.params[j]? = some t → args[j]? = some v → Value.okWide Try.prog W .any base t v := hval0
  have hW' := hW
  have hWk := hW
  obtain ⟨p, q, hA0, hV, rfl, hfz, hnd⟩ := hW
  have hA : DataW.TrodAll enc Try.prog W 0 (fun _ => true) true Try.f8.params.toList args.toList ds p := hA0
  rw [Try.params8] at hA hval
  obtain ⟨v0, vs0, d0, ds0, p0, q0, hargs, rfl, rfl, h0, r0⟩ := trodAll_cons hA
  obtain ⟨v1, vs1, d1, ds1, p1, q1, rfl, rfl, rfl, h1, r1⟩ := trodAll_cons r0
  obtain ⟨rfl, rfl, rfl⟩ := trodAll_nil r1
  obtain rfl : args = #[v0, v1] := by cases args; simp_all
  obtain ⟨rfl, rfl⟩ := trodVars_none hV
  obtain ⟨s0, rfl, rfl, rfl, ws0⟩ := open_string Try.underlying9 (hval 0 9 v0 rfl rfl) h0
  obtain ⟨s1, rfl, rfl, rfl, ws1⟩ := open_string Try.underlying9 (hval 1 9 v1 rfl rfl) h1
  clear hA0 hval0
  simp only [List.append_nil] at hW'

  refine (walk s0 ws0 s1 ws1 W).mono fun e W' ⟨he, hg⟩ => ?_
  subst he
  exact ⟨_, rfl, _, _, _, [], _, [], hW', trodAll_cons_mk (shut_bool Try.underlying4 _) trodAll_mk0, (trodAll_cons_mk (shut_string Try.underlying9 ws0) (trodAll_cons_mk (shut_string Try.underlying9 ws1) trodAll_mk0)), rfl, hg.frame _, fun h => by cases h⟩

theorem over : Rows.tupleWithinRow.holds Try.pinned (OpenSpec.ofChange Rows.tupleWithinSpec) :=
  OpenClaim.holds_of_wide 8 Try.f8 rfl rfl rfl rfl rfl rfl rfl ⟨rfl, rfl, rfl, rfl, rfl⟩ rfl rfl rfl rfl rfl (by kernel_rfl) Try.func8 (by kernel_rfl)
    (of_decide_eq_true (by kernel_rfl)) (by unfold Func.isWrapper; first | (rw [if_pos (by decide +kernel)]; kernel_rfl) | (rw [if_neg (by decide +kernel)]; exact ⟨rfl, rfl⟩))
    (fun os started H enc _ => lifted os started H enc)

theorem proved : Rows.TupleWithinSaid :=
  over
#print axioms proved
end Go.Proofs.Ytpjhkfebdgiejaa.tupleWithin
