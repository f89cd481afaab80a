/-
  Proved: for every text, place and byte the law SealTurned returns true: a text with its sum, of which one byte is turned, is refused by seal.Get (5.3), and the document's examples hold; the text reads behind the call as before. No condition.
-/
import Derived.Test.YtcjjjhmnkmmecaaRows
import Derived.Test.YtcjjjhmnkmmecaaSAwake
import Derived.Test.YtcjjjhmnkmmecaaSGet
import Derived.Test.YtcjjjhmnkmmecaaSByt
import Derived.WalkKit
import Derived.ProofKit
import Derived.OpenShut
import Derived.ShutString
import Derived.Lib.SmallJoins
namespace Go.Proofs.Ytcjjjhmnkmmecaa.sealTurned
open Go.ChangeShapes Go.WideShapes Go.ChangeAt Go.RowKit Go.Joins Num
open Go.ChangeMaps (open_string shut_string)
set_option linter.unusedVariables false

theorem own : ownKnob Try.prog.godebug = none := by kernel_rfl

theorem turn_ne (c : UInt8) (f : Nat) (hf : f < 256) : ∃ d : UInt8, d ≠ c ∧ bits .xor .u8 (c.toNat : Int) (1 + (f : Int) % 255) = (d.toNat : Int) := by
  have hb := c.toNat_lt
  have h := u8_xor_nat c.toNat (1 + f % 255) (by omega) (by omega)
  have hlt : c.toNat ^^^ (1 + f % 255) < 256 := Nat.xor_lt_two_pow (n := 8) (by omega) (by omega)
  refine ⟨UInt8.ofNat (c.toNat ^^^ (1 + f % 255)), ?_, ?_⟩
  · intro e
    have e2 := congrArg UInt8.toNat e
    rw [UInt8.toNat_ofNat', Nat.mod_eq_of_lt hlt] at e2
    have e3 : c.toNat ^^^ (c.toNat ^^^ (1 + f % 255)) = 0 := by rw [e2, Nat.xor_self]
    rw [← Nat.xor_assoc, Nat.xor_self, Nat.zero_xor] at e3
    omega
  · rw [UInt8.toNat_ofNat', Nat.mod_eq_of_lt hlt, ← h]
    rfl
theorem core (s0 : ByteArray) (hl : ¬ 20000 < (s0.size : Int)) (A : ByteArray) (hA1 : 0 < A.size) (hA2 : A.size ≤ 30000) (a1 : Int) (f2 : Nat) (hf2 : f2 < 256)
    (h1 : ∀ w, Calls Try.prog 13 #[.string s0] w fun e w' => e = .returned (.string A) ∧ Below w.heap.size w w')
    (h3 : ∀ (k : Nat) (hk : k < A.data.toList.length) (d : UInt8), d ≠ A.data.toList[k] → ∀ w, Calls Try.prog 11 #[.string (str (A.data.toList.set k d))] w fun e w' => e = .returned (.tuple #[.string ⟨#[]⟩, .int .i64 3]) ∧ Below w.heap.size w w') (w : World) :
    Calls Try.prog 6 #[.string s0, .int .i64 a1, .int .u8 (f2 : Int)] w fun e w' => e = .returned (.bool true) ∧ Below w.heap.size w w' := by
  have hd : A.data.toList.length = A.size := rfl
  obtain ⟨u, k, hu, hk, hkm⟩ := place_mod a1 A.size hA1
  obtain ⟨d, hdn, hx⟩ := turn_ne (A.data.toList[k]'(by omega)) f2 hf2
  have h3' := h3 k (by omega) d hdn
  clear h3
  have hrow : ∀ w1, Below w.heap.size w w1 → ∃ cap W, (convert 9 33 (.string A)).run Try.prog w1 = .ok (.slice (some ⟨w1.heap.size, 0, none⟩) A.size cap) W ∧
      W.cell? ⟨w1.heap.size, k, none⟩ = some (.int .u8 ((A.data.toList[k]'(by omega)).toNat : Int)) ∧ W.frozen? ⟨w1.heap.size, k, none⟩ = false ∧
      (convert 33 9 (.slice (some ⟨w1.heap.size, 0, none⟩) A.size cap)).run Try.prog (W.setCell ⟨w1.heap.size, k, none⟩ (.int .u8 (d.toNat : Int))) = .ok (.string (str (A.data.toList.set k d))) (W.setCell ⟨w1.heap.size, k, none⟩ (.int .u8 (d.toNat : Int))) ∧
      Below w.heap.size w (W.setCell ⟨w1.heap.size, k, none⟩ (.int .u8 (d.toNat : Int))) := by
    intro w1 hb1
    obtain ⟨cap, W, hcv, hbW, hby⟩ := bytes_fresh A w1
    have hset := hby.set k (by omega) d _ rfl
    exact ⟨cap, W, hcv, (hby k (by omega)).1, (hby k (by omega)).2, hset.conv cap A.size (by rw [List.length_set, hd]), (below_next hb1 (Nat.le_refl _) hbW).setCell hb1.size _⟩
  generalize A.data.toList[k] = c at *
  generalize str (A.data.toList.set k d) = A2 at *
  go_enter Try.func6, Try.ntmps6
  go_wp2_with (first
    | (go_at_call 13; refine (h1 _).mono ?_; rintro e w1 ⟨rfl, hb1⟩; obtain ⟨cap, W, hcv, hk1, hk2, hconv, hb3⟩ := hrow w1 hb1; clear hb1 hrow)
    | (go_at_call 11; refine (h3' _).mono ?_; rintro e w4 ⟨rfl, hb4⟩)
    | (go_at_call 15; refine (num_any _ _).mono ?_; rintro e w5 ⟨rfl, rfl⟩)
    | (go_at_call 10; refine (awake_any _).mono ?_; rintro e w6 ⟨rfl, rfl⟩))
  go_ret
  exact ⟨rfl, below_next hb3 (Nat.le_refl _) hb4⟩

theorem walk (s0 : ByteArray) (ws0 : s0.size ≤ maxLen) (a1 : Int) (ha1 : -9223372036854775808 ≤ a1 ∧ a1 ≤ 9223372036854775807) (f2 : Nat) (hf2 : f2 < 256) (w : World) :
    Calls Try.prog 6 #[.string s0, .int .i64 a1, .int .u8 (f2 : Int)] w fun e w' => e = .returned (.bool true) ∧ Below w.heap.size w w' := by
  by_cases hl : 20000 < (s0.size : Int)
  · go_enter Try.func6, Try.ntmps6
    go_wp2_with (first
      | (go_at_call 10; refine (awake_any _).mono ?_; rintro e w3 ⟨rfl, rfl⟩))
    go_ret
    exact ⟨rfl, Below.refl _ _⟩
  · have hd : s0.data.toList.length = s0.size := rfl
    have hA : (str (sealL s0.data.toList)).size = s0.size + 4 := by rw [str_size, sealL_len, hd]
    have h1 := put_any s0 (by omega)
    refine core s0 hl _ (by omega) (by omega) a1 f2 hf2 h1 ?_ w
    intro k hk d hdn w
    have h3 := get_any (str ((str (sealL s0.data.toList)).data.toList.set k d)) (by rw [str_size, List.length_set, str_data, sealL_len]; omega) w
    rw [str_data] at h3
    simp only [str_data] at h3 hk hdn
    rw [open_turned s0.data.toList k hk d hdn] at h3
    simp only [str_data]
    exact h3

set_option maxRecDepth 100000 in
theorem lifted (os : Os) (started : os.Started) (H : Type) (enc : TypeId × Value → H) :
    ReturnsInHanded {} Try.checked os 6 .any (Rows.sealTurnedSpec.pre6 enc Try.prog Try.f6 Rows.sealTurnedRow.domain false) (Rows.sealTurnedSpec.post enc Try.prog Try.f6 false true false false) := by
  refine returnsInHanded_of_change (C := Try.checked) own started (by kernel_rfl) Try.func6
    (ChangeSpec.witness6 (enc := enc) (C := Try.checked) false ⟨#[], #[.string ByteArray.empty, .int .i64 0, .int .u8 0], []⟩ 8 (by kernel_rfl) (by kernel_rfl) (by kernel_rfl) (by kernel_rfl)) ?_
  intro W base args ds gs before hval0 hW hcnd _
  have hval : ∀ (j : Nat) t v, Try.f6.params[j]? = some t → args[j]? = some v → Value.okWide Try.prog W .any base t v := hval0
  have hW' := hW
  have hWk := hW
  obtain ⟨p, q, hA0, hV, rfl, hfz, hnd⟩ := hW
  have hA : DataW.TrodAll enc Try.prog W 0 (fun _ => true) true Try.f6.params.toList args.toList ds p := hA0
  rw [Try.params6] at hA hval
  obtain ⟨v0, vs0, d0, ds0, p0, q0, hargs, rfl, rfl, h0, r0⟩ := trodAll_cons hA
  obtain ⟨v1, vs1, d1, ds1, p1, q1, rfl, rfl, rfl, h1, r1⟩ := trodAll_cons r0
  obtain ⟨v2, vs2, d2, ds2, p2, q2, rfl, rfl, rfl, h2, r2⟩ := trodAll_cons r1
  obtain ⟨rfl, rfl, rfl⟩ := trodAll_nil r2
  obtain rfl : args = #[v0, v1, v2] := by cases args; simp_all
  obtain ⟨rfl, rfl⟩ := trodVars_none hV
  obtain ⟨s0, rfl, rfl, rfl, ws0⟩ := open_string Try.underlying9 (hval 0 9 v0 rfl rfl) h0
  obtain ⟨a1, rfl, rfl, rfl, wa1⟩ := open_int Try.underlying3 (hval 1 3 v1 rfl rfl) h1
  have ba1 := bounds_i64 wa1
  obtain ⟨g2, rfl, rfl, rfl, wf2⟩ := open_int Try.underlying5 (hval 2 5 v2 rfl rfl) h2
  have bf2 := bounds_u8 wf2
  obtain ⟨f2, rfl⟩ := Int.eq_ofNat_of_zero_le bf2.1
  clear hA0 hval0
  simp only [List.append_nil] at hW'

  refine (walk s0 ws0 a1 (by omega) f2 (by omega) W).mono fun e W' ⟨he, hg⟩ => ?_
  subst he
  exact ⟨_, rfl, _, _, _, [], _, [], hW', trodAll_cons_mk (shut_bool Try.underlying4 _) trodAll_mk0, (trodAll_cons_mk (shut_string Try.underlying9 ws0) (trodAll_cons_mk (shut_int Try.underlying3 wa1) (trodAll_cons_mk (shut_int Try.underlying5 wf2) trodAll_mk0))), rfl, hg.frame _, fun h => by cases h⟩

theorem over : Rows.sealTurnedRow.holds Try.pinned (OpenSpec.ofChange Rows.sealTurnedSpec) :=
  OpenClaim.holds_of_wide 6 Try.f6 rfl rfl rfl rfl rfl rfl rfl ⟨rfl, rfl, rfl, rfl, rfl⟩ rfl rfl rfl rfl rfl (by kernel_rfl) Try.func6 (by kernel_rfl)
    (of_decide_eq_true (by kernel_rfl)) (by unfold Func.isWrapper; first | (rw [if_pos (by decide +kernel)]; kernel_rfl) | (rw [if_neg (by decide +kernel)]; exact ⟨rfl, rfl⟩))
    (fun os started H enc _ => lifted os started H enc)

theorem proved : Rows.SealTurnedSaid :=
  over
#print axioms proved
end Go.Proofs.Ytcjjjhmnkmmecaa.sealTurned
