/-
  Proved: for every value and every text the law ValueBack returns true: a value that may be is read back by value.Get of its bytes and whatever stands behind them, with the number of its bytes; one that may not be is refused without bytes (2.2, 2.3); what came in reads behind the call as before. No condition.
-/
import Derived.Test.YtpgpmnecggllcaaRows
import Derived.Test.YtpgpmnecggllcaaVGet5
import Derived.Test.YtpgpmnecggllcaaVBackM
import Derived.WalkKit
import Derived.ProofKit
import Derived.OpenShut
import Derived.ShutString
import Derived.Lib.SmallJoins
namespace Go.Proofs.Ytpgpmnecggllcaa.valueBack
open Go.ChangeShapes Go.WideShapes Go.ChangeAt Go.RowKit Go.Joins Num
open Go.ChangeMaps (open_string shut_string)
set_option linter.unusedVariables false

theorem own : ownKnob Try.prog.godebug = none := by kernel_rfl
theorem cellsV : Try.prog.cellsOf 24 = 4 := by kernel_rfl

theorem str_data (s : ByteArray) : str s.data.toList = s := by
  unfold str
  rw [Array.toArray_toList]

theorem lt_box {w w' : World} {o : Obj} (h : Below (w.alloc o).heap.size (w.alloc o) w') : w.heap.size < w'.heap.size := by
  have := h.size
  simp at this
  omega

theorem cells_next {w1 w2 : World} {b : Nat} {x0 x1 x2 x3 : Value} (hb : Below w1.heap.size w1 w2) (hlt : b < w1.heap.size) (h0 : w1.cell? ⟨b, 0, none⟩ = some x0) (h1 : w1.cell? ⟨b, 1, none⟩ = some x1) (h2 : w1.cell? ⟨b, 2, none⟩ = some x2) (h3 : w1.cell? ⟨b, 3, none⟩ = some x3) :
    w2.cell? ⟨b, 0, none⟩ = some x0 ∧ w2.cell? ⟨b, 1, none⟩ = some x1 ∧ w2.cell? ⟨b, 2, none⟩ = some x2 ∧ w2.cell? ⟨b, 3, none⟩ = some x3 :=
  ⟨(hb.cell hlt).trans h0, (hb.cell hlt).trans h1, (hb.cell hlt).trans h2, (hb.cell hlt).trans h3⟩

theorem core_bad (k0 n0 : Int) (f0 : Nat) (s0 s1 : ByteArray) (hl0 : ¬ 5000 < (s0.size : Int)) (hl1 : ¬ 5000 < (s1.size : Int))
    (hp : ∀ w, Calls Try.prog 13 #[.agg #[.int .i64 k0, .int .i64 n0, .int .u64 (f0 : Int), .string s0]] w fun e w' => e = .returned (.tuple #[.string ⟨#[]⟩, .int .i64 1]) ∧ Below w.heap.size w w')
    (hm : ∀ w, Calls Try.prog 10 #[.agg #[.int .i64 k0, .int .i64 n0, .int .u64 (f0 : Int), .string s0]] w fun e w' => e = .returned (.bool false) ∧ Below w.heap.size w w') (w : World) :
    Calls Try.prog 7 #[.agg #[.int .i64 k0, .int .i64 n0, .int .u64 (f0 : Int), .string s0], .string s1] w fun e w' => e = .returned (.bool true) ∧ Below w.heap.size w w' := by
  go_enter Try.func7, Try.ntmps7
  go_wp2_with (first
    | (go_at_call 9; refine (long_any _ _).mono ?_; rintro e w0 ⟨rfl, rfl⟩)
    | (go_at_call 13; refine (hp _).mono ?_; rintro e w1 ⟨rfl, hb1⟩; obtain ⟨b0, b1, b2, b3⟩ := box_cells hb1)
    | (go_at_call 15; refine (num_any _ _).mono ?_; rintro e w4 ⟨rfl, rfl⟩)
    | (go_at_call 10; refine (hm _).mono ?_; rintro e w2 ⟨rfl, hb2⟩)
    | (go_at_call 12; refine (awake_any _).mono ?_; rintro e w3 ⟨rfl, hb3⟩))
  go_ret
  exact ⟨rfl, below_next (below_next (below_box0 hb1) (Nat.le_refl _) hb2) (Nat.le_refl _) hb3⟩

theorem core_ok (k0 n0 : Int) (f0 : Nat) (s0 s1 T : ByteArray) (hT : T.size ≤ 83) (hl0 : ¬ 5000 < (s0.size : Int)) (hl1 : ¬ 5000 < (s1.size : Int))
    (hp : ∀ w, Calls Try.prog 13 #[.agg #[.int .i64 k0, .int .i64 n0, .int .u64 (f0 : Int), .string s0]] w fun e w' => e = .returned (.tuple #[.string T, .int .i64 0]) ∧ Below w.heap.size w w')
    (hg : ∀ w, Calls Try.prog 16 #[.string (T ++ s1)] w fun e w' => e = .returned (.tuple #[.agg #[.int .i64 k0, .int .i64 n0, .int .u64 (f0 : Int), .string s0], .int .i64 (T.size : Int), .int .i64 0]) ∧ Below w.heap.size w w')
    (hm : ∀ w, Calls Try.prog 10 #[.agg #[.int .i64 k0, .int .i64 n0, .int .u64 (f0 : Int), .string s0]] w fun e w' => e = .returned (.bool true) ∧ Below w.heap.size w w') (w : World) :
    Calls Try.prog 7 #[.agg #[.int .i64 k0, .int .i64 n0, .int .u64 (f0 : Int), .string s0], .string s1] w fun e w' => e = .returned (.bool true) ∧ Below w.heap.size w w' := by
  go_enter Try.func7, Try.ntmps7
  go_wp2_with (first
    | (go_at_call 9; refine (long_any _ _).mono ?_; rintro e w0 ⟨rfl, rfl⟩)
    | (go_at_call 13; refine (hp _).mono ?_; rintro e w1 ⟨rfl, hb1⟩; obtain ⟨b0, b1, b2, b3⟩ := box_cells hb1; have hlt1 := lt_box hb1)
    | (go_at_call 15; refine (num_any _ _).mono ?_; rintro e w4 ⟨rfl, rfl⟩)
    | (go_at_call 16; refine (hg _).mono ?_; rintro e w2 ⟨rfl, hb2⟩; obtain ⟨c0, c1, c2, c3⟩ := cells_next hb2 hlt1 b0 b1 b2 b3; have hlt2 := Nat.lt_of_lt_of_le hlt1 hb2.size)
    | (go_at_call 10; refine (hm _).mono ?_; rintro e w3 ⟨rfl, hb3⟩)
    | (go_at_call 12; refine (awake_any _).mono ?_; rintro e w5 ⟨rfl, hb5⟩))
  go_ret
  exact ⟨rfl, below_next (below_next (below_next (below_box0 hb1) (Nat.le_refl _) hb2) (Nat.le_refl _) (below_box0 hb3)) (Nat.le_refl _) hb5⟩

theorem walk (k0 n0 : Int) (hn0 : -9223372036854775808 ≤ n0 ∧ n0 ≤ 9223372036854775807) (f0 : Nat) (hf0 : f0 < 18446744073709551616) (s0 : ByteArray) (s1 : ByteArray) (ws1 : s1.size ≤ maxLen) (w : World) :
    Calls Try.prog 7 #[.agg #[.int .i64 k0, .int .i64 n0, .int .u64 (f0 : Int), .string s0], .string s1] w fun e w' => e = .returned (.bool true) ∧ Below w.heap.size w w' := by
  have hp := put_any k0 n0 hn0 f0 hf0 s0
  have hm := may_any k0 n0 f0 s0
  by_cases hl0 : 5000 < (s0.size : Int)
  · go_enter Try.func7, Try.ntmps7
    go_wp2_with (first
      | (go_at_call 9; refine (long_any _ _).mono ?_; rintro e w1 ⟨rfl, rfl⟩)
      | (go_at_call 12; refine (awake_any _).mono ?_; rintro e w3 ⟨rfl, hb3⟩))
    go_ret
    exact ⟨rfl, below_box0 hb3⟩
  · by_cases hl1 : 5000 < (s1.size : Int)
    · go_enter Try.func7, Try.ntmps7
      go_wp2_with (first
        | (go_at_call 9; refine (long_any _ _).mono ?_; rintro e w1 ⟨rfl, rfl⟩)
        | (go_at_call 12; refine (awake_any _).mono ?_; rintro e w3 ⟨rfl, hb3⟩))
      go_ret
      exact ⟨rfl, below_box0 hb3⟩
    · cases hmm : may k0 n0 f0 s0 with
      | false =>
        rw [hmm] at hm
        rw [show putT k0 n0 f0 s0 = [] by simp [putT, hmm], show putE k0 n0 f0 s0 = 1 by simp [putE, hmm]] at hp
        exact core_bad k0 n0 f0 s0 s1 hl0 hl1 hp hm w
      | true =>
        rw [hmm] at hm
        rw [show putT k0 n0 f0 s0 = putL k0 n0 f0 s0 by simp [putT, hmm], show putE k0 n0 f0 s0 = 0 by simp [putE, hmm]] at hp
        have hlen := length_putL k0 n0 f0 s0 hmm
        have hsz : (str (putL k0 n0 f0 s0)).size = (putL k0 n0 f0 s0).length := rfl
        have hg := get_any (str (putL k0 n0 f0 s0) ++ s1) (by rw [ByteArray.size_append]; omega)
        rw [data_append, show (str (putL k0 n0 f0 s0)).data.toList = putL k0 n0 f0 s0 from rfl, getL_put k0 n0 hn0 f0 hf0 s0 hmm, resV_eq, str_data, ← hsz] at hg
        exact core_ok k0 n0 f0 s0 s1 _ (by omega) hl0 hl1 hp hg hm w

set_option maxRecDepth 100000 in
theorem lifted (os : Os) (started : os.Started) (H : Type) (enc : TypeId × Value → H) :
    ReturnsInHanded {} Try.checked os 7 .any (Rows.valueBackSpec.pre6 enc Try.prog Try.f7 Rows.valueBackRow.domain false) (Rows.valueBackSpec.post enc Try.prog Try.f7 false true false false) := by
  refine returnsInHanded_of_change (C := Try.checked) own started (by kernel_rfl) Try.func7
    (ChangeSpec.witness6 (enc := enc) (C := Try.checked) false ⟨#[], #[.agg #[.int .i64 0, .int .i64 0, .int .u64 0, .string ByteArray.empty], .string ByteArray.empty], []⟩ 8 (by kernel_rfl) (by kernel_rfl) (by kernel_rfl) (by kernel_rfl)) ?_
  intro W base args ds gs before hval0 hW hcnd _
  have hval : ∀ (j : Nat) t v, Try.f7.params[j]? = some t → args[j]? = some v → Value.okWide Try.prog W .any base t v := hval0
  have hW' := hW
  obtain ⟨p, q, hA0, hV, rfl, hfz, hnd⟩ := hW
  have hA : DataW.TrodAll enc Try.prog W 0 (fun _ => true) true Try.f7.params.toList args.toList ds p := hA0
  rw [Try.params7] at hA hval
  obtain ⟨v0, vs0, d0, ds0, p0, q0, hargs, rfl, rfl, h0, r0⟩ := trodAll_cons hA
  obtain ⟨v1, vs1, d1, ds1, p1, q1, rfl, rfl, rfl, h1, r1⟩ := trodAll_cons r0
  obtain ⟨rfl, rfl, rfl⟩ := trodAll_nil r1
  obtain rfl : args = #[v0, v1] := by cases args; simp_all
  obtain ⟨rfl, rfl⟩ := trodVars_none hV
  obtain ⟨ca0, cb0, cc0, cd0, ya0, yb0, yc0, yd0, m0, rfl, rfl, rfl, hya0, hyb0, hyc0, hyd0⟩ := open_agg4 Try.underlying24 (by kernel_rfl) cellsV (hval 0 24 v0 rfl rfl) h0
  obtain ⟨k0, ea0, rfl, wk0⟩ := DataW.trod_int Try.underlying3 hya0
  obtain ⟨n0, eb0, rfl, wn0⟩ := DataW.trod_int Try.underlying2 hyb0
  obtain ⟨g0, ec0, rfl, wf0⟩ := DataW.trod_int Try.underlying22 hyc0
  obtain ⟨s0, ed0, rfl, ws0⟩ := DataW.trod_string Try.underlying9 hyd0
  simp at ea0 eb0 ec0 ed0
  subst ea0 eb0 ec0 ed0
  have bn0 := bounds_i64 wn0
  have bf0 := bounds_u64 wf0
  obtain ⟨f0, rfl⟩ := Int.eq_ofNat_of_zero_le bf0.1
  obtain ⟨s1, rfl, rfl, rfl, ws1⟩ := open_string Try.underlying9 (hval 1 9 v1 rfl rfl) h1
  clear hA0 hval0
  simp only [List.append_nil] at hW'
  have rd0 : ∀ (W' : World) (sp : Nat → Bool), DataW.Trod enc Try.prog W' 0 sp true 24 (.agg #[.int .i64 k0, .int .i64 n0, .int .u64 (f0 : Int), .string s0]) (.agg [.lit (.int .i64 k0), .lit (.int .i64 n0), .lit (.int .u64 (f0 : Int)), .lit (.string s0.data.toList)]) [] := fun W' sp =>
    shut_agg4 (y0 := (.lit (.int .i64 k0), [])) (y1 := (.lit (.int .i64 n0), [])) (y2 := (.lit (.int .u64 (f0 : Int)), [])) (y3 := (.lit (.string s0.data.toList), [])) Try.underlying24 (by kernel_rfl) cellsV
      ⟨1, by simp [DataW.trod, Try.underlying3, wk0]⟩ ⟨1, by simp [DataW.trod, Try.underlying2, wn0]⟩ ⟨1, by simp [DataW.trod, Try.underlying22, wf0]⟩ ⟨1, by simp [DataW.trod, Try.underlying9, ws0]⟩
  refine (walk k0 n0 (by omega) f0 (by omega) s0 s1 ws1 W).mono fun e W' ⟨he, hg⟩ => ?_
  subst he
  exact ⟨_, rfl, _, _, _, [], [], [], hW', trodAll_cons_mk (shut_bool Try.underlying4 _) trodAll_mk0, (trodAll_cons_mk (rd0 _ _) (trodAll_cons_mk (shut_string Try.underlying9 ws1) trodAll_mk0)), rfl, hg.frame _, fun h => by cases h⟩

theorem over : Rows.valueBackRow.holds Try.pinned (OpenSpec.ofChange Rows.valueBackSpec) :=
  OpenClaim.holds_of_wide 7 Try.f7 rfl rfl rfl rfl rfl rfl rfl ⟨rfl, rfl, rfl, rfl, rfl⟩ rfl rfl rfl rfl rfl (by kernel_rfl) Try.func7 (by kernel_rfl)
    (of_decide_eq_true (by kernel_rfl)) (by unfold Func.isWrapper; first | (rw [if_pos (by decide +kernel)]; kernel_rfl) | (rw [if_neg (by decide +kernel)]; exact ⟨rfl, rfl⟩))
    (fun os started H enc _ => lifted os started H enc)

theorem proved : Rows.ValueBackSaid :=
  over
#print axioms proved
end Go.Proofs.Ytpgpmnecggllcaa.valueBack
