/-
  Proved: for every list of cells, every column and value the law RowWiths returns true: row.With and row.Without tell the cells that the document's own tell (4.3); what was handed in stays: the cells read behind the call as before. No condition.
-/
import Derived.Test.YtgaidhalkianfaaRows
import Derived.Test.YtgaidhalkianfaaRAwake
import Derived.Test.YtgaidhalkianfaaRWas
import Derived.WalkKit
import Derived.ProofKit
import Derived.OpenShut
import Derived.ShutString
import Derived.Lib.SmallJoins
namespace Go.Proofs.Ytgaidhalkianfaa.rowWiths
open Go.ChangeShapes Go.WideShapes Go.ChangeAt Go.RowKit Go.Joins Num
open Go.ChangeMaps (open_string shut_string)
set_option linter.unusedVariables false

theorem own : ownKnob Try.prog.godebug = none := by kernel_rfl
theorem cellsV : Try.prog.cellsOf 39 = 4 := by kernel_rfl

set_option maxHeartbeats 1000000 in
theorem core (ao0 : Option Addr) (cap0 : Nat) (hcap : ao0 = none → cap0 = 0) (l0 : List Cel) (h500 : l0.length ≤ 500) (a1 : Int) (x : Val) (hsz : ¬ 1000 < (x.s.size : Int)) (w : World) (hl0 : LiesC w w.heap.size ao0 l0)
    (hg0 : ∀ w, LiesC w w.heap.size ao0 l0 → Calls Try.prog 9 #[.slice ao0 l0.length cap0] w fun e w' => e = .returned (.bool false) ∧ w' = w) :
    Calls Try.prog 7 #[.slice ao0 l0.length cap0, .int .i64 a1, .agg #[.int .i64 x.k, .int .i64 x.n, .int .u64 (x.f : Int), .string x.s]] w fun e w' => e = .returned (.bool true) ∧ Below w.heap.size w w' := by
  have hlw : (withL l0 a1 x).length ≤ 1000000 := by have := withL_len l0 a1 x; have := without_len l0 a1; omega
  have hlo : (without l0 a1).length ≤ 1000000 := by have := without_len l0 a1; omega
  have hlen : l0.length ≤ 1000000 := by omega
  have hB0 : Below w.heap.size w (w.alloc (.cells #[.int .i64 x.k, .int .i64 x.n, .int .u64 (x.f : Int), .string x.s] 39)) := (Below.refl _ w).alloc (Nat.le_refl _) _
  have hl1 := liesC_next hl0 hB0
  have hbx1 := VBox.new w x 39
  go_enter Try.func7, Try.ntmps7
  go_wp2_with (first
    | (go_at_call 9; refine (hg0 _ hl1).mono ?_; rintro e w1 ⟨rfl, he1⟩; subst he1)
    | (at_builtin; refine wpList_was _ rfl _ _ rfl (w.heap.size + 1) rfl (emp_new _ _ _) ao0 cap0 l0 h500 rfl hcap (hl1.alloc1 _) ?_; intro ao2 cap2 w2 hm2 hb2; have hb02 : Below w.heap.size w w2 := (hB0.alloc hB0.size _).trans (hb2.mono (by omega)); have hl2 := liesC_next hl0 hb02; have hbx2 := (hbx1.alloc _).below (by omega) hb2; obtain ⟨_, d0, d1, d2, d3⟩ := id hbx2)
    | (go_at_call 20; refine (with_any _ _ l0 h500 a1 x _ hl2).mono ?_; rintro e w3 ⟨g3, cap3, rfl, hA3, hb3⟩; have hl3 := liesC_next hl2 hb3; have hm3 := liesC_next hm2 hb3; have hbx3 := hbx2.next hb3)
    | (go_at_call 21; refine (without_any _ _ l0 (by omega) a1 _ hl3).mono ?_; rintro e w4 ⟨rfl, hown4, hb4⟩; have hB4 := lies_own rfl hown4; have hl4 := liesC_next hl3 hb4; have hm4 := liesC_next hm3 hb4; have hA4 := liesC_next hA3 hb4; have hbx4 := hbx3.next hb4; obtain ⟨_, e0, e1, e2, e3⟩ := id hbx4)
    | (go_at_call 22; refine (refWith_any _ _ l0 h500 a1 x _ hl4).mono ?_; rintro e w5 ⟨ao5, cap5, rfl, hR5, hb5⟩; have hl5 := liesC_next hl4 hb5; have hm5 := liesC_next hm4 hb5; have hA5 := liesC_next hA4 hb5; have hB5 := liesC_next hB4 hb5)
    | (go_at_call 16; refine (sameC_any _ _ _ _ (withL l0 a1 x) hlw _ hA5 hR5).mono ?_; rintro e w6 ⟨rfl, hb6⟩; have hl6 := liesC_next hl5 hb6; have hm6 := liesC_next hm5 hb6; have hB6 := liesC_next hB5 hb6; clear hA5 hR5)
    | (go_at_call 23; refine (refWithout_any _ _ l0 (by omega) a1 _ hl6).mono ?_; rintro e w7 ⟨ao7, cap7, rfl, hR7, hb7⟩; have hl7 := liesC_next hl6 hb7; have hm7 := liesC_next hm6 hb7; have hB7 := liesC_next hB6 hb7)
    | (go_at_call 16; refine (sameC_any _ _ _ _ (without l0 a1) hlo _ hB7 hR7).mono ?_; rintro e w8 ⟨rfl, hb8⟩; have hl8 := liesC_next hl7 hb8; have hm8 := liesC_next hm7 hb8; clear hB7 hR7)
    | (go_at_call 16; refine (sameC_any _ _ _ _ l0 hlen _ hl8 hm8).mono ?_; rintro e w9 ⟨rfl, hb9⟩)
    | (go_at_call 10; refine (awake_any _).mono ?_; rintro e w10 ⟨rfl, hb10⟩))
  go_ret
  exact ⟨rfl, below_next (below_next (below_next (below_next (below_next (below_next (below_next (below_next hb02 (Nat.le_refl _) hb3) (Nat.le_refl _) hb4) (Nat.le_refl _) hb5) (Nat.le_refl _) hb6) (Nat.le_refl _) hb7) (Nat.le_refl _) hb8) (Nat.le_refl _) hb9) (Nat.le_refl _) hb10⟩

theorem walk (ao0 : Option Addr) (cap0 : Nat) (l0 : List Cel) (hlen0 : l0.length ≤ maxLen) (hok0 : ∀ x ∈ l0, x.ok) (hcap0 : ao0 = none → cap0 = 0) (a1 : Int) (ha1 : -9223372036854775808 ≤ a1 ∧ a1 ≤ 9223372036854775807) (k2 n2 : Int) (hn2 : -9223372036854775808 ≤ n2 ∧ n2 ≤ 9223372036854775807) (f2 : Nat) (hf2 : f2 < 18446744073709551616) (s2 : ByteArray) (w : World) (hl0 : LiesC w w.heap.size ao0 l0) :
    Calls Try.prog 7 #[.slice ao0 l0.length cap0, .int .i64 a1, .agg #[.int .i64 k2, .int .i64 n2, .int .u64 (f2 : Int), .string s2]] w fun e w' => e = .returned (.bool true) ∧ Below w.heap.size w w' := by
  have hg0 := long_any ao0 cap0 l0 hlen0
  have hB0 : Below w.heap.size w (w.alloc (.cells #[.int .i64 k2, .int .i64 n2, .int .u64 (f2 : Int), .string s2] 39)) := (Below.refl _ w).alloc (Nat.le_refl _) _
  have hl1 := liesC_next hl0 hB0
  cases hlg : longC l0 with
  | true =>
    rw [hlg] at hg0
    go_enter Try.func7, Try.ntmps7
    go_wp2_with (first
      | (go_at_call 9; refine (hg0 _ hl1).mono ?_; rintro e w1 ⟨rfl, he1⟩; subst he1)
      | (go_at_call 10; refine (awake_any _).mono ?_; rintro e w3 ⟨rfl, hb3⟩))
    go_ret
    exact ⟨rfl, below_next hB0 (Nat.le_refl _) hb3⟩
  | false =>
    rw [hlg] at hg0
    by_cases hsz : 1000 < (s2.size : Int)
    · go_enter Try.func7, Try.ntmps7
      go_wp2_with (first
        | (go_at_call 9; refine (hg0 _ hl1).mono ?_; rintro e w1 ⟨rfl, he1⟩; subst he1)
        | (go_at_call 10; refine (awake_any _).mono ?_; rintro e w3 ⟨rfl, hb3⟩))
      go_ret
      exact ⟨rfl, below_next hB0 (Nat.le_refl _) hb3⟩
    · exact core ao0 cap0 hcap0 l0 (longC_len hlg) a1 ⟨k2, n2, f2, s2⟩ hsz w hl0 hg0

set_option maxRecDepth 100000 in
theorem lifted (os : Os) (started : os.Started) (H : Type) (enc : TypeId × Value → H) :
    ReturnsInHanded {} Try.checked os 7 .any (Rows.rowWithsSpec.pre6 enc Try.prog Try.f7 Rows.rowWithsRow.domain false) (Rows.rowWithsSpec.post enc Try.prog Try.f7 false true false false) := by
  refine returnsInHanded_of_change (C := Try.checked) own started (by kernel_rfl) Try.func7
    (ChangeSpec.witness6 (enc := enc) (C := Try.checked) false ⟨#[], #[.slice none 0 0, .int .i64 0, .agg #[.int .i64 0, .int .i64 0, .int .u64 0, .string ByteArray.empty]], []⟩ 8 (by kernel_rfl) (by kernel_rfl) (by kernel_rfl) (by kernel_rfl)) ?_
  intro W base args ds gs before hval0 hW hcnd _
  have hval : ∀ (j : Nat) t v, Try.f7.params[j]? = some t → args[j]? = some v → Value.okWide Try.prog W .any base t v := hval0
  have hW' := hW
  have hWk := hW
  obtain ⟨p, q, hA0, hV, rfl, hfz, hnd⟩ := hW
  have hA : DataW.TrodAll enc Try.prog W 0 (fun _ => true) true Try.f7.params.toList args.toList ds p := hA0
  rw [Try.params7] at hA hval
  obtain ⟨v0, vs0, d0, ds0, p0, q0, hargs, rfl, rfl, h0, r0⟩ := trodAll_cons hA
  obtain ⟨v1, vs1, d1, ds1, p1, q1, rfl, rfl, rfl, h1, r1⟩ := trodAll_cons r0
  obtain ⟨v2, vs2, d2, ds2, p2, q2, rfl, rfl, rfl, h2, r2⟩ := trodAll_cons r1
  obtain ⟨rfl, rfl, rfl⟩ := trodAll_nil r2
  obtain rfl : args = #[v0, v1, v2] := by cases args; simp_all
  obtain ⟨rfl, rfl⟩ := trodVars_none hV
  have hk0 := h0
  obtain ⟨ao0, cap0, l0, rfl, hlen0, hok0, hcap0, hlies0⟩ := open_celsD (hval 0 22 v0 rfl rfl) h0
  have hlt0 : ∀ x ∈ p0, x.block < W.heap.size := fun x hx => by simpa using hWk.lt x (by simp [hx])
  obtain ⟨a1, rfl, rfl, rfl, wa1⟩ := open_int Try.underlying3 (hval 1 3 v1 rfl rfl) h1
  have ba1 := bounds_i64 wa1
  obtain ⟨ca2, cb2, cc2, cd2, ya2, yb2, yc2, yd2, m2, rfl, rfl, rfl, hya2, hyb2, hyc2, hyd2⟩ := open_agg4 Try.underlying39 (by kernel_rfl) cellsV (hval 2 39 v2 rfl rfl) h2
  obtain ⟨k2, ea2, rfl, wk2⟩ := DataW.trod_int Try.underlying3 hya2
  obtain ⟨n2, eb2, rfl, wn2⟩ := DataW.trod_int Try.underlying2 hyb2
  obtain ⟨g2, ec2, rfl, wf2⟩ := DataW.trod_int Try.underlying37 hyc2
  obtain ⟨s2, ed2, rfl, ws2⟩ := DataW.trod_string Try.underlying9 hyd2
  simp at ea2 eb2 ec2 ed2
  subst ea2 eb2 ec2 ed2
  have bn2 := bounds_i64 wn2
  have bf2 := bounds_u64 wf2
  obtain ⟨f2, rfl⟩ := Int.eq_ofNat_of_zero_le bf2.1
  clear hA0 hval0
  simp only [List.append_nil] at hW'
  have rd2 : ∀ (W' : World) (sp : Nat → Bool), DataW.Trod enc Try.prog W' 0 sp true 39 (.agg #[.int .i64 k2, .int .i64 n2, .int .u64 (f2 : Int), .string s2]) (.agg [.lit (.int .i64 k2), .lit (.int .i64 n2), .lit (.int .u64 (f2 : Int)), .lit (.string s2.data.toList)]) [] := fun W' sp =>
    shut_agg4 (y0 := (.lit (.int .i64 k2), [])) (y1 := (.lit (.int .i64 n2), [])) (y2 := (.lit (.int .u64 (f2 : Int)), [])) (y3 := (.lit (.string s2.data.toList), [])) Try.underlying39 (by kernel_rfl) cellsV
      ⟨1, by simp [DataW.trod, Try.underlying3, wk2]⟩ ⟨1, by simp [DataW.trod, Try.underlying2, wn2]⟩ ⟨1, by simp [DataW.trod, Try.underlying37, wf2]⟩ ⟨1, by simp [DataW.trod, Try.underlying9, ws2]⟩
  refine (walk ao0 cap0 l0 hlen0 hok0 hcap0 a1 (by omega) k2 n2 (by omega) f2 (by omega) s2 W hlies0).mono fun e W' ⟨he, hg⟩ => ?_
  subst he
  exact ⟨_, rfl, _, _, _, [], _, [], hW', trodAll_cons_mk (shut_bool Try.underlying4 _) trodAll_mk0, (trodAll_cons_mk (Below.trod Try.laidOut (by kernel_rfl) (of_decide_eq_true (by kernel_rfl)) hk0 hg hlt0) (trodAll_cons_mk (shut_int Try.underlying3 wa1) (trodAll_cons_mk (rd2 _ _) trodAll_mk0))), rfl, hg.frame _, fun h => by cases h⟩

theorem over : Rows.rowWithsRow.holds Try.pinned (OpenSpec.ofChange Rows.rowWithsSpec) :=
  OpenClaim.holds_of_wide 7 Try.f7 rfl rfl rfl rfl rfl rfl rfl ⟨rfl, rfl, rfl, rfl, rfl⟩ rfl rfl rfl rfl rfl (by kernel_rfl) Try.func7 (by kernel_rfl)
    (of_decide_eq_true (by kernel_rfl)) (by unfold Func.isWrapper; first | (rw [if_pos (by decide +kernel)]; kernel_rfl) | (rw [if_neg (by decide +kernel)]; exact ⟨rfl, rfl⟩))
    (fun os started H enc _ => lifted os started H enc)

theorem proved : Rows.RowWithsSaid :=
  over
#print axioms proved
end Go.Proofs.Ytgaidhalkianfaa.rowWiths
