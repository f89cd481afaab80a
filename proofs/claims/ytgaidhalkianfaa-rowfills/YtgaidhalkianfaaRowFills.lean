/-
  Proved: for every list of cells and every list of columns the law RowFills returns true: row.Fill tells the values that the document's own tells (4.3); cells and columns read behind the call as before. No condition.
-/
import Derived.Test.YtgaidhalkianfaaRows
import Derived.Test.YtgaidhalkianfaaRAwake
import Derived.Test.YtgaidhalkianfaaRFill
import Derived.Test.YtgaidhalkianfaaTSame
import Derived.WalkKit
import Derived.ProofKit
import Derived.OpenShut
import Derived.ShutString
import Derived.Lib.SmallJoins
namespace Go.Proofs.Ytgaidhalkianfaa.rowFills
open Go.ChangeShapes Go.WideShapes Go.ChangeAt Go.RowKit Go.Joins Num
open Go.ChangeMaps (open_string shut_string)
set_option linter.unusedVariables false

theorem own : ownKnob Try.prog.godebug = none := by kernel_rfl
theorem cellsV : Try.prog.cellsOf 39 = 4 := by kernel_rfl

theorem vals_len (l : List Cel) (cols : List Colm) : (rowVals l cols).length = cols.length := by
  unfold rowVals
  rw [List.length_map]
theorem sameV (ao0 ao1 : Option Addr) (cap0 cap1 n : Nat) (l : List Val) (hn : l.length = n) (hlen : n ≤ 1000000) (w : World) (hl0 : Lies w w.heap.size ao0 l) (hl1 : Lies w w.heap.size ao1 l) :
    Calls Try.prog 17 #[.slice ao0 n cap0, .slice ao1 n cap1] w fun e w' => e = .returned (.bool true) ∧ Below w.heap.size w w' := by
  subst hn
  exact same_any ao0 ao1 cap0 cap1 l hlen w hl0 hl1

theorem walk (ao0 : Option Addr) (cap0 : Nat) (l0 : List Cel) (hlen0 : l0.length ≤ maxLen) (hok0 : ∀ x ∈ l0, x.ok) (ao1 : Option Addr) (cap1 : Nat) (l1 : List Colm) (hlen1 : l1.length ≤ maxLen) (hok1 : ∀ x ∈ l1, x.ok) (w : World) (hl0 : LiesC w w.heap.size ao0 l0) (hl1 : LiesK w w.heap.size ao1 l1) :
    Calls Try.prog 6 #[.slice ao0 l0.length cap0, .slice ao1 l1.length cap1] w fun e w' => e = .returned (.bool true) ∧ Below w.heap.size w w' := by
  have hg0 := long_any ao0 cap0 l0 hlen0
  cases hlg : longC l0 with
  | true =>
    rw [hlg] at hg0
    go_enter Try.func6, Try.ntmps6
    go_wp2_with (first
      | (go_at_call 9; refine (hg0 _ hl0).mono ?_; rintro e w1 ⟨rfl, he1⟩; subst he1)
      | (go_at_call 10; refine (awake_any _).mono ?_; rintro e w3 ⟨rfl, hb3⟩))
    go_ret
    exact ⟨rfl, hb3⟩
  | false =>
    rw [hlg] at hg0
    have h500 := longC_len hlg
    by_cases hc : 100 < (l1.length : Int)
    · go_enter Try.func6, Try.ntmps6
      go_wp2_with (first
        | (go_at_call 9; refine (hg0 _ hl0).mono ?_; rintro e w1 ⟨rfl, he1⟩; subst he1)
        | (go_at_call 10; refine (awake_any _).mono ?_; rintro e w3 ⟨rfl, hb3⟩))
      go_ret
      exact ⟨rfl, hb3⟩
    · have h100 : l1.length ≤ 1000 := by omega
      have hvl := vals_len l0 l1
      go_enter Try.func6, Try.ntmps6
      go_wp2_with (first
        | (go_at_call 9; refine (hg0 _ hl0).mono ?_; rintro e w1 ⟨rfl, he1⟩; subst he1)
        | (go_at_call 18; refine (fill_any _ _ l0 (by omega) hok0 _ _ l1 h100 hok1 _ hl0 hl1).mono ?_; rintro e w2 ⟨ao2, cap2, rfl, hv2, hb2⟩; have hc2 := liesC_next hl0 hb2; have hk2 := liesK_next hl1 hb2)
        | (go_at_call 19; refine (refFill_any _ _ l0 (by omega) _ _ l1 h100 _ hc2 hk2).mono ?_; rintro e w3 ⟨ao3, cap3, rfl, hv3, hb3⟩; have hv23 := lies_next hv2 hb3)
        | (go_at_call 17; refine (sameV _ _ _ _ _ (rowVals l0 l1) hvl (by omega) _ hv23 hv3).mono ?_; rintro e w4 ⟨rfl, hb4⟩)
        | (go_at_call 10; refine (awake_any _).mono ?_; rintro e w5 ⟨rfl, hb5⟩))
      go_ret
      exact ⟨rfl, below_next (below_next (below_next hb2 (Nat.le_refl _) hb3) (Nat.le_refl _) hb4) (Nat.le_refl _) hb5⟩

set_option maxRecDepth 100000 in
theorem lifted (os : Os) (started : os.Started) (H : Type) (enc : TypeId × Value → H) :
    ReturnsInHanded {} Try.checked os 6 .any (Rows.rowFillsSpec.pre6 enc Try.prog Try.f6 Rows.rowFillsRow.domain false) (Rows.rowFillsSpec.post enc Try.prog Try.f6 false true false false) := by
  refine returnsInHanded_of_change (C := Try.checked) own started (by kernel_rfl) Try.func6
    (ChangeSpec.witness6 (enc := enc) (C := Try.checked) false ⟨#[], #[.slice none 0 0, .slice none 0 0], []⟩ 8 (by kernel_rfl) (by kernel_rfl) (by kernel_rfl) (by kernel_rfl)) ?_
  intro W base args ds gs before hval0 hW hcnd _
  have hval : ∀ (j : Nat) t v, Try.f6.params[j]? = some t → args[j]? = some v → Value.okWide Try.prog W .any base t v := hval0
  have hW' := hW
  have hWk := hW
  obtain ⟨p, q, hA0, hV, rfl, hfz, hnd⟩ := hW
  have hA : DataW.TrodAll enc Try.prog W 0 (fun _ => true) true Try.f6.params.toList args.toList ds p := hA0
  rw [Try.params6] at hA hval
  obtain ⟨v0, vs0, d0, ds0, p0, q0, hargs, rfl, rfl, h0, r0⟩ := trodAll_cons hA
  obtain ⟨v1, vs1, d1, ds1, p1, q1, rfl, rfl, rfl, h1, r1⟩ := trodAll_cons r0
  obtain ⟨rfl, rfl, rfl⟩ := trodAll_nil r1
  obtain rfl : args = #[v0, v1] := by cases args; simp_all
  obtain ⟨rfl, rfl⟩ := trodVars_none hV
  have hk0 := h0
  obtain ⟨ao0, cap0, l0, rfl, hlen0, hok0, hlies0⟩ := open_cels (hval 0 22 v0 rfl rfl) h0
  have hlt0 : ∀ x ∈ p0, x.block < W.heap.size := fun x hx => by simpa using hWk.lt x (by simp [hx])
  have hk1 := h1
  obtain ⟨ao1, cap1, l1, rfl, hlen1, hok1, hlies1⟩ := open_cols (hval 1 42 v1 rfl rfl) h1
  have hlt1 : ∀ x ∈ p1, x.block < W.heap.size := fun x hx => by simpa using hWk.lt x (by simp [hx])
  clear hA0 hval0
  simp only [List.append_nil] at hW'

  refine (walk ao0 cap0 l0 hlen0 hok0 ao1 cap1 l1 hlen1 hok1 W hlies0 hlies1).mono fun e W' ⟨he, hg⟩ => ?_
  subst he
  exact ⟨_, rfl, _, _, _, [], _, [], hW', trodAll_cons_mk (shut_bool Try.underlying4 _) trodAll_mk0, (trodAll_cons_mk (Below.trod Try.laidOut (by kernel_rfl) (of_decide_eq_true (by kernel_rfl)) hk0 hg hlt0) (trodAll_cons_mk (Below.trod Try.laidOut (by kernel_rfl) (of_decide_eq_true (by kernel_rfl)) hk1 hg hlt1) trodAll_mk0)), rfl, hg.frame _, fun h => by cases h⟩

theorem over : Rows.rowFillsRow.holds Try.pinned (OpenSpec.ofChange Rows.rowFillsSpec) :=
  OpenClaim.holds_of_wide 6 Try.f6 rfl rfl rfl rfl rfl rfl rfl ⟨rfl, rfl, rfl, rfl, rfl⟩ rfl rfl rfl rfl rfl (by kernel_rfl) Try.func6 (by kernel_rfl)
    (of_decide_eq_true (by kernel_rfl)) (by unfold Func.isWrapper; first | (rw [if_pos (by decide +kernel)]; kernel_rfl) | (rw [if_neg (by decide +kernel)]; exact ⟨rfl, rfl⟩))
    (fun os started H enc _ => lifted os started H enc)

theorem proved : Rows.RowFillsSaid :=
  over
#print axioms proved
end Go.Proofs.Ytgaidhalkianfaa.rowFills
