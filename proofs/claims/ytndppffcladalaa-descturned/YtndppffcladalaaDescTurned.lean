/-
  Proved: for every schema, place and byte the law DescTurned returns true: the bytes of a schema that may be, of which one is turned, are refused by desc.Get (6.5), and the document's example holds; the schema reads behind the call as before. No condition.
-/
import Derived.Test.YtndppffcladalaaRows
import Derived.Test.YtndppffcladalaaDPut
import Derived.Test.YtndppffcladalaaDGreat
import Derived.Test.YtndppffcladalaaDRefD
import Derived.Test.YtndppffcladalaaDGetB
import Derived.Test.YtndppffcladalaaSByt
import Derived.WalkKit
import Derived.ProofKit
import Derived.OpenShut
import Derived.ShutString
import Derived.Lib.SmallJoins
namespace Go.Proofs.Ytndppffcladalaa.descTurned
open Go.ChangeShapes Go.WideShapes Go.ChangeAt Go.RowKit Go.Joins Num
open Go.ChangeMaps (open_string shut_string)
set_option linter.unusedVariables false

theorem own : ownKnob Try.prog.godebug = none := by kernel_rfl

open scoped Classical
theorem turn_ne (c : UInt8) (f : Nat) (hf : f < 256) : ∃ d : UInt8, d ≠ c ∧ bits .xor .u8 (c.toNat : Int) (1 + (f : Int) % 255) = (d.toNat : Int) := by
  have hb := c.toNat_lt
  have h := u8_xor_nat c.toNat (1 + f % 255) (by omega) (by omega)
  have hlt : c.toNat ^^^ (1 + f % 255) < 256 := Nat.xor_lt_two_pow (n := 8) (by omega) (by omega)
  refine ⟨UInt8.ofNat (c.toNat ^^^ (1 + f % 255)), ?_, ?_⟩
  · intro e
    have e2 := congrArg UInt8.toNat e
    rw [UInt8.toNat_ofNat', Nat.mod_eq_of_lt hlt] at e2
    have e3 : c.toNat ^^^ (c.toNat ^^^ (1 + f % 255)) = 0 := by rw [e2, Nat.xor_self]
    rw [← Nat.xor_assoc, Nat.xor_self, Nat.zero_xor] at e3
    omega
  · rw [UInt8.toNat_ofNat', Nat.mod_eq_of_lt hlt, ← h]
    rfl
set_option maxRecDepth 100000 in
theorem core (x0 : Sch) (ao0 : Option Addr) (cap0 : Nat) (w : World) (hl0 : LiesT w w.heap.size ao0 x0.tabs) (A : ByteArray) (hA1 : 0 < A.size) (hA2 : A.size ≤ 30000) (a1 : Int) (f2 : Nat) (hf2 : f2 < 256)
    (hg : ∀ w, LiesT w w.heap.size ao0 x0.tabs → Calls Try.prog 12 #[.agg #[.int .i64 x0.ver, .slice ao0 x0.tabs.length cap0, .int .i64 x0.next]] w fun e w' => e = .returned (.bool false) ∧ Below w.heap.size w w')
    (hm : ∀ w, LiesT w w.heap.size ao0 x0.tabs → Calls Try.prog 14 #[.agg #[.int .i64 x0.ver, .slice ao0 x0.tabs.length cap0, .int .i64 x0.next]] w fun e w' => e = .returned (.bool true) ∧ Below w.heap.size w w')
    (h1 : ∀ w, LiesT w w.heap.size ao0 x0.tabs → Calls Try.prog 15 #[.agg #[.int .i64 x0.ver, .slice ao0 x0.tabs.length cap0, .int .i64 x0.next]] w fun e w' => e = .returned (.tuple #[.string A, .int .i64 0]) ∧ Below w.heap.size w w')
    (h3 : ∀ (k : Nat) (hk : k < A.data.toList.length) (d : UInt8), d ≠ A.data.toList[k] → ∀ w, Calls Try.prog 18 #[.string (str (A.data.toList.set k d))] w fun e w' => e = .returned (.tuple #[.agg #[.int .i64 0, .slice none 0 0, .int .i64 0], .int .i64 3]) ∧ Below w.heap.size w w') :
    Calls Try.prog 8 #[.agg #[.int .i64 x0.ver, .slice ao0 x0.tabs.length cap0, .int .i64 x0.next], .int .i64 a1, .int .u8 (f2 : Int)] w fun e w' => e = .returned (.bool true) ∧ Below w.heap.size w w' := by
  have hbx := heap_new w (.cells #[.int .i64 x0.ver, .slice ao0 x0.tabs.length cap0, .int .i64 x0.next] 26)
  have hla := liesT_next hl0 ((Below.refl _ w).alloc (Nat.le_refl _) (.cells #[.int .i64 x0.ver, .slice ao0 x0.tabs.length cap0, .int .i64 x0.next] 26))
  have hd : A.data.toList.length = A.size := rfl
  obtain ⟨u, k, hu, hk, hkm⟩ := place_mod a1 A.size hA1
  obtain ⟨d, hdn, hx⟩ := turn_ne (A.data.toList[k]'(by omega)) f2 hf2
  have h3' := h3 k (by omega) d hdn
  clear h3
  have hrow : ∀ w1, Below w.heap.size w w1 → ∃ cap W, (convert 9 46 (.string A)).run Try.prog w1 = .ok (.slice (some ⟨w1.heap.size, 0, none⟩) A.size cap) W ∧
      W.cell? ⟨w1.heap.size, k, none⟩ = some (.int .u8 ((A.data.toList[k]'(by omega)).toNat : Int)) ∧ W.frozen? ⟨w1.heap.size, k, none⟩ = false ∧
      (convert 46 9 (.slice (some ⟨w1.heap.size, 0, none⟩) A.size cap)).run Try.prog (W.setCell ⟨w1.heap.size, k, none⟩ (.int .u8 (d.toNat : Int))) = .ok (.string (str (A.data.toList.set k d))) (W.setCell ⟨w1.heap.size, k, none⟩ (.int .u8 (d.toNat : Int))) ∧
      Below w.heap.size w (W.setCell ⟨w1.heap.size, k, none⟩ (.int .u8 (d.toNat : Int))) := by
    intro w1 hb1
    obtain ⟨cap, W, hcv, hbW, hby⟩ := bytes_fresh A w1
    have hset := hby.set k (by omega) d _ rfl
    exact ⟨cap, W, hcv, (hby k (by omega)).1, (hby k (by omega)).2, hset.conv cap A.size (by rw [List.length_set, hd]), (below_next hb1 (Nat.le_refl _) hbW).setCell hb1.size _⟩
  generalize A.data.toList[k] = c at *
  generalize str (A.data.toList.set k d) = A2 at *
  go_enter Try.func8, Try.ntmps8
  go_wp2_with (first
    | (go_at_call 12; refine (hg _ hla).mono ?_; rintro e w1 ⟨rfl, hb1⟩; have b1 := below_box hb1 hbx; have c0 := box_cell b1 0 _ rfl; have c1 := box_cell b1 1 _ rfl; have c2 := box_cell b1 2 _ rfl; have hl1 := liesT_next hla hb1)
    | (go_at_call 14; refine (hm _ hl1).mono ?_; rintro e w2 ⟨rfl, hb2⟩; have b2 := below_box hb2 b1; have d0 := box_cell b2 0 _ rfl; have d1 := box_cell b2 1 _ rfl; have d2 := box_cell b2 2 _ rfl; have hl2 := liesT_next hl1 hb2)
    | (go_at_call 15; refine (h1 _ hl2).mono ?_; rintro e w3 ⟨rfl, hb3⟩; obtain ⟨cap, W, hcv, hk1, hk2, hconv, hb4⟩ := hrow w3 (below_next (below_next (below_box0 hb1) (Nat.le_refl _) hb2) (Nat.le_refl _) hb3); clear hrow)
    | (go_at_call 18; refine (h3' _).mono ?_; rintro e w5 ⟨rfl, hb5⟩)
    | (go_at_call 17; refine (num_any _ _).mono ?_; rintro e w6 ⟨rfl, hw6⟩; subst hw6)
    | (go_at_call 11; refine (awake_any _).mono ?_; rintro e w7 ⟨rfl, hb7⟩))
  go_ret
  exact ⟨rfl, below_next (below_next hb4 (Nat.le_refl _) hb5) (Nat.le_refl _) (below_box0 hb7)⟩

theorem walk (x0 : Sch) (hin0 : ∀ t ∈ x0.tabs, TabIn t) (ao0 : Option Addr) (cap0 : Nat) (a1 : Int) (ha1 : -9223372036854775808 ≤ a1 ∧ a1 ≤ 9223372036854775807) (f2 : Nat) (hf2 : f2 < 256) (w : World) (hl0 : LiesT w w.heap.size ao0 x0.tabs) :
    Calls Try.prog 8 #[.agg #[.int .i64 x0.ver, .slice ao0 x0.tabs.length cap0, .int .i64 x0.next], .int .i64 a1, .int .u8 (f2 : Int)] w fun e w' => e = .returned (.bool true) ∧ Below w.heap.size w w' := by
  have hg := fun w h => great_any x0 ao0 cap0 w h
  have hm := fun w h => refMay_sch x0 hin0 ao0 cap0 w h
  have hla := liesT_next hl0 ((Below.refl _ w).alloc (Nat.le_refl _) (.cells #[.int .i64 x0.ver, .slice ao0 x0.tabs.length cap0, .int .i64 x0.next] 26))
  have hbx := heap_new w (.cells #[.int .i64 x0.ver, .slice ao0 x0.tabs.length cap0, .int .i64 x0.next] 26)
  by_cases q : GrM x0
  · rw [tru_yes q] at hg
    clear hm
    go_enter Try.func8, Try.ntmps8
    go_wp2_with (first
      | (go_at_call 12; refine (hg _ hla).mono ?_; rintro e w1 ⟨rfl, hb1⟩)
      | (go_at_call 11; refine (awake_any _).mono ?_; rintro e w5 ⟨rfl, hb5⟩))
    go_ret
    exact ⟨rfl, below_next (below_box0 hb1) (Nat.le_refl _) hb5⟩
  · rw [tru_no q] at hg
    by_cases hx : SchOk x0
    · rw [tru_yes hx] at hm
      have hlen := sch_len hx
      have hA : (str (sealL (schB x0))).size = (schB x0).length + 4 := by rw [str_size, sealL_len]
      refine core x0 ao0 cap0 w hl0 _ (by omega) (by omega) a1 f2 hf2 hg hm (dput_yes x0 hx ao0 cap0) ?_
      intro k hk d hdn w
      simp only [str_data] at hk hdn ⊢
      refine dget_none _ (by rw [str_size, List.length_set, sealL_len]; omega) ?_ w
      rw [str_data]
      exact open_turned (schB x0) k hk d hdn
    · rw [tru_no hx] at hm
      go_enter Try.func8, Try.ntmps8
      go_wp2_with (first
        | (go_at_call 12; refine (hg _ hla).mono ?_; rintro e w1 ⟨rfl, hb1⟩; have b1 := below_box hb1 hbx; have c0 := box_cell b1 0 _ rfl; have c1 := box_cell b1 1 _ rfl; have c2 := box_cell b1 2 _ rfl; have hl1 := liesT_next hla hb1)
        | (go_at_call 14; refine (hm _ hl1).mono ?_; rintro e w2 ⟨rfl, hb2⟩)
        | (go_at_call 11; refine (awake_any _).mono ?_; rintro e w5 ⟨rfl, hb5⟩))
      go_ret
      exact ⟨rfl, below_next (below_next (below_box0 hb1) (Nat.le_refl _) hb2) (Nat.le_refl _) hb5⟩

set_option maxRecDepth 100000 in
theorem lifted (os : Os) (started : os.Started) (H : Type) (enc : TypeId × Value → H) :
    ReturnsInHanded {} Try.checked os 8 .any (Rows.descTurnedSpec.pre6 enc Try.prog Try.f8 Rows.descTurnedRow.domain false) (Rows.descTurnedSpec.post enc Try.prog Try.f8 false true false false) := by
  refine returnsInHanded_of_change (C := Try.checked) own started (by kernel_rfl) Try.func8
    (ChangeSpec.witness6 (enc := enc) (C := Try.checked) false ⟨#[], #[.agg #[.int .i64 0, .slice none 0 0, .int .i64 0], .int .i64 0, .int .u8 0], []⟩ 8 (by kernel_rfl) (by kernel_rfl) (by kernel_rfl) (by kernel_rfl)) ?_
  intro W base args ds gs before hval0 hW hcnd _
  have hval : ∀ (j : Nat) t v, Try.f8.params[j]? = some t → args[j]? = some v → Value.okWide Try.prog W .any base t v := hval0
  have hW' := hW
  have hWk := hW
  obtain ⟨p, q, hA0, hV, rfl, hfz, hnd⟩ := hW
  have hA : DataW.TrodAll enc Try.prog W 0 (fun _ => true) true Try.f8.params.toList args.toList ds p := hA0
  rw [Try.params8] at hA hval
  obtain ⟨v0, vs0, d0, ds0, p0, q0, hargs, rfl, rfl, h0, r0⟩ := trodAll_cons hA
  obtain ⟨v1, vs1, d1, ds1, p1, q1, rfl, rfl, rfl, h1, r1⟩ := trodAll_cons r0
  obtain ⟨v2, vs2, d2, ds2, p2, q2, rfl, rfl, rfl, h2, r2⟩ := trodAll_cons r1
  obtain ⟨rfl, rfl, rfl⟩ := trodAll_nil r2
  obtain rfl : args = #[v0, v1, v2] := by cases args; simp_all
  obtain ⟨rfl, rfl⟩ := trodVars_none hV
  have hk0 := h0
  obtain ⟨ver0, ao0, cap0, l0, next0, rfl, hin0, hlies0⟩ := open_sch (hval 0 26 v0 rfl rfl) h0
  have hlt0 : ∀ x ∈ p0, x.block < W.heap.size := fun x hx => by simpa using hWk.lt x (by simp [hx])
  obtain ⟨a1, rfl, rfl, rfl, wa1⟩ := open_int Try.underlying3 (hval 1 3 v1 rfl rfl) h1
  have ba1 := bounds_i64 wa1
  obtain ⟨g2, rfl, rfl, rfl, wf2⟩ := open_int Try.underlying5 (hval 2 5 v2 rfl rfl) h2
  have bf2 := bounds_u8 wf2
  obtain ⟨f2, rfl⟩ := Int.eq_ofNat_of_zero_le bf2.1
  clear hA0 hval0
  simp only [List.append_nil] at hW'

  refine (walk ⟨ver0, l0, next0⟩ hin0 ao0 cap0 a1 (by omega) f2 (by omega) W hlies0).mono fun e W' ⟨he, hg⟩ => ?_
  subst he
  exact ⟨_, rfl, _, _, _, [], _, [], hW', trodAll_cons_mk (shut_bool Try.underlying4 _) trodAll_mk0, (trodAll_cons_mk (Below.trod Try.laidOut (by kernel_rfl) (of_decide_eq_true (by kernel_rfl)) hk0 hg hlt0) (trodAll_cons_mk (shut_int Try.underlying3 wa1) (trodAll_cons_mk (shut_int Try.underlying5 wf2) trodAll_mk0))), rfl, hg.frame _, fun h => by cases h⟩

theorem over : Rows.descTurnedRow.holds Try.pinned (OpenSpec.ofChange Rows.descTurnedSpec) :=
  OpenClaim.holds_of_wide 8 Try.f8 rfl rfl rfl rfl rfl rfl rfl ⟨rfl, rfl, rfl, rfl, rfl⟩ rfl rfl rfl rfl rfl (by kernel_rfl) Try.func8 (by kernel_rfl)
    (of_decide_eq_true (by kernel_rfl)) (by unfold Func.isWrapper; first | (rw [if_pos (by decide +kernel)]; kernel_rfl) | (rw [if_neg (by decide +kernel)]; exact ⟨rfl, rfl⟩))
    (fun os started H enc _ => lifted os started H enc)

theorem proved : Rows.DescTurnedSaid :=
  over
#print axioms proved
end Go.Proofs.Ytndppffcladalaa.descTurned
