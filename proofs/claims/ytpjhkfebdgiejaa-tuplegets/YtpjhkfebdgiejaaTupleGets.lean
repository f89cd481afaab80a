/-
  Proved: for every text the law TupleGets returns true: tuple.Get tells the values that the document's own tells, or refuses as it does (3.2); when what was told is spoilt it tells the same again; the text reads behind the call as before. No condition.
-/
import Derived.Test.YtpjhkfebdgiejaaRows
import Derived.Test.YtpjhkfebdgiejaaTAwake
import Derived.Test.YtpjhkfebdgiejaaTSpoil
import Derived.Test.YtpjhkfebdgiejaaTSame
import Derived.WalkKit
import Derived.ProofKit
import Derived.OpenShut
import Derived.ShutString
import Derived.Lib.SmallJoins
namespace Go.Proofs.Ytpjhkfebdgiejaa.tupleGets
open Go.ChangeShapes Go.WideShapes Go.ChangeAt Go.RowKit Go.Joins Num
open Go.ChangeMaps (open_string shut_string)
set_option linter.unusedVariables false

theorem own : ownKnob Try.prog.godebug = none := by kernel_rfl
theorem cellsV : Try.prog.cellsOf 38 = 4 := by kernel_rfl

theorem no_lies (w : World) (B : Nat) : Lies w B none [] := fun i x hx => by simp at hx
theorem same_nil (w : World) : Calls Try.prog 16 #[.slice none 0 0, .slice none 0 0] w fun e w' => e = .returned (.bool true) ∧ Below w.heap.size w w' :=
  same_any none none 0 0 [] (by simp) w (no_lies _ _) (no_lies _ _)
theorem core_none (s0 : ByteArray) (hl : ¬ 5000 < (s0.size : Int))
    (hget : ∀ w, Calls Try.prog 14 #[.string s0] w fun e w' => e = .returned (.tuple #[.slice none 0 0, .int .i64 3]) ∧ Below w.heap.size w w')
    (hvals : ∀ w, Calls Try.prog 15 #[.string s0] w fun e w' => e = .returned (.tuple #[.slice none 0 0, .int .i64 3]) ∧ Below w.heap.size w w') (w : World) :
    Calls Try.prog 4 #[.string s0] w fun e w' => e = .returned (.bool true) ∧ Below w.heap.size w w' := by
  have hb0 := Below.refl w.heap.size w
  go_enter Try.func4, Try.ntmps4
  go_wp2_with (first
    | (go_at_call 14; refine (hget _).mono ?_; rintro e w1 ⟨rfl, hb1⟩; have hbn := below_next (B := w.heap.size) (a := w) (by assumption) (Nat.le_refl _) hb1; clear hb1)
    | (go_at_call 15; refine (hvals _).mono ?_; rintro e w2 ⟨rfl, hb1⟩; have hbn := below_next (B := w.heap.size) (a := w) (by assumption) (Nat.le_refl _) hb1; clear hb1)
    | (go_at_call 16; refine (same_nil _).mono ?_; rintro e w5 ⟨rfl, hb1⟩; have hbn := below_next (B := w.heap.size) (a := w) (by assumption) (Nat.le_refl _) hb1; clear hb1)
    | (go_at_call 13; refine (num_any _ _).mono ?_; rintro e w4 ⟨rfl, rfl⟩))
  go_loopw [8] (fun i wr => i = .int .i64 0 ∧ wr = w4) (fun _ _ => 0)
  case atStart => exact ⟨rfl, rfl⟩
  case round =>
    obtain ⟨rfl, rfl⟩ := hrel
    go_wp2_with (first
      | (go_at_call 14; refine (hget _).mono ?_; rintro e w6 ⟨rfl, hb6⟩)
      | (go_at_call 16; refine (same_nil _).mono ?_; rintro e w7 ⟨rfl, hb7⟩)
      | (go_at_call 10; refine (awake_any _).mono ?_; rintro e w8 ⟨rfl, hb8⟩))
    go_ret
    exact ⟨rfl, below_next (below_next (below_next hbn (Nat.le_refl _) hb6) (Nat.le_refl _) hb7) (Nat.le_refl _) hb8⟩
theorem core_some (s0 : ByteArray) (hl : ¬ 5000 < (s0.size : Int)) (L : List Val) (h16 : L.length ≤ 16)
    (hget : ∀ w, Calls Try.prog 14 #[.string s0] w fun e w' => ∃ ao cap, e = .returned (.tuple #[.slice ao L.length cap, .int .i64 0]) ∧ Lies w' w'.heap.size ao L ∧ w'.ownsRow w.heap.size 38 4 (.slice ao L.length cap) L.length (valCells L) ∧ Below w.heap.size w w')
    (hvals : ∀ w, Calls Try.prog 15 #[.string s0] w fun e w' => ∃ ao cap, e = .returned (.tuple #[.slice ao L.length cap, .int .i64 0]) ∧ Lies w' w'.heap.size ao L ∧ (∀ a, ao = some a → w.heap.size ≤ a.block) ∧ Below w.heap.size w w') (w : World) :
    Calls Try.prog 4 #[.string s0] w fun e w' => e = .returned (.bool true) ∧ Below w.heap.size w w' := by
  go_enter Try.func4, Try.ntmps4
  go_wp2_with (first
    | (go_at_call 14; refine (hget _).mono ?_; rintro e w1 ⟨ao1, cap1, rfl, hl1, hrow1, hb1⟩)
    | (go_at_call 15; refine (hvals _).mono ?_; rintro e w2 ⟨ao2, cap2, rfl, hm2, hlow2, hb2⟩; have hl2 := lies_next hl1 hb2; have hrow2 := own_below hrow1 hb2)
    | (go_at_call 16; refine (same_any _ _ _ _ L (by omega) _ hl2 hm2).mono ?_; rintro e w5 ⟨rfl, hb5⟩; have hm5 := lies_next hm2 hb5; have hrow5 := own_below hrow2 hb5)
    | (go_at_call 13; refine (num_any _ _).mono ?_; rintro e w4 ⟨rfl, rfl⟩))
  have hb4 := below_next (below_next hb1 (Nat.le_refl _) hb2) (Nat.le_refl _) hb5
  have hne : ∀ a, ao2 = some a → some a.block ≠ (Value.slice ao1 L.length cap1).ownBlock := by
    intro a ha e
    have h1 := hlow2 a ha
    have h2 := hrow1.lt a.block e.symm
    omega
  have hlo : ∀ g, (Value.slice ao1 L.length cap1).ownBlock = some g → w.heap.size ≤ g := fun g e => (hrow1.lt g e).1
  go_loopw [8] (fun i wr => ∃ k : Nat, k ≤ L.length ∧ i = .int .i64 (k : Int) ∧ Spoilt L.length ao1 wr ∧ w4.grownBy wr (Value.slice ao1 L.length cap1).ownBlock) (fun i _ => L.length - (intOf i).toNat)
  case atStart => exact ⟨0, by omega, rfl, spoilt_start hrow5, World.grownBy.refl _ _⟩
  case round =>
    obtain ⟨k, hk, rfl, hsp, hgr⟩ := hrel
    by_cases hkl : k < L.length
    · obtain ⟨a, rfl⟩ : ∃ a, ao1 = some a := by
        obtain ⟨a, ha, _⟩ := hl1 k L[k] (List.getElem?_eq_getElem hkl)
        exact ⟨a, ha⟩
      obtain ⟨g, cur, rfl, hcur, hcs⟩ := hsp a rfl
      obtain ⟨⟨u, hu⟩, hf⟩ := spoilt_cell hcur hcs hkl
      clear hl1 hrow1 hl2 hrow2 hm5 hm2 hrow5
      go_wp2
      go_roundw
      case rel => exact ⟨k + 1, by omega, by go_num, spoilt_next hcur hcs, grown_set hgr⟩
      case measure => simp [intOf]; omega
    · have hke : k = L.length := by omega
      subst hke
      have hm6 := lies_grown hm5 hgr (Nat.le_refl _) hne
      have hb6 := below_grown hb4 hgr hlo
      clear hl1 hrow1 hl2 hrow2 hm5 hm2 hrow5 hsp
      go_wp2_with (first
        | (go_at_call 14; refine (hget _).mono ?_; rintro e w6 ⟨ao6, cap6, rfl, hl6, hrow6, hb7⟩; have hm7 := lies_next hm6 hb7)
        | (go_at_call 16; refine (same_any _ _ _ _ L (by omega) _ hl6 hm7).mono ?_; rintro e w7 ⟨rfl, hb8⟩)
        | (go_at_call 10; refine (awake_any _).mono ?_; rintro e w8 ⟨rfl, hb9⟩))
      go_ret
      exact ⟨rfl, below_next (below_next (below_next hb6 (Nat.le_refl _) hb7) (Nat.le_refl _) hb8) (Nat.le_refl _) hb9⟩

theorem walk (s0 : ByteArray) (ws0 : s0.size ≤ maxLen) (w : World) :
    Calls Try.prog 4 #[.string s0] w fun e w' => e = .returned (.bool true) ∧ Below w.heap.size w w' := by
  by_cases hl : 5000 < (s0.size : Int)
  · go_enter Try.func4, Try.ntmps4
    go_wp2_with (first
      | (go_at_call 10; refine (awake_any _).mono ?_; rintro e w3 ⟨rfl, hb3⟩))
    go_ret
    exact ⟨rfl, hb3⟩
  · cases hv : valsL s0.data.toList with
    | none => exact core_none s0 hl (get_none s0 (by omega) hv) (vals_none s0 (by omega) hv) w
    | some L => exact core_some s0 hl L (valsL_len hv) (get_row s0 (by omega) L hv) (vals_some s0 (by omega) L hv) w

set_option maxRecDepth 100000 in
theorem lifted (os : Os) (started : os.Started) (H : Type) (enc : TypeId × Value → H) :
    ReturnsInHanded {} Try.checked os 4 .any (Rows.tupleGetsSpec.pre6 enc Try.prog Try.f4 Rows.tupleGetsRow.domain false) (Rows.tupleGetsSpec.post enc Try.prog Try.f4 false true false false) := by
  refine returnsInHanded_of_change (C := Try.checked) own started (by kernel_rfl) Try.func4
    (ChangeSpec.witness6 (enc := enc) (C := Try.checked) false ⟨#[], #[.string ByteArray.empty], []⟩ 8 (by kernel_rfl) (by kernel_rfl) (by kernel_rfl) (by kernel_rfl)) ?_
  intro W base args ds gs before hval0 hW hcnd _
  have hval : ∀ (j : Nat) t v, Try.f4.params[j]? = some t → args[j]? = some v → Value.okWide Try.prog W .any base t v := hval0
  have hW' := hW
  have hWk := hW
  obtain ⟨p, q, hA0, hV, rfl, hfz, hnd⟩ := hW
  have hA : DataW.TrodAll enc Try.prog W 0 (fun _ => true) true Try.f4.params.toList args.toList ds p := hA0
  rw [Try.params4] at hA hval
  obtain ⟨v0, vs0, d0, ds0, p0, q0, hargs, rfl, rfl, h0, r0⟩ := trodAll_cons hA
  obtain ⟨rfl, rfl, rfl⟩ := trodAll_nil r0
  obtain rfl : args = #[v0] := by cases args; simp_all
  obtain ⟨rfl, rfl⟩ := trodVars_none hV
  obtain ⟨s0, rfl, rfl, rfl, ws0⟩ := open_string Try.underlying9 (hval 0 9 v0 rfl rfl) h0
  clear hA0 hval0
  simp only [List.append_nil] at hW'

  refine (walk s0 ws0 W).mono fun e W' ⟨he, hg⟩ => ?_
  subst he
  exact ⟨_, rfl, _, _, _, [], _, [], hW', trodAll_cons_mk (shut_bool Try.underlying4 _) trodAll_mk0, (trodAll_cons_mk (shut_string Try.underlying9 ws0) trodAll_mk0), rfl, hg.frame _, fun h => by cases h⟩

theorem over : Rows.tupleGetsRow.holds Try.pinned (OpenSpec.ofChange Rows.tupleGetsSpec) :=
  OpenClaim.holds_of_wide 4 Try.f4 rfl rfl rfl rfl rfl rfl rfl ⟨rfl, rfl, rfl, rfl, rfl⟩ rfl rfl rfl rfl rfl (by kernel_rfl) Try.func4 (by kernel_rfl)
    (of_decide_eq_true (by kernel_rfl)) (by unfold Func.isWrapper; first | (rw [if_pos (by decide +kernel)]; kernel_rfl) | (rw [if_neg (by decide +kernel)]; exact ⟨rfl, rfl⟩))
    (fun os started H enc _ => lifted os started H enc)

theorem proved : Rows.TupleGetsSaid :=
  over
#print axioms proved
end Go.Proofs.Ytpjhkfebdgiejaa.tupleGets
