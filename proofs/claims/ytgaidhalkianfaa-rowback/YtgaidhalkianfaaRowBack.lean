/-
  Proved: for every list of cells the law RowBack returns true: what row.Put tells is read back by row.Get as those cells, also when what was told is spoilt; what may not be is refused without bytes (4.1, 4.2); the cells read behind the call as before. No condition.
-/
import Derived.Test.YtgaidhalkianfaaRows
import Derived.Test.YtgaidhalkianfaaRAwake
import Derived.Test.YtgaidhalkianfaaRCel
import Derived.Test.YtgaidhalkianfaaRBack
import Derived.WalkKit
import Derived.ProofKit
import Derived.OpenShut
import Derived.ShutString
import Derived.Lib.SmallJoins
namespace Go.Proofs.Ytgaidhalkianfaa.rowBack
open Go.ChangeShapes Go.WideShapes Go.ChangeAt Go.RowKit Go.Joins Num
open Go.ChangeMaps (open_string shut_string)
set_option linter.unusedVariables false

theorem own : ownKnob Try.prog.godebug = none := by kernel_rfl
theorem cellsV : Try.prog.cellsOf 39 = 4 := by kernel_rfl

theorem core_bad (ao0 : Option Addr) (cap0 : Nat) (l0 : List Cel) (w : World) (hl0 : LiesC w w.heap.size ao0 l0)
    (hg0 : ∀ w, LiesC w w.heap.size ao0 l0 → Calls Try.prog 9 #[.slice ao0 l0.length cap0] w fun e w' => e = .returned (.bool false) ∧ w' = w)
    (hp0 : ∀ w, LiesC w w.heap.size ao0 l0 → Calls Try.prog 11 #[.slice ao0 l0.length cap0] w fun e w' => e = .returned (.tuple #[.string ⟨#[]⟩, .int .i64 1]) ∧ Below w.heap.size w w') :
    Calls Try.prog 5 #[.slice ao0 l0.length cap0] w fun e w' => e = .returned (.bool true) ∧ Below w.heap.size w w' := by
  go_enter Try.func5, Try.ntmps5
  go_wp2_with (first
    | (go_at_call 9; refine (hg0 _ hl0).mono ?_; rintro e w1 ⟨rfl, rfl⟩)
    | (go_at_call 11; refine (hp0 _ hl0).mono ?_; rintro e w1 ⟨rfl, hb1⟩)
    | (go_at_call 13; refine (num_any _ _).mono ?_; rintro e w4 ⟨rfl, rfl⟩)
    | (go_at_call 10; refine (awake_any _).mono ?_; rintro e w3 ⟨rfl, hb3⟩))
  go_ret
  exact ⟨rfl, below_next hb1 (Nat.le_refl _) hb3⟩
theorem core_ok (ao0 : Option Addr) (cap0 : Nat) (l0 : List Cel) (h500 : l0.length ≤ 500) (w : World) (hl0 : LiesC w w.heap.size ao0 l0) (T : ByteArray)
    (hg0 : ∀ w, LiesC w w.heap.size ao0 l0 → Calls Try.prog 9 #[.slice ao0 l0.length cap0] w fun e w' => e = .returned (.bool false) ∧ w' = w)
    (hp0 : ∀ w, LiesC w w.heap.size ao0 l0 → Calls Try.prog 11 #[.slice ao0 l0.length cap0] w fun e w' => e = .returned (.tuple #[.string T, .int .i64 0]) ∧ Below w.heap.size w w')
    (hget : ∀ w, Calls Try.prog 14 #[.string T] w fun e w' => ∃ ao cap, e = .returned (.tuple #[.slice ao l0.length cap, .int .i64 0]) ∧ LiesC w' w'.heap.size ao l0 ∧ w'.ownsRow w.heap.size 41 5 (.slice ao l0.length cap) l0.length (celCells l0) ∧ Below w.heap.size w w') :
    Calls Try.prog 5 #[.slice ao0 l0.length cap0] w fun e w' => e = .returned (.bool true) ∧ Below w.heap.size w w' := by
  have hlen : l0.length ≤ 1000000 := by omega
  go_enter Try.func5, Try.ntmps5
  go_wp2_with (first
    | (go_at_call 9; refine (hg0 _ hl0).mono ?_; rintro e w0 ⟨rfl, rfl⟩)
    | (go_at_call 11; refine (hp0 _ hl0).mono ?_; rintro e w1 ⟨rfl, hb1⟩; have hl1 := liesC_next hl0 hb1)
    | (go_at_call 14; refine (hget _).mono ?_; rintro e w2 ⟨ao2, cap2, rfl, hm2, hrow2, hb2⟩; have hl2 := liesC_next hl1 hb2)
    | (go_at_call 16; refine (sameC_any _ _ _ _ l0 hlen _ hl2 hm2).mono ?_; rintro e w5 ⟨rfl, hb5⟩; have hl5 := liesC_next hl2 hb5; have hrow5 := own_below hrow2 hb5)
    | (go_at_call 13; refine (num_any _ _).mono ?_; rintro e w4 ⟨rfl, rfl⟩))
  have hb4 := below_next (below_next hb1 (Nat.le_refl _) hb2) (Nat.le_refl _) hb5
  have hl4 := hl0.below hb4
  have hlo : ∀ g, (Value.slice ao2 l0.length cap2).ownBlock = some g → w0.heap.size ≤ g := fun g e => Nat.le_trans hb1.size (hrow2.lt g e).1
  clear hl1 hl2 hl5 hrow2
  go_loopw [8] (fun i wr => ∃ k : Nat, k ≤ l0.length ∧ i = .int .i64 (k : Int) ∧ SpoiltC l0.length ao2 wr ∧ w5.grownBy wr (Value.slice ao2 l0.length cap2).ownBlock) (fun i _ => l0.length - (intOf i).toNat)
  case atStart => exact ⟨0, by omega, rfl, spoiltC_start hrow5, World.grownBy.refl _ _⟩
  case round =>
    obtain ⟨k, hk, rfl, hsp, hgr⟩ := hrel
    by_cases hkl : k < l0.length
    · obtain ⟨a, rfl⟩ : ∃ a, ao2 = some a := by
        obtain ⟨a, ha, _⟩ := hm2 k l0[k] (List.getElem?_eq_getElem hkl)
        exact ⟨a, ha⟩
      obtain ⟨g, cur, rfl, hcur, hcs⟩ := hsp a rfl
      obtain ⟨⟨u, hu⟩, hf⟩ := spoiltC_cell hcur hcs hkl
      clear hm2 hrow5
      go_wp2
      go_roundw
      case rel => exact ⟨k + 1, by omega, by go_num, spoiltC_next hcur hcs, grown_setR hgr⟩
      case measure => simp [intOf]; omega
    · have hke : k = l0.length := by omega
      subst hke
      have hl6 := liesC_grownB hl4 hgr hb4.size hlo
      have hb6 := below_grownR hb4 hgr hlo
      clear hm2 hrow5 hsp
      go_wp2_with (first
        | (go_at_call 14; refine (hget _).mono ?_; rintro e w6 ⟨ao6, cap6, rfl, hm6, hrow6, hb7⟩; have hl7 := liesC_next hl6 hb7)
        | (go_at_call 16; refine (sameC_any _ _ _ _ l0 hlen _ hm6 hl7).mono ?_; rintro e w7 ⟨rfl, hb8⟩)
        | (go_at_call 10; refine (awake_any _).mono ?_; rintro e w8 ⟨rfl, hb9⟩))
      go_ret
      exact ⟨rfl, below_next (below_next (below_next hb6 (Nat.le_refl _) hb7) (Nat.le_refl _) hb8) (Nat.le_refl _) hb9⟩

theorem walk (ao0 : Option Addr) (cap0 : Nat) (l0 : List Cel) (hlen0 : l0.length ≤ maxLen) (hok0 : ∀ x ∈ l0, x.ok) (w : World) (hl0 : LiesC w w.heap.size ao0 l0) :
    Calls Try.prog 5 #[.slice ao0 l0.length cap0] w fun e w' => e = .returned (.bool true) ∧ Below w.heap.size w w' := by
  have hg0 := long_any ao0 cap0 l0 hlen0
  cases hlg : longC l0 with
  | true =>
    rw [hlg] at hg0
    go_enter Try.func5, Try.ntmps5
    go_wp2_with (first
      | (go_at_call 9; refine (hg0 _ hl0).mono ?_; rintro e w1 ⟨rfl, rfl⟩)
      | (go_at_call 10; refine (awake_any _).mono ?_; rintro e w3 ⟨rfl, hb3⟩))
    go_ret
    exact ⟨rfl, hb3⟩
  | false =>
    rw [hlg] at hg0
    have h500 := longC_len hlg
    have hp0 := rowPut_any ao0 cap0 l0 h500 hok0
    by_cases hR : RowOk 0 l0
    · have hlp := length_rowB l0 0 hR
      have hget := rget_some (str (rowB l0)) (by show (rowB l0).length ≤ 900000; omega) l0 (rowL_put l0 hok0 hR)
      exact core_ok ao0 cap0 l0 h500 w hl0 _ hg0 (fun w h => (hp0 w h).mono fun e w' ⟨T, E, hs, he, hb⟩ => by obtain ⟨rfl, rfl⟩ := putSays_one hs (.inl ⟨hR, rfl, rfl⟩); exact ⟨he, hb⟩) hget
    · exact core_bad ao0 cap0 l0 w hl0 hg0 (fun w h => (hp0 w h).mono fun e w' ⟨T, E, hs, he, hb⟩ => by obtain ⟨rfl, rfl⟩ := putSays_one hs (.inr ⟨hR, rfl, rfl⟩); exact ⟨he, hb⟩)

set_option maxRecDepth 100000 in
theorem lifted (os : Os) (started : os.Started) (H : Type) (enc : TypeId × Value → H) :
    ReturnsInHanded {} Try.checked os 5 .any (Rows.rowBackSpec.pre6 enc Try.prog Try.f5 Rows.rowBackRow.domain false) (Rows.rowBackSpec.post enc Try.prog Try.f5 false true false false) := by
  refine returnsInHanded_of_change (C := Try.checked) own started (by kernel_rfl) Try.func5
    (ChangeSpec.witness6 (enc := enc) (C := Try.checked) false ⟨#[], #[.slice none 0 0], []⟩ 8 (by kernel_rfl) (by kernel_rfl) (by kernel_rfl) (by kernel_rfl)) ?_
  intro W base args ds gs before hval0 hW hcnd _
  have hval : ∀ (j : Nat) t v, Try.f5.params[j]? = some t → args[j]? = some v → Value.okWide Try.prog W .any base t v := hval0
  have hW' := hW
  have hWk := hW
  obtain ⟨p, q, hA0, hV, rfl, hfz, hnd⟩ := hW
  have hA : DataW.TrodAll enc Try.prog W 0 (fun _ => true) true Try.f5.params.toList args.toList ds p := hA0
  rw [Try.params5] at hA hval
  obtain ⟨v0, vs0, d0, ds0, p0, q0, hargs, rfl, rfl, h0, r0⟩ := trodAll_cons hA
  obtain ⟨rfl, rfl, rfl⟩ := trodAll_nil r0
  obtain rfl : args = #[v0] := by cases args; simp_all
  obtain ⟨rfl, rfl⟩ := trodVars_none hV
  have hk0 := h0
  obtain ⟨ao0, cap0, l0, rfl, hlen0, hok0, hlies0⟩ := open_cels (hval 0 22 v0 rfl rfl) h0
  have hlt0 : ∀ x ∈ p0, x.block < W.heap.size := fun x hx => by simpa using hWk.lt x (by simp [hx])
  clear hA0 hval0
  simp only [List.append_nil] at hW'

  refine (walk ao0 cap0 l0 hlen0 hok0 W hlies0).mono fun e W' ⟨he, hg⟩ => ?_
  subst he
  exact ⟨_, rfl, _, _, _, [], _, [], hW', trodAll_cons_mk (shut_bool Try.underlying4 _) trodAll_mk0, (trodAll_cons_mk (Below.trod Try.laidOut (by kernel_rfl) (of_decide_eq_true (by kernel_rfl)) hk0 hg hlt0) trodAll_mk0), rfl, hg.frame _, fun h => by cases h⟩

theorem over : Rows.rowBackRow.holds Try.pinned (OpenSpec.ofChange Rows.rowBackSpec) :=
  OpenClaim.holds_of_wide 5 Try.f5 rfl rfl rfl rfl rfl rfl rfl ⟨rfl, rfl, rfl, rfl, rfl⟩ rfl rfl rfl rfl rfl (by kernel_rfl) Try.func5 (by kernel_rfl)
    (of_decide_eq_true (by kernel_rfl)) (by unfold Func.isWrapper; first | (rw [if_pos (by decide +kernel)]; kernel_rfl) | (rw [if_neg (by decide +kernel)]; exact ⟨rfl, rfl⟩))
    (fun os started H enc _ => lifted os started H enc)

theorem proved : Rows.RowBackSaid :=
  over
#print axioms proved
end Go.Proofs.Ytgaidhalkianfaa.rowBack
