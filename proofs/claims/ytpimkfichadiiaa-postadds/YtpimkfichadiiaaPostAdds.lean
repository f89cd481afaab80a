/-
  Any messages under way, with more, are the document's, and what was handed in stays, for every two lists of messages.
-/
import Derived.Test.YtpimkfichadiiaaRows
import Derived.Test.YtpimkfichadiiaaMsLit
import Derived.Test.YtpimkfichadiiaaMsHev
import Derived.WalkKit
import Derived.ProofKit
import Derived.OpenShut
import Derived.ShutString
import Derived.Lib.SmallJoins
namespace Go.Proofs.Ytpimkfichadiiaa.postAdds
open Go.ChangeShapes Go.WideShapes Go.ChangeAt Go.RowKit Go.Joins Num
open Go.ChangeMaps (open_string shut_string)
set_option linter.unusedVariables false

theorem own : ownKnob Try.prog.godebug = none := by kernel_rfl
theorem addS (l more : Msgs) (h : SmallM l) (h2 : SmallM more) : (addM l more).length ≤ 1000000 ∧ ∀ x ∈ addM l more, x.log.length ≤ 1000000 := by
  have h1 := h.1
  have h3 := h2.1
  refine ⟨by rw [addM_len]; omega, fun x hx => ?_⟩
  rcases List.mem_append.1 (addM_mem hx) with h4 | h4
  · have := h.2 x h4
    omega
  · have := h2.2 x h4
    omega
/-- A row of the call's own whose first numbers may be turned. -/
structure Turned (B : Nat) (w : World) (g cap n : Nat) (xs : List Value) : Prop where
  row : w.ownsRow B 29 8 (.slice (some ⟨g, 0, none⟩) n cap) n xs
  head : ∀ i, i < n → ∃ z : Int, xs[i * 8]? = some (.int .i64 z)
theorem turned_of {B : Nat} {w : World} {g cap : Nat} {l : Msgs} (h : OwnO B w (.slice (some ⟨g, 0, none⟩) l.length cap) l) : ∃ xs, Turned B w g cap l.length xs := by
  obtain ⟨css, h1, h2, h3, h4⟩ := h
  refine ⟨css.flatten, h3, fun i hi => ?_⟩
  have hcs := List.getElem?_eq_getElem (show i < css.length by omega)
  obtain ⟨c, e, _⟩ := h4 i _ _ hcs (List.getElem?_eq_getElem hi)
  rw [e] at hcs
  have h5 := flat_get (fun cs hc => (h2 cs hc).1) i _ hcs 0 (by omega)
  exact ⟨_, h5⟩
theorem turned_next {B : Nat} {w : World} {g cap n : Nat} {xs : List Value} (h : Turned B w g cap n xs) (k : Nat) (z : Int) : Turned B (w.setCell ⟨g, k * 8, none⟩ (.int .i64 z)) g cap n (xs.set (k * 8) (.int .i64 z)) := by
  refine ⟨(h.row.stored (k * 8) _).1, fun i hi => ?_⟩
  obtain ⟨z0, h0⟩ := h.head i hi
  by_cases hik : i = k
  · subst hik
    exact ⟨z, by rw [List.getElem?_set_self (List.getElem?_eq_some_iff.1 h0).1]⟩
  · exact ⟨z0, by rw [List.getElem?_set_ne (by omega)]; exact h0⟩
set_option maxRecDepth 100000 in
set_option maxHeartbeats 2000000 in

theorem walk (ao0 : Option Addr) (cap0 : Nat) (l0 : Msgs) (hcap0 : l0.length ≤ cap0) (ao1 : Option Addr) (cap1 : Nat) (l1 : Msgs) (hcap1 : l1.length ≤ cap1) (w : World) (hl0 : LiesM w w.heap.size ao0 l0) (hl1 : LiesM w w.heap.size ao1 l1) :
    Calls Try.prog 3 #[.slice ao0 l0.length cap0, .slice ao1 l1.length cap1] w fun e w' => e = .returned (.bool true) ∧ Below w.heap.size w w' := by
  have hh0 := heavy_any l0 ao0 cap0 w hl0
  have hh1 := heavy_any l1 ao1 cap1 w hl1
  have hlog := fun (hs : SmallM l0) (hs1 : SmallM l1) => fun m (hm : m ∈ l0 ++ l1) => show m.log.length ≤ 3000 by
    rcases List.mem_append.1 hm with h | h
    · have := hs.2 m h
      omega
    · have := hs1.2 m h
      omega
  have hadd := fun (hs : SmallM l0) (hs1 : SmallM l1) W (hb : Below w.heap.size w W) => add_any l0 l1 ao0 ao1 cap0 cap1 hs.1 hs1.1 (hlog hs hs1) W (liesM_next hl0 hb hb.size) (liesM_next hl1 hb hb.size)
  have href := fun (hs : SmallM l0) (hs1 : SmallM l1) W (hb : Below w.heap.size w W) => refAdd_any l0 l1 ao0 ao1 cap0 cap1 hs.1 hs1.1 W (liesM_next hl0 hb hb.size) (liesM_next hl1 hb hb.size)
  have hsm := fun (hs : SmallM l0) (hs1 : SmallM l1) => addS l0 l1 hs hs1
  clear hlog
  generalize addM l0 l1 = O at *
  go_enter Try.func3, Try.ntmps3
  go_wp2_with (first
    | (have hk9 := hs0; clear hk9; go_at_call 7; refine hh1.mono ?_; rintro e w1 ⟨⟨b, rfl, hs1⟩, hq⟩; have hq' := hq.symm; clear hq; subst hq'; cases b)
    | (go_at_call 7; refine hh0.mono ?_; rintro e w1 ⟨⟨b, rfl, hs0⟩, hq⟩; have hq' := hq.symm; clear hq; subst hq'; cases b)
    | (go_at_call 9; have hS0 : SmallM l0 := (by first | exact hs0 rfl | exact hs0 trivial | exact hs0); have hS1 : SmallM l1 := (by first | exact hs1 rfl | exact hs1 trivial | exact hs1); refine (hadd hS0 hS1 _ (Below.refl _ _)).mono ?_; rintro e w2 ⟨v2, rfl, hown2, hb2⟩; obtain ⟨ao2, cap2, rfl, hl2⟩ := ownO_lies hown2)
    | (go_at_call 11; refine (href hS0 hS1 _ hb2).mono ?_; rintro e w3 ⟨v3, rfl, hown3, hb3⟩; obtain ⟨ao3, cap3, rfl, hl3⟩ := ownV_lies hown3 hb3.size; have hl23 := liesM_next hl2 hb3 hb3.size; have hb3' := below_next hb2 (Nat.le_refl _) hb3)
    | (go_at_call 10; refine (msgs_same ao2 ao3 cap2 cap3 O (hsm hS0 hS1).1 (hsm hS0 hS1).2 _ hl23 hl3).mono ?_; rintro e w4 ⟨rfl, hb4⟩)
    | (go_at_call 8; refine (awake_any _).mono ?_; rintro e w7 ⟨rfl, hb7⟩))
  · have hown4 := ownO_below (ownO_below hown2 hb3) hb4
    have hb4' := below_next hb3' (Nat.le_refl _) hb4
    have hst : Hid (O.length = 0 ∨ ∃ g xs, ao2 = some ⟨g, 0, none⟩ ∧ Turned w.heap.size w4 g cap2 O.length xs) := by
      by_cases h0 : O.length = 0
      · exact .inl h0
      · obtain ⟨g, C, hv⟩ : ∃ g C, Value.slice ao2 O.length cap2 = .slice (some ⟨g, 0, none⟩) O.length C := by
          obtain ⟨_, _, _, h3, _⟩ := hown4
          exact own_some h3 h0
        cases hv
        obtain ⟨xs, hx⟩ := turned_of hown4
        exact .inr ⟨g, xs, rfl, hx⟩
    have hOl := (hsm hS0 hS1).1
    clear hown4 hown2 hown3 hl2 hl3 hl23
    go_loopw [7] (fun i wr => ∃ k : Nat, k ≤ O.length ∧ i = .int .i64 (k : Int) ∧ Below w.heap.size w wr ∧ Hid (O.length = 0 ∨ ∃ g xs, ao2 = some ⟨g, 0, none⟩ ∧ Turned w.heap.size wr g cap2 O.length xs)) (fun i _ => O.length - (intOf i).toNat)
    case atStart => exact ⟨0, by omega, rfl, hb4', hst⟩
    case round =>
      obtain ⟨k, hk, rfl, hbel, hst⟩ := hrel
      have hsz := hbel.size
      by_cases hkl : k < O.length
      · obtain ⟨g, xs, rfl, hT⟩ : ∃ g xs, ao2 = some ⟨g, 0, none⟩ ∧ Turned w.heap.size wr g cap2 O.length xs := by
          rcases hst.out with h | h
          · omega
          · exact h
        clear hst
        have HT : Hid (Turned w.heap.size wr g cap2 O.length xs) := hT
        obtain ⟨z, hz⟩ := hT.head k hkl
        have e0 := hT.row.cells (g := g) rfl _ _ hz
        rw [Addr.add_lit, Nat.zero_add] at e0
        have hfz := hT.row.frozenAt (k * 8)
        clear hT hz
        go_wp2
        go_roundw
        case rel => exact ⟨k + 1, by omega, by go_num, hbel.grown (HT.out.row.stored (k * 8) _).2 hsz (fun j hj => (HT.out.row.lt j hj).1), .inr ⟨g, _, rfl, turned_next HT.out k _⟩⟩
        case measure => simp [intOf]; omega
      · clear hst
        obtain rfl : k = O.length := by omega
        go_wp2_with (first
          | (go_at_call 9; refine (hadd hS0 hS1 _ hbel).mono ?_; rintro e w5 ⟨v5, rfl, hown5, hb5⟩; obtain ⟨ao5, cap5, rfl, hl5⟩ := ownO_lies hown5; have hb5' := below_next hbel (Nat.le_refl _) hb5)
          | (go_at_call 11; refine (href hS0 hS1 _ hb5').mono ?_; rintro e w6 ⟨v6, rfl, hown6, hb6⟩; obtain ⟨ao6, cap6, rfl, hl6⟩ := ownV_lies hown6 hb6.size; have hl56 := liesM_next hl5 hb6 hb6.size; have hb6' := below_next hb5' (Nat.le_refl _) hb6)
          | (go_at_call 10; refine (msgs_same ao5 ao6 cap5 cap6 O (hsm hS0 hS1).1 (hsm hS0 hS1).2 _ hl56 hl6).mono ?_; rintro e w8 ⟨rfl, hb8⟩; have hb8' := below_next hb6' (Nat.le_refl _) hb8)
          | (go_at_call 8; refine (awake_any _).mono ?_; rintro e w9 ⟨rfl, hb9⟩))
        go_ret
        exact ⟨rfl, below_next hb8' (Nat.le_refl _) hb9⟩
  · go_ret
    exact ⟨rfl, hb7⟩
  · go_ret
    exact ⟨rfl, hb7⟩

set_option maxRecDepth 100000 in
theorem lifted (os : Os) (started : os.Started) (H : Type) (enc : TypeId × Value → H) :
    ReturnsInHanded {} Try.checked os 3 .any (Rows.postAddsSpec.pre6 enc Try.prog Try.f3 Rows.postAddsRow.domain false) (Rows.postAddsSpec.post enc Try.prog Try.f3 false true false false) := by
  refine returnsInHanded_of_change (C := Try.checked) own started (by kernel_rfl) Try.func3
    (ChangeSpec.witness6 (enc := enc) (C := Try.checked) false ⟨#[], #[.slice none 0 0, .slice none 0 0], []⟩ 8 (by kernel_rfl) (by kernel_rfl) (by kernel_rfl) (by kernel_rfl)) ?_
  intro W base args ds gs before hval0 hW hcnd _
  have hval : ∀ (j : Nat) t v, Try.f3.params[j]? = some t → args[j]? = some v → Value.okWide Try.prog W .any base t v := hval0
  have hW' := hW
  have hWk := hW
  obtain ⟨p, q, hA0, hV, rfl, hfz, hnd⟩ := hW
  have hA : DataW.TrodAll enc Try.prog W 0 (fun _ => true) true Try.f3.params.toList args.toList ds p := hA0
  rw [Try.params3] at hA hval
  obtain ⟨v0, vs0, d0, ds0, p0, q0, hargs, rfl, rfl, h0, r0⟩ := trodAll_cons hA
  obtain ⟨v1, vs1, d1, ds1, p1, q1, rfl, rfl, rfl, h1, r1⟩ := trodAll_cons r0
  obtain ⟨rfl, rfl, rfl⟩ := trodAll_nil r1
  obtain rfl : args = #[v0, v1] := by cases args; simp_all
  obtain ⟨rfl, rfl⟩ := trodVars_none hV
  have hk0 := h0
  obtain ⟨ao0, cap0, l0, rfl, hcap0, _, hlies0⟩ := open_msgs (hval 0 22 v0 rfl rfl) h0
  have hlt0 : ∀ x ∈ p0, x.block < W.heap.size := fun x hx => by simpa using hWk.lt x (by simp [hx])
  have hk1 := h1
  obtain ⟨ao1, cap1, l1, rfl, hcap1, _, hlies1⟩ := open_msgs (hval 1 22 v1 rfl rfl) h1
  have hlt1 : ∀ x ∈ p1, x.block < W.heap.size := fun x hx => by simpa using hWk.lt x (by simp [hx])
  clear hA0 hval0
  simp only [List.append_nil] at hW'

  refine (walk ao0 cap0 l0 hcap0 ao1 cap1 l1 hcap1 W hlies0 hlies1).mono fun e W' ⟨he, hg⟩ => ?_
  subst he
  exact ⟨_, rfl, _, _, _, [], _, [], hW', trodAll_cons_mk (shut_bool Try.underlying4 _) trodAll_mk0, (trodAll_cons_mk (Below.trod Try.laidOut (by kernel_rfl) (of_decide_eq_true (by kernel_rfl)) hk0 hg hlt0) (trodAll_cons_mk (Below.trod Try.laidOut (by kernel_rfl) (of_decide_eq_true (by kernel_rfl)) hk1 hg hlt1) trodAll_mk0)), rfl, hg.frame _, fun h => by cases h⟩

theorem over : Rows.postAddsRow.holds Try.pinned (OpenSpec.ofChange Rows.postAddsSpec) :=
  OpenClaim.holds_of_wide 3 Try.f3 rfl rfl rfl rfl rfl rfl rfl ⟨rfl, rfl, rfl, rfl, rfl⟩ rfl rfl rfl rfl rfl (by kernel_rfl) Try.func3 (by kernel_rfl)
    (of_decide_eq_true (by kernel_rfl)) (by unfold Func.isWrapper; first | (rw [if_pos (by decide +kernel)]; kernel_rfl) | (rw [if_neg (by decide +kernel)]; exact ⟨rfl, rfl⟩))
    (fun os started H enc _ => lifted os started H enc)

theorem proved : Rows.PostAddsSaid :=
  over
#print axioms proved
end Go.Proofs.Ytpimkfichadiiaa.postAdds
