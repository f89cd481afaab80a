/-
  What a transaction has put is read, by key and among others, what it has deleted is not, and of what it read only what is not its own is noted, for every store of pairs, every key and text.
-/
import Derived.Test.YtdmkmhjalcfchaaRows
import Derived.Test.YtdmkmhjalcfchaaTxQ
import Derived.WalkKit
import Derived.ProofKit
import Derived.OpenShut
import Derived.ShutString
import Derived.Lib.SmallJoins
namespace Go.Proofs.Ytdmkmhjalcfchaa.txnOwn
open Go.ChangeShapes Go.WideShapes Go.ChangeAt Go.RowKit Go.Joins Num
open Go.ChangeMaps (open_string shut_string)
set_option linter.unusedVariables false
set_option maxRecDepth 100000

theorem own : ownKnob Try.prog.godebug = none := by kernel_rfl
set_option maxRecDepth 100000 in
set_option maxHeartbeats 4000000 in

theorem walk (ao0 : Option Addr) (cap0 : Nat) (l0 : List Pr) (s1 : ByteArray) (ws1 : s1.size ≤ maxLen) (s2 : ByteArray) (ws2 : s2.size ≤ maxLen) (w : World) (hl0 : LiesPr w w.heap.size ao0 l0) :
    Calls Try.prog 4 #[.slice ao0 l0.length cap0, .string s1, .string s2] w fun e w' => e = .returned (.bool true) ∧ Below w.heap.size w w' := by
  by_cases hk : (500 : Int) < (s1.size : Int)
  · go_enter Try.func4, Try.ntmps4
    go_wp2_with (first
      | (go_at_call 9; refine (awake15_any _).mono ?_; rintro e w5 ⟨rfl, hb5⟩))
    go_ret
    exact ⟨rfl, hb5⟩
  · have hk2 : decide ((500 : Int) < (s1.size : Int)) = false := decide_eq_false hk
    by_cases hv : (500 : Int) < (s2.size : Int)
    · go_enter Try.func4, Try.ntmps4
      go_wp2_with (first
        | (go_at_call 9; refine (awake15_any _).mono ?_; rintro e w5 ⟨rfl, hb5⟩))
      go_ret
      exact ⟨rfl, hb5⟩
    · have hv2 : decide ((500 : Int) < (s2.size : Int)) = false := decide_eq_false hv
      have hks : s1.size ≤ 900000 := by omega
      have hboth := both_any l0 ao0 cap0 w hl0
      have hnew := own_new l0
      generalize bothS l0 = st at *
      have hz : (⟨#[0]⟩ : ByteArray).size = 1 := rfl
      have hfk := field_keys
      clear ws1 ws2 hl0
      generalize s1 = k at *
      generalize s2 = v at *
      go_enter Try.func4, Try.ntmps4
      go_wp2_with (first
        | (go_at_call 9; refine (awake15_any _).mono ?_; rintro e wz ⟨rfl, hbz⟩
           have hbwz := below_next hbw11 (Nat.le_refl _) hbz)
        | (go_at_call 16; refine (own_scan2 _ _ t8 st k 5 (by decide) ht8 _ _ _ (hT8.below hb9a)).mono ?_; rintro e w11 ⟨ao11, cap11, rfl, ho11⟩
           have hbw11 : Below w.heap.size w w11 := next_out (below_next hbw8 (Nat.le_refl _) hb9a) ho11 (fun i hi => Nat.le_trans hs1 (hT8.2 i hi).1)
           have y4 := out_cell ho11 hnF x4
           have y6 := out_cell ho11 hnF x6
           have r0 := out_cell ho11 hnA (alloc_cell _ q0)
           have r1 := out_cell ho11 (p := ⟨a9.block, a9.off + 1, none⟩) hnA (alloc_cell _ q1)
           have r2 := out_cell ho11 (p := ⟨a9.block, a9.off + 2, none⟩) hnA (alloc_cell _ q2))
        | (go_at_call 23; refine (own_cmd2 _ _ t8 st k 5 ht8 _ _ _ hT8).mono ?_; rintro e w9 ⟨ko9, kc9, ro9, rn9, rc9, a9, wc9, rfl, q0, q1, q2, hnew9, hlt9, hb9⟩
           have hb9a : Below w8.heap.size w8 (w9.alloc (.cells #[.int .i64 0, .int .i64 0, .int .i64 0, .int .i64 1000, .slice ko9 0 kc9, .slice ro9 rn9 rc9, .slice (some a9) 1 wc9, .int .i64 0, .int .i64 0, .int .i64 0, .string ⟨#[]⟩, .int .i64 0, .slice none 0 0] 48)) := hb9.alloc hb9.size _
           have hs9 := hb9.size
           have x4 : (w9.alloc (.cells #[.int .i64 0, .int .i64 0, .int .i64 0, .int .i64 1000, .slice ko9 0 kc9, .slice ro9 rn9 rc9, .slice (some a9) 1 wc9, .int .i64 0, .int .i64 0, .int .i64 0, .string ⟨#[]⟩, .int .i64 0, .slice none 0 0] 48)).cell? ⟨w9.heap.size, 4, none⟩ = some (.slice ko9 0 kc9) := box_cell (heap_new w9 _) 4 _ rfl
           have x6 : (w9.alloc (.cells #[.int .i64 0, .int .i64 0, .int .i64 0, .int .i64 1000, .slice ko9 0 kc9, .slice ro9 rn9 rc9, .slice (some a9) 1 wc9, .int .i64 0, .int .i64 0, .int .i64 0, .string ⟨#[]⟩, .int .i64 0, .slice none 0 0] 48)).cell? ⟨w9.heap.size, 6, none⟩ = some (.slice (some a9) 1 wc9) := box_cell (heap_new w9 _) 6 _ rfl
           have hnF : ¬ (Grw F7 w7 w8) w9.heap.size := fun hf => by have := (hT8.2 _ hf).2; omega
           have hnA : ¬ (Grw F7 w7 w8) a9.block := fun hf => by have := (hT8.2 _ hf).2; omega)
        | (go_at_call 13; refine (own_get2 _ _ t7 st k 4 (by decide) ht7 _ hks _ _ hT7).mono ?_; rintro e w8 ⟨rfl, t8, ht8, hT8, ho8⟩
           have hbw8 : Below w.heap.size w w8 := next_out hbw7 ho8 (fun i hi => Nat.le_trans hs1 (hT7.2 i hi).1))
        | (go_at_call 20; refine (own_del _ _ t5 st k v 3 (by decide) ht5 _ hks _ _ (hT5.below hb6)).mono ?_; rintro e w7 ⟨rfl, t7, ht7, hT7', ho7⟩
           have hbw7 : Below w.heap.size w w7 := next_out hbw6 ho7 (fun i hi => Nat.le_trans hs1 (hT5.2 i hi).1)
           obtain ⟨F7, hF7⟩ : ∃ F7, Grw (Grw F4 w4 w5) w6 w7 = F7 := ⟨_, rfl⟩
           rw [hF7] at hT7'
           have hT7 := hT7'
           clear hT7' hF7)
        | (go_at_call 23; refine (own_cmd _ _ t5 st (wP k v) 3 ht5 _ _ _ hT5).mono ?_; rintro e w6 ⟨ko6, kc6, ro6, rn6, rc6, a6, wc6, rfl, _, _, _, _, _, hb6⟩
           have hbw6 := below_next hbw5 (Nat.le_refl _) hb6)
        | (go_at_call 16; refine (own_scan1 _ _ t4 st k v 2 (by decide) ht4 _ _ _ hT4).mono ?_; rintro e w5 ⟨a5, cap5, rfl, p0, p1, ⟨t5, ht5, hT5⟩, ho5⟩
           have hbw5 : Below w.heap.size w w5 := next_out hbw4 ho5 (fun i hi => Nat.le_trans hs1 (hT4.2 i hi).1))
        | (go_at_call 13; refine (own_get1 _ _ t3 st k v 1 (by decide) ht3 _ hks _ _ hT3).mono ?_; rintro e w4 ⟨rfl, t4, ht4, hT4', ho4⟩
           have hbw4 : Below w.heap.size w w4 := next_out hbw3 ho4 (fun i hi => Nat.le_trans hs1 (hT3.2 i hi).1)
           obtain ⟨F4, hF4⟩ : ∃ F4, Grw (Grw (fun i => i = w1.heap.size) w2 w3) w3 w4 = F4 := ⟨_, rfl⟩
           rw [hF4] at hT4'
           have hT4 := hT4'
           clear hT4' hF4)
        | (go_at_call 18; refine (own_put _ _ st _ k v hks _ _ hT2).mono ?_; rintro e w3 ⟨rfl, t3, ht3, hT3, ho3⟩
           have hbw3 : Below w.heap.size w w3 := next_out hbw2 ho3 (fun i hi => by rw [hi]; exact hs1))
        | (go_at_call 11; refine (hnew gs B1 w1 hP).mono ?_; rintro e w2 ⟨rfl, hT2, hb2⟩
           have hbw2 := below_next hb1 (Nat.le_refl _) hb2
           have hs1 := hb1.size)
        | (go_at_call 10; refine hboth.mono ?_; rintro e w1 ⟨gs, gr, rfl, ⟨B1, hP⟩, _, hb1⟩))
      go_ret
      exact ⟨rfl, hbwz⟩

set_option maxRecDepth 100000 in
theorem lifted (os : Os) (started : os.Started) (H : Type) (enc : TypeId × Value → H) :
    ReturnsInHanded {} Try.checked os 4 .any (Rows.txnOwnSpec.pre6 enc Try.prog Try.f4 Rows.txnOwnRow.domain false) (Rows.txnOwnSpec.post enc Try.prog Try.f4 false true false false) := by
  refine returnsInHanded_of_change (C := Try.checked) own started (by kernel_rfl) Try.func4
    (ChangeSpec.witness6 (enc := enc) (C := Try.checked) false ⟨#[], #[.slice none 0 0, .string ByteArray.empty, .string ByteArray.empty], []⟩ 8 (by kernel_rfl) (by kernel_rfl) (by kernel_rfl) (by kernel_rfl)) ?_
  intro W base args ds gs before hval0 hW hcnd _
  have hval : ∀ (j : Nat) t v, Try.f4.params[j]? = some t → args[j]? = some v → Value.okWide Try.prog W .any base t v := hval0
  have hW' := hW
  have hWk := hW
  obtain ⟨p, q, hA0, hV, rfl, hfz, hnd⟩ := hW
  have hA : DataW.TrodAll enc Try.prog W 0 (fun _ => true) true Try.f4.params.toList args.toList ds p := hA0
  rw [Try.params4] at hA hval
  obtain ⟨v0, vs0, d0, ds0, p0, q0, hargs, rfl, rfl, h0, rt0⟩ := trodAll_cons hA
  obtain ⟨v1, vs1, d1, ds1, p1, q1, rfl, rfl, rfl, h1, rt1⟩ := trodAll_cons rt0
  obtain ⟨v2, vs2, d2, ds2, p2, q2, rfl, rfl, rfl, h2, rt2⟩ := trodAll_cons rt1
  obtain ⟨rfl, rfl, rfl⟩ := trodAll_nil rt2
  obtain rfl : args = #[v0, v1, v2] := by cases args; simp_all
  obtain ⟨rfl, rfl⟩ := trodVars_none hV
  have hk0 := h0
  obtain ⟨ao0, cap0, l0, rfl, hlies0⟩ := open_prs (hval 0 22 v0 rfl rfl) h0
  have hlt0 : ∀ x ∈ p0, x.block < W.heap.size := fun x hx => by simpa using hWk.lt x (by simp [hx])
  obtain ⟨s1, rfl, rfl, rfl, ws1⟩ := open_string Try.underlying9 (hval 1 9 v1 rfl rfl) h1
  obtain ⟨s2, rfl, rfl, rfl, ws2⟩ := open_string Try.underlying9 (hval 2 9 v2 rfl rfl) h2
  clear hA0 hval0
  simp only [List.append_nil] at hW'

  refine (walk ao0 cap0 l0 s1 ws1 s2 ws2 W hlies0).mono fun e W' ⟨he, hg⟩ => ?_
  subst he
  exact ⟨_, rfl, _, _, _, [], _, [], hW', trodAll_cons_mk (shut_bool Try.underlying4 _) trodAll_mk0, (trodAll_cons_mk (Below.trod Try.laidOut (by kernel_rfl) (of_decide_eq_true (by kernel_rfl)) hk0 hg hlt0) (trodAll_cons_mk (shut_string Try.underlying9 ws1) (trodAll_cons_mk (shut_string Try.underlying9 ws2) trodAll_mk0))), rfl, hg.frame _, fun h => by cases h⟩

theorem over : Rows.txnOwnRow.holds Try.pinned (OpenSpec.ofChange Rows.txnOwnSpec) :=
  OpenClaim.holds_of_wide 4 Try.f4 rfl rfl rfl rfl rfl rfl rfl ⟨rfl, rfl, rfl, rfl, rfl⟩ rfl rfl rfl rfl rfl (by kernel_rfl) Try.func4 (by kernel_rfl)
    (of_decide_eq_true (by kernel_rfl)) (by unfold Func.isWrapper; first | (rw [if_pos (by decide +kernel)]; kernel_rfl) | (rw [if_neg (by decide +kernel)]; exact ⟨rfl, rfl⟩))
    (fun os started H enc _ => lifted os started H enc)

theorem proved : Rows.TxnOwnSaid :=
  over
#print axioms proved
end Go.Proofs.Ytdmkmhjalcfchaa.txnOwn
