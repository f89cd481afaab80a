/-
  A store takes as many versions as there is room for, and refuses one more, without a change; what was put at the same time is turned in place: for every room and text.
-/
import Derived.Test.YtgldgedbinbigaaRows
import Derived.Test.YtgldgedbinbigaaSFulM
import Derived.WalkKit
import Derived.ProofKit
import Derived.OpenShut
import Derived.ShutString
import Derived.Lib.SmallJoins
namespace Go.Proofs.Ytgldgedbinbigaa.storeFulls
open Go.ChangeShapes Go.WideShapes Go.ChangeAt Go.RowKit Go.Joins Num
open Go.ChangeMaps (open_string shut_string)
set_option linter.unusedVariables false

theorem own : ownKnob Try.prog.godebug = none := by kernel_rfl
open scoped Classical
set_option maxRecDepth 100000 in
set_option maxHeartbeats 4000000 in

theorem walk (f0 : Nat) (hf0 : f0 < 256) (s1 : ByteArray) (ws1 : s1.size ≤ maxLen) (w : World) :
    Calls Try.prog 6 #[.int .u8 (f0 : Int), .string s1] w fun e w' => e = .returned (.bool true) ∧ Below w.heap.size w w' := by
  have haw := awake_any w
  by_cases hv : (500 : Int) < (s1.size : Int)
  · go_enter Try.func6, Try.ntmps6
    go_wp2_with (first
      | (go_at_call 10; refine haw.mono ?_; rintro e wa ⟨rfl, hba⟩))
    go_ret
    exact ⟨rfl, hba⟩
  · clear haw
    obtain ⟨m, hmod⟩ : ∃ m : Nat, (f0 : Int) % 60 = (m : Int) := ⟨f0 % 60, by omega⟩
    have hm60 : m ≤ 60 := by omega
    have hk : (⟨#[107]⟩ : ByteArray).size ≤ maxLen := by decide
    have hk2 : (⟨#[110, 111, 110, 101]⟩ : ByteArray).size ≤ maxLen := by decide
    have hkk : (⟨#[110, 111, 110, 101]⟩ : ByteArray) ≠ ⟨#[107]⟩ := by decide
    have hnew : ∀ T : Int, T = (m : Int) + 1 → Calls Try.prog 11 #[.int .i64 T] w fun e w' => ∃ g, e = .returned (.tuple #[.pointer (some ⟨g, 0, none⟩), .int .i64 0]) ∧ HoldP w.heap.size w' g ⟨((m + 1 : Nat) : Int), ((0 : Nat) : Int), fullV ⟨#[107]⟩ s1 0⟩ ∧ Below w.heap.size w w' := by
      rintro T rfl
      exact new_yes ((m + 1 : Nat) : Int) (by omega) (by omega) w
    have hfill : ∀ g w1 (i : Nat), i < m + 1 → HoldP w.heap.size w1 g ⟨((m + 1 : Nat) : Int), (i : Int), fullV ⟨#[107]⟩ s1 i⟩ → Calls Try.prog 15 #[.pointer (some ⟨g, 0, none⟩), .int .i64 ((i : Int) + 1), .string ⟨#[107]⟩, .string s1] w1 fun e w' => e = .returned (.int .i64 0) ∧ HoldP w.heap.size w' g ⟨((m + 1 : Nat) : Int), ((i + 1 : Nat) : Int), fullV ⟨#[107]⟩ s1 (i + 1)⟩ ∧ TurnP w.heap.size w1 w' := fun g w1 i hi h => by
      have := sput_any w.heap.size g _ ((i : Int) + 1) ⟨#[107]⟩ s1 hk (by show (fullV _ _ _).length ≤ 800; rw [full_len]; omega) w1 h
      rw [full_put _ _ _ _ hi (by omega)] at this
      exact this
    have hmore : ∀ (T : Int) g w1, T = (m : Int) + 1 + 1 → HoldP w.heap.size w1 g ⟨((m + 1 : Nat) : Int), ((m + 1 : Nat) : Int), fullV ⟨#[107]⟩ s1 (m + 1)⟩ → Calls Try.prog 15 #[.pointer (some ⟨g, 0, none⟩), .int .i64 T, .string ⟨#[107]⟩, .string ⟨#[109, 111, 114, 101]⟩] w1 fun e w' => e = .returned (.int .i64 4) ∧ HoldP w.heap.size w' g ⟨((m + 1 : Nat) : Int), ((m + 1 : Nat) : Int), fullV ⟨#[107]⟩ s1 (m + 1)⟩ ∧ TurnP w.heap.size w1 w' := by
      rintro T g w1 rfl h
      have := sput_any w.heap.size g _ (((m + 1 : Nat) : Int) + 1) ⟨#[107]⟩ ⟨#[109, 111, 114, 101]⟩ hk (by show (fullV _ _ _).length ≤ 800; rw [full_len]; omega) w1 h
      rw [full_more _ _ _ _ (by omega)] at this
      exact this
    have hdel : ∀ (T : Int) g w1, T = (m : Int) + 1 + 1 → HoldP w.heap.size w1 g ⟨((m + 1 : Nat) : Int), ((m + 1 : Nat) : Int), fullV ⟨#[107]⟩ s1 (m + 1)⟩ → Calls Try.prog 18 #[.pointer (some ⟨g, 0, none⟩), .int .i64 T, .string ⟨#[107]⟩] w1 fun e w' => e = .returned (.int .i64 4) ∧ HoldP w.heap.size w' g ⟨((m + 1 : Nat) : Int), ((m + 1 : Nat) : Int), fullV ⟨#[107]⟩ s1 (m + 1)⟩ ∧ TurnP w.heap.size w1 w' := by
      rintro T g w1 rfl h
      have := sdel_any w.heap.size g _ (((m + 1 : Nat) : Int) + 1) ⟨#[107]⟩ hk (by show (fullV _ _ _).length ≤ 800; rw [full_len]; omega) w1 h
      rw [full_del _ _ _ (by omega) (by omega)] at this
      exact this
    obtain ⟨st, hst⟩ : ∃ st : Sto, st = ⟨((m + 1 : Nat) : Int), ((m + 1 : Nat) : Int), fullV ⟨#[107]⟩ s1 m ++ [⟨⟨#[107]⟩, ((m + 1 : Nat) : Int), ⟨#[116, 117, 114, 110, 101, 100]⟩, false⟩]⟩ := ⟨_, rfl⟩
    have hsl : st.vs.length = m + 1 := by
      rw [hst]
      exact turned_len _ _ _ _ _
    have hturn : ∀ (T : Int) g w1, T = (m : Int) + 1 → HoldP w.heap.size w1 g ⟨((m + 1 : Nat) : Int), ((m + 1 : Nat) : Int), fullV ⟨#[107]⟩ s1 (m + 1)⟩ → Calls Try.prog 15 #[.pointer (some ⟨g, 0, none⟩), .int .i64 T, .string ⟨#[107]⟩, .string ⟨#[116, 117, 114, 110, 101, 100]⟩] w1 fun e w' => e = .returned (.int .i64 0) ∧ HoldP w.heap.size w' g st ∧ TurnP w.heap.size w1 w' := by
      rintro T g w1 rfl h
      have := sput_any w.heap.size g _ ((m + 1 : Nat) : Int) ⟨#[107]⟩ ⟨#[116, 117, 114, 110, 101, 100]⟩ hk (by show (fullV _ _ _).length ≤ 800; rw [full_len]; omega) w1 h
      rw [full_turn _ _ _ _ (by omega), ← hst] at this
      exact this
    have hget : ∀ (T : Int) g w1, T = (m : Int) + 1 → HoldP w.heap.size w1 g st → Calls Try.prog 22 #[.pointer (some ⟨g, 0, none⟩), .int .i64 T, .string ⟨#[107]⟩] w1 fun e w' => e = .returned (.tuple #[.string ⟨#[116, 117, 114, 110, 101, 100]⟩, .bool true]) ∧ Below w1.heap.size w1 w' := by
      rintro T g w1 rfl h
      have := sget_any w.heap.size g _ ((m + 1 : Nat) : Int) ⟨#[107]⟩ hk (by omega) w1 h
      rw [hst, turned_get] at this
      exact this
    have hold : ∀ (T : Int) g w1, T = (m : Int) → HoldP w.heap.size w1 g st → Calls Try.prog 15 #[.pointer (some ⟨g, 0, none⟩), .int .i64 T, .string ⟨#[107]⟩, .string ⟨#[120]⟩] w1 fun e w' => e = .returned (.int .i64 1) ∧ HoldP w.heap.size w' g st ∧ TurnP w.heap.size w1 w' := by
      rintro T g w1 rfl h
      have := sput_any w.heap.size g _ (m : Int) ⟨#[107]⟩ ⟨#[120]⟩ hk (by omega) w1 h
      rw [hst, turned_old, ← hst] at this
      exact this
    have hsize : ∀ g w1, HoldP w.heap.size w1 g st → Calls Try.prog 20 #[.pointer (some ⟨g, 0, none⟩)] w1 fun e w' => e = .returned (.int .i64 ((m : Int) + 1)) ∧ w' = w1 := fun g w1 h => by
      have := ssize_any w.heap.size g st w1 h
      rw [hsl] at this
      exact this
    have hlast : ∀ g w1, HoldP w.heap.size w1 g st → Calls Try.prog 23 #[.pointer (some ⟨g, 0, none⟩), .string ⟨#[107]⟩] w1 fun e w' => e = .returned (.int .i64 ((m : Int) + 1)) ∧ w' = w1 := fun g w1 h => by
      have := slast_any w.heap.size g st ⟨#[107]⟩ hk (by omega) w1 h
      rw [hst, turned_last] at this
      exact this
    have hother : ∀ (T : Int) g w1, T = (m : Int) + 1 + 5 → HoldP w.heap.size w1 g st → Calls Try.prog 18 #[.pointer (some ⟨g, 0, none⟩), .int .i64 T, .string ⟨#[110, 111, 110, 101]⟩] w1 fun e w' => e = .returned (.int .i64 0) ∧ TurnP w.heap.size w1 w' := by
      rintro T g w1 rfl h
      have := sdel_any w.heap.size g _ (((m + 1 : Nat) : Int) + 5) ⟨#[110, 111, 110, 101]⟩ hk2 (by omega) w1 h
      rw [hst, turned_other _ _ _ _ hkk _ (by omega)] at this
      exact this.mono fun e w' h => ⟨h.1, h.2.2⟩
    clear hst hsl hk hk2 hkk
    go_enter Try.func6, Try.ntmps6
    go_wp2_with (first
      | (go_at_call 11; refine (hnew _ (by omega)).mono ?_; rintro e w1 ⟨g, rfl, hh1, hb1⟩; clear hnew)
      | (go_at_call 13; refine (num_any _ _).mono ?_; rintro e wn ⟨rfl, hq⟩; have hq' := hq.symm; clear hq; subst hq'))
    go_loopw [8] (fun i wr => ∃ c : Nat, c ≤ m + 1 ∧ i = .int .i64 (c : Int) ∧ HoldP w.heap.size wr g ⟨((m + 1 : Nat) : Int), (c : Int), fullV ⟨#[107]⟩ s1 c⟩ ∧ Below w.heap.size w wr) (fun i _ => m + 1 - (intOf i).toNat)
    case atStart => exact ⟨0, by omega, rfl, hh1, hb1⟩
    case round =>
      obtain ⟨c, hc, rfl, hhr, hbr⟩ := hrel
      clear hh1 hb1
      by_cases hcl : c < m + 1
      · have hf := hfill g wr c hcl hhr
        have hcl2 : (c : Int) < 1 + (m : Int) := by omega
        clear hmore hdel hturn hget hold hsize hlast hother hfill
        go_wp2_with (first
          | (go_at_call 15; refine hf.mono ?_; rintro e w2 ⟨rfl, hh2, hT2⟩)
          | (go_at_call 13; refine (num_any _ _).mono ?_; rintro e wn ⟨rfl, hq⟩; have hq' := hq.symm; clear hq; subst hq'))
        go_roundw
        case rel => exact ⟨c + 1, by omega, by go_num, hh2, hbr.trans hT2.below⟩
        case measure => simp [intOf]; omega
      · obtain rfl : c = m + 1 := by omega
        have hcl2 : ¬ ((m : Int) + 1 < 1 + (m : Int)) := by omega
        have hcl3 : decide ((m : Int) + 1 < 1 + (m : Int)) = false := decide_eq_false hcl2
        go_wp2_with (first
          | (go_at_call 15; refine (hold _ g w5 (by omega) hh5).mono ?_; rintro e w6 ⟨rfl, hh6, hT6⟩)
          | (go_at_call 15; refine (hturn _ g w3 (by omega) hh3).mono ?_; rintro e w4 ⟨rfl, hh4, hT4⟩)
          | (go_at_call 15; refine (hmore _ g wr (by omega) hhr).mono ?_; rintro e w2 ⟨rfl, hh2, hT2⟩)
          | (go_at_call 18; refine (hother _ g w6 (by omega) hh6).mono ?_; rintro e w7 ⟨rfl, hT7⟩)
          | (go_at_call 18; refine (hdel _ g w2 (by omega) hh2).mono ?_; rintro e w3 ⟨rfl, hh3, hT3⟩)
          | (go_at_call 22; refine (hget _ g w4 (by omega) hh4).mono ?_; rintro e w5 ⟨rfl, hb5⟩; have hh5 := hh4.below hb5)
          | (go_at_call 20; refine (hsize g w6 hh6).mono ?_; rintro e wn ⟨rfl, hq⟩; have hq' := hq.symm; clear hq; subst hq')
          | (go_at_call 23; refine (hlast g w6 hh6).mono ?_; rintro e wn ⟨rfl, hq⟩; have hq' := hq.symm; clear hq; subst hq')
          | (go_at_call 13; refine (num_any _ _).mono ?_; rintro e wn ⟨rfl, hq⟩; have hq' := hq.symm; clear hq; subst hq'))
        go_ret
        have b4 := ((hbr.trans hT2.below).trans hT3.below).trans hT4.below
        exact ⟨rfl, ((b4.trans (hb5.mono b4.size)).trans hT6.below).trans hT7.below⟩

set_option maxRecDepth 100000 in
theorem lifted (os : Os) (started : os.Started) (H : Type) (enc : TypeId × Value → H) :
    ReturnsInHanded {} Try.checked os 6 .any (Rows.storeFullsSpec.pre6 enc Try.prog Try.f6 Rows.storeFullsRow.domain false) (Rows.storeFullsSpec.post enc Try.prog Try.f6 false true false false) := by
  refine returnsInHanded_of_change (C := Try.checked) own started (by kernel_rfl) Try.func6
    (ChangeSpec.witness6 (enc := enc) (C := Try.checked) false ⟨#[], #[.int .u8 0, .string ByteArray.empty], []⟩ 8 (by kernel_rfl) (by kernel_rfl) (by kernel_rfl) (by kernel_rfl)) ?_
  intro W base args ds gs before hval0 hW hcnd _
  have hval : ∀ (j : Nat) t v, Try.f6.params[j]? = some t → args[j]? = some v → Value.okWide Try.prog W .any base t v := hval0
  have hW' := hW
  have hWk := hW
  obtain ⟨p, q, hA0, hV, rfl, hfz, hnd⟩ := hW
  have hA : DataW.TrodAll enc Try.prog W 0 (fun _ => true) true Try.f6.params.toList args.toList ds p := hA0
  rw [Try.params6] at hA hval
  obtain ⟨v0, vs0, d0, ds0, p0, q0, hargs, rfl, rfl, h0, r0⟩ := trodAll_cons hA
  obtain ⟨v1, vs1, d1, ds1, p1, q1, rfl, rfl, rfl, h1, r1⟩ := trodAll_cons r0
  obtain ⟨rfl, rfl, rfl⟩ := trodAll_nil r1
  obtain rfl : args = #[v0, v1] := by cases args; simp_all
  obtain ⟨rfl, rfl⟩ := trodVars_none hV
  obtain ⟨g0, rfl, rfl, rfl, wf0⟩ := open_int Try.underlying5 (hval 0 5 v0 rfl rfl) h0
  have bf0 := bounds_u8 wf0
  obtain ⟨f0, rfl⟩ := Int.eq_ofNat_of_zero_le bf0.1
  obtain ⟨s1, rfl, rfl, rfl, ws1⟩ := open_string Try.underlying9 (hval 1 9 v1 rfl rfl) h1
  clear hA0 hval0
  simp only [List.append_nil] at hW'

  refine (walk f0 (by omega) s1 ws1 W).mono fun e W' ⟨he, hg⟩ => ?_
  subst he
  exact ⟨_, rfl, _, _, _, [], _, [], hW', trodAll_cons_mk (shut_bool Try.underlying4 _) trodAll_mk0, (trodAll_cons_mk (shut_int Try.underlying5 wf0) (trodAll_cons_mk (shut_string Try.underlying9 ws1) trodAll_mk0)), rfl, hg.frame _, fun h => by cases h⟩

theorem over : Rows.storeFullsRow.holds Try.pinned (OpenSpec.ofChange Rows.storeFullsSpec) :=
  OpenClaim.holds_of_wide 6 Try.f6 rfl rfl rfl rfl rfl rfl rfl ⟨rfl, rfl, rfl, rfl, rfl⟩ rfl rfl rfl rfl rfl (by kernel_rfl) Try.func6 (by kernel_rfl)
    (of_decide_eq_true (by kernel_rfl)) (by unfold Func.isWrapper; first | (rw [if_pos (by decide +kernel)]; kernel_rfl) | (rw [if_neg (by decide +kernel)]; exact ⟨rfl, rfl⟩))
    (fun os started H enc _ => lifted os started H enc)

theorem proved : Rows.StoreFullsSaid :=
  over
#print axioms proved
end Go.Proofs.Ytgldgedbinbigaa.storeFulls
