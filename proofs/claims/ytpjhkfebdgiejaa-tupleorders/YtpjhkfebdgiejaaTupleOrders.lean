/-
  Proved: for every two lists of values the law TupleOrders returns true: where tuple.Put tells bytes of both, they are in the order of the first values that are unlike, by the document's own Cmp; what begins another one is below it (3.4); the values read behind the call as before. No condition.
-/
import Derived.Test.YtpjhkfebdgiejaaRows
import Derived.Test.YtpjhkfebdgiejaaTAwake
import Derived.Test.YtpjhkfebdgiejaaTOpen
import Derived.Test.YtpjhkfebdgiejaaTOrdM
import Derived.Test.YtpjhkfebdgiejaaTSame
import Derived.WalkKit
import Derived.ProofKit
import Derived.OpenShut
import Derived.ShutString
import Derived.Lib.SmallJoins
namespace Go.Proofs.Ytpjhkfebdgiejaa.tupleOrders
open Go.ChangeShapes Go.WideShapes Go.ChangeAt Go.RowKit Go.Joins Num
open Go.ChangeMaps (open_string shut_string)
set_option linter.unusedVariables false

theorem own : ownKnob Try.prog.godebug = none := by kernel_rfl
theorem cellsV : Try.prog.cellsOf 38 = 4 := by kernel_rfl

theorem cmp_val (x y : Val) (hx : x.ok) (hy : y.ok) (mx : x.may = true) (my : y.may = true) (c : Int) (hc : cb x.put y.put = c) (w : World) :
    Calls Try.prog 19 #[.agg #[.int .i64 x.k, .int .i64 x.n, .int .u64 (x.f : Int), .string x.s], .agg #[.int .i64 y.k, .int .i64 y.n, .int .u64 (y.f : Int), .string y.s]] w fun e w' =>
      e = .returned (.int .i64 c) ∧ Below w.heap.size w w' := by
  have h := refCmpV_any x.k x.n hx.1 x.f hx.2 x.s y.k y.n hy.1 y.f hy.2 y.s w
  have e : cmpV x.k x.n x.f x.s y.k y.n y.f y.s = c := (if_pos ⟨mx, my⟩).trans hc
  rw [e] at h
  exact h
theorem tupE_cases (l : List Val) : (tupE l = 0 ∧ tupT l = putAll l ∧ mayAll l = true ∧ l.length ≤ 16) ∨ (¬ tupE l = 0) := by
  by_cases h16 : 16 < l.length
  · exact .inr (by rw [(tup_long h16).2]; decide)
  · cases h : mayAll l with
    | true => exact .inl ⟨(tup_ok h16 h).2, (tup_ok h16 h).1, rfl, by omega⟩
    | false => exact .inr (by rw [(tup_bad h16 h).2]; decide)

theorem core (ao0 : Option Addr) (cap0 : Nat) (l0 : List Val) (hok0 : ∀ x ∈ l0, x.ok) (ao1 : Option Addr) (cap1 : Nat) (l1 : List Val) (hok1 : ∀ x ∈ l1, x.ok) (w : World) (hl0 : Lies w w.heap.size ao0 l0) (hl1 : Lies w w.heap.size ao1 l1)
    (hg0 : ∀ w, Lies w w.heap.size ao0 l0 → Calls Try.prog 9 #[.slice ao0 l0.length cap0] w fun e w' => e = .returned (.bool false) ∧ w' = w)
    (hg1 : ∀ w, Lies w w.heap.size ao1 l1 → Calls Try.prog 9 #[.slice ao1 l1.length cap1] w fun e w' => e = .returned (.bool false) ∧ w' = w)
    (m0 : mayAll l0 = true) (m1 : mayAll l1 = true) (h16 : l0.length ≤ 16) (h17 : l1.length ≤ 16)
    (hp0 : ∀ w, Lies w w.heap.size ao0 l0 → Calls Try.prog 11 #[.slice ao0 l0.length cap0] w fun e w' => e = .returned (.tuple #[.string (str (putAll l0)), .int .i64 0]) ∧ Below w.heap.size w w')
    (hp1 : ∀ w, Lies w w.heap.size ao1 l1 → Calls Try.prog 11 #[.slice ao1 l1.length cap1] w fun e w' => e = .returned (.tuple #[.string (str (putAll l1)), .int .i64 0]) ∧ Below w.heap.size w w') :
    Calls Try.prog 7 #[.slice ao0 l0.length cap0, .slice ao1 l1.length cap1] w fun e w' => e = .returned (.bool true) ∧ Below w.heap.size w w' := by
  have hall := cb_tuples l0 l1 hok0 hok1 m0 m1
  generalize putAll l0 = S0 at hp0 hall
  generalize putAll l1 = S1 at hp1 hall
  go_enter Try.func7, Try.ntmps7
  go_wp2_with (first
    | (go_at_call 9; refine (hg0 _ hl0).mono ?_; rintro e w1 ⟨rfl, rfl⟩; clear hg0)
    | (go_at_call 9; refine (hg1 _ hl1).mono ?_; rintro e w1 ⟨rfl, rfl⟩; clear hg1)
    | (go_at_call 11; refine (hp0 _ hl0).mono ?_; rintro e w1 ⟨rfl, hb1⟩; clear hp0; have hl01 := lies_next hl0 hb1; have hl11 := lies_next hl1 hb1)
    | (go_at_call 11; refine (hp1 _ hl11).mono ?_; rintro e w2 ⟨rfl, hb2⟩; clear hp1; have hl02 := lies_next hl01 hb2; have hl12 := lies_next hl11 hb2)
    | (go_at_call 13; refine (num_any _ _).mono ?_; rintro e w4 ⟨rfl, rfl⟩))
  have hbw := below_next hb1 (Nat.le_refl _) hb2
  clear hl0 hl1 hl01 hl11 hb1 hb2
  go_loopw [9] (fun i wr => ∃ k : Nat, k ≤ l0.length ∧ k ≤ l1.length ∧ i = .int .i64 (k : Int) ∧ Hid (cmpT l0 l1 = cmpT (l0.drop k) (l1.drop k)) ∧ Below w4.heap.size w4 wr) (fun i _ => 16 - (intOf i).toNat)
  case atStart => exact ⟨0, by omega, by omega, rfl, rfl, Below.refl _ _⟩
  case round =>
    obtain ⟨k, hk0, hk1, rfl, HK, hbel⟩ := hrel
    have hbk := below_next hbw (Nat.le_refl _) hbel
    by_cases hka : k < l0.length
    · by_cases hkb : k < l1.length
      · obtain ⟨a0, rfl, hblk0, c00, c01, c02, c03⟩ := (lies_next hl02 hbel) k l0[k] (List.getElem?_eq_getElem hka)
        obtain ⟨a1, rfl, hblk1, c10, c11, c12, c13⟩ := (lies_next hl12 hbel) k l1[k] (List.getElem?_eq_getElem hkb)
        obtain ⟨d00, d01, d02, d03⟩ := low_cells hblk0 c00 c01 c02 c03
        obtain ⟨d10, d11, d12, d13⟩ := low_cells hblk1 c10 c11 c12 c13
        clear c00 c01 c02 c03 c10 c11 c12 c13 hblk0 hblk1 hl02 hl12
        obtain ⟨c, hc⟩ : ∃ c, cb (l0[k]).put (l1[k]).put = c := ⟨_, rfl⟩
        have hcmp := cmp_val l0[k] l1[k] (hok0 _ (List.getElem_mem hka)) (hok1 _ (List.getElem_mem hkb)) (mayAll_at m0 k hka) (mayAll_at m1 k hkb) c hc
        by_cases hc0 : c = 0
        · subst hc0
          have HK2 : Hid (cmpT l0 l1 = cmpT (l0.drop (k + 1)) (l1.drop (k + 1))) := HK.out.trans (cmpT_next hka hkb hc)
          clear HK hall hc
          go_wp2_with fail
          refine wp_region_low (by kernel_rfl) (by kernel_rfl) fun hsome => ?_
          repeat (go_big_quiet_step (first
            | (go_at_call 19; exact Calls.low_of (hcmp _))))
          refine wpQuiet_nil ?_
          rintro _ ⟨x, rfl⟩
          have hx := x.low
          go_wp2
          go_roundw
          case rel => exact ⟨k + 1, by omega, by omega, by go_num, HK2, below_next hbel (Nat.le_refl _) hx⟩
          case measure => simp [intOf]; omega
        · have hc1 : ¬ cb (l0[k]).put (l1[k]).put = 0 := by rw [hc]; exact hc0
          rw [HK.out, cmpT_here hka hkb hc1, hc] at hall
          obtain ⟨hless, heq⟩ := cb_less hall
          rw [decide_eq_false hc0] at heq
          clear HK hall hc hc1
          go_wp2_with fail
          refine wp_region_low (by kernel_rfl) (by kernel_rfl) fun hsome => ?_
          repeat (go_big_quiet_step (first
            | (go_at_call 19; exact Calls.low_of (hcmp _))))
          refine wpQuiet_nil ?_
          rintro _ ⟨x, rfl⟩
          have hx := x.low
          go_wp2_with (first
            | (go_at_call 10; refine (awake_any _).mono ?_; rintro e w3 ⟨rfl, hb3⟩))
          go_ret
          exact ⟨rfl, below_next (below_next hbk (Nat.le_refl _) hx) (Nat.le_refl _) hb3⟩
      · have hke : k = l1.length := by omega
        subst hke
        rw [HK.out, cmpT_end hk0 hk1 (.inr rfl), if_neg (by omega), if_pos hka] at hall
        obtain ⟨hless, heq⟩ := cb_less hall
        have hne : (((l0.length : Nat) : Int) == ((l1.length : Nat) : Int)) = false := beq_eq_false_iff_ne.2 (by omega)
        have hnl : ¬ l0.length < l1.length := by omega
        clear HK hall
        go_wp2_with (first
          | (go_at_call 10; refine (awake_any _).mono ?_; rintro e w3 ⟨rfl, hb3⟩))
        go_ret
        exact ⟨rfl, below_next hbk (Nat.le_refl _) hb3⟩
    · have hke : k = l0.length := by omega
      subst hke
      rw [HK.out, cmpT_end hk0 hk1 (.inl rfl)] at hall
      by_cases hlt : l0.length < l1.length
      · rw [if_pos hlt] at hall
        obtain ⟨hless, heq⟩ := cb_less hall
        have hne : (((l0.length : Nat) : Int) == ((l1.length : Nat) : Int)) = false := beq_eq_false_iff_ne.2 (by omega)
        clear HK hall
        go_wp2_with (first
          | (go_at_call 10; refine (awake_any _).mono ?_; rintro e w3 ⟨rfl, hb3⟩))
        go_ret
        exact ⟨rfl, below_next hbk (Nat.le_refl _) hb3⟩
      · have he : l1.length = l0.length := by omega
        rw [if_neg hlt, if_neg (by omega)] at hall
        obtain ⟨hless, heq⟩ := cb_less hall
        clear HK hall
        go_wp2_with (first
          | (go_at_call 10; refine (awake_any _).mono ?_; rintro e w3 ⟨rfl, hb3⟩))
        go_ret
        exact ⟨rfl, below_next hbk (Nat.le_refl _) hb3⟩

theorem other (ao0 : Option Addr) (cap0 : Nat) (l0 : List Val) (ao1 : Option Addr) (cap1 : Nat) (l1 : List Val) (w : World) (hl0 : Lies w w.heap.size ao0 l0) (hl1 : Lies w w.heap.size ao1 l1)
    (hg0 : ∀ w, Lies w w.heap.size ao0 l0 → Calls Try.prog 9 #[.slice ao0 l0.length cap0] w fun e w' => e = .returned (.bool false) ∧ w' = w)
    (hg1 : ∀ w, Lies w w.heap.size ao1 l1 → Calls Try.prog 9 #[.slice ao1 l1.length cap1] w fun e w' => e = .returned (.bool false) ∧ w' = w)
    (S0 S1 : ByteArray) (E0 E1 : Int) (hE : ¬ E0 = 0 ∨ (E0 = 0 ∧ ¬ E1 = 0))
    (hp0 : ∀ w, Lies w w.heap.size ao0 l0 → Calls Try.prog 11 #[.slice ao0 l0.length cap0] w fun e w' => e = .returned (.tuple #[.string S0, .int .i64 E0]) ∧ Below w.heap.size w w')
    (hp1 : ∀ w, Lies w w.heap.size ao1 l1 → Calls Try.prog 11 #[.slice ao1 l1.length cap1] w fun e w' => e = .returned (.tuple #[.string S1, .int .i64 E1]) ∧ Below w.heap.size w w') :
    Calls Try.prog 7 #[.slice ao0 l0.length cap0, .slice ao1 l1.length cap1] w fun e w' => e = .returned (.bool true) ∧ Below w.heap.size w w' := by
  rcases hE with hE | ⟨rfl, hE⟩
  all_goals
    go_enter Try.func7, Try.ntmps7
    go_wp2_with (first
      | (go_at_call 9; refine (hg0 _ hl0).mono ?_; rintro e w1 ⟨rfl, rfl⟩; clear hg0)
      | (go_at_call 9; refine (hg1 _ hl1).mono ?_; rintro e w1 ⟨rfl, rfl⟩; clear hg1)
      | (go_at_call 11; refine (hp0 _ hl0).mono ?_; rintro e w1 ⟨rfl, hb1⟩; clear hp0; have hl11 := lies_next hl1 hb1)
      | (go_at_call 11; refine (hp1 _ hl11).mono ?_; rintro e w2 ⟨rfl, hb2⟩; clear hp1)
      | (go_at_call 13; refine (num_any _ _).mono ?_; rintro e w4 ⟨rfl, rfl⟩)
      | (go_at_call 10; refine (awake_any _).mono ?_; rintro e w3 ⟨rfl, hb3⟩))
    go_ret
    exact ⟨rfl, below_next (below_next hb1 (Nat.le_refl _) hb2) (Nat.le_refl _) hb3⟩

theorem walk (ao0 : Option Addr) (cap0 : Nat) (l0 : List Val) (hlen0 : l0.length ≤ maxLen) (hok0 : ∀ x ∈ l0, x.ok) (ao1 : Option Addr) (cap1 : Nat) (l1 : List Val) (hlen1 : l1.length ≤ maxLen) (hok1 : ∀ x ∈ l1, x.ok) (w : World) (hl0 : Lies w w.heap.size ao0 l0) (hl1 : Lies w w.heap.size ao1 l1) :
    Calls Try.prog 7 #[.slice ao0 l0.length cap0, .slice ao1 l1.length cap1] w fun e w' => e = .returned (.bool true) ∧ Below w.heap.size w w' := by
  have hg0 := long_any ao0 cap0 l0 hlen0
  have hg1 := long_any ao1 cap1 l1 hlen1
  cases hlg0 : longB l0 with
  | true =>
    rw [hlg0] at hg0
    go_enter Try.func7, Try.ntmps7
    go_wp2_with (first
      | (go_at_call 9; refine (hg0 _ hl0).mono ?_; rintro e w1 ⟨rfl, rfl⟩)
      | (go_at_call 10; refine (awake_any _).mono ?_; rintro e w3 ⟨rfl, hb3⟩))
    go_ret
    exact ⟨rfl, hb3⟩
  | false =>
    rw [hlg0] at hg0
    cases hlg1 : longB l1 with
    | true =>
      rw [hlg1] at hg1
      go_enter Try.func7, Try.ntmps7
      go_wp2_with (first
        | (go_at_call 9; refine (hg0 _ hl0).mono ?_; rintro e w1 ⟨rfl, rfl⟩; clear hg0)
        | (go_at_call 9; refine (hg1 _ hl1).mono ?_; rintro e w1 ⟨rfl, rfl⟩; clear hg1)
        | (go_at_call 10; refine (awake_any _).mono ?_; rintro e w3 ⟨rfl, hb3⟩))
      go_ret
      exact ⟨rfl, hb3⟩
    | false =>
      rw [hlg1] at hg1
      have hp0 := tupPut_any ao0 cap0 l0 hok0
      have hp1 := tupPut_any ao1 cap1 l1 hok1
      rcases tupE_cases l0 with ⟨e0, t0, m0, h16⟩ | e0
      · rcases tupE_cases l1 with ⟨e1, t1, m1, h17⟩ | e1
        · rw [e0, t0] at hp0
          rw [e1, t1] at hp1
          exact core ao0 cap0 l0 hok0 ao1 cap1 l1 hok1 w hl0 hl1 hg0 hg1 m0 m1 h16 h17 hp0 hp1
        · exact other ao0 cap0 l0 ao1 cap1 l1 w hl0 hl1 hg0 hg1 _ _ _ _ (.inr ⟨e0, e1⟩) hp0 hp1
      · exact other ao0 cap0 l0 ao1 cap1 l1 w hl0 hl1 hg0 hg1 _ _ _ _ (.inl e0) hp0 hp1

set_option maxRecDepth 100000 in
theorem lifted (os : Os) (started : os.Started) (H : Type) (enc : TypeId × Value → H) :
    ReturnsInHanded {} Try.checked os 7 .any (Rows.tupleOrdersSpec.pre6 enc Try.prog Try.f7 Rows.tupleOrdersRow.domain false) (Rows.tupleOrdersSpec.post enc Try.prog Try.f7 false true false false) := by
  refine returnsInHanded_of_change (C := Try.checked) own started (by kernel_rfl) Try.func7
    (ChangeSpec.witness6 (enc := enc) (C := Try.checked) false ⟨#[], #[.slice none 0 0, .slice none 0 0], []⟩ 8 (by kernel_rfl) (by kernel_rfl) (by kernel_rfl) (by kernel_rfl)) ?_
  intro W base args ds gs before hval0 hW hcnd _
  have hval : ∀ (j : Nat) t v, Try.f7.params[j]? = some t → args[j]? = some v → Value.okWide Try.prog W .any base t v := hval0
  have hW' := hW
  have hWk := hW
  obtain ⟨p, q, hA0, hV, rfl, hfz, hnd⟩ := hW
  have hA : DataW.TrodAll enc Try.prog W 0 (fun _ => true) true Try.f7.params.toList args.toList ds p := hA0
  rw [Try.params7] at hA hval
  obtain ⟨v0, vs0, d0, ds0, p0, q0, hargs, rfl, rfl, h0, r0⟩ := trodAll_cons hA
  obtain ⟨v1, vs1, d1, ds1, p1, q1, rfl, rfl, rfl, h1, r1⟩ := trodAll_cons r0
  obtain ⟨rfl, rfl, rfl⟩ := trodAll_nil r1
  obtain rfl : args = #[v0, v1] := by cases args; simp_all
  obtain ⟨rfl, rfl⟩ := trodVars_none hV
  have hk0 := h0
  obtain ⟨ao0, cap0, l0, rfl, hlen0, hok0, hlies0⟩ := open_vals (hval 0 22 v0 rfl rfl) h0
  have hlt0 : ∀ x ∈ p0, x.block < W.heap.size := fun x hx => by simpa using hWk.lt x (by simp [hx])
  have hk1 := h1
  obtain ⟨ao1, cap1, l1, rfl, hlen1, hok1, hlies1⟩ := open_vals (hval 1 22 v1 rfl rfl) h1
  have hlt1 : ∀ x ∈ p1, x.block < W.heap.size := fun x hx => by simpa using hWk.lt x (by simp [hx])
  clear hA0 hval0
  simp only [List.append_nil] at hW'

  refine (walk ao0 cap0 l0 hlen0 hok0 ao1 cap1 l1 hlen1 hok1 W hlies0 hlies1).mono fun e W' ⟨he, hg⟩ => ?_
  subst he
  exact ⟨_, rfl, _, _, _, [], _, [], hW', trodAll_cons_mk (shut_bool Try.underlying4 _) trodAll_mk0, (trodAll_cons_mk (Below.trod Try.laidOut (by kernel_rfl) (of_decide_eq_true (by kernel_rfl)) hk0 hg hlt0) (trodAll_cons_mk (Below.trod Try.laidOut (by kernel_rfl) (of_decide_eq_true (by kernel_rfl)) hk1 hg hlt1) trodAll_mk0)), rfl, hg.frame _, fun h => by cases h⟩

theorem over : Rows.tupleOrdersRow.holds Try.pinned (OpenSpec.ofChange Rows.tupleOrdersSpec) :=
  OpenClaim.holds_of_wide 7 Try.f7 rfl rfl rfl rfl rfl rfl rfl ⟨rfl, rfl, rfl, rfl, rfl⟩ rfl rfl rfl rfl rfl (by kernel_rfl) Try.func7 (by kernel_rfl)
    (of_decide_eq_true (by kernel_rfl)) (by unfold Func.isWrapper; first | (rw [if_pos (by decide +kernel)]; kernel_rfl) | (rw [if_neg (by decide +kernel)]; exact ⟨rfl, rfl⟩))
    (fun os started H enc _ => lifted os started H enc)

theorem proved : Rows.TupleOrdersSaid :=
  over
#print axioms proved
end Go.Proofs.Ytpjhkfebdgiejaa.tupleOrders
