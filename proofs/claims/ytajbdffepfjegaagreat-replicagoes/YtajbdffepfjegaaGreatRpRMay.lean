/-
  Contracts: which replicas may be (11.2): the document's own.
-/
import Derived.Test.YtajbdffepfjegaaGreatRpMay
namespace Go.Proofs.YtajbdffepfjegaaGreat
open Go.RowKit Num
open scoped Classical
set_option linter.unusedVariables false
set_option maxRecDepth 100000

theorem rodd_yes (n : Int) (h : n = 1 ∨ n = 3 ∨ n = 5) (w : World) : Calls Tryz.prog 16 #[.int .i64 n] w fun e w' => e = .returned (.bool true) ∧ w' = w := by
  rcases h with rfl | rfl | rfl
  · go_enter Tryz.func16, Tryz.ntmps16
    go_wp2
    go_ret
    exact ⟨rfl, rfl⟩
  · go_enter Tryz.func16, Tryz.ntmps16
    go_wp2
    go_ret
    exact ⟨rfl, rfl⟩
  · go_enter Tryz.func16, Tryz.ntmps16
    go_wp2
    go_ret
    exact ⟨rfl, rfl⟩
theorem rodd_no (n : Int) (h : ¬ (n = 1 ∨ n = 3 ∨ n = 5)) (w : World) : Calls Tryz.prog 16 #[.int .i64 n] w fun e w' => e = .returned (.bool false) ∧ w' = w := by
  have q1 : (n == 1) = false := by simp; omega
  have q3 : (n == 3) = false := by simp; omega
  have q5 : (n == 5) = false := by simp; omega
  have h1 : ¬ n = 1 := by omega
  have h3 : ¬ n = 3 := by omega
  have h5 : ¬ n = 5 := by omega
  clear h
  go_enter Tryz.func16, Tryz.ntmps16
  go_wp2
  go_ret
  exact ⟨rfl, rfl⟩
theorem rodd_any (n : Int) (w : World) : Calls Tryz.prog 16 #[.int .i64 n] w fun e w' => e = .returned (.bool (tru (n = 1 ∨ n = 3 ∨ n = 5))) ∧ w' = w := by
  by_cases h : n = 1 ∨ n = 3 ∨ n = 5
  · rw [tru_yes h]
    exact rodd_yes n h w
  · rw [tru_no h]
    exact rodd_no n h w
theorem rtime_any (n : Int) (w : World) : Calls Tryz.prog 17 #[.int .i64 n] w fun e w' => e = .returned (.bool (tru (0 ≤ n ∧ n < 1099511627776))) ∧ w' = w := by
  by_cases h1 : 0 ≤ n
  · by_cases h2 : n < 1099511627776
    · rw [tru_yes ⟨h1, h2⟩]
      go_enter Tryz.func17, Tryz.ntmps17
      go_wp2
      go_ret
      exact ⟨rfl, rfl⟩
    · rw [tru_no (fun h => h2 h.2)]
      have h3 : decide (n < 1099511627776) = false := decide_eq_false h2
      go_enter Tryz.func17, Tryz.ntmps17
      go_wp2
      go_ret
      exact ⟨rfl, rfl⟩
  · rw [tru_no (fun h => h1 h.1)]
    have h3 : decide (0 ≤ n) = false := decide_eq_false h1
    go_enter Tryz.func17, Tryz.ntmps17
    go_wp2
    go_ret
    exact ⟨rfl, rfl⟩
set_option maxHeartbeats 1000000 in
theorem rEntries_any (l : List Ent) (ao : Option Addr) (cap : Nat) (w : World) (hl : LiesE w w.heap.size ao l) :
    Calls Tryz.prog 18 #[.slice ao l.length cap] w fun e w' => e = .returned (.bool (tru (LogOk l))) ∧ w' = w := by
  by_cases h0 : 1000 < l.length
  · rw [tru_no (fun h => by have := h.1; omega)]
    have h1 : (1000 : Int) < (l.length : Int) := by omega
    go_enter Tryz.func18, Tryz.ntmps18
    go_wp2
    go_ret
    exact ⟨rfl, rfl⟩
  · have h1 : ¬ (1000 : Int) < (l.length : Int) := by omega
    have hlen : l.length ≤ 1000 := by omega
    clear h0
    go_enter Tryz.func18, Tryz.ntmps18
    go_wp2
    go_loop [3, 4] (fun v i => ∃ k : Nat, k ≤ l.length ∧ i = .int .i64 (k : Int) ∧ v = .int .i64 (prevT l k) ∧ Hid (∀ (i : Nat) x, i < k → l[i]? = some x → EntOk (prevT l i) x)) (fun _ i => l.length - (intOf i).toNat)
    case atStart => exact ⟨0, by omega, rfl, rfl, fun i x h => absurd h (Nat.not_lt_zero _)⟩
    case round =>
      obtain ⟨k, hk, rfl, rfl, HK⟩ := hrel
      by_cases hkl : k < l.length
      · have HX : Hid (l[k]? = some l[k]) := List.getElem?_eq_getElem hkl
        have hp := prevT_upto k HK.out
        obtain ⟨a, rfl, _, c0, c1⟩ := hl k l[k] HX.out
        have i1 : (k : Int) < (l.length : Int) := by omega
        generalize l[k] = y at *
        obtain ⟨P, hP⟩ : ∃ P, prevT l k = P := ⟨_, rfl⟩
        rw [hP] at hp
        by_cases hok : EntOk P y
        · have HK2 : Hid (∀ (i : Nat) x, i < k + 1 → l[i]? = some x → EntOk (prevT l i) x) := by
            intro i x hi hx
            rcases Nat.lt_or_ge i k with h3 | h3
            · exact HK.out i x h3 hx
            · obtain rfl : i = k := by omega
              rw [HX.out] at hx
              cases hx
              rw [hP]
              exact hok
          have hpn : Hid (prevT l (k + 1) = y.time) := prevT_at HX.out
          have t1 : decide (y.time ≤ P) = false := decide_eq_false (by have := hok.1; omega)
          have t2 : decide (1099511627776 ≤ y.time) = false := decide_eq_false (by have := hok.2.1; omega)
          have hs2 : ¬ (20000 : Int) < (y.data.size : Int) := by have := hok.2.2; omega
          clear HK hok
          rw [hP]
          go_wp2
          go_round
          case rel => exact ⟨k + 1, by omega, by go_num, by rw [hpn.out], HK2⟩
          case measure => simp [intOf]; omega
        · have hbad : Hid (tru (LogOk l) = false) := tru_no (fun h => hok (by rw [← hP]; exact h.2 k y HX.out))
          rw [hP]
          by_cases t0 : y.time ≤ P
          · clear HK hok
            go_wp2
            go_ret
            exact ⟨by rw [hbad.out]; rfl, rfl⟩
          · have t1 : decide (y.time ≤ P) = false := decide_eq_false t0
            by_cases t2 : 1099511627776 ≤ y.time
            · clear HK hok
              go_wp2
              go_ret
              exact ⟨by rw [hbad.out]; rfl, rfl⟩
            · have t3 : decide (1099511627776 ≤ y.time) = false := decide_eq_false t2
              have hs2 : (20000 : Int) < (y.data.size : Int) := by
                rcases Nat.lt_or_ge 20000 y.data.size with h | h
                · omega
                · exact absurd ⟨by omega, by omega, h⟩ hok
              clear HK hok
              go_wp2
              go_ret
              exact ⟨by rw [hbad.out]; rfl, rfl⟩
      · obtain rfl : k = l.length := by omega
        have hgood : Hid (tru (LogOk l) = true) := tru_yes ⟨hlen, fun i x hx => HK.out i x (List.getElem?_eq_some_iff.1 hx).1 hx⟩
        go_wp2
        go_ret
        exact ⟨by rw [hgood.out]; rfl, rfl⟩
theorem add_pos (a : Addr) (q : Nat) : a.add (q + 1) = ⟨a.block, a.off + (q + 1), none⟩ := by
  unfold Addr.add
  rw [if_neg (by omega)]
set_option maxHeartbeats 2000000 in
theorem rising_any (l : List Int) (n : Int) (hn : n = 1 ∨ n = 3 ∨ n = 5) (ao : Option Addr) (cap : Nat) (hsm : l.length ≤ 1000) (w : World) (hl : LiesN w w.heap.size ao l) :
    Calls Tryz.prog 19 #[.slice ao l.length cap, .int .i64 n] w fun e w' => e = .returned (.bool (tru (IdsOk l n))) ∧ Below w.heap.size w w' := by
  go_enter Tryz.func19, Tryz.ntmps19
  go_wp2
  go_loopw [5] (fun i wr => ∃ k : Nat, k ≤ l.length ∧ i = .int .i64 (k : Int) ∧ Below w.heap.size w wr ∧ Hid (∀ (i : Nat) x, i < k → l[i]? = some x → prevI l i < x ∧ x < n)) (fun i _ => l.length - (intOf i).toNat)
  case atStart => exact ⟨0, by omega, rfl, Below.refl _ _, fun i x h => absurd h (Nat.not_lt_zero _)⟩
  case round =>
    obtain ⟨k, hk, rfl, hbel, HK⟩ := hrel
    by_cases hkl : k < l.length
    · have HX : Hid (l[k]? = some l[k]) := List.getElem?_eq_getElem hkl
      have hp := prevI_upto (show 0 ≤ n by omega) k HK.out
      have hl2 := liesN_wide hl hbel hbel.size
      obtain ⟨a, rfl, _, c0⟩ := hl2 k l[k] HX.out
      unfold NumAt at c0
      rw [Nat.mul_one] at c0
      have i1 : (k : Int) < (l.length : Int) := by omega
      have hpa : Hid (∀ q, k = q + 1 → wr.cell? (a.add q) = some (.int .i64 (prevI l k))) := fun q hq => by
        subst hq
        have h1 := List.getElem?_eq_getElem (show q < l.length by omega)
        obtain ⟨a', e, _, h2⟩ := hl2 q _ h1
        cases e
        unfold NumAt at h2
        rw [Nat.mul_one] at h2
        rw [prevI_at h1]
        exact h2
      clear hl2
      generalize l[k] = y at *
      obtain ⟨P, hP⟩ : ∃ P, prevI l k = P := ⟨_, rfl⟩
      rw [hP] at hp
      have fin2 : Hid (P < y ∧ y < n → ∀ (i : Nat) x, i < k + 1 → l[i]? = some x → prevI l i < x ∧ x < n) := by
        intro hok i x hi hx
        rcases Nat.lt_or_ge i k with h3 | h3
        · exact HK.out i x h3 hx
        · obtain rfl : i = k := by omega
          rw [HX.out] at hx
          cases hx
          rw [hP]
          exact hok
      have hbad : Hid (¬ (P < y ∧ y < n) → tru (IdsOk l n) = false) := fun hok => tru_no (fun h => hok (by rw [← hP]; exact h k y HX.out))
      clear HK HX
      have d0 : ∀ z : Low wr, z.wd.cell? (a.add k) = some (.int .i64 y) := fun z => (z.cell (cell_lt c0)).trans c0
      by_cases t0 : y < 0
      · have hb := hbad.out (by omega)
        go_wp2_with fail
        refine wp_region_low (by kernel_rfl) (by kernel_rfl) fun hsome => ?_
        repeat (go_big_quiet_step (fail))
        refine wpQuiet_nil ?_
        rintro _ ⟨z, rfl⟩
        have hz := z.low
        go_wp2
        go_ret
        exact ⟨by rw [hb]; rfl, below_next hbel (Nat.le_refl _) hz⟩
      · have t1 : decide (y < 0) = false := decide_eq_false t0
        by_cases t2 : n ≤ y
        · have hb := hbad.out (by omega)
          go_wp2_with fail
          refine wp_region_low (by kernel_rfl) (by kernel_rfl) fun hsome => ?_
          repeat (go_big_quiet_step (fail))
          refine wpQuiet_nil ?_
          rintro _ ⟨z, rfl⟩
          have hz := z.low
          go_wp2
          go_ret
          exact ⟨by rw [hb]; rfl, below_next hbel (Nat.le_refl _) hz⟩
        · have t3 : decide (n ≤ y) = false := decide_eq_false t2
          cases k with
          | zero =>
            have hP1 : P = -1 := hP.symm
            have HK2 : Hid (∀ (i : Nat) x, i < 0 + 1 → l[i]? = some x → prevI l i < x ∧ x < n) := fin2.out ⟨by omega, by omega⟩
            have d1 : ∀ z : Low wr, z.wd.cell? a = some (.int .i64 y) := fun z => by rw [← addr_zero a]; exact d0 z
            clear hP hp hbad fin2 hpa hP1 d0
            go_wp2_with fail
            refine wp_region_low (by kernel_rfl) (by kernel_rfl) fun hsome => ?_
            repeat (go_big_quiet_step (fail))
            refine wpQuiet_nil ?_
            rintro _ ⟨z, rfl⟩
            have hz := z.low
            go_wp2
            go_roundw
            case rel => exact ⟨0 + 1, by omega, by go_num, below_next hbel (Nat.le_refl _) hz, HK2⟩
            case measure => simp [intOf]; omega
          | succ q =>
            have cq := hpa.out q rfl
            rw [hP] at cq
            have e0 : ∀ z : Low wr, z.wd.cell? (a.add q) = some (.int .i64 P) := fun z => (z.cell (cell_lt cq)).trans cq
            have i2 : (0 : Int) < ((q + 1 : Nat) : Int) := by omega
            have i3 : IntKind.i64.wrap (((q + 1 : Nat) : Int) - 1) = (q : Int) := by rw [IntKind.wrap_i64]; omega
            have i4 : ((q + 1 : Nat) : Int) - 1 = (q : Int) := by omega
            have i5 : (q : Int) < (l.length : Int) := by omega
            have d1 : ∀ z : Low wr, z.wd.cell? ⟨a.block, a.off + (q + 1), none⟩ = some (.int .i64 y) := fun z => by rw [← add_pos a q]; exact d0 z
            clear hP hp hpa c0 cq d0
            by_cases t4 : y ≤ P
            · have hb := hbad.out (by omega)
              go_wp2_with fail
              refine wp_region_low (by kernel_rfl) (by kernel_rfl) fun hsome => ?_
              repeat (go_big_quiet_step (fail))
              refine wpQuiet_nil ?_
              rintro _ ⟨z, rfl⟩
              have hz := z.low
              go_wp2
              go_ret
              exact ⟨by rw [hb]; rfl, below_next hbel (Nat.le_refl _) hz⟩
            · have t5 : decide (y ≤ P) = false := decide_eq_false t4
              have HK2 := fin2.out ⟨by omega, by omega⟩
              have HK3 : Hid (∀ (i : Nat) x, i < q + 1 + 1 → l[i]? = some x → prevI l i < x ∧ x < n) := HK2
              clear HK2 hbad fin2
              go_wp2_with fail
              refine wp_region_low (by kernel_rfl) (by kernel_rfl) fun hsome => ?_
              repeat (go_big_quiet_step (fail))
              refine wpQuiet_nil ?_
              rintro _ ⟨z, rfl⟩
              have hz := z.low
              go_wp2
              go_roundw
              case rel => exact ⟨q + 1 + 1, by omega, by go_num, below_next hbel (Nat.le_refl _) hz, HK3⟩
              case measure => simp [intOf]; omega
    · obtain rfl : k = l.length := by omega
      have hgood : Hid (tru (IdsOk l n) = true) := tru_yes (fun i x hx => HK.out i x (List.getElem?_eq_some_iff.1 hx).1 hx)
      go_wp2
      go_ret
      exact ⟨by rw [hgood.out]; rfl, hbel⟩
end Go.Proofs.YtajbdffepfjegaaGreat
