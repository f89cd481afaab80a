/-
  Contracts: which replicas may be (11.2): of the program.
-/
import Derived.Test.YtajbdffepfjegaaGreatRpG3
import Derived.BigRegion
namespace Go.Proofs.YtajbdffepfjegaaGreat
open Go.RowKit Num
open scoped Classical
set_option linter.unusedVariables false
set_option maxRecDepth 100000

theorem prevT_upto {l : List Ent} : ∀ (k : Nat), (∀ (i : Nat) x, i < k → l[i]? = some x → EntOk (prevT l i) x) → 0 ≤ prevT l k ∧ prevT l k < 1099511627776
  | 0, _ => ⟨Int.le_refl _, by show (0 : Int) < _; omega⟩
  | k + 1, h => by
    have ih := prevT_upto k (fun i x hi => h i x (by omega))
    cases hx : l[k]? with
    | none => rw [show prevT l (k + 1) = 0 by show (match l[k]? with | some x => x.time | none => 0) = 0; rw [hx]]; omega
    | some x =>
      rw [prevT_at hx]
      have := h k x (by omega) hx
      unfold EntOk at this
      omega
theorem prevI_upto {l : List Int} {n : Int} (hn : 0 ≤ n) : ∀ (k : Nat), (∀ (i : Nat) x, i < k → l[i]? = some x → prevI l i < x ∧ x < n) → -1 ≤ prevI l k ∧ prevI l k < n
  | 0, _ => ⟨Int.le_refl _, by show (-1 : Int) < _; omega⟩
  | k + 1, h => by
    have ih := prevI_upto hn k (fun i x hi => h i x (by omega))
    cases hx : l[k]? with
    | none => rw [show prevI l (k + 1) = -1 by show (match l[k]? with | some x => x | none => -1) = -1; rw [hx]]; omega
    | some x =>
      rw [prevI_at hx]
      have := h k x (by omega) hx
      omega
theorem isFrom_any (a n b : Int) (w : World) : Calls Tryz.prog 39 #[.int .i64 a, .int .i64 n, .int .i64 b] w fun e w' => e = .returned (.bool (tru (a ≤ n ∧ n ≤ b))) ∧ w' = w := by
  by_cases h1 : a ≤ n
  · by_cases h2 : n ≤ b
    · rw [tru_yes ⟨h1, h2⟩]
      go_enter Tryz.func39, Tryz.ntmps39
      go_wp2
      go_ret
      exact ⟨rfl, rfl⟩
    · rw [tru_no (fun h => h2 h.2)]
      have h3 : decide (n ≤ b) = false := decide_eq_false h2
      go_enter Tryz.func39, Tryz.ntmps39
      go_wp2
      go_ret
      exact ⟨rfl, rfl⟩
  · rw [tru_no (fun h => h1 h.1)]
    have h3 : decide (a ≤ n) = false := decide_eq_false h1
    go_enter Tryz.func39, Tryz.ntmps39
    go_wp2
    go_ret
    exact ⟨rfl, rfl⟩
theorem oneOf_any (id n : Int) (w : World) : Calls Tryz.prog 30 #[.int .i64 id, .int .i64 n] w fun e w' => e = .returned (.bool (tru (OneOf id n))) ∧ w' = w := by
  by_cases h : n = 1 ∨ n = 3 ∨ n = 5
  · have e : tru (OneOf id n) = tru (0 ≤ id ∧ id ≤ n - 1) := tru_iff ⟨fun q => ⟨q.2.1, by have := q.2.2; omega⟩, fun q => ⟨h, q.1, by omega⟩⟩
    rw [e]
    rcases h with rfl | rfl | rfl
    · have hf := isFrom_any 0 id 0 w
      rw [show (1 : Int) - 1 = 0 by omega]
      go_enter Tryz.func30, Tryz.ntmps30
      go_wp2_with (first
        | (go_at_call 39; refine hf.mono ?_; rintro e wn ⟨rfl, hq⟩; have hq' := hq.symm; clear hq; subst hq'))
      go_ret
      exact ⟨rfl, rfl⟩
    · have hf := isFrom_any 0 id 2 w
      rw [show (3 : Int) - 1 = 2 by omega]
      go_enter Tryz.func30, Tryz.ntmps30
      go_wp2_with (first
        | (go_at_call 39; refine hf.mono ?_; rintro e wn ⟨rfl, hq⟩; have hq' := hq.symm; clear hq; subst hq'))
      go_ret
      exact ⟨rfl, rfl⟩
    · have hf := isFrom_any 0 id 4 w
      rw [show (5 : Int) - 1 = 4 by omega]
      go_enter Tryz.func30, Tryz.ntmps30
      go_wp2_with (first
        | (go_at_call 39; refine hf.mono ?_; rintro e wn ⟨rfl, hq⟩; have hq' := hq.symm; clear hq; subst hq'))
      go_ret
      exact ⟨rfl, rfl⟩
  · rw [tru_no (fun q => h q.1)]
    have h1 : ¬ n = 1 := by omega
    have h3 : ¬ n = 3 := by omega
    have h5 : ¬ n = 5 := by omega
    have q1 : (n == 1) = false := by simp [h1]
    have q3 : (n == 3) = false := by simp [h3]
    have q5 : (n == 5) = false := by simp [h5]
    clear h
    go_enter Tryz.func30, Tryz.ntmps30
    go_wp2
    go_ret
    exact ⟨rfl, rfl⟩
set_option maxHeartbeats 1000000 in
theorem mayLog_any (l : List Ent) (ao : Option Addr) (cap : Nat) (w : World) (hl : LiesE w w.heap.size ao l) :
    Calls Tryz.prog 55 #[.slice ao l.length cap] w fun e w' => e = .returned (.bool (tru (LogOk l))) ∧ Below w.heap.size w w' := by
  by_cases h0 : 1000 < l.length
  · rw [tru_no (fun h => by have := h.1; omega)]
    have h1 : (1000 : Int) < (l.length : Int) := by omega
    go_enter Tryz.func55, Tryz.ntmps55
    go_wp2
    go_ret
    exact ⟨rfl, Below.refl _ _⟩
  · have h1 : ¬ (1000 : Int) < (l.length : Int) := by omega
    have hlen : l.length ≤ 1000 := by omega
    clear h0
    go_enter Tryz.func55, Tryz.ntmps55
    go_wp2
    go_loopw [3, 11] (fun v i wr => ∃ k : Nat, k ≤ l.length ∧ i = .int .i64 (k : Int) ∧ v = .int .i64 (prevT l k) ∧ Below w.heap.size w wr ∧ Hid (∀ (i : Nat) x, i < k → l[i]? = some x → EntOk (prevT l i) x)) (fun _ i _ => l.length - (intOf i).toNat)
    case atStart => exact ⟨0, by omega, rfl, rfl, Below.refl _ _, fun i x h => absurd h (Nat.not_lt_zero _)⟩
    case round =>
      obtain ⟨k, hk, rfl, rfl, hbel, HK⟩ := hrel
      by_cases hkl : k < l.length
      · have HX : Hid (l[k]? = some l[k]) := List.getElem?_eq_getElem hkl
        have hp := prevT_upto k HK.out
        obtain ⟨a, rfl, _, c0, c1⟩ := (liesE_next hl hbel hbel.size) k l[k] HX.out
        have i1 : (k : Int) < (l.length : Int) := by omega
        generalize l[k] = y at *
        obtain ⟨P, hP⟩ : ∃ P, prevT l k = P := ⟨_, rfl⟩
        rw [hP] at hp
        have hw1 : IntKind.i64.wrap (P + 1) = P + 1 := by rw [IntKind.wrap_i64]; omega
        have hf := fun W => isFrom_any (P + 1) y.time 1099511627775 W
        by_cases hok : EntOk P y
        · have HK2 : Hid (∀ (i : Nat) x, i < k + 1 → l[i]? = some x → EntOk (prevT l i) x) := by
            intro i x hi hx
            rcases Nat.lt_or_ge i k with h3 | h3
            · exact HK.out i x h3 hx
            · obtain rfl : i = k := by omega
              rw [HX.out] at hx
              cases hx
              rw [hP]
              exact hok
          have hpn : Hid (prevT l (k + 1) = y.time) := prevT_at HX.out
          have t1 : tru (P + 1 ≤ y.time ∧ y.time ≤ 1099511627775) = true := tru_yes ⟨by have := hok.1; omega, by have := hok.2.1; omega⟩
          rw [t1] at hf
          have hs2 : ¬ (20000 : Int) < (y.data.size : Int) := by have := hok.2.2; omega
          clear HK hok t1
          rw [hP]
          go_wp2_with (first
            | (go_at_call 39; refine (hf _).mono ?_; rintro e w1 ⟨rfl, rfl⟩))
          go_roundw
          case rel => exact ⟨k + 1, by omega, by go_num, by rw [hpn.out], hbel.alloc hbel.size _, HK2⟩
          case measure => simp [intOf]; omega
        · have hbad : Hid (tru (LogOk l) = false) := tru_no (fun h => hok (by rw [← hP]; exact h.2 k y HX.out))
          rw [hP]
          by_cases t0 : P + 1 ≤ y.time ∧ y.time ≤ 1099511627775
          · have hs2 : (20000 : Int) < (y.data.size : Int) := by
              rcases Nat.lt_or_ge 20000 y.data.size with h | h
              · omega
              · exact absurd ⟨by omega, by omega, h⟩ hok
            rw [tru_yes t0] at hf
            clear HK hok t0
            go_wp2_with (first
              | (go_at_call 39; refine (hf _).mono ?_; rintro e w1 ⟨rfl, rfl⟩))
            go_ret
            exact ⟨by rw [hbad.out]; rfl, hbel.alloc hbel.size _⟩
          · rw [tru_no t0] at hf
            clear HK hok t0
            go_wp2_with (first
              | (go_at_call 39; refine (hf _).mono ?_; rintro e w1 ⟨rfl, rfl⟩))
            go_ret
            exact ⟨by rw [hbad.out]; rfl, hbel.alloc hbel.size _⟩
      · obtain rfl : k = l.length := by omega
        have hgood : Hid (tru (LogOk l) = true) := tru_yes ⟨hlen, fun i x hx => HK.out i x (List.getElem?_eq_some_iff.1 hx).1 hx⟩
        go_wp2
        go_ret
        exact ⟨by rw [hgood.out]; rfl, hbel⟩
set_option maxHeartbeats 1000000 in
theorem ids_any (l : List Int) (n : Int) (hn : n = 1 ∨ n = 3 ∨ n = 5) (ao : Option Addr) (cap : Nat) (hsm : l.length ≤ 1000) (w : World) (hl : LiesN w w.heap.size ao l) :
    Calls Tryz.prog 57 #[.slice ao l.length cap, .int .i64 n] w fun e w' => e = .returned (.bool (tru (IdsOk l n))) ∧ w' = w := by
  have hw0 : IntKind.i64.wrap (n - 1) = n - 1 := by rw [IntKind.wrap_i64]; omega
  go_enter Tryz.func57, Tryz.ntmps57
  go_wp2
  go_loop [5, 10] (fun v i => ∃ k : Nat, k ≤ l.length ∧ i = .int .i64 (k : Int) ∧ v = .int .i64 (prevI l k) ∧ Hid (∀ (i : Nat) x, i < k → l[i]? = some x → prevI l i < x ∧ x < n)) (fun _ i => l.length - (intOf i).toNat)
  case atStart => exact ⟨0, by omega, rfl, rfl, fun i x h => absurd h (Nat.not_lt_zero _)⟩
  case round =>
    obtain ⟨k, hk, rfl, rfl, HK⟩ := hrel
    by_cases hkl : k < l.length
    · have HX : Hid (l[k]? = some l[k]) := List.getElem?_eq_getElem hkl
      have hp := prevI_upto (show 0 ≤ n by omega) k HK.out
      obtain ⟨a, rfl, _, c0⟩ := hl k l[k] HX.out
      unfold NumAt at c0
      rw [Nat.mul_one] at c0
      have i1 : (k : Int) < (l.length : Int) := by omega
      generalize l[k] = y at *
      obtain ⟨P, hP⟩ : ∃ P, prevI l k = P := ⟨_, rfl⟩
      rw [hP] at hp
      have hw1 : IntKind.i64.wrap (P + 1) = P + 1 := by rw [IntKind.wrap_i64]; omega
      have hf := isFrom_any (P + 1) y (n - 1) w
      by_cases hok : P < y ∧ y < n
      · have HK2 : Hid (∀ (i : Nat) x, i < k + 1 → l[i]? = some x → prevI l i < x ∧ x < n) := by
          intro i x hi hx
          rcases Nat.lt_or_ge i k with h3 | h3
          · exact HK.out i x h3 hx
          · obtain rfl : i = k := by omega
            rw [HX.out] at hx
            cases hx
            rw [hP]
            exact hok
        have hpn : Hid (prevI l (k + 1) = y) := prevI_at HX.out
        have t1 : tru (P + 1 ≤ y ∧ y ≤ n - 1) = true := tru_yes ⟨by omega, by omega⟩
        rw [t1] at hf
        clear HK hok t1
        rw [hP]
        go_wp2_with (first
          | (go_at_call 39; refine hf.mono ?_; rintro e w1 ⟨rfl, hq⟩; have hq' := hq.symm; clear hq; subst hq'))
        go_round
        case rel => exact ⟨k + 1, by omega, by go_num, by rw [hpn.out], HK2⟩
        case measure => simp [intOf]; omega
      · have hbad : Hid (tru (IdsOk l n) = false) := tru_no (fun h => hok (by rw [← hP]; exact h k y HX.out))
        rw [hP]
        rw [tru_no (show ¬ (P + 1 ≤ y ∧ y ≤ n - 1) by omega)] at hf
        clear HK hok
        go_wp2_with (first
          | (go_at_call 39; refine hf.mono ?_; rintro e w1 ⟨rfl, hq⟩; have hq' := hq.symm; clear hq; subst hq'))
        go_ret
        exact ⟨by rw [hbad.out]; rfl, rfl⟩
    · obtain rfl : k = l.length := by omega
      have hgood : Hid (tru (IdsOk l n) = true) := tru_yes (fun i x hx => HK.out i x (List.getElem?_eq_some_iff.1 hx).1 hx)
      go_wp2
      go_ret
      exact ⟨by rw [hgood.out]; rfl, rfl⟩
theorem views_any (r : Rep) (s : Sl) (w : World) :
    Calls Tryz.prog 54 #[repV r s] w fun e w' => e = .returned (.bool (tru (ViewsOk r))) ∧ Below w.heap.size w w' := by
  have hb := fun ob : Obj => (Below.refl _ w).alloc (Nat.le_refl _) ob
  have f1 := fun W => isFrom_any 0 r.view 1099511627775 W
  have f2 := fun W => isFrom_any 0 r.normal r.view W
  by_cases h1 : 0 ≤ r.view ∧ r.view ≤ 1099511627775
  · rw [tru_yes h1] at f1
    by_cases h2 : 0 ≤ r.normal ∧ r.normal ≤ r.view
    · rw [tru_yes h2] at f2
      by_cases h3 : r.how = 0
      · have e : tru (ViewsOk r) = decide (r.normal = r.view) := by
          by_cases h4 : r.normal = r.view
          · rw [decide_eq_true h4]
            exact tru_yes ⟨⟨h1.1, by omega⟩, h2, .inl h3, fun _ => h4⟩
          · rw [decide_eq_false h4]
            exact tru_no (fun q => h4 (q.2.2.2 h3))
        rw [e]
        have h3b : (r.how == 0) = true := by simp [h3]
        go_enter Tryz.func54, Tryz.ntmps54
        go_wp2_with (first
          | (go_at_call 39; refine (f1 _).mono ?_; rintro e w1 ⟨rfl, rfl⟩; clear f1)
          | (go_at_call 39; refine (f2 _).mono ?_; rintro e w1 ⟨rfl, rfl⟩))
        go_ret
        exact ⟨rfl, hb _⟩
      · have e : tru (ViewsOk r) = (decide (r.how = 1) || decide (r.how = 2)) := by
          by_cases h4 : r.how = 1 ∨ r.how = 2
          · rw [← Bool.decide_or, decide_eq_true h4]
            exact tru_yes ⟨⟨h1.1, by omega⟩, h2, .inr h4, fun q => absurd q h3⟩
          · rw [← Bool.decide_or, decide_eq_false h4]
            exact tru_no (fun q => by rcases q.2.2.1 with q | q; exact h3 q; exact h4 q)
        rw [e]
        have h3b : (r.how == 0) = false := by simp [h3]
        by_cases h5 : r.how = 1
        · rw [decide_eq_true h5, Bool.true_or]
          have h5b : (r.how == 1) = true := by simp [h5]
          clear h5 h3
          go_enter Tryz.func54, Tryz.ntmps54
          go_wp2_with (first
            | (go_at_call 39; refine (f1 _).mono ?_; rintro e w1 ⟨rfl, rfl⟩; clear f1)
            | (go_at_call 39; refine (f2 _).mono ?_; rintro e w1 ⟨rfl, rfl⟩))
          go_ret
          exact ⟨rfl, hb _⟩
        · rw [decide_eq_false h5, Bool.false_or]
          have h5b : (r.how == 1) = false := by simp [h5]
          go_enter Tryz.func54, Tryz.ntmps54
          go_wp2_with (first
            | (go_at_call 39; refine (f1 _).mono ?_; rintro e w1 ⟨rfl, rfl⟩; clear f1)
            | (go_at_call 39; refine (f2 _).mono ?_; rintro e w1 ⟨rfl, rfl⟩))
          go_ret
          exact ⟨rfl, hb _⟩
    · rw [tru_no (fun q : ViewsOk r => h2 q.2.1)]
      rw [tru_no h2] at f2
      go_enter Tryz.func54, Tryz.ntmps54
      go_wp2_with (first
        | (go_at_call 39; refine (f1 _).mono ?_; rintro e w1 ⟨rfl, rfl⟩; clear f1)
        | (go_at_call 39; refine (f2 _).mono ?_; rintro e w1 ⟨rfl, rfl⟩))
      go_ret
      exact ⟨rfl, hb _⟩
  · rw [tru_no (fun q : ViewsOk r => h1 ⟨q.1.1, by have := q.1.2; omega⟩)]
    rw [tru_no h1] at f1
    go_enter Tryz.func54, Tryz.ntmps54
    go_wp2_with (first
      | (go_at_call 39; refine (f1 _).mono ?_; rintro e w1 ⟨rfl, rfl⟩; clear f1))
    go_ret
    exact ⟨rfl, hb _⟩
set_option maxHeartbeats 1000000 in
theorem mayAcked_any (r : Rep) (s : Sl) (hsm : r.acked.length ≤ 1000) (w : World) (hl : LiesR w w.heap.size s r) :
    Calls Tryz.prog 56 #[repV r s] w fun e w' => e = .returned (.bool (tru (AckOk r.acked r.n (r.log.length : Int)))) ∧ Below w.heap.size w w' := by
  have hb := fun ob : Obj => (Below.refl _ w).alloc (Nat.le_refl _) ob
  have hla := fun ob : Obj => liesN_wide hl.ack (hb ob) (hb ob).size
  go_enter Tryz.func56, Tryz.ntmps56
  go_wp2
  go_loop [8] (fun i => ∃ k : Nat, k ≤ r.acked.length ∧ i = .int .i64 (k : Int) ∧ Hid (∀ (i : Nat) x, i < k → r.acked[i]? = some x → 0 ≤ x ∧ x ≤ (r.log.length : Int))) (fun i => r.acked.length - (intOf i).toNat)
  case atStart => exact ⟨0, by omega, rfl, fun i x h => absurd h (Nat.not_lt_zero _)⟩
  case round =>
    obtain ⟨k, hk, rfl, HK⟩ := hrel
    by_cases hkl : k < r.acked.length
    · have HX : Hid (r.acked[k]? = some r.acked[k]) := List.getElem?_eq_getElem hkl
      have hc := fun ob => (hla ob) k r.acked[k] HX.out
      obtain ⟨a, ha⟩ : ∃ a, s.ao = some a := by
        obtain ⟨a, e, _⟩ := hl.ack k _ HX.out
        exact ⟨a, e⟩
      have c0 : ∀ ob : Obj, (w.alloc ob).cell? (a.add k) = some (.int .i64 r.acked[k]) := fun ob => by
        obtain ⟨a', e, _, h⟩ := hc ob
        rw [ha] at e
        cases e
        unfold NumAt at h
        rw [Nat.mul_one] at h
        exact h
      have i1 : (k : Int) < (r.acked.length : Int) := by omega
      generalize r.acked[k] = y at *
      have hf := fun W => isFrom_any 0 y (r.log.length : Int) W
      rw [ha]
      by_cases hok : 0 ≤ y ∧ y ≤ (r.log.length : Int)
      · have HK2 : Hid (∀ (i : Nat) x, i < k + 1 → r.acked[i]? = some x → 0 ≤ x ∧ x ≤ (r.log.length : Int)) := by
          intro i x hi hx
          rcases Nat.lt_or_ge i k with h3 | h3
          · exact HK.out i x h3 hx
          · obtain rfl : i = k := by omega
            rw [HX.out] at hx
            cases hx
            exact hok
        rw [tru_yes hok] at hf
        clear HK hok
        go_wp2_with (first
          | (go_at_call 39; refine (hf _).mono ?_; rintro e w1 ⟨rfl, rfl⟩))
        go_round
        case rel => exact ⟨k + 1, by omega, by go_num, HK2⟩
        case measure => simp [intOf]; omega
      · have hbad : Hid (tru (AckOk r.acked r.n (r.log.length : Int)) = false) := tru_no (fun h => hok (h.2 k y HX.out))
        rw [tru_no hok] at hf
        clear HK hok
        go_wp2_with (first
          | (go_at_call 39; refine (hf _).mono ?_; rintro e w1 ⟨rfl, rfl⟩))
        go_ret
        exact ⟨by rw [hbad.out]; rfl, hb _⟩
    · obtain rfl : k = r.acked.length := by omega
      have hgood : Hid (tru (AckOk r.acked r.n (r.log.length : Int)) = decide ((r.acked.length : Int) = r.n)) := by
        unfold Hid
        by_cases h4 : (r.acked.length : Int) = r.n
        · rw [decide_eq_true h4]
          exact tru_yes ⟨h4, fun i x hx => HK.out i x (List.getElem?_eq_some_iff.1 hx).1 hx⟩
        · rw [decide_eq_false h4]
          exact tru_no (fun q => h4 q.1)
      go_wp2
      go_ret
      exact ⟨by rw [hgood.out]; rfl, hb _⟩
/-! The end. -/
set_option maxHeartbeats 1000000 in
theorem mayBest_any (r : Rep) (s : Sl) (hsm : r.best.length ≤ 2000) (w : World) (hl : LiesR w w.heap.size s r) :
    Calls Tryz.prog 58 #[repV r s] w fun e w' => e = .returned (.bool (tru (BestOk r))) ∧ Below w.heap.size w w' := by
  have hb := fun ob : Obj => (Below.refl _ w).alloc (Nat.le_refl _) ob
  have bx := box_rep w r (.slice s.lo r.log.length s.lc) (.slice s.ao r.acked.length s.ac) (.slice s.vo r.votes.length s.vc) (.slice s.wo r.voters.length s.wc) (.slice s.bo r.best.length s.bc) undef 25 w.heap.size rfl
  have g1 := mayLog_any r.best s.bo s.bc (w.alloc (repO r (.slice s.lo r.log.length s.lc) (.slice s.ao r.acked.length s.ac) (.slice s.vo r.votes.length s.vc) (.slice s.wo r.voters.length s.wc) (.slice s.bo r.best.length s.bc) 25)) (liesE_next hl.best (hb _) (hb _).size)
  have f1 := fun W => isFrom_any (-1) r.bestView 1099511627775 W
  have f2 := fun W => isFrom_any 0 r.bestDone (r.best.length : Int) W
  by_cases q1 : LogOk r.best
  · by_cases q2 : -1 ≤ r.bestView ∧ r.bestView ≤ 1099511627775
    · by_cases q3 : 0 ≤ r.bestDone ∧ r.bestDone ≤ (r.best.length : Int)
      · rw [tru_yes (show BestOk r from ⟨q1, ⟨q2.1, by omega⟩, q3⟩)]
        rw [tru_yes q1] at g1
        rw [tru_yes q2] at f1
        rw [tru_yes q3] at f2
        clear q1 q2 q3
        go_enter Tryz.func58, Tryz.ntmps58
        go_wp2_with (first
          | (go_at_call 55; refine g1.mono ?_; rintro e w1 ⟨rfl, hb1⟩; obtain ⟨c0, c1, c2, c3, c4, c5, c6, c7, c8, c9, c10, c11, c12⟩ := (bx.below hb1).rep (by omega))
          | (go_at_call 39; have tk := f1; refine (f1 _).mono ?_; rintro e w2 ⟨rfl, hq⟩; have hq' := hq.symm; clear hq; subst hq'; clear f1 tk)
          | (go_at_call 39; refine (f2 _).mono ?_; rintro e w2 ⟨rfl, hq⟩; have hq' := hq.symm; clear hq; subst hq'))
        go_ret
        exact ⟨rfl, (hb _).trans (hb1.mono (by simp))⟩
      · rw [tru_no (fun q : BestOk r => q3 q.2.2)]
        rw [tru_yes q1] at g1
        rw [tru_yes q2] at f1
        rw [tru_no q3] at f2
        clear q1 q2 q3
        go_enter Tryz.func58, Tryz.ntmps58
        go_wp2_with (first
          | (go_at_call 55; refine g1.mono ?_; rintro e w1 ⟨rfl, hb1⟩; obtain ⟨c0, c1, c2, c3, c4, c5, c6, c7, c8, c9, c10, c11, c12⟩ := (bx.below hb1).rep (by omega))
          | (go_at_call 39; have tk := f1; refine (f1 _).mono ?_; rintro e w2 ⟨rfl, hq⟩; have hq' := hq.symm; clear hq; subst hq'; clear f1 tk)
          | (go_at_call 39; refine (f2 _).mono ?_; rintro e w2 ⟨rfl, hq⟩; have hq' := hq.symm; clear hq; subst hq'))
        go_ret
        exact ⟨rfl, (hb _).trans (hb1.mono (by simp))⟩
    · rw [tru_no (fun q : BestOk r => q2 ⟨q.2.1.1, by have := q.2.1.2; omega⟩)]
      rw [tru_yes q1] at g1
      rw [tru_no q2] at f1
      clear q1 q2
      go_enter Tryz.func58, Tryz.ntmps58
      go_wp2_with (first
        | (go_at_call 55; refine g1.mono ?_; rintro e w1 ⟨rfl, hb1⟩; obtain ⟨c0, c1, c2, c3, c4, c5, c6, c7, c8, c9, c10, c11, c12⟩ := (bx.below hb1).rep (by omega))
        | (go_at_call 39; have tk := f1; refine (f1 _).mono ?_; rintro e w2 ⟨rfl, hq⟩; have hq' := hq.symm; clear hq; subst hq'; clear f1 tk)
        | (go_at_call 39; refine (f2 _).mono ?_; rintro e w2 ⟨rfl, hq⟩; have hq' := hq.symm; clear hq; subst hq'))
      go_ret
      exact ⟨rfl, (hb _).trans (hb1.mono (by simp))⟩
  · rw [tru_no (fun q : BestOk r => q1 q.1)]
    rw [tru_no q1] at g1
    clear q1
    go_enter Tryz.func58, Tryz.ntmps58
    go_wp2_with (first
      | (go_at_call 55; refine g1.mono ?_; rintro e w1 ⟨rfl, hb1⟩; obtain ⟨c0, c1, c2, c3, c4, c5, c6, c7, c8, c9, c10, c11, c12⟩ := (bx.below hb1).rep (by omega))
      | (go_at_call 39; have tk := f1; refine (f1 _).mono ?_; rintro e w2 ⟨rfl, hq⟩; have hq' := hq.symm; clear hq; subst hq'; clear f1 tk)
      | (go_at_call 39; refine (f2 _).mono ?_; rintro e w2 ⟨rfl, hq⟩; have hq' := hq.symm; clear hq; subst hq'))
    go_ret
    exact ⟨rfl, (hb _).trans (hb1.mono (by simp))⟩
abbrev Num.SmallM0 (r : Rep) : Prop := r.acked.length ≤ 1000 ∧ r.best.length ≤ 2000 ∧ r.votes.length ≤ 1000 ∧ r.voters.length ≤ 1000
set_option maxRecDepth 100000 in
set_option maxHeartbeats 4000000 in
theorem may_any (r : Rep) (s : Sl) (hsm : SmallM0 r) (w : World) (hl : LiesR w w.heap.size s r) :
    Calls Tryz.prog 37 #[repV r s] w fun e w' => e = .returned (.bool (tru (May r))) ∧ Below w.heap.size w w' := by
  have hb := fun ob : Obj => (Below.refl _ w).alloc (Nat.le_refl _) ob
  have bx := box_rep w r (.slice s.lo r.log.length s.lc) (.slice s.ao r.acked.length s.ac) (.slice s.vo r.votes.length s.vc) (.slice s.wo r.voters.length s.wc) (.slice s.bo r.best.length s.bc) undef 25 w.heap.size rfl
  have hB0 : Below (w.alloc (repO r (.slice s.lo r.log.length s.lc) (.slice s.ao r.acked.length s.ac) (.slice s.vo r.votes.length s.vc) (.slice s.wo r.voters.length s.wc) (.slice s.bo r.best.length s.bc) 25)).heap.size (w.alloc (repO r (.slice s.lo r.log.length s.lc) (.slice s.ao r.acked.length s.ac) (.slice s.vo r.votes.length s.vc) (.slice s.wo r.voters.length s.wc) (.slice s.bo r.best.length s.bc) 25)) (w.alloc (repO r (.slice s.lo r.log.length s.lc) (.slice s.ao r.acked.length s.ac) (.slice s.vo r.votes.length s.vc) (.slice s.wo r.voters.length s.wc) (.slice s.bo r.best.length s.bc) 25)) := Below.refl _ _
  have hl0 := liesR_next hl (hb (repO r (.slice s.lo r.log.length s.lc) (.slice s.ao r.acked.length s.ac) (.slice s.vo r.votes.length s.vc) (.slice s.wo r.voters.length s.wc) (.slice s.bo r.best.length s.bc) 25)) (hb (repO r (.slice s.lo r.log.length s.lc) (.slice s.ao r.acked.length s.ac) (.slice s.vo r.votes.length s.vc) (.slice s.wo r.voters.length s.wc) (.slice s.bo r.best.length s.bc) 25)).size
  have g0 := fun W => oneOf_any r.id r.n W
  have g1 := fun W (h : Below (w.alloc (repO r (.slice s.lo r.log.length s.lc) (.slice s.ao r.acked.length s.ac) (.slice s.vo r.votes.length s.vc) (.slice s.wo r.voters.length s.wc) (.slice s.bo r.best.length s.bc) 25)).heap.size (w.alloc (repO r (.slice s.lo r.log.length s.lc) (.slice s.ao r.acked.length s.ac) (.slice s.vo r.votes.length s.vc) (.slice s.wo r.voters.length s.wc) (.slice s.bo r.best.length s.bc) 25)) W) => views_any r s W
  have g2 := fun W (h : Below (w.alloc (repO r (.slice s.lo r.log.length s.lc) (.slice s.ao r.acked.length s.ac) (.slice s.vo r.votes.length s.vc) (.slice s.wo r.voters.length s.wc) (.slice s.bo r.best.length s.bc) 25)).heap.size (w.alloc (repO r (.slice s.lo r.log.length s.lc) (.slice s.ao r.acked.length s.ac) (.slice s.vo r.votes.length s.vc) (.slice s.wo r.voters.length s.wc) (.slice s.bo r.best.length s.bc) 25)) W) => mayLog_any r.log s.lo s.lc W (liesE_next hl0.log h h.size)
  have g3 := fun W => isFrom_any 0 r.commit (r.log.length : Int) W
  have g4 := fun W (h : Below (w.alloc (repO r (.slice s.lo r.log.length s.lc) (.slice s.ao r.acked.length s.ac) (.slice s.vo r.votes.length s.vc) (.slice s.wo r.voters.length s.wc) (.slice s.bo r.best.length s.bc) 25)).heap.size (w.alloc (repO r (.slice s.lo r.log.length s.lc) (.slice s.ao r.acked.length s.ac) (.slice s.vo r.votes.length s.vc) (.slice s.wo r.voters.length s.wc) (.slice s.bo r.best.length s.bc) 25)) W) => mayAcked_any r s hsm.1 W (liesR_next hl0 h h.size)
  have g7 := fun W (h : Below (w.alloc (repO r (.slice s.lo r.log.length s.lc) (.slice s.ao r.acked.length s.ac) (.slice s.vo r.votes.length s.vc) (.slice s.wo r.voters.length s.wc) (.slice s.bo r.best.length s.bc) 25)).heap.size (w.alloc (repO r (.slice s.lo r.log.length s.lc) (.slice s.ao r.acked.length s.ac) (.slice s.vo r.votes.length s.vc) (.slice s.wo r.voters.length s.wc) (.slice s.bo r.best.length s.bc) 25)) W) => mayBest_any r s hsm.2.1 W (liesR_next hl0 h h.size)
  by_cases q0 : OneOf r.id r.n
  · have g5 := fun W (h : Below (w.alloc (repO r (.slice s.lo r.log.length s.lc) (.slice s.ao r.acked.length s.ac) (.slice s.vo r.votes.length s.vc) (.slice s.wo r.voters.length s.wc) (.slice s.bo r.best.length s.bc) 25)).heap.size (w.alloc (repO r (.slice s.lo r.log.length s.lc) (.slice s.ao r.acked.length s.ac) (.slice s.vo r.votes.length s.vc) (.slice s.wo r.voters.length s.wc) (.slice s.bo r.best.length s.bc) 25)) W) => (ids_any r.votes r.n q0.1 s.vo s.vc hsm.2.2.1 W (liesN_wide hl0.votes h h.size)).mono (R' := fun e w' => e = .returned (.bool (tru (IdsOk r.votes r.n))) ∧ Below W.heap.size W w') (fun e w' q => ⟨q.1, by rw [q.2]; exact Below.refl _ _⟩)
    have g6 := fun W (h : Below (w.alloc (repO r (.slice s.lo r.log.length s.lc) (.slice s.ao r.acked.length s.ac) (.slice s.vo r.votes.length s.vc) (.slice s.wo r.voters.length s.wc) (.slice s.bo r.best.length s.bc) 25)).heap.size (w.alloc (repO r (.slice s.lo r.log.length s.lc) (.slice s.ao r.acked.length s.ac) (.slice s.vo r.votes.length s.vc) (.slice s.wo r.voters.length s.wc) (.slice s.bo r.best.length s.bc) 25)) W) => (ids_any r.voters r.n q0.1 s.wo s.wc hsm.2.2.2 W (liesN_wide hl0.voters h h.size)).mono (R' := fun e w' => e = .returned (.bool (tru (IdsOk r.voters r.n))) ∧ Below W.heap.size W w') (fun e w' q => ⟨q.1, by rw [q.2]; exact Below.refl _ _⟩)
    clear hl hl0 hsm
    by_cases q1 : ViewsOk r
    · by_cases q2 : LogOk r.log
      · by_cases q3 : 0 ≤ r.commit ∧ r.commit ≤ (r.log.length : Int)
        · by_cases q4 : AckOk r.acked r.n (r.log.length : Int)
          · by_cases q5 : IdsOk r.votes r.n
            · by_cases q6 : IdsOk r.voters r.n
              · by_cases q7 : BestOk r
                · rw [tru_yes (show May r from ⟨q0, q1, q2, q3, q4, q5, q6, q7⟩)]
                  rw [tru_yes q0] at g0
                  rw [tru_yes q1] at g1
                  rw [tru_yes q2] at g2
                  rw [tru_yes q3] at g3
                  rw [tru_yes q4] at g4
                  rw [tru_yes q5] at g5
                  rw [tru_yes q6] at g6
                  rw [tru_yes q7] at g7
                  clear q0 q1 q2 q3 q4 q5 q6 q7
                  go_enter Tryz.func37, Tryz.ntmps37
                  go_wp2_with (first
                    | (go_at_call 30; refine (g0 _).mono ?_; rintro e w0 ⟨rfl, hq⟩; have hq' := hq.symm; clear hq; subst hq')
                    | (go_at_call 54; refine (g1 _ hB0).mono ?_; rintro e w1 ⟨rfl, hbw1⟩; have hBw1 := below_next hB0 (Nat.le_refl _) hbw1; obtain ⟨c0, c1, c2, c3, c4, c5, c6, c7, c8, c9, c10, c11, c12⟩ := (bx.below hBw1).rep (by omega))
                    | (go_at_call 55; refine (g2 _ hBw1).mono ?_; rintro e w2 ⟨rfl, hbw2⟩; have hBw2 := below_next hBw1 (Nat.le_refl _) hbw2; obtain ⟨c0, c1, c2, c3, c4, c5, c6, c7, c8, c9, c10, c11, c12⟩ := (bx.below hBw2).rep (by omega))
                    | (go_at_call 39; refine (g3 _).mono ?_; rintro e w3 ⟨rfl, hq⟩; have hq' := hq.symm; clear hq; subst hq')
                    | (go_at_call 56; refine (g4 _ hBw2).mono ?_; rintro e w4 ⟨rfl, hbw4⟩; have hBw4 := below_next hBw2 (Nat.le_refl _) hbw4; obtain ⟨c0, c1, c2, c3, c4, c5, c6, c7, c8, c9, c10, c11, c12⟩ := (bx.below hBw4).rep (by omega))
                    | (go_at_call 57; have tk := hBw5; refine (g6 _ hBw5).mono ?_; rintro e w6 ⟨rfl, hbw6⟩; have hBw6 := below_next hBw5 (Nat.le_refl _) hbw6; obtain ⟨c0, c1, c2, c3, c4, c5, c6, c7, c8, c9, c10, c11, c12⟩ := (bx.below hBw6).rep (by omega))
                    | (go_at_call 57; refine (g5 _ hBw4).mono ?_; rintro e w5 ⟨rfl, hbw5⟩; have hBw5 := below_next hBw4 (Nat.le_refl _) hbw5; obtain ⟨c0, c1, c2, c3, c4, c5, c6, c7, c8, c9, c10, c11, c12⟩ := (bx.below hBw5).rep (by omega))
                    | (go_at_call 58; refine (g7 _ hBw6).mono ?_; rintro e w7 ⟨rfl, hbw7⟩; have hBw7 := below_next hBw6 (Nat.le_refl _) hbw7; obtain ⟨c0, c1, c2, c3, c4, c5, c6, c7, c8, c9, c10, c11, c12⟩ := (bx.below hBw7).rep (by omega)))
                  go_ret
                  exact ⟨rfl, (hb _).trans (hBw7.mono (by simp))⟩
                · rw [tru_no (fun q : May r => q7 q.best)]
                  rw [tru_yes q0] at g0
                  rw [tru_yes q1] at g1
                  rw [tru_yes q2] at g2
                  rw [tru_yes q3] at g3
                  rw [tru_yes q4] at g4
                  rw [tru_yes q5] at g5
                  rw [tru_yes q6] at g6
                  rw [tru_no q7] at g7
                  clear q0 q1 q2 q3 q4 q5 q6 q7
                  go_enter Tryz.func37, Tryz.ntmps37
                  go_wp2_with (first
                    | (go_at_call 30; refine (g0 _).mono ?_; rintro e w0 ⟨rfl, hq⟩; have hq' := hq.symm; clear hq; subst hq')
                    | (go_at_call 54; refine (g1 _ hB0).mono ?_; rintro e w1 ⟨rfl, hbw1⟩; have hBw1 := below_next hB0 (Nat.le_refl _) hbw1; obtain ⟨c0, c1, c2, c3, c4, c5, c6, c7, c8, c9, c10, c11, c12⟩ := (bx.below hBw1).rep (by omega))
                    | (go_at_call 55; refine (g2 _ hBw1).mono ?_; rintro e w2 ⟨rfl, hbw2⟩; have hBw2 := below_next hBw1 (Nat.le_refl _) hbw2; obtain ⟨c0, c1, c2, c3, c4, c5, c6, c7, c8, c9, c10, c11, c12⟩ := (bx.below hBw2).rep (by omega))
                    | (go_at_call 39; refine (g3 _).mono ?_; rintro e w3 ⟨rfl, hq⟩; have hq' := hq.symm; clear hq; subst hq')
                    | (go_at_call 56; refine (g4 _ hBw2).mono ?_; rintro e w4 ⟨rfl, hbw4⟩; have hBw4 := below_next hBw2 (Nat.le_refl _) hbw4; obtain ⟨c0, c1, c2, c3, c4, c5, c6, c7, c8, c9, c10, c11, c12⟩ := (bx.below hBw4).rep (by omega))
                    | (go_at_call 57; have tk := hBw5; refine (g6 _ hBw5).mono ?_; rintro e w6 ⟨rfl, hbw6⟩; have hBw6 := below_next hBw5 (Nat.le_refl _) hbw6; obtain ⟨c0, c1, c2, c3, c4, c5, c6, c7, c8, c9, c10, c11, c12⟩ := (bx.below hBw6).rep (by omega))
                    | (go_at_call 57; refine (g5 _ hBw4).mono ?_; rintro e w5 ⟨rfl, hbw5⟩; have hBw5 := below_next hBw4 (Nat.le_refl _) hbw5; obtain ⟨c0, c1, c2, c3, c4, c5, c6, c7, c8, c9, c10, c11, c12⟩ := (bx.below hBw5).rep (by omega))
                    | (go_at_call 58; refine (g7 _ hBw6).mono ?_; rintro e w7 ⟨rfl, hbw7⟩; have hBw7 := below_next hBw6 (Nat.le_refl _) hbw7; obtain ⟨c0, c1, c2, c3, c4, c5, c6, c7, c8, c9, c10, c11, c12⟩ := (bx.below hBw7).rep (by omega)))
                  go_ret
                  exact ⟨rfl, (hb _).trans (hBw7.mono (by simp))⟩
              · rw [tru_no (fun q : May r => q6 q.voters)]
                rw [tru_yes q0] at g0
                rw [tru_yes q1] at g1
                rw [tru_yes q2] at g2
                rw [tru_yes q3] at g3
                rw [tru_yes q4] at g4
                rw [tru_yes q5] at g5
                rw [tru_no q6] at g6
                clear q0 q1 q2 q3 q4 q5 q6
                go_enter Tryz.func37, Tryz.ntmps37
                go_wp2_with (first
                  | (go_at_call 30; refine (g0 _).mono ?_; rintro e w0 ⟨rfl, hq⟩; have hq' := hq.symm; clear hq; subst hq')
                  | (go_at_call 54; refine (g1 _ hB0).mono ?_; rintro e w1 ⟨rfl, hbw1⟩; have hBw1 := below_next hB0 (Nat.le_refl _) hbw1; obtain ⟨c0, c1, c2, c3, c4, c5, c6, c7, c8, c9, c10, c11, c12⟩ := (bx.below hBw1).rep (by omega))
                  | (go_at_call 55; refine (g2 _ hBw1).mono ?_; rintro e w2 ⟨rfl, hbw2⟩; have hBw2 := below_next hBw1 (Nat.le_refl _) hbw2; obtain ⟨c0, c1, c2, c3, c4, c5, c6, c7, c8, c9, c10, c11, c12⟩ := (bx.below hBw2).rep (by omega))
                  | (go_at_call 39; refine (g3 _).mono ?_; rintro e w3 ⟨rfl, hq⟩; have hq' := hq.symm; clear hq; subst hq')
                  | (go_at_call 56; refine (g4 _ hBw2).mono ?_; rintro e w4 ⟨rfl, hbw4⟩; have hBw4 := below_next hBw2 (Nat.le_refl _) hbw4; obtain ⟨c0, c1, c2, c3, c4, c5, c6, c7, c8, c9, c10, c11, c12⟩ := (bx.below hBw4).rep (by omega))
                  | (go_at_call 57; have tk := hBw5; refine (g6 _ hBw5).mono ?_; rintro e w6 ⟨rfl, hbw6⟩; have hBw6 := below_next hBw5 (Nat.le_refl _) hbw6; obtain ⟨c0, c1, c2, c3, c4, c5, c6, c7, c8, c9, c10, c11, c12⟩ := (bx.below hBw6).rep (by omega))
                  | (go_at_call 57; refine (g5 _ hBw4).mono ?_; rintro e w5 ⟨rfl, hbw5⟩; have hBw5 := below_next hBw4 (Nat.le_refl _) hbw5; obtain ⟨c0, c1, c2, c3, c4, c5, c6, c7, c8, c9, c10, c11, c12⟩ := (bx.below hBw5).rep (by omega)))
                go_ret
                exact ⟨rfl, (hb _).trans (hBw6.mono (by simp))⟩
            · rw [tru_no (fun q : May r => q5 q.votes)]
              rw [tru_yes q0] at g0
              rw [tru_yes q1] at g1
              rw [tru_yes q2] at g2
              rw [tru_yes q3] at g3
              rw [tru_yes q4] at g4
              rw [tru_no q5] at g5
              clear q0 q1 q2 q3 q4 q5
              go_enter Tryz.func37, Tryz.ntmps37
              go_wp2_with (first
                | (go_at_call 30; refine (g0 _).mono ?_; rintro e w0 ⟨rfl, hq⟩; have hq' := hq.symm; clear hq; subst hq')
                | (go_at_call 54; refine (g1 _ hB0).mono ?_; rintro e w1 ⟨rfl, hbw1⟩; have hBw1 := below_next hB0 (Nat.le_refl _) hbw1; obtain ⟨c0, c1, c2, c3, c4, c5, c6, c7, c8, c9, c10, c11, c12⟩ := (bx.below hBw1).rep (by omega))
                | (go_at_call 55; refine (g2 _ hBw1).mono ?_; rintro e w2 ⟨rfl, hbw2⟩; have hBw2 := below_next hBw1 (Nat.le_refl _) hbw2; obtain ⟨c0, c1, c2, c3, c4, c5, c6, c7, c8, c9, c10, c11, c12⟩ := (bx.below hBw2).rep (by omega))
                | (go_at_call 39; refine (g3 _).mono ?_; rintro e w3 ⟨rfl, hq⟩; have hq' := hq.symm; clear hq; subst hq')
                | (go_at_call 56; refine (g4 _ hBw2).mono ?_; rintro e w4 ⟨rfl, hbw4⟩; have hBw4 := below_next hBw2 (Nat.le_refl _) hbw4; obtain ⟨c0, c1, c2, c3, c4, c5, c6, c7, c8, c9, c10, c11, c12⟩ := (bx.below hBw4).rep (by omega))
                | (go_at_call 57; refine (g5 _ hBw4).mono ?_; rintro e w5 ⟨rfl, hbw5⟩; have hBw5 := below_next hBw4 (Nat.le_refl _) hbw5; obtain ⟨c0, c1, c2, c3, c4, c5, c6, c7, c8, c9, c10, c11, c12⟩ := (bx.below hBw5).rep (by omega)))
              go_ret
              exact ⟨rfl, (hb _).trans (hBw5.mono (by simp))⟩
          · rw [tru_no (fun q : May r => q4 q.ack)]
            rw [tru_yes q0] at g0
            rw [tru_yes q1] at g1
            rw [tru_yes q2] at g2
            rw [tru_yes q3] at g3
            rw [tru_no q4] at g4
            clear q0 q1 q2 q3 q4
            go_enter Tryz.func37, Tryz.ntmps37
            go_wp2_with (first
              | (go_at_call 30; refine (g0 _).mono ?_; rintro e w0 ⟨rfl, hq⟩; have hq' := hq.symm; clear hq; subst hq')
              | (go_at_call 54; refine (g1 _ hB0).mono ?_; rintro e w1 ⟨rfl, hbw1⟩; have hBw1 := below_next hB0 (Nat.le_refl _) hbw1; obtain ⟨c0, c1, c2, c3, c4, c5, c6, c7, c8, c9, c10, c11, c12⟩ := (bx.below hBw1).rep (by omega))
              | (go_at_call 55; refine (g2 _ hBw1).mono ?_; rintro e w2 ⟨rfl, hbw2⟩; have hBw2 := below_next hBw1 (Nat.le_refl _) hbw2; obtain ⟨c0, c1, c2, c3, c4, c5, c6, c7, c8, c9, c10, c11, c12⟩ := (bx.below hBw2).rep (by omega))
              | (go_at_call 39; refine (g3 _).mono ?_; rintro e w3 ⟨rfl, hq⟩; have hq' := hq.symm; clear hq; subst hq')
              | (go_at_call 56; refine (g4 _ hBw2).mono ?_; rintro e w4 ⟨rfl, hbw4⟩; have hBw4 := below_next hBw2 (Nat.le_refl _) hbw4; obtain ⟨c0, c1, c2, c3, c4, c5, c6, c7, c8, c9, c10, c11, c12⟩ := (bx.below hBw4).rep (by omega)))
            go_ret
            exact ⟨rfl, (hb _).trans (hBw4.mono (by simp))⟩
        · rw [tru_no (fun q : May r => q3 q.com)]
          rw [tru_yes q0] at g0
          rw [tru_yes q1] at g1
          rw [tru_yes q2] at g2
          rw [tru_no q3] at g3
          clear q0 q1 q2 q3
          go_enter Tryz.func37, Tryz.ntmps37
          go_wp2_with (first
            | (go_at_call 30; refine (g0 _).mono ?_; rintro e w0 ⟨rfl, hq⟩; have hq' := hq.symm; clear hq; subst hq')
            | (go_at_call 54; refine (g1 _ hB0).mono ?_; rintro e w1 ⟨rfl, hbw1⟩; have hBw1 := below_next hB0 (Nat.le_refl _) hbw1; obtain ⟨c0, c1, c2, c3, c4, c5, c6, c7, c8, c9, c10, c11, c12⟩ := (bx.below hBw1).rep (by omega))
            | (go_at_call 55; refine (g2 _ hBw1).mono ?_; rintro e w2 ⟨rfl, hbw2⟩; have hBw2 := below_next hBw1 (Nat.le_refl _) hbw2; obtain ⟨c0, c1, c2, c3, c4, c5, c6, c7, c8, c9, c10, c11, c12⟩ := (bx.below hBw2).rep (by omega))
            | (go_at_call 39; refine (g3 _).mono ?_; rintro e w3 ⟨rfl, hq⟩; have hq' := hq.symm; clear hq; subst hq'))
          go_ret
          exact ⟨rfl, (hb _).trans (hBw2.mono (by simp))⟩
      · rw [tru_no (fun q : May r => q2 q.log)]
        rw [tru_yes q0] at g0
        rw [tru_yes q1] at g1
        rw [tru_no q2] at g2
        clear q0 q1 q2
        go_enter Tryz.func37, Tryz.ntmps37
        go_wp2_with (first
          | (go_at_call 30; refine (g0 _).mono ?_; rintro e w0 ⟨rfl, hq⟩; have hq' := hq.symm; clear hq; subst hq')
          | (go_at_call 54; refine (g1 _ hB0).mono ?_; rintro e w1 ⟨rfl, hbw1⟩; have hBw1 := below_next hB0 (Nat.le_refl _) hbw1; obtain ⟨c0, c1, c2, c3, c4, c5, c6, c7, c8, c9, c10, c11, c12⟩ := (bx.below hBw1).rep (by omega))
          | (go_at_call 55; refine (g2 _ hBw1).mono ?_; rintro e w2 ⟨rfl, hbw2⟩; have hBw2 := below_next hBw1 (Nat.le_refl _) hbw2; obtain ⟨c0, c1, c2, c3, c4, c5, c6, c7, c8, c9, c10, c11, c12⟩ := (bx.below hBw2).rep (by omega)))
        go_ret
        exact ⟨rfl, (hb _).trans (hBw2.mono (by simp))⟩
    · rw [tru_no (fun q : May r => q1 q.views)]
      rw [tru_yes q0] at g0
      rw [tru_no q1] at g1
      clear q0 q1
      go_enter Tryz.func37, Tryz.ntmps37
      go_wp2_with (first
        | (go_at_call 30; refine (g0 _).mono ?_; rintro e w0 ⟨rfl, hq⟩; have hq' := hq.symm; clear hq; subst hq')
        | (go_at_call 54; refine (g1 _ hB0).mono ?_; rintro e w1 ⟨rfl, hbw1⟩; have hBw1 := below_next hB0 (Nat.le_refl _) hbw1; obtain ⟨c0, c1, c2, c3, c4, c5, c6, c7, c8, c9, c10, c11, c12⟩ := (bx.below hBw1).rep (by omega)))
      go_ret
      exact ⟨rfl, (hb _).trans (hBw1.mono (by simp))⟩
  · rw [tru_no (fun q : May r => q0 q.one)]
    rw [tru_no q0] at g0
    clear q0
    go_enter Tryz.func37, Tryz.ntmps37
    go_wp2_with (first
      | (go_at_call 30; refine (g0 _).mono ?_; rintro e w0 ⟨rfl, hq⟩; have hq' := hq.symm; clear hq; subst hq'))
    go_ret
    exact ⟨rfl, (hb _).trans (hB0.mono (by simp))⟩
end Go.Proofs.YtajbdffepfjegaaGreat
