/-
  Joined:
  Contracts: the document's own: do texts rise, may writes be (13.1)?
  Contracts: the document's own: commands that may not be (13.1), by their numbers.
  Contracts: the document's own: which commands may be (13.1).
-/
import Derived.Test.YtclliljkmmpglaaGreatCMayA
import Derived.Deep.QuietTactic
import Derived.BigRegion
namespace Go.Proofs.YtclliljkmmpglaaGreat
open Go.RowKit Num
open scoped Classical
set_option linter.unusedVariables false
set_option maxRecDepth 100000

theorem time_any (n : Int) (w : World) : Calls Tryz.prog 54 #[.int .i64 n] w fun e w' => e = .returned (.bool (tru (TimeC n))) ∧ w' = w := by
  by_cases h1 : n < 0
  · rw [tru_no (show ¬ TimeC n from fun h => by unfold TimeC at h; omega)]
    have h1' : ¬ 0 ≤ n := by omega
    go_enter Tryz.func54, Tryz.ntmps54
    go_wp2
    go_ret
    exact ⟨rfl, rfl⟩
  · have h1' : 0 ≤ n := by omega
    by_cases h2 : n ≤ 1099511627776
    · rw [tru_yes (show TimeC n from ⟨h1', h2⟩)]
      go_enter Tryz.func54, Tryz.ntmps54
      go_wp2
      go_ret
      exact ⟨rfl, rfl⟩
    · rw [tru_no (show ¬ TimeC n from fun h => h2 h.2)]
      go_enter Tryz.func54, Tryz.ntmps54
      go_wp2
      go_ret
      exact ⟨rfl, rfl⟩
/-- May the write at a place be? -/
def Num.WrAt (l : List Wrt) (i : Nat) : Prop := ∀ x, l[i]? = some x → ¬ 1000 < (x.key.size : Int) ∧ WrtOk x ∧ ∀ j y, i = j + 1 → l[j]? = some y → leqT x.key y.key = false
theorem wrAt_iff (l : List Wrt) : (∀ i, i < l.length → WrAt l i) ↔ ((∀ x ∈ l, WrtOk x) ∧ RisesT (l.map Wrt.key)) := by
  constructor
  · intro h
    refine ⟨fun x hx => ?_, fun i hi x hx => ?_⟩
    · obtain ⟨i, hi, rfl⟩ := List.getElem_of_mem hx
      exact (h i hi _ (List.getElem?_eq_getElem hi)).2.1
    · rw [List.length_map] at hi
      rw [List.getElem?_map, List.getElem?_eq_getElem hi] at hx
      simp only [Option.map_some, Option.some.injEq] at hx
      subst hx
      obtain ⟨h1, _, h3⟩ := h i hi _ (List.getElem?_eq_getElem hi)
      refine ⟨h1, fun j y hj hy => ?_⟩
      rw [List.getElem?_map, List.getElem?_eq_getElem (show j < l.length by omega)] at hy
      simp only [Option.map_some, Option.some.injEq] at hy
      subst hy
      exact h3 j _ hj (List.getElem?_eq_getElem (by omega))
  · rintro ⟨h1, h2⟩ i hi x hx
    rw [List.getElem?_eq_getElem hi] at hx
    simp only [Option.some.injEq] at hx
    subst hx
    obtain ⟨h3, h4⟩ := h2 i (by rw [List.length_map]; exact hi) (l[i]).key (by rw [List.getElem?_map, List.getElem?_eq_getElem hi]; rfl)
    refine ⟨h3, h1 _ (List.getElem_mem hi), fun j y hj hy => h4 j y.key hj ?_⟩
    rw [List.getElem?_map, hy]
    rfl
set_option maxHeartbeats 2000000 in
theorem rises_any (ao : Option Addr) (cap : Nat) (l : List ByteArray) (h200 : l.length ≤ 1000) (w : World) (hl : LiesS w w.heap.size ao l) :
    Calls Tryz.prog 56 #[.slice ao l.length cap] w fun e w' => e = .returned (.bool (tru (∀ i, i < l.length → KeyAt l i))) ∧ Below w.heap.size w w' := by
  go_enter Tryz.func56, Tryz.ntmps56
  go_wp2
  go_loopw [3] (fun i wr => ∃ k : Nat, k ≤ l.length ∧ i = .int .i64 (k : Int) ∧ Below w.heap.size w wr ∧ Hid (∀ j, j < k → KeyAt l j)) (fun i _ => l.length - (intOf i).toNat)
  case atStart => exact ⟨0, by omega, rfl, Below.refl _ _, fun _ h => absurd h (Nat.not_lt_zero _)⟩
  case round =>
    obtain ⟨k, hk, rfl, hbel, HK⟩ := hrel
    by_cases hkl : k < l.length
    · have HKs : KeyAt l k → Hid (∀ j, j < k + 1 → KeyAt l j) := by
        intro hx j hj
        by_cases h : j = k
        · subst h
          exact hx
        · exact HK.out j (by omega)
      have HKn : ¬ KeyAt l k → Hid (¬ ∀ i, i < l.length → KeyAt l i) := fun hx h => hx (h k hkl)
      clear HK
      have hat : ∀ x, l[k]? = some x → x = l[k] := fun x hx => by rw [List.getElem?_eq_getElem hkl] at hx; cases hx; rfl
      have i1 : (k : Int) < (l.length : Int) := by omega
      obtain ⟨a, rfl, hblk, c0⟩ := (hl.below TxtAt.fast hbel) k l[k] (List.getElem?_eq_getElem hkl)
      rw [Nat.mul_one] at c0
      unfold TxtAt at c0
      by_cases hz : 1000 < (l[k].size : Int)
      · have hno := HKn (fun h => (h _ (List.getElem?_eq_getElem hkl)).1 hz)
        clear HKs HKn hat
        have hzd : decide (1000 < (l[k].size : Int)) = true := decide_eq_true hz
        generalize l[k] = y at *
        go_wp2
        go_quiet (fail)
        go_wp2
        go_ret
        rw [tru_no hno.out]
        exact ⟨rfl, below_drewN hbel _⟩
      · have hzd : decide (1000 < (l[k].size : Int)) = false := decide_eq_false hz
        by_cases hk0 : k = 0
        · subst hk0
          have HK2 := HKs (fun x hx => by
            rw [hat x hx]
            exact ⟨hz, fun j y hj => by omega⟩)
          clear HKs HKn hat
          have c00 : wr.cell? a = some (.string l[0]) := by rw [addr_zeroC] at c0; exact c0
          clear c0
          generalize l[0] = y at *
          go_wp2
          go_quiet (fail)
          go_wp2
          go_roundw
          case rel => exact ⟨1, by omega, by go_num, below_drewN hbel _, HK2⟩
          case measure => simp [intOf]; omega
        · obtain ⟨j, hj⟩ : ∃ j, k = j + 1 := ⟨k - 1, by omega⟩
          have hjl : j < l.length := by omega
          have HKs2 : leqT l[k] l[j] = false → Hid (∀ j, j < k + 1 → KeyAt l j) := fun he => HKs (fun x hx => by
            rw [hat x hx]
            refine ⟨hz, fun j' y hj' hy => ?_⟩
            obtain rfl : j' = j := by omega
            rw [List.getElem?_eq_getElem hjl] at hy
            cases hy
            exact he)
          have HKn2 : leqT l[k] l[j] = true → Hid (¬ ∀ i, i < l.length → KeyAt l i) := fun he => HKn (fun h => by
            have := (h _ (List.getElem?_eq_getElem hkl)).2 j l[j] hj (List.getElem?_eq_getElem hjl)
            rw [he] at this
            cases this)
          clear HKs HKn hat
          have hsub : (k : Int) - 1 = (j : Int) := by omega
          have hjb : (j : Int) < (l.length : Int) := by omega
          have hpos : decide (0 < k) = true := decide_eq_true (by omega)
          have hpos2 : decide ((0 : Int) < (k : Int)) = true := decide_eq_true (by omega)
          unfold leqT at HKs2 HKn2
          obtain ⟨a', ha', _, d0⟩ := (hl.below TxtAt.fast hbel) j l[j] (List.getElem?_eq_getElem hjl)
          cases ha'
          rw [Nat.mul_one] at d0
          unfold TxtAt at d0
          generalize l[k] = x at *
          generalize l[j] = y at *
          have HJ : Hid (k = j + 1) := hj
          clear hj hk0
          rcases Bool.eq_false_or_eq_true (Op.bytesLess x.toList y.toList) with h1 | h1
          · have hno := HKn2 (by rw [h1]; rfl)
            clear HKs2 HKn2
            go_wp2
            go_quiet (fail)
            go_wp2
            go_ret
            rw [tru_no hno.out]
            exact ⟨rfl, below_drewN hbel _⟩
          · rcases Bool.eq_false_or_eq_true (x.toList == y.toList) with h2 | h2
            · have hno := HKn2 (by rw [h1, h2]; rfl)
              clear HKs2 HKn2
              go_wp2
              go_quiet (fail)
              go_wp2
              go_ret
              rw [tru_no hno.out]
              exact ⟨rfl, below_drewN hbel _⟩
            · have HK2 := HKs2 (by rw [h1, h2]; rfl)
              clear HKs2 HKn2
              go_wp2
              go_quiet (fail)
              go_wp2
              go_roundw
              case rel => exact ⟨k + 1, by omega, by go_num, below_drewN hbel _, HK2⟩
              case measure => simp [intOf]; omega
    · have hyes : Hid (∀ i, i < l.length → KeyAt l i) := fun i hi => HK.out i (by omega)
      clear HK
      go_wp2
      go_ret
      rw [tru_yes hyes.out]
      exact ⟨rfl, hbel⟩
set_option maxHeartbeats 2000000 in
theorem writes_any (ao : Option Addr) (cap : Nat) (l : List Wrt) (h200 : l.length ≤ 1000) (w : World) (hl : LiesW w w.heap.size ao l) :
    Calls Tryz.prog 57 #[.slice ao l.length cap] w fun e w' => e = .returned (.bool (tru (∀ i, i < l.length → WrAt l i))) ∧ Below w.heap.size w w' := by
  go_enter Tryz.func57, Tryz.ntmps57
  go_wp2
  go_loopw [3] (fun i wr => ∃ k : Nat, k ≤ l.length ∧ i = .int .i64 (k : Int) ∧ Below w.heap.size w wr ∧ Hid (∀ j, j < k → WrAt l j)) (fun i _ => l.length - (intOf i).toNat)
  case atStart => exact ⟨0, by omega, rfl, Below.refl _ _, fun _ h => absurd h (Nat.not_lt_zero _)⟩
  case round =>
    obtain ⟨k, hk, rfl, hbel, HK⟩ := hrel
    by_cases hkl : k < l.length
    · have HKs : WrAt l k → Hid (∀ j, j < k + 1 → WrAt l j) := by
        intro hx j hj
        by_cases h : j = k
        · subst h
          exact hx
        · exact HK.out j (by omega)
      have HKn : ¬ WrAt l k → Hid (¬ ∀ i, i < l.length → WrAt l i) := fun hx h => hx (h k hkl)
      clear HK
      have hat : ∀ x, l[k]? = some x → x = l[k] := fun x hx => by rw [List.getElem?_eq_getElem hkl] at hx; cases hx; rfl
      have i1 : (k : Int) < (l.length : Int) := by omega
      obtain ⟨a, rfl, hblk, c0, c1, c2⟩ := (hl.below WrtAt.fast hbel) k l[k] (List.getElem?_eq_getElem hkl)
      by_cases hz : 1000 < (l[k].key.size : Int)
      · have hno := HKn (fun h => (h _ (List.getElem?_eq_getElem hkl)).1 hz)
        clear HKs HKn hat
        have hzd : decide (1000 < (l[k].key.size : Int)) = true := decide_eq_true hz
        generalize l[k] = y at *
        go_wp2
        go_quiet (fail)
        go_wp2
        go_ret
        rw [tru_no hno.out]
        exact ⟨rfl, below_drewN hbel _⟩
      · have hzd : decide (1000 < (l[k].key.size : Int)) = false := decide_eq_false hz
        by_cases hv : 10000 < (l[k].val.size : Int)
        · have hno := HKn (fun h => (h _ (List.getElem?_eq_getElem hkl)).2.1.1 hv)
          clear HKs HKn hat
          have hvd : decide (10000 < (l[k].val.size : Int)) = true := decide_eq_true hv
          generalize l[k] = y at *
          go_wp2
          go_quiet (fail)
          go_wp2
          go_ret
          rw [tru_no hno.out]
          exact ⟨rfl, below_drewN hbel _⟩
        · have hvd : decide (10000 < (l[k].val.size : Int)) = false := decide_eq_false hv
          by_cases hd : l[k].del = true ∧ l[k].val.toList.isEmpty = false
          · obtain ⟨hd1, hd2⟩ := hd
            have hno := HKn (fun h => by have := (h _ (List.getElem?_eq_getElem hkl)).2.1.2 hd1; rw [hd2] at this; cases this)
            clear HKs HKn hat
            generalize l[k] = y at *
            rw [hd1] at c2
            clear hd1
            go_wp2
            go_quiet (fail)
            go_wp2
            go_ret
            rw [tru_no hno.out]
            exact ⟨rfl, below_drewN hbel _⟩
          · have hwo : WrtOk l[k] := ⟨hv, fun h1 => by
              rcases Bool.eq_false_or_eq_true (l[k].val.toList.isEmpty) with h2 | h2
              · exact h2
              · exact absurd ⟨h1, h2⟩ hd⟩
            obtain ⟨dd, vv, hdd, hvv, hor⟩ : ∃ dd vv, l[k].del = dd ∧ l[k].val.toList.isEmpty = vv ∧ (dd = false ∨ (dd = true ∧ vv = true)) := ⟨_, _, rfl, rfl, by
              rcases Bool.eq_false_or_eq_true l[k].del with h1 | h1
              · rw [h1]
                exact .inr ⟨rfl, hwo.2 h1⟩
              · exact .inl h1⟩
            rw [hdd] at c2
            clear hdd hd
            by_cases hk0 : k = 0
            · subst hk0
              have HK2 := HKs (fun x hx => by
                rw [hat x hx]
                exact ⟨hz, hwo, fun j y hj => by omega⟩)
              clear HKs HKn hat
              have c00 : wr.cell? a = some (.string l[0].key) := by rw [Nat.zero_mul, addr_zeroC] at c0; exact c0
              rw [Nat.zero_mul, addr_zeroC] at c1 c2
              clear c0 hwo
              generalize l[0] = y at *
              rcases hor with rfl | ⟨rfl, rfl⟩
              all_goals
                go_wp2
                go_quiet (fail)
                go_wp2
                go_roundw
                case rel => exact ⟨1, by omega, by go_num, below_drewN hbel _, HK2⟩
                case measure => simp [intOf]; omega
            · obtain ⟨j, hj⟩ : ∃ j, k = j + 1 := ⟨k - 1, by omega⟩
              have hjl : j < l.length := by omega
              have HKs2 : leqT l[k].key l[j].key = false → Hid (∀ j, j < k + 1 → WrAt l j) := fun he => HKs (fun x hx => by
                rw [hat x hx]
                refine ⟨hz, hwo, fun j' y hj' hy => ?_⟩
                obtain rfl : j' = j := by omega
                rw [List.getElem?_eq_getElem hjl] at hy
                cases hy
                exact he)
              have HKn2 : leqT l[k].key l[j].key = true → Hid (¬ ∀ i, i < l.length → WrAt l i) := fun he => HKn (fun h => by
                have := (h _ (List.getElem?_eq_getElem hkl)).2.2 j l[j] hj (List.getElem?_eq_getElem hjl)
                rw [he] at this
                cases this)
              clear HKs HKn hat
              have hsub : (k : Int) - 1 = (j : Int) := by omega
              have hjb : (j : Int) < (l.length : Int) := by omega
              have hpos : decide (0 < k) = true := decide_eq_true (by omega)
              have hpos2 : decide ((0 : Int) < (k : Int)) = true := decide_eq_true (by omega)
              unfold leqT at HKs2 HKn2
              obtain ⟨a', ha', _, d0, _, _⟩ := (hl.below WrtAt.fast hbel) j l[j] (List.getElem?_eq_getElem hjl)
              cases ha'
              clear hwo
              generalize l[k] = x at *
              generalize l[j] = y at *
              have HJ : Hid (k = j + 1) := hj
              clear hj hk0
              rcases hor with rfl | ⟨rfl, rfl⟩
              all_goals
                rcases Bool.eq_false_or_eq_true (Op.bytesLess x.key.toList y.key.toList) with h1 | h1
                · have hno := HKn2 (by rw [h1]; rfl)
                  clear HKs2 HKn2
                  go_wp2
                  go_quiet (fail)
                  go_wp2
                  go_ret
                  rw [tru_no hno.out]
                  exact ⟨rfl, below_drewN hbel _⟩
                · rcases Bool.eq_false_or_eq_true (x.key.toList == y.key.toList) with h2 | h2
                  · have hno := HKn2 (by rw [h1, h2]; rfl)
                    clear HKs2 HKn2
                    go_wp2
                    go_quiet (fail)
                    go_wp2
                    go_ret
                    rw [tru_no hno.out]
                    exact ⟨rfl, below_drewN hbel _⟩
                  · have HK2 := HKs2 (by rw [h1, h2]; rfl)
                    clear HKs2 HKn2
                    go_wp2
                    go_quiet (fail)
                    go_wp2
                    go_roundw
                    case rel => exact ⟨k + 1, by omega, by go_num, below_drewN hbel _, HK2⟩
                    case measure => simp [intOf]; omega
    · have hyes : Hid (∀ i, i < l.length → WrAt l i) := fun i hi => HK.out i (by omega)
      clear HK
      go_wp2
      go_ret
      rw [tru_yes hyes.out]
      exact ⟨rfl, hbel⟩
end Go.Proofs.YtclliljkmmpglaaGreat
namespace Go.Proofs.YtclliljkmmpglaaGreat
open Go.RowKit Num
open scoped Classical
set_option linter.unusedVariables false
set_option maxRecDepth 100000

set_option maxRecDepth 100000 in
set_option maxHeartbeats 4000000 in
theorem refMay_no (c : Cmd) (s : Cs) (w : World) (h : ¬ (NumsOk c ∧ (c.text.size : Int) ≤ 1000 ∧ ¬ 200 < (c.keys.length : Int) ∧ ¬ 50 < (c.rngs.length : Int) ∧ ¬ 200 < (c.wrts.length : Int) ∧ ¬ 200 < (c.rows.length : Int))) :
    Calls Tryz.prog 27 #[.agg #[.int .i64 c.kind, .int .i64 c.client, .int .i64 c.seq, .int .i64 c.snap, .slice s.ko c.keys.length s.kc, .slice s.ro c.rngs.length s.rc, .slice s.wo c.wrts.length s.wc, .int .i64 c.dead, .int .i64 c.aft, .int .i64 c.held, .string c.text, .int .i64 c.code, .slice s.xo c.rows.length s.xc]] w fun e w' => e = .returned (.bool false) ∧ Below w.heap.size w w' := by
  have hbw : Below w.heap.size w (w.alloc (.cells #[.int .i64 c.kind, .int .i64 c.client, .int .i64 c.seq, .int .i64 c.snap, .slice s.ko c.keys.length s.kc, .slice s.ro c.rngs.length s.rc, .slice s.wo c.wrts.length s.wc, .int .i64 c.dead, .int .i64 c.aft, .int .i64 c.held, .string c.text, .int .i64 c.code, .slice s.xo c.rows.length s.xc] 41)) := (Below.refl _ w).alloc (Nat.le_refl _) _
  have tseq := fun W => time_any c.seq W
  have tsnap := fun W => time_any c.snap W
  have tdead := fun W => time_any c.dead W
  have taft := fun W => time_any c.aft W
  have theld := fun W => time_any c.held W
  by_cases p0 : c.kind < 0
  · clear h
    clear tseq tsnap tdead taft theld
    go_enter Tryz.func27, Tryz.ntmps27
    go_wp2
    go_ret
    exact ⟨rfl, hbw⟩
  · by_cases p1 : 5 < c.kind
    · clear h
      clear tseq tsnap tdead taft theld
      go_enter Tryz.func27, Tryz.ntmps27
      go_wp2
      go_ret
      exact ⟨rfl, hbw⟩
    · by_cases p2 : c.client < 0
      · clear h
        clear tseq tsnap tdead taft theld
        go_enter Tryz.func27, Tryz.ntmps27
        go_wp2
        go_ret
        exact ⟨rfl, hbw⟩
      · by_cases p3 : 100 < c.client
        · clear h
          clear tseq tsnap tdead taft theld
          go_enter Tryz.func27, Tryz.ntmps27
          go_wp2
          go_ret
          exact ⟨rfl, hbw⟩
        · by_cases p4 : TimeC c.seq
          · rw [tru_yes p4] at tseq
            by_cases p5 : TimeC c.snap
            · rw [tru_yes p5] at tsnap
              by_cases p6 : TimeC c.dead
              · rw [tru_yes p6] at tdead
                by_cases p7 : TimeC c.aft
                · rw [tru_yes p7] at taft
                  by_cases p8 : TimeC c.held
                  · rw [tru_yes p8] at theld
                    by_cases p9 : 200 < (c.keys.length : Int)
                    · clear h
                      clear p4 p5 p6 p7 p8
                      go_enter Tryz.func27, Tryz.ntmps27
                      go_wp2_with (first
      | (go_at_call 54; refine (tseq _).mono ?_; rintro e wn ⟨rfl, hq⟩; have hq' := hq.symm; clear hq; subst hq'; clear tseq)
      | (go_at_call 54; refine (tsnap _).mono ?_; rintro e wn ⟨rfl, hq⟩; have hq' := hq.symm; clear hq; subst hq'; clear tsnap)
      | (go_at_call 54; refine (tdead _).mono ?_; rintro e wn ⟨rfl, hq⟩; have hq' := hq.symm; clear hq; subst hq'; clear tdead)
      | (go_at_call 54; refine (taft _).mono ?_; rintro e wn ⟨rfl, hq⟩; have hq' := hq.symm; clear hq; subst hq'; clear taft)
      | (go_at_call 54; refine (theld _).mono ?_; rintro e wn ⟨rfl, hq⟩; have hq' := hq.symm; clear hq; subst hq'; clear theld))
                      go_ret
                      exact ⟨rfl, hbw⟩
                    · by_cases p10 : 50 < (c.rngs.length : Int)
                      · clear h
                        clear p4 p5 p6 p7 p8
                        go_enter Tryz.func27, Tryz.ntmps27
                        go_wp2_with (first
      | (go_at_call 54; refine (tseq _).mono ?_; rintro e wn ⟨rfl, hq⟩; have hq' := hq.symm; clear hq; subst hq'; clear tseq)
      | (go_at_call 54; refine (tsnap _).mono ?_; rintro e wn ⟨rfl, hq⟩; have hq' := hq.symm; clear hq; subst hq'; clear tsnap)
      | (go_at_call 54; refine (tdead _).mono ?_; rintro e wn ⟨rfl, hq⟩; have hq' := hq.symm; clear hq; subst hq'; clear tdead)
      | (go_at_call 54; refine (taft _).mono ?_; rintro e wn ⟨rfl, hq⟩; have hq' := hq.symm; clear hq; subst hq'; clear taft)
      | (go_at_call 54; refine (theld _).mono ?_; rintro e wn ⟨rfl, hq⟩; have hq' := hq.symm; clear hq; subst hq'; clear theld))
                        go_ret
                        exact ⟨rfl, hbw⟩
                      · by_cases p11 : 200 < (c.wrts.length : Int)
                        · clear h
                          clear p4 p5 p6 p7 p8
                          go_enter Tryz.func27, Tryz.ntmps27
                          go_wp2_with (first
      | (go_at_call 54; refine (tseq _).mono ?_; rintro e wn ⟨rfl, hq⟩; have hq' := hq.symm; clear hq; subst hq'; clear tseq)
      | (go_at_call 54; refine (tsnap _).mono ?_; rintro e wn ⟨rfl, hq⟩; have hq' := hq.symm; clear hq; subst hq'; clear tsnap)
      | (go_at_call 54; refine (tdead _).mono ?_; rintro e wn ⟨rfl, hq⟩; have hq' := hq.symm; clear hq; subst hq'; clear tdead)
      | (go_at_call 54; refine (taft _).mono ?_; rintro e wn ⟨rfl, hq⟩; have hq' := hq.symm; clear hq; subst hq'; clear taft)
      | (go_at_call 54; refine (theld _).mono ?_; rintro e wn ⟨rfl, hq⟩; have hq' := hq.symm; clear hq; subst hq'; clear theld))
                          go_ret
                          exact ⟨rfl, hbw⟩
                        · by_cases p12 : 1000 < (c.text.size : Int)
                          · clear h
                            clear p4 p5 p6 p7 p8
                            go_enter Tryz.func27, Tryz.ntmps27
                            go_wp2_with (first
      | (go_at_call 54; refine (tseq _).mono ?_; rintro e wn ⟨rfl, hq⟩; have hq' := hq.symm; clear hq; subst hq'; clear tseq)
      | (go_at_call 54; refine (tsnap _).mono ?_; rintro e wn ⟨rfl, hq⟩; have hq' := hq.symm; clear hq; subst hq'; clear tsnap)
      | (go_at_call 54; refine (tdead _).mono ?_; rintro e wn ⟨rfl, hq⟩; have hq' := hq.symm; clear hq; subst hq'; clear tdead)
      | (go_at_call 54; refine (taft _).mono ?_; rintro e wn ⟨rfl, hq⟩; have hq' := hq.symm; clear hq; subst hq'; clear taft)
      | (go_at_call 54; refine (theld _).mono ?_; rintro e wn ⟨rfl, hq⟩; have hq' := hq.symm; clear hq; subst hq'; clear theld))
                            go_ret
                            exact ⟨rfl, hbw⟩
                          · by_cases p13 : c.code < 0
                            · clear h
                              clear p4 p5 p6 p7 p8
                              go_enter Tryz.func27, Tryz.ntmps27
                              go_wp2_with (first
      | (go_at_call 54; refine (tseq _).mono ?_; rintro e wn ⟨rfl, hq⟩; have hq' := hq.symm; clear hq; subst hq'; clear tseq)
      | (go_at_call 54; refine (tsnap _).mono ?_; rintro e wn ⟨rfl, hq⟩; have hq' := hq.symm; clear hq; subst hq'; clear tsnap)
      | (go_at_call 54; refine (tdead _).mono ?_; rintro e wn ⟨rfl, hq⟩; have hq' := hq.symm; clear hq; subst hq'; clear tdead)
      | (go_at_call 54; refine (taft _).mono ?_; rintro e wn ⟨rfl, hq⟩; have hq' := hq.symm; clear hq; subst hq'; clear taft)
      | (go_at_call 54; refine (theld _).mono ?_; rintro e wn ⟨rfl, hq⟩; have hq' := hq.symm; clear hq; subst hq'; clear theld))
                              go_ret
                              exact ⟨rfl, hbw⟩
                            · by_cases p14 : 21 < c.code
                              · clear h
                                clear p4 p5 p6 p7 p8
                                go_enter Tryz.func27, Tryz.ntmps27
                                go_wp2_with (first
      | (go_at_call 54; refine (tseq _).mono ?_; rintro e wn ⟨rfl, hq⟩; have hq' := hq.symm; clear hq; subst hq'; clear tseq)
      | (go_at_call 54; refine (tsnap _).mono ?_; rintro e wn ⟨rfl, hq⟩; have hq' := hq.symm; clear hq; subst hq'; clear tsnap)
      | (go_at_call 54; refine (tdead _).mono ?_; rintro e wn ⟨rfl, hq⟩; have hq' := hq.symm; clear hq; subst hq'; clear tdead)
      | (go_at_call 54; refine (taft _).mono ?_; rintro e wn ⟨rfl, hq⟩; have hq' := hq.symm; clear hq; subst hq'; clear taft)
      | (go_at_call 54; refine (theld _).mono ?_; rintro e wn ⟨rfl, hq⟩; have hq' := hq.symm; clear hq; subst hq'; clear theld))
                                go_ret
                                exact ⟨rfl, hbw⟩
                              · by_cases p15 : 200 < (c.rows.length : Int)
                                · clear h
                                  clear p4 p5 p6 p7 p8
                                  go_enter Tryz.func27, Tryz.ntmps27
                                  go_wp2_with (first
      | (go_at_call 54; refine (tseq _).mono ?_; rintro e wn ⟨rfl, hq⟩; have hq' := hq.symm; clear hq; subst hq'; clear tseq)
      | (go_at_call 54; refine (tsnap _).mono ?_; rintro e wn ⟨rfl, hq⟩; have hq' := hq.symm; clear hq; subst hq'; clear tsnap)
      | (go_at_call 54; refine (tdead _).mono ?_; rintro e wn ⟨rfl, hq⟩; have hq' := hq.symm; clear hq; subst hq'; clear tdead)
      | (go_at_call 54; refine (taft _).mono ?_; rintro e wn ⟨rfl, hq⟩; have hq' := hq.symm; clear hq; subst hq'; clear taft)
      | (go_at_call 54; refine (theld _).mono ?_; rintro e wn ⟨rfl, hq⟩; have hq' := hq.symm; clear hq; subst hq'; clear theld))
                                  go_ret
                                  exact ⟨rfl, hbw⟩
                                · exact absurd ⟨⟨p4, p5, p6, p7, p8, by omega, by omega, by omega⟩, by omega, p9, p10, p11, p15⟩ h
                  · rw [tru_no p8] at theld
                    clear h
                    clear p4 p5 p6 p7 p8
                    go_enter Tryz.func27, Tryz.ntmps27
                    go_wp2_with (first
      | (go_at_call 54; refine (tseq _).mono ?_; rintro e wn ⟨rfl, hq⟩; have hq' := hq.symm; clear hq; subst hq'; clear tseq)
      | (go_at_call 54; refine (tsnap _).mono ?_; rintro e wn ⟨rfl, hq⟩; have hq' := hq.symm; clear hq; subst hq'; clear tsnap)
      | (go_at_call 54; refine (tdead _).mono ?_; rintro e wn ⟨rfl, hq⟩; have hq' := hq.symm; clear hq; subst hq'; clear tdead)
      | (go_at_call 54; refine (taft _).mono ?_; rintro e wn ⟨rfl, hq⟩; have hq' := hq.symm; clear hq; subst hq'; clear taft)
      | (go_at_call 54; refine (theld _).mono ?_; rintro e wn ⟨rfl, hq⟩; have hq' := hq.symm; clear hq; subst hq'; clear theld))
                    go_ret
                    exact ⟨rfl, hbw⟩
                · rw [tru_no p7] at taft
                  clear h
                  clear theld
                  clear p4 p5 p6 p7
                  go_enter Tryz.func27, Tryz.ntmps27
                  go_wp2_with (first
      | (go_at_call 54; refine (tseq _).mono ?_; rintro e wn ⟨rfl, hq⟩; have hq' := hq.symm; clear hq; subst hq'; clear tseq)
      | (go_at_call 54; refine (tsnap _).mono ?_; rintro e wn ⟨rfl, hq⟩; have hq' := hq.symm; clear hq; subst hq'; clear tsnap)
      | (go_at_call 54; refine (tdead _).mono ?_; rintro e wn ⟨rfl, hq⟩; have hq' := hq.symm; clear hq; subst hq'; clear tdead)
      | (go_at_call 54; refine (taft _).mono ?_; rintro e wn ⟨rfl, hq⟩; have hq' := hq.symm; clear hq; subst hq'; clear taft))
                  go_ret
                  exact ⟨rfl, hbw⟩
              · rw [tru_no p6] at tdead
                clear h
                clear taft theld
                clear p4 p5 p6
                go_enter Tryz.func27, Tryz.ntmps27
                go_wp2_with (first
      | (go_at_call 54; refine (tseq _).mono ?_; rintro e wn ⟨rfl, hq⟩; have hq' := hq.symm; clear hq; subst hq'; clear tseq)
      | (go_at_call 54; refine (tsnap _).mono ?_; rintro e wn ⟨rfl, hq⟩; have hq' := hq.symm; clear hq; subst hq'; clear tsnap)
      | (go_at_call 54; refine (tdead _).mono ?_; rintro e wn ⟨rfl, hq⟩; have hq' := hq.symm; clear hq; subst hq'; clear tdead))
                go_ret
                exact ⟨rfl, hbw⟩
            · rw [tru_no p5] at tsnap
              clear h
              clear tdead taft theld
              clear p4 p5
              go_enter Tryz.func27, Tryz.ntmps27
              go_wp2_with (first
      | (go_at_call 54; refine (tseq _).mono ?_; rintro e wn ⟨rfl, hq⟩; have hq' := hq.symm; clear hq; subst hq'; clear tseq)
      | (go_at_call 54; refine (tsnap _).mono ?_; rintro e wn ⟨rfl, hq⟩; have hq' := hq.symm; clear hq; subst hq'; clear tsnap))
              go_ret
              exact ⟨rfl, hbw⟩
          · rw [tru_no p4] at tseq
            clear h
            clear tsnap tdead taft theld
            clear p4
            go_enter Tryz.func27, Tryz.ntmps27
            go_wp2_with (first
      | (go_at_call 54; refine (tseq _).mono ?_; rintro e wn ⟨rfl, hq⟩; have hq' := hq.symm; clear hq; subst hq'; clear tseq))
            go_ret
            exact ⟨rfl, hbw⟩
end Go.Proofs.YtclliljkmmpglaaGreat
namespace Go.Proofs.YtclliljkmmpglaaGreat
open Go.RowKit Num
open scoped Classical
set_option linter.unusedVariables false
set_option maxRecDepth 100000

set_option maxRecDepth 100000 in
set_option maxHeartbeats 4000000 in
theorem refMay_cmd (c : Cmd) (hin : CmdIn c) (s : Cs) (w : World) (hl : LiesC w w.heap.size s c) :
    Calls Tryz.prog 27 #[.agg #[.int .i64 c.kind, .int .i64 c.client, .int .i64 c.seq, .int .i64 c.snap, .slice s.ko c.keys.length s.kc, .slice s.ro c.rngs.length s.rc, .slice s.wo c.wrts.length s.wc, .int .i64 c.dead, .int .i64 c.aft, .int .i64 c.held, .string c.text, .int .i64 c.code, .slice s.xo c.rows.length s.xc]] w fun e w' => e = .returned (.bool (tru (CmdOk c))) ∧ Below w.heap.size w w' := by
  by_cases h : NumsOk c ∧ (c.text.size : Int) ≤ 1000 ∧ ¬ 200 < (c.keys.length : Int) ∧ ¬ 50 < (c.rngs.length : Int) ∧ ¬ 200 < (c.wrts.length : Int) ∧ ¬ 200 < (c.rows.length : Int)
  · obtain ⟨hn, ht, z1, z2, z3, z4⟩ := h
    have hbx := heap_new w (.cells #[.int .i64 c.kind, .int .i64 c.client, .int .i64 c.seq, .int .i64 c.snap, .slice s.ko c.keys.length s.kc, .slice s.ro c.rngs.length s.rc, .slice s.wo c.wrts.length s.wc, .int .i64 c.dead, .int .i64 c.aft, .int .i64 c.held, .string c.text, .int .i64 c.code, .slice s.xo c.rows.length s.xc] 41)
    have hla := liesC_alloc hl (.cells #[.int .i64 c.kind, .int .i64 c.client, .int .i64 c.seq, .int .i64 c.snap, .slice s.ko c.keys.length s.kc, .slice s.ro c.rngs.length s.rc, .slice s.wo c.wrts.length s.wc, .int .i64 c.dead, .int .i64 c.aft, .int .i64 c.held, .string c.text, .int .i64 c.code, .slice s.xo c.rows.length s.xc] 41)
    have hbw : Below w.heap.size w (w.alloc (.cells #[.int .i64 c.kind, .int .i64 c.client, .int .i64 c.seq, .int .i64 c.snap, .slice s.ko c.keys.length s.kc, .slice s.ro c.rngs.length s.rc, .slice s.wo c.wrts.length s.wc, .int .i64 c.dead, .int .i64 c.aft, .int .i64 c.held, .string c.text, .int .i64 c.code, .slice s.xo c.rows.length s.xc] 41)) := (Below.refl _ w).alloc (Nat.le_refl _) _
    have HC : Hid ((∀ x ∈ c.rngs, RngOk x) → (∀ x ∈ c.rows, RowOk' x) → RisesT c.keys → (∀ i, i < c.wrts.length → WrAt c.wrts i) → CmdOk c) := fun h1 h2 h3 h4 => by
      obtain ⟨a, b⟩ := (wrAt_iff c.wrts).1 h4
      exact ⟨hn, ht, ⟨z1, h3⟩, ⟨z2, h1⟩, ⟨z3, a, by rw [List.length_map]; exact z3, b⟩, ⟨z4, h2⟩⟩
    have tseq := fun W => time_any c.seq W
    rw [tru_yes hn.seq] at tseq
    have tsnap := fun W => time_any c.snap W
    rw [tru_yes hn.snap] at tsnap
    have tdead := fun W => time_any c.dead W
    rw [tru_yes hn.dead] at tdead
    have taft := fun W => time_any c.aft W
    rw [tru_yes hn.aft] at taft
    have theld := fun W => time_any c.held W
    rw [tru_yes hn.held] at theld
    have n1 : ¬ c.kind < 0 := by have := hn.kind; omega
    have n2 : ¬ 5 < c.kind := by have := hn.kind; omega
    have n3 : ¬ c.client < 0 := by have := hn.client; omega
    have n4 : ¬ 100 < c.client := by have := hn.client; omega
    have n5 : ¬ c.code < 0 := by have := hn.code; omega
    have n6 : ¬ 21 < c.code := by have := hn.code; omega
    have n7 : ¬ 1000 < (c.text.size : Int) := by omega
    have hk200 : c.keys.length ≤ 1000 := by omega
    have hw200 : c.wrts.length ≤ 1000 := by omega
    have hr50 : c.rngs.length ≤ 1000 := by omega
    have hx200 : c.rows.length ≤ 1000 := by omega
    clear hn ht
    go_enter Tryz.func27, Tryz.ntmps27
    go_wp2_with (first
      | (go_at_call 54; refine (tseq _).mono ?_; rintro e wn ⟨rfl, hq⟩; have hq' := hq.symm; clear hq; subst hq'; clear tseq)
      | (go_at_call 54; refine (tsnap _).mono ?_; rintro e wn ⟨rfl, hq⟩; have hq' := hq.symm; clear hq; subst hq'; clear tsnap)
      | (go_at_call 54; refine (tdead _).mono ?_; rintro e wn ⟨rfl, hq⟩; have hq' := hq.symm; clear hq; subst hq'; clear tdead)
      | (go_at_call 54; refine (taft _).mono ?_; rintro e wn ⟨rfl, hq⟩; have hq' := hq.symm; clear hq; subst hq'; clear taft)
      | (go_at_call 54; refine (theld _).mono ?_; rintro e wn ⟨rfl, hq⟩; have hq' := hq.symm; clear hq; subst hq'; clear theld))
    clear n1 n2 n3 n4 n5 n6 n7
    generalize hW : w.alloc (.cells #[.int .i64 c.kind, .int .i64 c.client, .int .i64 c.seq, .int .i64 c.snap, .slice s.ko c.keys.length s.kc, .slice s.ro c.rngs.length s.rc, .slice s.wo c.wrts.length s.wc, .int .i64 c.dead, .int .i64 c.aft, .int .i64 c.held, .string c.text, .int .i64 c.code, .slice s.xo c.rows.length s.xc] 41) = W at *
    go_loopw [3] (fun i wr => ∃ k : Nat, k ≤ c.rngs.length ∧ i = .int .i64 (k : Int) ∧ Below W.heap.size W wr ∧ Hid (∀ j (hj : j < c.rngs.length), j < k → RngOk c.rngs[j])) (fun i _ => c.rngs.length - (intOf i).toNat)
    case atStart => exact ⟨0, by omega, rfl, Below.refl _ _, fun _ _ h => absurd h (Nat.not_lt_zero _)⟩
    case round =>
      obtain ⟨k, hk, rfl, hbr, HK⟩ := hrel
      have b1 := below_box hbr hbx
      have d5 := box_cell b1 5 _ rfl
      have hl1 := liesC_next hla hbr
      have hB := below_next hbw (Nat.le_refl _) hbr
      by_cases hkl : k < c.rngs.length
      · have HKs : RngOk c.rngs[k] → Hid (∀ j (hj : j < c.rngs.length), j < k + 1 → RngOk c.rngs[j]) := by
          intro hx j hj hjk
          by_cases h : j = k
          · subst h
            exact hx
          · exact HK.out j hj (by omega)
        have HKn : ¬ RngOk c.rngs[k] → Hid (¬ CmdOk c) := fun hx h => hx (h.rngs.2 _ (List.getElem_mem hkl))
        clear HK HC
        obtain ⟨a, ha, hblk, c0, c1⟩ := hl1.rngs k c.rngs[k] (List.getElem?_eq_getElem hkl)
        rw [ha] at d5
        clear ha
        generalize c.rngs[k] = y at *
        by_cases p1 : 1000 < (y.lo.size : Int)
        · have hno := HKn (fun h => h.1 p1)
          clear HKs HKn
          go_wp2
          go_ret
          rw [tru_no hno.out]
          exact ⟨rfl, hB⟩
        · by_cases p2 : 1000 < (y.hi.size : Int)
          · have hno := HKn (fun h => h.2 p2)
            clear HKs HKn
            go_wp2
            go_ret
            rw [tru_no hno.out]
            exact ⟨rfl, hB⟩
          · have HK2 := HKs ⟨p1, p2⟩
            clear HKs HKn
            go_wp2
            go_roundw
            case rel => exact ⟨k + 1, by omega, by go_num, hbr, HK2⟩
            case measure => simp [intOf]; omega
      · have HC2 : Hid ((∀ x ∈ c.rows, RowOk' x) → RisesT c.keys → (∀ i, i < c.wrts.length → WrAt c.wrts i) → CmdOk c) := HC.out (fun x hx => by
          obtain ⟨j, hj, rfl⟩ := List.getElem_of_mem hx
          exact HK.out j hj (by omega))
        clear HK HC
        rename World => W1
        go_wp2
        go_loopw [4] (fun i wr => ∃ k : Nat, k ≤ c.rows.length ∧ i = .int .i64 (k : Int) ∧ Below W1.heap.size W1 wr ∧ Hid (∀ j (hj : j < c.rows.length), j < k → RowOk' c.rows[j])) (fun i _ => c.rows.length - (intOf i).toNat)
        case atStart => exact ⟨0, by omega, rfl, Below.refl _ _, fun _ _ h => absurd h (Nat.not_lt_zero _)⟩
        case round =>
          obtain ⟨k, hk, rfl, hbr2, HK⟩ := hrel
          have b2 := below_box hbr2 b1
          have d12 := box_cell b2 12 _ rfl
          have hl2 := liesC_next hl1 hbr2
          have hB2 := below_next hB (Nat.le_refl _) hbr2
          by_cases hkl : k < c.rows.length
          · have HKs : RowOk' c.rows[k] → Hid (∀ j (hj : j < c.rows.length), j < k + 1 → RowOk' c.rows[j]) := by
              intro hx j hj hjk
              by_cases h : j = k
              · subst h
                exact hx
              · exact HK.out j hj (by omega)
            have HKn : ¬ RowOk' c.rows[k] → Hid (¬ CmdOk c) := fun hx h => hx (h.rows.2 _ (List.getElem_mem hkl))
            have hyin := hin _ (List.getElem_mem hkl)
            have i1 : (k : Int) < (c.rows.length : Int) := by omega
            clear HK HC2
            obtain ⟨a, ha, hblk, ao2, cap2, c0, hl3⟩ := hl2.rows k c.rows[k] (List.getElem?_eq_getElem hkl)
            have b2' := b2
            rw [ha] at d12 b2'
            clear ha
            rw [Nat.mul_one] at c0
            generalize c.rows[k] = y at *
            by_cases p1 : 8 < (y.length : Int)
            · have hno := HKn (fun h => h.1 p1)
              clear HKs HKn
              go_wp2
              go_ret
              rw [tru_no hno.out]
              exact ⟨rfl, hB2⟩
            · have h8 : y.length ≤ 8 := by omega
              have HKs2 : (∀ v ∈ y, v.may = true) → Hid (∀ j (hj : j < c.rows.length), j < k + 1 → RowOk' c.rows[j]) := fun h => HKs ⟨p1, h⟩
              have HKn2 : (∃ v ∈ y, v.may = false) → Hid (¬ CmdOk c) := fun ⟨v, hv, h⟩ => HKn (fun h2 => by have := h2.2 v hv; rw [h] at this; cases this)
              clear HKs HKn
              rename World => W2
              go_wp2
              go_loopw [5] (fun i wr => ∃ m : Nat, m ≤ y.length ∧ i = .int .i64 (m : Int) ∧ Below W2.heap.size W2 wr ∧ Hid (∀ j (hj : j < y.length), j < m → (y[j]).may = true)) (fun i _ => y.length - (intOf i).toNat)
              case atStart => exact ⟨0, by omega, rfl, Below.refl _ _, fun _ _ h => absurd h (Nat.not_lt_zero _)⟩
              case round =>
                obtain ⟨m, hm, rfl, hbr3, HM⟩ := hrel
                have b3 := below_box hbr3 b2'
                have e12 := box_cell b3 12 _ rfl
                have c03 := (hbr3.cell (cell_lt c0)).trans c0
                have hl4 := liesVal_next hl3 hbr3
                have hB3 := below_next hB2 (Nat.le_refl _) hbr3
                by_cases hml : m < y.length
                · have HMs : (y[m]).may = true → Hid (∀ j (hj : j < y.length), j < m + 1 → (y[j]).may = true) := by
                    intro hx j hj hjk
                    by_cases h : j = m
                    · subst h
                      exact hx
                    · exact HM.out j hj (by omega)
                  have HMn : (y[m]).may = false → Hid (¬ CmdOk c) := fun h => HKn2 ⟨_, List.getElem_mem hml, h⟩
                  have hvok := hyin _ (List.getElem_mem hml)
                  clear HM HKs2 HKn2
                  obtain ⟨a2, ha2, hblk2, e0, e1, e2, e3⟩ := hl4 m y[m] (List.getElem?_eq_getElem hml)
                  rw [ha2] at c03
                  clear ha2
                  generalize y[m] = z at *
                  have hmay : ∀ w, Calls Tryz.prog 55 #[.agg #[.int .i64 z.k, .int .i64 z.n, .int .u64 (z.f : Int), .string z.s]] w fun e w' => e = .returned (.bool z.may) ∧ Below w.heap.size w w' := refMay_any z.k z.n z.f hvok.2 z.s
                  rcases Bool.eq_false_or_eq_true z.may with p2 | p2
                  · rw [p2] at hmay
                    have HM2 := HMs p2
                    clear HMs HMn p2
                    go_wp2_with (go_at_call 55; refine (hmay _).mono ?_; rintro e w5 ⟨rfl, hb5⟩)
                    go_roundw
                    case rel => exact ⟨m + 1, by omega, by go_num, below_next hbr3 (Nat.le_refl _) hb5, HM2⟩
                    case measure => simp [intOf]; omega
                  · rw [p2] at hmay
                    have hno := HMn p2
                    clear HMs HMn p2
                    go_wp2_with (go_at_call 55; refine (hmay _).mono ?_; rintro e w5 ⟨rfl, hb5⟩)
                    go_ret
                    rw [tru_no hno.out]
                    exact ⟨rfl, below_next hB3 (Nat.le_refl _) hb5⟩
                · have HK2 := HKs2 (fun v hv => by
                    obtain ⟨j, hj, rfl⟩ := List.getElem_of_mem hv
                    exact HM.out j hj (by omega))
                  clear HM HKs2 HKn2
                  go_wp2
                  go_roundw
                  case rel => exact ⟨k + 1, by omega, by go_num, below_next hbr2 (Nat.le_refl _) (hbr3), HK2⟩
                  case measure => simp [intOf]; omega
          · have HC3 : Hid (RisesT c.keys → (∀ i, i < c.wrts.length → WrAt c.wrts i) → CmdOk c) := HC2.out (fun x hx => by
              obtain ⟨j, hj, rfl⟩ := List.getElem_of_mem hx
              exact HK.out j hj (by omega))
            clear HK HC2
            rename World => W3
            have hri := rises_any s.ko s.kc c.keys hk200 W3 hl2.keys
            have hwr : ∀ w5, Below W3.heap.size W3 w5 → _ := fun w5 hb5 => writes_any s.wo s.wc c.wrts hw200 w5 (liesW_next hl2.wrts hb5)
            have d4 := box_cell b2 4 _ rfl
            by_cases p1 : RisesT c.keys
            · rw [tru_yes (show ∀ i, i < c.keys.length → KeyAt c.keys i from p1)] at hri
              have he : Hid (tru (CmdOk c) = tru (∀ i, i < c.wrts.length → WrAt c.wrts i)) := tru_iff ⟨fun h => (wrAt_iff c.wrts).2 ⟨h.wrts.2.1, h.wrts.2.2.2⟩, fun h => HC3.out p1 h⟩
              clear HC3 p1
              generalize tru (∀ i, i < c.wrts.length → WrAt c.wrts i) = z at *
              go_wp2_with (first
                | (go_at_call 56; refine hri.mono ?_; rintro e w5 ⟨rfl, hb5⟩; have b5 := below_box hb5 b2; have f6 := box_cell b5 6 _ rfl)
                | (go_at_call 57; refine (hwr _ hb5).mono ?_; rintro e w6 ⟨rfl, hb6⟩))
              go_ret
              rw [he.out]
              exact ⟨rfl, below_next (below_next hB2 (Nat.le_refl _) hb5) (Nat.le_refl _) hb6⟩
            · rw [tru_no (show ¬ ∀ i, i < c.keys.length → KeyAt c.keys i from p1)] at hri
              have he : Hid (tru (CmdOk c) = false) := tru_no (fun h => p1 h.keys.2)
              clear HC3 p1 hwr
              go_wp2_with (first
                | (go_at_call 56; refine hri.mono ?_; rintro e w5 ⟨rfl, hb5⟩))
              go_ret
              rw [he.out]
              exact ⟨rfl, below_next hB2 (Nat.le_refl _) hb5⟩
  · have h2 := refMay_no c s w h
    rw [tru_no (show ¬ CmdOk c from fun hc => h ⟨hc.nums, hc.text, hc.keys.1, hc.rngs.1, hc.wrts.1, hc.rows.1⟩)]
    exact h2
end Go.Proofs.YtclliljkmmpglaaGreat
