/-
  Contracts: the document's own: which commands may be (13.1).
-/
import Derived.Test.YtbhaahkjglfjmaaCRefN
namespace Go.Proofs.Ytbhaahkjglfjmaa
open Go.RowKit Num
open scoped Classical
set_option linter.unusedVariables false

set_option maxRecDepth 100000 in
set_option maxHeartbeats 4000000 in
theorem refMay_cmd (c : Cmd) (hin : CmdIn c) (s : Cs) (w : World) (hl : LiesC w w.heap.size s c) :
    Calls Try.prog 10 #[.agg #[.int .i64 c.kind, .int .i64 c.client, .int .i64 c.seq, .int .i64 c.snap, .slice s.ko c.keys.length s.kc, .slice s.ro c.rngs.length s.rc, .slice s.wo c.wrts.length s.wc, .int .i64 c.dead, .int .i64 c.aft, .int .i64 c.held, .string c.text, .int .i64 c.code, .slice s.xo c.rows.length s.xc]] w fun e w' => e = .returned (.bool (tru (CmdOk c))) ∧ Below w.heap.size w w' := by
  by_cases h : NumsOk c ∧ (c.text.size : Int) ≤ 1000 ∧ ¬ 200 < (c.keys.length : Int) ∧ ¬ 50 < (c.rngs.length : Int) ∧ ¬ 200 < (c.wrts.length : Int) ∧ ¬ 200 < (c.rows.length : Int)
  · obtain ⟨hn, ht, z1, z2, z3, z4⟩ := h
    have hbx := heap_new w (.cells #[.int .i64 c.kind, .int .i64 c.client, .int .i64 c.seq, .int .i64 c.snap, .slice s.ko c.keys.length s.kc, .slice s.ro c.rngs.length s.rc, .slice s.wo c.wrts.length s.wc, .int .i64 c.dead, .int .i64 c.aft, .int .i64 c.held, .string c.text, .int .i64 c.code, .slice s.xo c.rows.length s.xc] 27)
    have hla := liesC_alloc hl (.cells #[.int .i64 c.kind, .int .i64 c.client, .int .i64 c.seq, .int .i64 c.snap, .slice s.ko c.keys.length s.kc, .slice s.ro c.rngs.length s.rc, .slice s.wo c.wrts.length s.wc, .int .i64 c.dead, .int .i64 c.aft, .int .i64 c.held, .string c.text, .int .i64 c.code, .slice s.xo c.rows.length s.xc] 27)
    have hbw : Below w.heap.size w (w.alloc (.cells #[.int .i64 c.kind, .int .i64 c.client, .int .i64 c.seq, .int .i64 c.snap, .slice s.ko c.keys.length s.kc, .slice s.ro c.rngs.length s.rc, .slice s.wo c.wrts.length s.wc, .int .i64 c.dead, .int .i64 c.aft, .int .i64 c.held, .string c.text, .int .i64 c.code, .slice s.xo c.rows.length s.xc] 27)) := (Below.refl _ w).alloc (Nat.le_refl _) _
    have HC : Hid ((∀ x ∈ c.rngs, RngOk x) → (∀ x ∈ c.rows, RowOk' x) → Rises c.keys → (∀ i, i < c.wrts.length → WrAt c.wrts i) → CmdOk c) := fun h1 h2 h3 h4 => by
      obtain ⟨a, b⟩ := (wrAt_iff c.wrts).1 h4
      exact ⟨hn, ht, ⟨z1, h3⟩, ⟨z2, h1⟩, ⟨z3, a, by rw [List.length_map]; exact z3, b⟩, ⟨z4, h2⟩⟩
    have tseq := fun W => time_any c.seq W
    rw [tru_yes hn.seq] at tseq
    have tsnap := fun W => time_any c.snap W
    rw [tru_yes hn.snap] at tsnap
    have tdead := fun W => time_any c.dead W
    rw [tru_yes hn.dead] at tdead
    have taft := fun W => time_any c.aft W
    rw [tru_yes hn.aft] at taft
    have theld := fun W => time_any c.held W
    rw [tru_yes hn.held] at theld
    have n1 : ¬ c.kind < 0 := by have := hn.kind; omega
    have n2 : ¬ 5 < c.kind := by have := hn.kind; omega
    have n3 : ¬ c.client < 0 := by have := hn.client; omega
    have n4 : ¬ 100 < c.client := by have := hn.client; omega
    have n5 : ¬ c.code < 0 := by have := hn.code; omega
    have n6 : ¬ 21 < c.code := by have := hn.code; omega
    have n7 : ¬ 1000 < (c.text.size : Int) := by omega
    have hk200 : c.keys.length ≤ 1000 := by omega
    have hw200 : c.wrts.length ≤ 1000 := by omega
    have hr50 : c.rngs.length ≤ 1000 := by omega
    have hx200 : c.rows.length ≤ 1000 := by omega
    clear hn ht
    go_enter Try.func10, Try.ntmps10
    go_wp2_with (first
      | (go_at_call 22; refine (tseq _).mono ?_; rintro e wn ⟨rfl, hq⟩; have hq' := hq.symm; clear hq; subst hq'; clear tseq)
      | (go_at_call 22; refine (tsnap _).mono ?_; rintro e wn ⟨rfl, hq⟩; have hq' := hq.symm; clear hq; subst hq'; clear tsnap)
      | (go_at_call 22; refine (tdead _).mono ?_; rintro e wn ⟨rfl, hq⟩; have hq' := hq.symm; clear hq; subst hq'; clear tdead)
      | (go_at_call 22; refine (taft _).mono ?_; rintro e wn ⟨rfl, hq⟩; have hq' := hq.symm; clear hq; subst hq'; clear taft)
      | (go_at_call 22; refine (theld _).mono ?_; rintro e wn ⟨rfl, hq⟩; have hq' := hq.symm; clear hq; subst hq'; clear theld))
    clear n1 n2 n3 n4 n5 n6 n7
    generalize hW : w.alloc (.cells #[.int .i64 c.kind, .int .i64 c.client, .int .i64 c.seq, .int .i64 c.snap, .slice s.ko c.keys.length s.kc, .slice s.ro c.rngs.length s.rc, .slice s.wo c.wrts.length s.wc, .int .i64 c.dead, .int .i64 c.aft, .int .i64 c.held, .string c.text, .int .i64 c.code, .slice s.xo c.rows.length s.xc] 27) = W at *
    go_loopw [3] (fun i wr => ∃ k : Nat, k ≤ c.rngs.length ∧ i = .int .i64 (k : Int) ∧ Below W.heap.size W wr ∧ Hid (∀ j (hj : j < c.rngs.length), j < k → RngOk c.rngs[j])) (fun i _ => c.rngs.length - (intOf i).toNat)
    case atStart => exact ⟨0, by omega, rfl, Below.refl _ _, fun _ _ h => absurd h (Nat.not_lt_zero _)⟩
    case round =>
      obtain ⟨k, hk, rfl, hbr, HK⟩ := hrel
      have b1 := below_box hbr hbx
      have d5 := box_cell b1 5 _ rfl
      have hl1 := liesC_next hla hbr
      have hB := below_next hbw (Nat.le_refl _) hbr
      by_cases hkl : k < c.rngs.length
      · have HKs : RngOk c.rngs[k] → Hid (∀ j (hj : j < c.rngs.length), j < k + 1 → RngOk c.rngs[j]) := by
          intro hx j hj hjk
          by_cases h : j = k
          · subst h
            exact hx
          · exact HK.out j hj (by omega)
        have HKn : ¬ RngOk c.rngs[k] → Hid (¬ CmdOk c) := fun hx h => hx (h.rngs.2 _ (List.getElem_mem hkl))
        clear HK HC
        obtain ⟨a, ha, hblk, c0, c1⟩ := hl1.rngs k c.rngs[k] (List.getElem?_eq_getElem hkl)
        rw [ha] at d5
        clear ha
        generalize c.rngs[k] = y at *
        by_cases p1 : 1000 < (y.lo.size : Int)
        · have hno := HKn (fun h => h.1 p1)
          clear HKs HKn
          go_wp2
          go_ret
          rw [tru_no hno.out]
          exact ⟨rfl, hB⟩
        · by_cases p2 : 1000 < (y.hi.size : Int)
          · have hno := HKn (fun h => h.2 p2)
            clear HKs HKn
            go_wp2
            go_ret
            rw [tru_no hno.out]
            exact ⟨rfl, hB⟩
          · have HK2 := HKs ⟨p1, p2⟩
            clear HKs HKn
            go_wp2
            go_roundw
            case rel => exact ⟨k + 1, by omega, by go_num, hbr, HK2⟩
            case measure => simp [intOf]; omega
      · have HC2 : Hid ((∀ x ∈ c.rows, RowOk' x) → Rises c.keys → (∀ i, i < c.wrts.length → WrAt c.wrts i) → CmdOk c) := HC.out (fun x hx => by
          obtain ⟨j, hj, rfl⟩ := List.getElem_of_mem hx
          exact HK.out j hj (by omega))
        clear HK HC
        rename World => W1
        go_wp2
        go_loopw [4] (fun i wr => ∃ k : Nat, k ≤ c.rows.length ∧ i = .int .i64 (k : Int) ∧ Below W1.heap.size W1 wr ∧ Hid (∀ j (hj : j < c.rows.length), j < k → RowOk' c.rows[j])) (fun i _ => c.rows.length - (intOf i).toNat)
        case atStart => exact ⟨0, by omega, rfl, Below.refl _ _, fun _ _ h => absurd h (Nat.not_lt_zero _)⟩
        case round =>
          obtain ⟨k, hk, rfl, hbr2, HK⟩ := hrel
          have b2 := below_box hbr2 b1
          have d12 := box_cell b2 12 _ rfl
          have hl2 := liesC_next hl1 hbr2
          have hB2 := below_next hB (Nat.le_refl _) hbr2
          by_cases hkl : k < c.rows.length
          · have HKs : RowOk' c.rows[k] → Hid (∀ j (hj : j < c.rows.length), j < k + 1 → RowOk' c.rows[j]) := by
              intro hx j hj hjk
              by_cases h : j = k
              · subst h
                exact hx
              · exact HK.out j hj (by omega)
            have HKn : ¬ RowOk' c.rows[k] → Hid (¬ CmdOk c) := fun hx h => hx (h.rows.2 _ (List.getElem_mem hkl))
            have hyin := hin _ (List.getElem_mem hkl)
            have i1 : (k : Int) < (c.rows.length : Int) := by omega
            clear HK HC2
            obtain ⟨a, ha, hblk, ao2, cap2, c0, hl3⟩ := hl2.rows k c.rows[k] (List.getElem?_eq_getElem hkl)
            have b2' := b2
            rw [ha] at d12 b2'
            clear ha
            rw [Nat.mul_one] at c0
            generalize c.rows[k] = y at *
            by_cases p1 : 8 < (y.length : Int)
            · have hno := HKn (fun h => h.1 p1)
              clear HKs HKn
              go_wp2
              go_ret
              rw [tru_no hno.out]
              exact ⟨rfl, hB2⟩
            · have h8 : y.length ≤ 8 := by omega
              have HKs2 : (∀ v ∈ y, v.may = true) → Hid (∀ j (hj : j < c.rows.length), j < k + 1 → RowOk' c.rows[j]) := fun h => HKs ⟨p1, h⟩
              have HKn2 : (∃ v ∈ y, v.may = false) → Hid (¬ CmdOk c) := fun ⟨v, hv, h⟩ => HKn (fun h2 => by have := h2.2 v hv; rw [h] at this; cases this)
              clear HKs HKn
              rename World => W2
              go_wp2
              go_loopw [5] (fun i wr => ∃ m : Nat, m ≤ y.length ∧ i = .int .i64 (m : Int) ∧ Below W2.heap.size W2 wr ∧ Hid (∀ j (hj : j < y.length), j < m → (y[j]).may = true)) (fun i _ => y.length - (intOf i).toNat)
              case atStart => exact ⟨0, by omega, rfl, Below.refl _ _, fun _ _ h => absurd h (Nat.not_lt_zero _)⟩
              case round =>
                obtain ⟨m, hm, rfl, hbr3, HM⟩ := hrel
                have b3 := below_box hbr3 b2'
                have e12 := box_cell b3 12 _ rfl
                have c03 := (hbr3.cell (cell_lt c0)).trans c0
                have hl4 := liesV_next hl3 hbr3
                have hB3 := below_next hB2 (Nat.le_refl _) hbr3
                by_cases hml : m < y.length
                · have HMs : (y[m]).may = true → Hid (∀ j (hj : j < y.length), j < m + 1 → (y[j]).may = true) := by
                    intro hx j hj hjk
                    by_cases h : j = m
                    · subst h
                      exact hx
                    · exact HM.out j hj (by omega)
                  have HMn : (y[m]).may = false → Hid (¬ CmdOk c) := fun h => HKn2 ⟨_, List.getElem_mem hml, h⟩
                  have hvok := hyin _ (List.getElem_mem hml)
                  clear HM HKs2 HKn2
                  obtain ⟨a2, ha2, hblk2, e0, e1, e2, e3⟩ := hl4 m y[m] (List.getElem?_eq_getElem hml)
                  rw [ha2] at c03
                  clear ha2
                  generalize y[m] = z at *
                  have hmay : ∀ w, Calls Try.prog 23 #[.agg #[.int .i64 z.k, .int .i64 z.n, .int .u64 (z.f : Int), .string z.s]] w fun e w' => e = .returned (.bool z.may) ∧ Below w.heap.size w w' := refMay_any z.k z.n z.f hvok.2 z.s
                  rcases Bool.eq_false_or_eq_true z.may with p2 | p2
                  · rw [p2] at hmay
                    have HM2 := HMs p2
                    clear HMs HMn p2
                    go_wp2_with (go_at_call 23; refine (hmay _).mono ?_; rintro e w5 ⟨rfl, hb5⟩)
                    go_roundw
                    case rel => exact ⟨m + 1, by omega, by go_num, below_next hbr3 (Nat.le_refl _) hb5, HM2⟩
                    case measure => simp [intOf]; omega
                  · rw [p2] at hmay
                    have hno := HMn p2
                    clear HMs HMn p2
                    go_wp2_with (go_at_call 23; refine (hmay _).mono ?_; rintro e w5 ⟨rfl, hb5⟩)
                    go_ret
                    rw [tru_no hno.out]
                    exact ⟨rfl, below_next hB3 (Nat.le_refl _) hb5⟩
                · have HK2 := HKs2 (fun v hv => by
                    obtain ⟨j, hj, rfl⟩ := List.getElem_of_mem hv
                    exact HM.out j hj (by omega))
                  clear HM HKs2 HKn2
                  go_wp2
                  go_roundw
                  case rel => exact ⟨k + 1, by omega, by go_num, below_next hbr2 (Nat.le_refl _) (hbr3), HK2⟩
                  case measure => simp [intOf]; omega
          · have HC3 : Hid (Rises c.keys → (∀ i, i < c.wrts.length → WrAt c.wrts i) → CmdOk c) := HC2.out (fun x hx => by
              obtain ⟨j, hj, rfl⟩ := List.getElem_of_mem hx
              exact HK.out j hj (by omega))
            clear HK HC2
            rename World => W3
            have hri := rises_any s.ko s.kc c.keys hk200 W3 hl2.keys
            have hwr : ∀ w5, Below W3.heap.size W3 w5 → _ := fun w5 hb5 => writes_any s.wo s.wc c.wrts hw200 w5 (liesW_next hl2.wrts hb5)
            have d4 := box_cell b2 4 _ rfl
            by_cases p1 : Rises c.keys
            · rw [tru_yes (show ∀ i, i < c.keys.length → KeyAt c.keys i from p1)] at hri
              have he : Hid (tru (CmdOk c) = tru (∀ i, i < c.wrts.length → WrAt c.wrts i)) := tru_iff ⟨fun h => (wrAt_iff c.wrts).2 ⟨h.wrts.2.1, h.wrts.2.2.2⟩, fun h => HC3.out p1 h⟩
              clear HC3 p1
              generalize tru (∀ i, i < c.wrts.length → WrAt c.wrts i) = z at *
              go_wp2_with (first
                | (go_at_call 24; refine hri.mono ?_; rintro e w5 ⟨rfl, hb5⟩; have b5 := below_box hb5 b2; have f6 := box_cell b5 6 _ rfl)
                | (go_at_call 25; refine (hwr _ hb5).mono ?_; rintro e w6 ⟨rfl, hb6⟩))
              go_ret
              rw [he.out]
              exact ⟨rfl, below_next (below_next hB2 (Nat.le_refl _) hb5) (Nat.le_refl _) hb6⟩
            · rw [tru_no (show ¬ ∀ i, i < c.keys.length → KeyAt c.keys i from p1)] at hri
              have he : Hid (tru (CmdOk c) = false) := tru_no (fun h => p1 h.keys.2)
              clear HC3 p1 hwr
              go_wp2_with (first
                | (go_at_call 24; refine hri.mono ?_; rintro e w5 ⟨rfl, hb5⟩))
              go_ret
              rw [he.out]
              exact ⟨rfl, below_next hB2 (Nat.le_refl _) hb5⟩
  · have h2 := refMay_no c s w h
    rw [tru_no (show ¬ CmdOk c from fun hc => h ⟨hc.nums, hc.text, hc.keys.1, hc.rngs.1, hc.wrts.1, hc.rows.1⟩)]
    exact h2
end Go.Proofs.Ytbhaahkjglfjmaa
