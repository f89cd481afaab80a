/-
  Contracts: has a command more parts than a statement goes through?
-/
import Derived.Test.YtclliljkmmpglaaGreatCMayA
import Derived.Deep.QuietTactic
import Derived.BigRegion
import Derived.Deep.CutBlock
namespace Go.Proofs.YtclliljkmmpglaaGreat
open Go.RowKit Num
open scoped Classical
set_option linter.unusedVariables false
set_option maxRecDepth 100000

/-- How much there is. -/
def Num.totC (c : Cmd) : Nat := sums sK c.keys + sums sR c.rngs + sums sW c.wrts + sums sL c.rows
theorem sums_take {α : Type} (s : α → Nat) (l : List α) (k : Nat) : sums s (l.take k) ≤ sums s l := by
  have h : sums s (l.take k) + sums s (l.drop k) = sums s l := by
    unfold sums
    rw [← List.sum_append, ← List.map_append, List.take_append_drop]
  omega
theorem min_at (a : Nat) : ∃ E : Nat, min a 60000 = E ∧ E ≤ 60000 ∧ min (a : Int) 60000 = (E : Int) := ⟨_, rfl, by omega, by omega⟩
set_option maxRecDepth 100000 in
set_option maxHeartbeats 4000000 in
theorem great_any (c : Cmd) (s : Cs) (w : World) (hl : LiesC w w.heap.size s c) :
    Calls Tryz.prog 26 #[.agg #[.int .i64 c.kind, .int .i64 c.client, .int .i64 c.seq, .int .i64 c.snap, .slice s.ko c.keys.length s.kc, .slice s.ro c.rngs.length s.rc, .slice s.wo c.wrts.length s.wc, .int .i64 c.dead, .int .i64 c.aft, .int .i64 c.held, .string c.text, .int .i64 c.code, .slice s.xo c.rows.length s.xc]] w fun e w' => e = .returned (.bool (tru (¬ SmallC c))) ∧ Below w.heap.size w w' := by
  have hbx := heap_new w (.cells #[.int .i64 c.kind, .int .i64 c.client, .int .i64 c.seq, .int .i64 c.snap, .slice s.ko c.keys.length s.kc, .slice s.ro c.rngs.length s.rc, .slice s.wo c.wrts.length s.wc, .int .i64 c.dead, .int .i64 c.aft, .int .i64 c.held, .string c.text, .int .i64 c.code, .slice s.xo c.rows.length s.xc] 41)
  have hla := liesC_alloc hl (.cells #[.int .i64 c.kind, .int .i64 c.client, .int .i64 c.seq, .int .i64 c.snap, .slice s.ko c.keys.length s.kc, .slice s.ro c.rngs.length s.rc, .slice s.wo c.wrts.length s.wc, .int .i64 c.dead, .int .i64 c.aft, .int .i64 c.held, .string c.text, .int .i64 c.code, .slice s.xo c.rows.length s.xc] 41)
  have hbw : Below w.heap.size w (w.alloc (.cells #[.int .i64 c.kind, .int .i64 c.client, .int .i64 c.seq, .int .i64 c.snap, .slice s.ko c.keys.length s.kc, .slice s.ro c.rngs.length s.rc, .slice s.wo c.wrts.length s.wc, .int .i64 c.dead, .int .i64 c.aft, .int .i64 c.held, .string c.text, .int .i64 c.code, .slice s.xo c.rows.length s.xc] 41)) := (Below.refl _ w).alloc (Nat.le_refl _) _
  go_enter Tryz.func26, Tryz.ntmps26
  go_upto_block 0 with fail
  generalize w.alloc (.cells #[.int .i64 c.kind, .int .i64 c.client, .int .i64 c.seq, .int .i64 c.snap, .slice s.ko c.keys.length s.kc, .slice s.ro c.rngs.length s.rc, .slice s.wo c.wrts.length s.wc, .int .i64 c.dead, .int .i64 c.aft, .int .i64 c.held, .string c.text, .int .i64 c.code, .slice s.xo c.rows.length s.xc] 41) = W at *
  go_cut [3, 4] from 9 to 29 (fun n i wx => ∃ N : Nat, n = .int .i64 (N : Int) ∧ N ≤ 200000 ∧ Below W.heap.size W wx ∧ Hid ((60000 < N ∧ 60000 < totC c) ∨ N = sums sK c.keys))
  case first =>
    go_wp2_with fail
    go_loopw [3, 4] (fun n i wr => ∃ (k N : Nat), k ≤ c.keys.length ∧ k ≤ N ∧ i = .int .i64 (k : Int) ∧ n = .int .i64 (N : Int) ∧ N ≤ 200000 ∧ Below W.heap.size W wr ∧ Hid ((60000 < N ∧ 60000 < totC c) ∨ N = sums sK (c.keys.take k))) (fun _ i _ => c.keys.length - (intOf i).toNat)
    case atStart => exact ⟨0, 0, by omega, by omega, rfl, rfl, by omega, Below.refl _ _, .inr rfl⟩
    case round =>
      obtain ⟨k, N1, hk, hkN, rfl, rfl, hN, hbr1, HK⟩ := hrel
      have b1 := below_box hbr1 hbx
      have bc := box_cell b1 4 _ rfl
      by_cases hkl : k < c.keys.length
      · by_cases hgo : N1 ≤ 60000
        · have hl1 := liesC_next hla hbr1
          obtain ⟨a, ha, hblk, e0⟩ := hl1.keys k c.keys[k] (List.getElem?_eq_getElem hkl)
          rw [ha] at bc
          clear ha
          rw [Nat.mul_one] at e0
          unfold TxtAt at e0
          have hsn := sums_snoc sK c.keys k hkl
          have i1 : (k : Int) < (c.keys.length : Int) := by omega
          have i2 : (N1 : Int) ≤ 60000 := by omega
          obtain ⟨E, hE, hEb, hEi⟩ := min_at c.keys[k].size
          have hse : sK c.keys[k] = 1 + E := by unfold sK; rw [hE]
          clear hE
          generalize c.keys[k] = y at *
          have HK2 : Hid ((60000 < N1 + (1 + E) ∧ 60000 < totC c) ∨ N1 + (1 + E) = sums sK (c.keys.take (k + 1))) := .inr (by
            have h := HK.out
            rw [hsn, hse]
            omega)
          clear HK hsn hse
          go_wp2
          go_roundw
          case rel => exact ⟨k + 1, N1 + (1 + E), by omega, by omega, by go_num, by go_num, by omega, hbr1, HK2⟩
          case measure => simp [intOf]; omega
        · have HE : Hid ((60000 < N1 ∧ 60000 < totC c) ∨ N1 = sums sK c.keys) := .inl ⟨by omega, by have h := HK.out; have h2 := sums_take sK c.keys k; unfold totC at *; omega⟩
          have i2 : ¬ (N1 : Int) ≤ 60000 := by omega
          have i1 : (k : Int) < (c.keys.length : Int) := by omega
          clear HK
          go_wp2
          go_meet
          case rel => exact ⟨N1, rfl, hN, hbr1, HE⟩
      · have hke : k = c.keys.length := by omega
        have HE : Hid ((60000 < N1 ∧ 60000 < totC c) ∨ N1 = sums sK c.keys) := by
          have h := HK.out
          rw [hke, List.take_length] at h
          exact h
        have i1 : ¬ (k : Int) < (c.keys.length : Int) := by omega
        clear HK hke
        go_wp2
        go_meet
        case rel => exact ⟨N1, rfl, hN, hbr1, HE⟩
  case rest =>
    obtain ⟨N, rfl, hN, hbr, HN⟩ := hcut
    generalize wc = WC1 at *
    go_upto_block 2 with fail
    go_cut [3, 5] from 30 to 60 (fun n i wx => ∃ N : Nat, n = .int .i64 (N : Int) ∧ N ≤ 200000 ∧ Below W.heap.size W wx ∧ Hid ((60000 < N ∧ 60000 < totC c) ∨ N = sums sK c.keys + sums sR c.rngs))
    case first =>
      go_wp2_with fail
      go_loopw [3, 5] (fun n i wr => ∃ (k N : Nat), k ≤ c.rngs.length ∧ k ≤ N ∧ i = .int .i64 (k : Int) ∧ n = .int .i64 (N : Int) ∧ N ≤ 200000 ∧ Below W.heap.size W wr ∧ Hid ((60000 < N ∧ 60000 < totC c) ∨ N = sums sK c.keys + sums sR (c.rngs.take k))) (fun _ i _ => c.rngs.length - (intOf i).toNat)
      case atStart => exact ⟨0, N, by omega, by omega, rfl, rfl, by omega, hbr, by have h := HN.out; unfold Hid; rw [List.take_zero]; exact h⟩
      case round =>
        obtain ⟨k, N2, hk, hkN, rfl, rfl, hN, hbr2, HK⟩ := hrel
        have b1 := below_box hbr2 hbx
        have bc := box_cell b1 5 _ rfl
        by_cases hkl : k < c.rngs.length
        · by_cases hgo : N2 ≤ 60000
          · have hl1 := liesC_next hla hbr2
            obtain ⟨a, ha, hblk, e0, e1⟩ := hl1.rngs k c.rngs[k] (List.getElem?_eq_getElem hkl)
            rw [ha] at bc
            clear ha
            have hsn := sums_snoc sR c.rngs k hkl
            have i1 : (k : Int) < (c.rngs.length : Int) := by omega
            have i2 : (N2 : Int) ≤ 60000 := by omega
            obtain ⟨E, hE, hEb, hEi⟩ := min_at c.rngs[k].lo.size
            obtain ⟨G, hG, hGb, hGi⟩ := min_at c.rngs[k].hi.size
            have hse : sR c.rngs[k] = 1 + (E + G) := by unfold sR; rw [hE, hG]; omega
            clear hE hG
            generalize c.rngs[k] = y at *
            have HK2 : Hid ((60000 < N2 + (1 + (E + G)) ∧ 60000 < totC c) ∨ N2 + (1 + (E + G)) = sums sK c.keys + sums sR (c.rngs.take (k + 1))) := .inr (by
              have h := HK.out
              rw [hsn, hse]
              omega)
            clear HK hsn hse
            go_wp2
            go_quiet (fail)
            go_wp2
            go_roundw
            case rel => exact ⟨k + 1, N2 + (1 + (E + G)), by omega, by omega, by go_num, by go_num, by omega, below_drewN hbr2 _, HK2⟩
            case measure => simp [intOf]; omega
          · have HE : Hid ((60000 < N2 ∧ 60000 < totC c) ∨ N2 = sums sK c.keys + sums sR c.rngs) := .inl ⟨by omega, by have h := HK.out; have h2 := sums_take sR c.rngs k; unfold totC at *; omega⟩
            have i2 : ¬ (N2 : Int) ≤ 60000 := by omega
            have i1 : (k : Int) < (c.rngs.length : Int) := by omega
            clear HK
            go_wp2
            go_meet
            case rel => exact ⟨N2, rfl, hN, hbr2, HE⟩
        · have hke : k = c.rngs.length := by omega
          have HE : Hid ((60000 < N2 ∧ 60000 < totC c) ∨ N2 = sums sK c.keys + sums sR c.rngs) := by
            have h := HK.out
            rw [hke, List.take_length] at h
            exact h
          have i1 : ¬ (k : Int) < (c.rngs.length : Int) := by omega
          clear HK hke
          go_wp2
          go_meet
          case rel => exact ⟨N2, rfl, hN, hbr2, HE⟩
    case rest =>
      clear HN hbr hN N
      obtain ⟨N, rfl, hN, hbr, HN⟩ := hcut
      generalize wc = WC2 at *
      go_upto_block 4 with fail
      go_cut [3, 6] from 61 to 91 (fun n i wx => ∃ N : Nat, n = .int .i64 (N : Int) ∧ N ≤ 200000 ∧ Below W.heap.size W wx ∧ Hid ((60000 < N ∧ 60000 < totC c) ∨ N = sums sK c.keys + sums sR c.rngs + sums sW c.wrts))
      case first =>
        go_wp2_with fail
        go_loopw [3, 6] (fun n i wr => ∃ (k N : Nat), k ≤ c.wrts.length ∧ k ≤ N ∧ i = .int .i64 (k : Int) ∧ n = .int .i64 (N : Int) ∧ N ≤ 200000 ∧ Below W.heap.size W wr ∧ Hid ((60000 < N ∧ 60000 < totC c) ∨ N = sums sK c.keys + sums sR c.rngs + sums sW (c.wrts.take k))) (fun _ i _ => c.wrts.length - (intOf i).toNat)
        case atStart => exact ⟨0, N, by omega, by omega, rfl, rfl, by omega, hbr, by have h := HN.out; unfold Hid; rw [List.take_zero]; exact h⟩
        case round =>
          obtain ⟨k, N3, hk, hkN, rfl, rfl, hN, hbr3, HK⟩ := hrel
          have b1 := below_box hbr3 hbx
          have bc := box_cell b1 6 _ rfl
          by_cases hkl : k < c.wrts.length
          · by_cases hgo : N3 ≤ 60000
            · have hl1 := liesC_next hla hbr3
              obtain ⟨a, ha, hblk, e0, e1, e2⟩ := hl1.wrts k c.wrts[k] (List.getElem?_eq_getElem hkl)
              rw [ha] at bc
              clear ha
              have hsn := sums_snoc sW c.wrts k hkl
              have i1 : (k : Int) < (c.wrts.length : Int) := by omega
              have i2 : (N3 : Int) ≤ 60000 := by omega
              obtain ⟨E, hE, hEb, hEi⟩ := min_at c.wrts[k].key.size
              obtain ⟨G, hG, hGb, hGi⟩ := min_at c.wrts[k].val.size
              have hse : sW c.wrts[k] = 1 + (E + G) := by unfold sW; rw [hE, hG]; omega
              clear hE hG
              generalize c.wrts[k] = y at *
              have HK2 : Hid ((60000 < N3 + (1 + (E + G)) ∧ 60000 < totC c) ∨ N3 + (1 + (E + G)) = sums sK c.keys + sums sR c.rngs + sums sW (c.wrts.take (k + 1))) := .inr (by
                have h := HK.out
                rw [hsn, hse]
                omega)
              clear HK hsn hse
              go_wp2
              go_quiet (fail)
              go_wp2
              go_roundw
              case rel => exact ⟨k + 1, N3 + (1 + (E + G)), by omega, by omega, by go_num, by go_num, by omega, below_drewN hbr3 _, HK2⟩
              case measure => simp [intOf]; omega
            · have HE : Hid ((60000 < N3 ∧ 60000 < totC c) ∨ N3 = sums sK c.keys + sums sR c.rngs + sums sW c.wrts) := .inl ⟨by omega, by have h := HK.out; have h2 := sums_take sW c.wrts k; unfold totC at *; omega⟩
              have i2 : ¬ (N3 : Int) ≤ 60000 := by omega
              have i1 : (k : Int) < (c.wrts.length : Int) := by omega
              clear HK
              go_wp2
              go_meet
              case rel => exact ⟨N3, rfl, hN, hbr3, HE⟩
          · have hke : k = c.wrts.length := by omega
            have HE : Hid ((60000 < N3 ∧ 60000 < totC c) ∨ N3 = sums sK c.keys + sums sR c.rngs + sums sW c.wrts) := by
              have h := HK.out
              rw [hke, List.take_length] at h
              exact h
            have i1 : ¬ (k : Int) < (c.wrts.length : Int) := by omega
            clear HK hke
            go_wp2
            go_meet
            case rel => exact ⟨N3, rfl, hN, hbr3, HE⟩
      case rest =>
        clear HN hbr hN N
        obtain ⟨N, rfl, hN, hbr, HN⟩ := hcut
        generalize wc = WC3 at *
        go_upto_block 6 with fail
        go_cut [3, 7, 8] from 92 to 132 (fun n i j wx => ∃ N : Nat, n = .int .i64 (N : Int) ∧ N ≤ 200000 ∧ Below W.heap.size W wx ∧ Hid ((60000 < N ∧ 60000 < totC c) ∨ N = sums sK c.keys + sums sR c.rngs + sums sW c.wrts + sums sL c.rows))
        case first =>
          go_wp2_with fail
          go_loopw [3, 7] (fun n i wr => ∃ (k N : Nat), k ≤ c.rows.length ∧ k ≤ N ∧ i = .int .i64 (k : Int) ∧ n = .int .i64 (N : Int) ∧ N ≤ 200000 ∧ Below W.heap.size W wr ∧ Hid ((60000 < N ∧ 60000 < totC c) ∨ N = sums sK c.keys + sums sR c.rngs + sums sW c.wrts + sums sL (c.rows.take k))) (fun _ i _ => c.rows.length - (intOf i).toNat)
          case atStart => exact ⟨0, N, by omega, by omega, rfl, rfl, by omega, hbr, by have h := HN.out; unfold Hid; rw [List.take_zero]; exact h⟩
          case round =>
            obtain ⟨k, N4, hk, hkN, rfl, rfl, hN, hbr4, HK⟩ := hrel
            have b1 := below_box hbr4 hbx
            have bc := box_cell b1 12 _ rfl
            by_cases hkl : k < c.rows.length
            · by_cases hgo : N4 ≤ 60000
              · have hl1 := liesC_next hla hbr4
                obtain ⟨a, ha, hblk, ao2, cap2, e0, hl2⟩ := hl1.rows k c.rows[k] (List.getElem?_eq_getElem hkl)
                have HA0 : Hid (s.xo = some a) := ha
                rw [ha] at bc
                clear ha
                rw [Nat.mul_one] at e0
                have hsn := sums_snoc sL c.rows k hkl
                have i1 : (k : Int) < (c.rows.length : Int) := by omega
                have i2 : (N4 : Int) ≤ 60000 := by omega
                have HKs : ∀ M : Nat, ((60000 < M ∧ 60000 < totC c) ∨ M = N4 + 1 + sums sV c.rows[k]) → Hid ((60000 < M ∧ 60000 < totC c) ∨ M = sums sK c.keys + sums sR c.rngs + sums sW c.wrts + sums sL (c.rows.take (k + 1))) := by
                  intro M hM
                  rcases hM with hM | hM
                  · exact .inl hM
                  · right
                    have h := HK.out
                    rw [hsn, hM]
                    show _ = _ + (_ + (1 + sums sV c.rows[k]))
                    omega
                have HTO : Hid (N4 + 1 + sums sV c.rows[k] ≤ totC c ∨ 60000 < totC c) := by
                  have h := HK.out
                  have h2 := sums_take sL c.rows (k + 1)
                  have h3 : sums sL (c.rows.take (k + 1)) = sums sL (c.rows.take k) + (1 + sums sV c.rows[k]) := hsn
                  unfold totC at *
                  unfold Hid
                  omega
                clear HK hsn
                generalize c.rows[k] = y at *
                rename World => WR
                go_wp2
                go_loopw [3, 8] (fun n i wr => ∃ (m N : Nat), m ≤ y.length ∧ m ≤ N ∧ k + 1 ≤ N ∧ i = .int .i64 (m : Int) ∧ n = .int .i64 (N : Int) ∧ N ≤ 200000 ∧ Below WR.heap.size WR wr ∧ Hid ((60000 < N ∧ 60000 < totC c) ∨ N = N4 + 1 + sums sV (y.take m))) (fun _ i _ => y.length - (intOf i).toNat)
                case atStart => exact ⟨0, N4 + 1, by omega, by omega, by omega, rfl, by go_num, by omega, Below.refl _ _, .inr (by rw [List.take_zero]; rfl)⟩
                case round =>
                  obtain ⟨m, N5, hm, hmN, hkN5, rfl, rfl, hN5, hbr5, HM⟩ := hrel
                  have b2 := below_box hbr5 b1
                  have bc2 := box_cell b2 12 _ rfl
                  rw [HA0.out] at bc2
                  have e02 := (hbr5.cell (cell_lt e0)).trans e0
                  by_cases hml : m < y.length
                  · by_cases hgo5 : N5 ≤ 60000
                    · obtain ⟨a2, ha2, _, f0, f1, f2, f3⟩ := (liesVal_next hl2 hbr5) m y[m] (List.getElem?_eq_getElem hml)
                      rw [ha2] at e02
                      clear ha2
                      have hsn := sums_snoc sV y m hml
                      have i3 : (m : Int) < (y.length : Int) := by omega
                      have i4 : (N5 : Int) ≤ 60000 := by omega
                      obtain ⟨E, hE, hEb, hEi⟩ := min_at y[m].s.size
                      have hse : sV y[m] = 1 + E := by unfold sV; rw [hE]
                      clear hE
                      generalize y[m] = z at *
                      have HM2 : Hid ((60000 < N5 + (1 + E) ∧ 60000 < totC c) ∨ N5 + (1 + E) = N4 + 1 + sums sV (y.take (m + 1))) := .inr (by
                        have h := HM.out
                        rw [hsn, hse]
                        omega)
                      clear HM hsn hse HKs
                      go_wp2
                      go_roundw
                      case rel => exact ⟨m + 1, N5 + (1 + E), by omega, by omega, by omega, by go_num, by go_num, by omega, hbr5, HM2⟩
                      case measure => simp [intOf]; omega
                    · have HE : Hid ((60000 < N5 ∧ 60000 < totC c) ∨ N5 = N4 + 1 + sums sV y) := .inl ⟨by omega, by have h := HM.out; have h2 := sums_take sV y m; have h3 := HTO.out; omega⟩
                      have i4 : ¬ (N5 : Int) ≤ 60000 := by omega
                      have i3 : (m : Int) < (y.length : Int) := by omega
                      have HK2 := HKs N5 HE.out
                      clear HM HKs HE
                      go_wp2
                      go_roundw
                      case rel => exact ⟨k + 1, N5, by omega, by omega, by go_num, rfl, hN5, below_next hbr4 (Nat.le_refl _) hbr5, HK2⟩
                      case measure => simp [intOf]; omega
                  · have hke : m = y.length := by omega
                    have HE : Hid ((60000 < N5 ∧ 60000 < totC c) ∨ N5 = N4 + 1 + sums sV y) := by
                      have h := HM.out
                      rw [hke, List.take_length] at h
                      exact h
                    have i3 : ¬ (m : Int) < (y.length : Int) := by omega
                    have HK2 := HKs N5 HE.out
                    clear HM hke HKs HE
                    go_wp2
                    go_roundw
                    case rel => exact ⟨k + 1, N5, by omega, by omega, by go_num, rfl, hN5, below_next hbr4 (Nat.le_refl _) hbr5, HK2⟩
                    case measure => simp [intOf]; omega
              · have HE : Hid ((60000 < N4 ∧ 60000 < totC c) ∨ N4 = sums sK c.keys + sums sR c.rngs + sums sW c.wrts + sums sL c.rows) := .inl ⟨by omega, by have h := HK.out; have h2 := sums_take sL c.rows k; unfold totC at *; omega⟩
                have i2 : ¬ (N4 : Int) ≤ 60000 := by omega
                have i1 : (k : Int) < (c.rows.length : Int) := by omega
                clear HK
                go_wp2
                go_meet
                case rel => exact ⟨N4, rfl, hN, hbr4, HE⟩
            · have hke : k = c.rows.length := by omega
              have HE : Hid ((60000 < N4 ∧ 60000 < totC c) ∨ N4 = sums sK c.keys + sums sR c.rngs + sums sW c.wrts + sums sL c.rows) := by
                have h := HK.out
                rw [hke, List.take_length] at h
                exact h
              have i1 : ¬ (k : Int) < (c.rows.length : Int) := by omega
              clear HK hke
              go_wp2
              go_meet
              case rel => exact ⟨N4, rfl, hN, hbr4, HE⟩
        case rest =>
          clear HN hbr hN N
          obtain ⟨N, rfl, hN, hbr, HN⟩ := hcut
          generalize wc = WC4 at *
          have b1 := below_box hbr hbx
          have bc := box_cell b1 10 _ rfl
          have hlow := below_next hbw (Nat.le_refl _) hbr
          by_cases p1 : 60000 < (N : Int)
          · have hno : Hid (¬ SmallC c) := fun hs => by have h := HN.out; have h2 : totC c ≤ 60000 := hs.1; unfold totC at *; omega
            clear HN
            go_wp2
            go_ret
            rw [tru_yes hno.out]
            exact ⟨rfl, hlow⟩
          · by_cases p2 : 60000 < (c.text.size : Int)
            · have hno : Hid (¬ SmallC c) := fun hs => by have h2 := hs.2; omega
              clear HN
              go_wp2
              go_ret
              rw [tru_yes hno.out]
              exact ⟨rfl, hlow⟩
            · have hsm : Hid (SmallC c) := ⟨by have h := HN.out; omega, by omega⟩
              clear HN
              go_wp2
              go_ret
              rw [tru_no (fun h => h hsm.out)]
              exact ⟨rfl, hlow⟩
end Go.Proofs.YtclliljkmmpglaaGreat
