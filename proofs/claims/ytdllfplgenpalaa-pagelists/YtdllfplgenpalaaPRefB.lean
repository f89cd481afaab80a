/-
  Contracts: the document's own: what stands at a key, and between two keys (7.4).
-/
import Derived.Test.YtdllfplgenpalaaPRefA
namespace Go.Proofs.Ytdllfplgenpalaa
open Go.RowKit Num
open scoped Classical
set_option linter.unusedVariables false

theorem refRight_yes (ps : Pages) (ao : Option Addr) (cap : Nat) (h900 : ps.length ≤ 900) (hp4 : ∀ p ∈ ps, p.length ≤ 1000) (hr : RightP ps) (w : World) (hl : LiesPg w w.heap.size ao ps) : Calls Try.prog 10 #[.slice ao ps.length cap] w (fun e w' => e = .returned (.bool true) ∧ w' = w) := by
  have h := refRight_any ps ao cap (by omega) hp4 w hl
  rw [tru_yes hr] at h
  exact h
theorem refRight_no (ps : Pages) (ao : Option Addr) (cap : Nat) (h900 : ps.length ≤ 900) (hp4 : ∀ p ∈ ps, p.length ≤ 1000) (hr : ¬ RightP ps) (w : World) (hl : LiesPg w w.heap.size ao ps) : Calls Try.prog 10 #[.slice ao ps.length cap] w (fun e w' => e = .returned (.bool false) ∧ w' = w) := by
  have h := refRight_any ps ao cap (by omega) hp4 w hl
  rw [tru_no hr] at h
  exact h
set_option maxRecDepth 100000 in
set_option maxHeartbeats 2000000 in
theorem refGet_any (ps : Pages) (ao : Option Addr) (cap : Nat) (k : ByteArray) (h900 : ps.length ≤ 900) (hp4 : ∀ p ∈ ps, p.length ≤ 1000) (w : World) (hl : LiesPg w w.heap.size ao ps) :
    Calls Try.prog 19 #[.slice ao ps.length cap, .string k] w fun e w' => e = .returned (.tuple #[.string (lookS (lookA ps k)), .bool (lookB (lookA ps k))]) ∧ w' = w := by
  by_cases hr : RightP ps
  · rw [lookA_yes hr]
    have hright := refRight_yes ps ao cap h900 hp4 hr w hl
    have HR : Hid (RightP ps) := hr
    clear hr
    go_enter Try.func19, Try.ntmps19
    go_wp2
    go_loop [6] (fun i => ∃ c : Nat, c ≤ ps.length ∧ i = .int .i64 (c : Int) ∧ Hid (∀ x ∈ (ps.take c).flatten, x.key ≠ k)) (fun i => ps.length - (intOf i).toNat)
    case atStart => exact ⟨0, by omega, rfl, by intro x hx; simp at hx⟩
    case round =>
      obtain ⟨c, hc, rfl, HK⟩ := hrel
      by_cases hcl : c < ps.length
      · have HP : Hid (ps[c]? = some ps[c]) := List.getElem?_eq_getElem hcl
        have hlen := HR.out.1 ps[c] (List.getElem_mem hcl)
        obtain ⟨a, rfl, hblk, bo, cc, c0, hl2, hcap⟩ := hl c ps[c] HP.out
        rw [Nat.mul_one] at c0
        generalize ps[c] = p at *
        go_wp2_with (first
          | (go_at_call 10; refine hright.mono ?_; rintro e w1 ⟨rfl, hq⟩; have hq' := hq.symm; clear hq; subst hq'))
        go_loop [7] (fun i => ∃ j : Nat, j ≤ p.length ∧ i = .int .i64 (j : Int) ∧ Hid (∀ x ∈ aheadP ps c p j, x.key ≠ k)) (fun i => p.length - (intOf i).toNat)
        case atStart => exact ⟨0, by omega, rfl, by rw [ahead_zero]; exact HK.out⟩
        case round =>
          obtain ⟨j, hj, rfl, HJ⟩ := hrel
          by_cases hjl : j < p.length
          · have HX : Hid (p[j]? = some p[j]) := List.getElem?_eq_getElem hjl
            obtain ⟨a2, rfl, hblk2, e0, e1⟩ := hl2 j p[j] HX.out
            generalize p[j] = x at *
            by_cases hk : x.key = k
            · have HV : Hid (lookP ps.flatten k = some x.val) := by
                unfold Hid lookP
                rw [flat_pos HP.out HX.out, List.append_assoc, find_skip _ _ HJ.out, List.singleton_append, List.find?_cons, hk]
                simp
              have heq : (x.key.toList == k.toList) = true := by rw [hk]; simp
              clear hk HJ HK
              go_wp2
              go_ret2
              rw [HV.out]
              exact ⟨rfl, rfl⟩
            · have HJ2 : Hid (∀ y ∈ aheadP ps c p (j + 1), y.key ≠ k) := by
                unfold Hid
                rw [ahead_succ HX.out]
                intro y hy
                rcases List.mem_append.1 hy with hy | hy
                · exact HJ.out y hy
                · rw [List.mem_singleton.1 hy]
                  exact hk
              have heq : (x.key.toList == k.toList) = false := key_ne hk
              clear hk HJ
              go_wp2
              go_round
              case rel => exact ⟨j + 1, by omega, by go_num, HJ2⟩
              case measure => simp [intOf]; omega
          · obtain rfl : j = p.length := by omega
            have HK2 : Hid (∀ x ∈ (ps.take (c + 1)).flatten, x.key ≠ k) := by
              unfold Hid
              rw [← ahead_end HP.out]
              exact HJ.out
            clear HJ HK
            go_wp2
            go_round
            case rel => exact ⟨c + 1, by omega, by go_num, HK2⟩
            case measure => simp [intOf]; omega
      · obtain rfl : c = ps.length := by omega
        have HV : Hid (lookP ps.flatten k = none) := by
          have h := HK.out
          rw [List.take_length] at h
          unfold Hid lookP
          have h2 := find_skip (k := k) _ [] h
          rw [List.append_nil] at h2
          rw [h2]
          rfl
        clear HK
        go_wp2_with (first
          | (go_at_call 10; refine hright.mono ?_; rintro e w1 ⟨rfl, hq⟩; have hq' := hq.symm; clear hq; subst hq'))
        go_ret2
        rw [HV.out]
        exact ⟨rfl, rfl⟩
  · rw [lookA_no hr]
    have hright := refRight_no ps ao cap h900 hp4 hr w hl
    clear hr
    go_enter Try.func19, Try.ntmps19
    go_wp2
    go_loop [6] (fun i => i = .int .i64 0) (fun i => 0)
    case atStart => rfl
    case round =>
      obtain rfl := hrel
      go_wp2_with (first
        | (go_at_call 10; refine hright.mono ?_; rintro e w1 ⟨rfl, hq⟩; have hq' := hq.symm; clear hq; subst hq'))
      go_ret2
      exact ⟨rfl, rfl⟩
theorem within_any (x lo hi : ByteArray) (w : World) :
    Calls Try.prog 34 #[.string x, .string lo, .string hi] w fun e w' => e = .returned (.bool (withinB x lo hi)) ∧ w' = w := by
  unfold withinB
  by_cases h1 : Op.bytesLess x.toList lo.toList = true
  · rw [h1]
    go_enter Try.func34, Try.ntmps34
    go_wp2
    go_ret
    exact ⟨rfl, rfl⟩
  · have h2 : Op.bytesLess x.toList lo.toList = false := Bool.eq_false_iff.2 h1
    rw [h2]
    clear h1
    by_cases hq : hi.toList = []
    · have hq2 : hi.toList.isEmpty = true := by rw [hq]; rfl
      rw [hq2]
      go_enter Try.func34, Try.ntmps34
      go_wp2
      go_ret
      exact ⟨rfl, rfl⟩
    · have hq2 : hi.toList.isEmpty = false := by
        cases h : hi.toList with
        | nil => exact absurd h hq
        | cons a l => rfl
      rw [hq2]
      go_enter Try.func34, Try.ntmps34
      go_wp2
      go_ret
      exact ⟨by simp, rfl⟩
set_option maxRecDepth 100000 in
set_option maxHeartbeats 2000000 in
theorem refScan_any (ps : Pages) (ao : Option Addr) (cap : Nat) (lo hi : ByteArray) (n : Int) (h900 : ps.length ≤ 900) (hp4 : ∀ p ∈ ps, p.length ≤ 1000) (hflat : RightP ps → ps.flatten.length ≤ 900) (w : World) (hl : LiesPg w w.heap.size ao ps) :
    Calls Try.prog 22 #[.slice ao ps.length cap, .string lo, .string hi, .int .i64 n] w fun e w' => ∃ ao' cap', e = .returned (.slice ao' (scanA ps lo hi n).length cap') ∧ LiesPr w' w'.heap.size ao' (scanA ps lo hi n) ∧ Below w.heap.size w w' := by
  by_cases hr : RightP ps
  · rw [scanA_yes hr]
    have hf := hflat hr
    have hright := fun w1 (hb : Below w.heap.size w w1) => refRight_yes ps ao cap h900 hp4 hr w1 (liesPg_next hl hb hb.size)
    have HR : Hid (RightP ps) := hr
    have HF : Hid (∀ (c : Nat), (scanL (ps.take c).flatten lo hi n).length ≤ 900) := fun c => by
      have h1 := scan_len (ps.take c).flatten lo hi n
      have h2 : ps.flatten = (ps.take c).flatten ++ (ps.drop c).flatten := by rw [← List.flatten_append, List.take_append_drop]
      rw [h2, List.length_append] at hf
      omega
    have HF2 : Hid (∀ (c : Nat) p j, ps[c]? = some p → (scanL (aheadP ps c p j) lo hi n).length ≤ 900) := fun c p j hp => by
      have h1 := scan_len (aheadP ps c p j) lo hi n
      have h2 : ps.flatten = (ps.take (c + 1)).flatten ++ (ps.drop (c + 1)).flatten := by rw [← List.flatten_append, List.take_append_drop]
      rw [h2, ahead_rest hp j, List.length_append, List.length_append] at hf
      omega
    clear hr hflat hf
    generalize hOUT : scanL ps.flatten lo hi n = OUT at *
    have HOUT : Hid (scanL ps.flatten lo hi n = OUT) := hOUT
    clear hOUT
    go_enter Try.func22, Try.ntmps22
    go_wp2
    go_loopw [9, 10] (fun vv i wr => ∃ (c : Nat) (out : List Pr), c ≤ ps.length ∧ i = .int .i64 (c : Int) ∧ wr.ownsRow w.heap.size 41 2 vv out.length (prCells out) ∧ Below w.heap.size w wr ∧ Hid (out = scanL (ps.take c).flatten lo hi n)) (fun _ i _ => ps.length - (intOf i).toNat)
    case atStart => exact ⟨0, [], by omega, rfl, World.ownsRow_nil _ _ _ _, Below.refl _ _, by simp [Hid, scanL]⟩
    case round =>
      obtain ⟨c, out, hc, rfl, hown, hbel, HS⟩ := hrel
      have hsz := hbel.size
      obtain ⟨ao2, cap2, rfl, _, _⟩ := own_lies hown
      by_cases hcl : c < ps.length
      · have HP : Hid (ps[c]? = some ps[c]) := List.getElem?_eq_getElem hcl
        have hlen := HR.out.1 ps[c] (List.getElem_mem hcl)
        obtain ⟨a, rfl, hblk, bo, cc, c0w, hl2, hcap⟩ := hl c ps[c] HP.out
        rw [Nat.mul_one] at c0w
        generalize ps[c] = p at *
        have kk : ∀ w1, Below w.heap.size w w1 → w1.cell? (a.add c) = some (.slice bo p.length cc) := fun w1 hb => (hb.cell (cell_lt c0w)).trans c0w
        clear c0w
        have k0 := kk wr hbel
        go_wp2_with (first
          | (go_at_call 10; refine (hright wr hbel).mono ?_; rintro e w1 ⟨rfl, hq⟩; have hq' := hq.symm; clear hq; subst hq'))
        rename World => W0
        go_loopw [9, 11] (fun vv i wr => ∃ (j : Nat) (out : List Pr), j ≤ p.length ∧ i = .int .i64 (j : Int) ∧ wr.ownsRow w.heap.size 41 2 vv out.length (prCells out) ∧ Below w.heap.size w wr ∧ Hid (out = scanL (aheadP ps c p j) lo hi n)) (fun _ i _ => p.length - (intOf i).toNat)
        case atStart => exact ⟨0, out, by omega, rfl, hown, hbel, by rw [ahead_zero]; exact HS⟩
        case round =>
          obtain ⟨j, out2, hj, rfl, hown2, hbel2, HT⟩ := hrel
          have hsz2 := hbel2.size
          have hacc : out2.length ≤ 900 := by rw [HT.out]; exact HF2.out c p j HP.out
          obtain ⟨ao3, cap3, rfl, _, _⟩ := own_lies hown2
          have k1 := kk wr hbel2
          clear hown HS hbel k0
          by_cases hjl : j < p.length
          · by_cases hn : (out2.length : Int) < n
            · have HX : Hid (p[j]? = some p[j]) := List.getElem?_eq_getElem hjl
              obtain ⟨a2, rfl, hblk2, e0, e1⟩ := (hl2.below PrAt.fast hbel2) j p[j] HX.out
              generalize p[j] = x at *
              have hw := within_any x.key lo hi wr
              by_cases hin : withinB x.key lo hi = true
              · have HT2 : Hid (out2 ++ [x] = scanL (aheadP ps c p (j + 1)) lo hi n) := by
                  unfold Hid
                  rw [ahead_succ HX.out, scan_snoc, ← HT.out, if_pos ⟨hin, hn⟩]
                rw [hin] at hw
                clear HT hin
                go_wp2_with (first
                  | (go_at_call 34; refine hw.mono ?_; rintro e w1 ⟨rfl, hq⟩; have hq' := hq.symm; clear hq; subst hq')
                  | (at_builtin; refine wpList_appX _ rfl _ _ 34 rfl 41 2 32 Try.underlying34 Try.infoPr w.heap.size _ out2.length (prCells out2) rfl (hown2.alloc _) ⟨wr.heap.size, 0, none⟩ 1 [.string x.key, .string x.val] rfl rfl (one2 x) (two_cells _ _ rfl _ _) ⟨by omega, by decide, by decide, rfl⟩ (by simp; omega) ?_; intro v3 w3 hown3 hbel3 hst3))
                go_roundw
                case rel => exact ⟨j + 1, out2 ++ [x], by omega, by go_num, by rw [List.length_append, prCells_append]; exact hown3, (hbel2.alloc hsz2 _).trans hbel3, HT2⟩
                case measure => simp [intOf]; omega
              · have HT2 : Hid (out2 = scanL (aheadP ps c p (j + 1)) lo hi n) := by
                  unfold Hid
                  rw [ahead_succ HX.out, scan_snoc, ← HT.out, if_neg (fun h => hin h.1)]
                rw [Bool.eq_false_iff.2 hin] at hw
                clear HT hin
                go_wp2_with (first
                  | (go_at_call 34; refine hw.mono ?_; rintro e w1 ⟨rfl, hq⟩; have hq' := hq.symm; clear hq; subst hq'))
                go_roundw
                case rel => exact ⟨j + 1, out2, by omega, by go_num, hown2, hbel2, HT2⟩
                case measure => simp [intOf]; omega
            · have HS2 : Hid (out2 = scanL (ps.take (c + 1)).flatten lo hi n) := by
                unfold Hid
                rw [ahead_rest HP.out j, scan_stop _ _ _ _ _ (by rw [← HT.out]; omega)]
                exact HT.out
              clear HT
              go_wp2
              go_roundw
              case rel => exact ⟨c + 1, out2, by omega, by go_num, hown2, hbel2, HS2⟩
              case measure => simp [intOf]; omega
          · obtain rfl : j = p.length := by omega
            have HS2 : Hid (out2 = scanL (ps.take (c + 1)).flatten lo hi n) := by
              unfold Hid
              rw [← ahead_end HP.out]
              exact HT.out
            clear HT
            go_wp2
            go_roundw
            case rel => exact ⟨c + 1, out2, by omega, by go_num, hown2, hbel2, HS2⟩
            case measure => simp [intOf]; omega
      · obtain rfl : c = ps.length := by omega
        have he := HS.out
        rw [List.take_length, HOUT.out] at he
        subst he
        clear HS HOUT
        obtain ⟨ao3, cap3, e3, hl3, _⟩ := own_lies hown
        cases e3
        go_wp2_with (first
          | (go_at_call 10; refine (hright wr hbel).mono ?_; rintro e w1 ⟨rfl, hq⟩; have hq' := hq.symm; clear hq; subst hq'))
        go_ret
        exact ⟨_, _, rfl, hl3, hbel⟩
  · rw [scanA_no hr]
    have hright := refRight_no ps ao cap h900 hp4 hr w hl
    clear hr
    go_enter Try.func22, Try.ntmps22
    go_wp2
    go_loop [9, 10] (fun v i => v = .slice none 0 0 ∧ i = .int .i64 0) (fun _ i => 0)
    case atStart => exact ⟨rfl, rfl⟩
    case round =>
      obtain ⟨rfl, rfl⟩ := hrel
      go_wp2_with (first
        | (go_at_call 10; refine hright.mono ?_; rintro e w1 ⟨rfl, hq⟩; have hq' := hq.symm; clear hq; subst hq'))
      go_ret
      exact ⟨none, 0, rfl, fun i x hx => by simp at hx, Below.refl _ _⟩
end Go.Proofs.Ytdllfplgenpalaa
