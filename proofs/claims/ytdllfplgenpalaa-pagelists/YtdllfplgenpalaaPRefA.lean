/-
  Contracts: the document's own: the page of a key, a pair into a page, a page without a key, what stands at a key and between two keys.
-/
import Derived.Test.YtdllfplgenpalaaPGet
import Derived.Test.YtdllfplgenpalaaPRfM
namespace Go.Proofs.Ytdllfplgenpalaa
open Go.RowKit Num
open scoped Classical
set_option linter.unusedVariables false

set_option maxRecDepth 100000 in
set_option maxHeartbeats 1000000 in
theorem refOf_any (ps : Pages) (hr : RightP ps) (ao : Option Addr) (cap : Nat) (k : ByteArray) (h900 : ps.length ≤ 900) (w : World) (hl : LiesPg w w.heap.size ao ps) :
    Calls Try.prog 27 #[.slice ao ps.length cap, .string k] w fun e w' => e = .returned (.int .i64 (ofP ps k : Int)) ∧ w' = w := by
  have hcl := cnt_le ps k
  have HO : Hid (ofP ps k = cntP ps k - 1) := rfl
  have HY : Hid (∀ (i : Nat) p x, i < cntP ps k → ps[i]? = some p → p[0]? = some x → ¬ kl k x.key) := fun i p x hi hp hx hk => by
    have := cnt_no hi hp hx
    unfold kl at hk
    rw [this] at hk
    cases hk
  have HN : Hid (∀ (i : Nat) p x, cntP ps k ≤ i → ps[i]? = some p → p[0]? = some x → kl k x.key) := fun i p x hi hp hx => cnt_yes hr hi hp hx
  have HR : Hid (RightP ps) := hr
  clear hr
  generalize ofP ps k = M at *
  generalize cntP ps k = N at *
  go_enter Try.func27, Try.ntmps27
  go_wp2
  go_loop [5, 6] (fun v i => ∃ (c m : Nat), c ≤ ps.length ∧ i = .int .i64 (c : Int) ∧ v = .int .i64 (m : Int) ∧ Hid (m = min c N - 1)) (fun _ i => ps.length - (intOf i).toNat)
  case atStart => exact ⟨0, 0, by omega, rfl, rfl, by unfold Hid; omega⟩
  case round =>
    obtain ⟨c, m, hc, rfl, rfl, HM⟩ := hrel
    by_cases hkl : c < ps.length
    · have HP : Hid (ps[c]? = some ps[c]) := List.getElem?_eq_getElem hkl
      have hlen := HR.out.1 ps[c] (List.getElem_mem hkl)
      obtain ⟨a, rfl, hblk, bo, cc, c0, hl2, hcap⟩ := hl c ps[c] HP.out
      rw [Nat.mul_one] at c0
      generalize ps[c] = p at *
      have HX : Hid (p[0]? = some (p[0]'(by omega))) := List.getElem?_eq_getElem _
      obtain ⟨a2, rfl, hblk2, e0, e1⟩ := hl2 0 _ HX.out
      rw [show a2.add (0 * 2) = a2 from addr_zero a2] at e0
      generalize (p[0]'(by omega)) = x at *
      have h0 : (0 : Int) < (p.length : Int) := by omega
      by_cases hcN : c < N
      · have hle := leq_yes (HY.out c p x hcN HP.out HX.out)
        have HM2 : Hid (c = min (c + 1) N - 1) := by unfold Hid; omega
        clear HM
        go_wp2
        go_round
        case rel => exact ⟨c + 1, c, by omega, by go_num, rfl, HM2⟩
        case measure => simp [intOf]; omega
      · have hle := leq_no (HN.out c p x (by omega) HP.out HX.out)
        have HM2 : Hid (m = min (c + 1) N - 1) := by unfold Hid; have := HM.out; omega
        clear HM
        go_wp2
        go_round
        case rel => exact ⟨c + 1, m, by omega, by go_num, rfl, HM2⟩
        case measure => simp [intOf]; omega
    · obtain rfl : c = ps.length := by omega
      have he : m = M := by rw [HO.out, HM.out]; omega
      subst he
      clear HM
      go_wp2
      go_ret
      exact ⟨rfl, rfl⟩

theorem two_cells (w : World) (b : Nat) (hb : w.heap.size = b) (x y : ByteArray) : ∀ j u, [Value.string x, Value.string y][j]? = some u → (w.alloc (.cells #[.string x, .string y] 41)).cell? ((⟨b, 0, none⟩ : Addr).add j) = some u := new_cells w _ [.string x, .string y] b hb
set_option maxRecDepth 100000 in
set_option maxHeartbeats 2000000 in
theorem into_any (p : List Pr) (hr : Rises p) (ao : Option Addr) (cap : Nat) (k v : ByteArray) (h900 : p.length ≤ 900) (w : World) (hl : LiesPr w w.heap.size ao p) :
    Calls Try.prog 28 #[.slice ao p.length cap, .string k, .string v] w fun e w' => ∃ ao' cap' b, e = .returned (.tuple #[.slice ao' (insL p k v).length cap', b]) ∧ w'.ownsRow w.heap.size 41 2 (.slice ao' (insL p k v).length cap') (insL p k v).length (prCells (insL p k v)) ∧ Below w.heap.size w w' := by
  have HR : Hid (Rises p) := hr
  clear hr
  generalize hOUT : insL p k v = OUT at *
  have HOUT : Hid (insL p k v = OUT) := hOUT
  clear hOUT
  go_enter Try.func28, Try.ntmps28
  go_wp2
  go_loopw [8, 9, 10, 11] (fun vv bp bw i wr => ∃ (c : Nat) (put : Bool) (out : List Pr), c ≤ p.length ∧ i = .int .i64 (c : Int) ∧ bp = .bool put ∧ out.length ≤ c + 1 ∧ wr.ownsRow w.heap.size 41 2 vv out.length (prCells out) ∧ Below w.heap.size w wr ∧ Hid (IntoS p k v c put out)) (fun _ _ _ i _ => p.length - (intOf i).toNat)
  case atStart => exact ⟨0, false, [], by omega, rfl, rfl, by simp, World.ownsRow_nil _ _ _ _, Below.refl _ _, into_start p k v⟩
  case round =>
    obtain ⟨c, put, out, hc, rfl, rfl, hol, hown, hbel, HS⟩ := hrel
    have hsz := hbel.size
    obtain ⟨ao2, cap2, rfl, _, _⟩ := own_lies hown
    by_cases hcl : c < p.length
    · have HX : Hid (p[c]? = some p[c]) := List.getElem?_eq_getElem hcl
      obtain ⟨a, rfl, hblk, e0, e1⟩ := (hl.below PrAt.fast hbel) c p[c] HX.out
      generalize p[c] = x at *
      by_cases hk : x.key = k
      · have HS2 : Hid (IntoS p k v (c + 1) true (out ++ [(⟨k, v⟩ : Pr)])) := into_same HR.out HS.out HX.out hk
        have heq : (x.key.toList == k.toList) = true := by rw [hk]; simp
        clear HS hk
        go_wp2_with (first
          | (at_builtin; refine wpList_appX _ rfl _ _ 34 rfl 41 2 32 Try.underlying34 Try.infoPr w.heap.size _ out.length (prCells out) rfl (hown.alloc _) ⟨wr.heap.size, 0, none⟩ 1 [.string k, .string v] rfl rfl (one2 ⟨k, v⟩) (two_cells _ _ rfl _ _) ⟨by omega, by decide, by decide, rfl⟩ (by simp; omega) ?_; intro v3 w3 hown3 hbel3 hst3))
        go_roundw
        case rel => exact ⟨c + 1, true, out ++ [(⟨k, v⟩ : Pr)], by omega, by go_num, rfl, by simp; omega, by rw [List.length_append, prCells_append]; exact hown3, (hbel.alloc hsz _).trans hbel3, HS2.out⟩
        case measure => simp [intOf]; omega
      · have heq : (x.key.toList == k.toList) = false := key_ne hk
        cases put with
        | true =>
          have HS2 : Hid (IntoS p k v (c + 1) true (out ++ [x])) := into_put HR.out HS.out HX.out
          clear HS hk
          go_wp2_with (first
            | (at_builtin; refine wpList_appX _ rfl _ _ 34 rfl 41 2 32 Try.underlying34 Try.infoPr w.heap.size _ out.length (prCells out) rfl (hown.alloc _) ⟨wr.heap.size, 0, none⟩ 1 [.string x.key, .string x.val] rfl rfl (one2 x) (two_cells _ _ rfl _ _) ⟨by omega, by decide, by decide, rfl⟩ (by simp; omega) ?_; intro v3 w3 hown3 hbel3 hst3))
          go_roundw
          case rel => exact ⟨c + 1, true, out ++ [x], by omega, by go_num, rfl, by simp; omega, by rw [List.length_append, prCells_append]; exact hown3, (hbel.alloc hsz _).trans hbel3, HS2.out⟩
          case measure => simp [intOf]; omega
        | false =>
          have hlen : out.length ≤ c := by
            rcases HS.out with ⟨_, _, h⟩ | ⟨_, h, _⟩
            · rw [h, List.length_take]
              omega
            · cases h
          rcases kl_tri x.key k with hlt | he | hgt
          · have HS2 : Hid (IntoS p k v (c + 1) false (out ++ [x])) := into_below HR.out HS.out HX.out hlt
            have hb1 : Op.bytesLess x.key.toList k.toList = true := hlt
            clear HS hk hlt
            go_wp2_with (first
              | (at_builtin; refine wpList_appX _ rfl _ _ 34 rfl 41 2 32 Try.underlying34 Try.infoPr w.heap.size _ out.length (prCells out) rfl (hown.alloc _) ⟨wr.heap.size, 0, none⟩ 1 [.string x.key, .string x.val] rfl rfl (one2 x) (two_cells _ _ rfl _ _) ⟨by omega, by decide, by decide, rfl⟩ (by simp; omega) ?_; intro v3 w3 hown3 hbel3 hst3))
            go_roundw
            case rel => exact ⟨c + 1, false, out ++ [x], by omega, by go_num, rfl, by simp; omega, by rw [List.length_append, prCells_append]; exact hown3, (hbel.alloc hsz _).trans hbel3, HS2.out⟩
            case measure => simp [intOf]; omega
          · exact absurd he hk
          · have HS2 : Hid (IntoS p k v (c + 1) true (out ++ [(⟨k, v⟩ : Pr)] ++ [x])) := into_above HS.out HX.out hgt
            have hb1 : Op.bytesLess x.key.toList k.toList = false := Bool.eq_false_iff.2 fun e => kl_asym hgt e
            clear HS hk hgt
            have e0' : ∀ o : Obj, (wr.alloc o).cell? (a.add (c * 2)) = some (.string x.key) := fun o => alloc_cell o e0
            have kk : ∀ w3, Below w.heap.size (wr.alloc (.cells #[.string k, .string v] 41)) w3 → w3.cell? (a.add (c * 2)) = some (.string x.key) ∧ w3.cell? ⟨(a.add (c * 2)).block, (a.add (c * 2)).off + 1, none⟩ = some (.string x.val) := fun w3 h3 => ⟨(h3.cell (by rw [Addr.block_add]; exact hblk)).trans (alloc_cell _ e0), (h3.cell (p := ⟨(a.add (c * 2)).block, (a.add (c * 2)).off + 1, none⟩) (by rw [Addr.block_add]; exact hblk)).trans (alloc_cell _ e1)⟩
            go_wp2_with (first
              | (at_builtin; refine wpList_appX _ rfl _ _ 34 rfl 41 2 32 Try.underlying34 Try.infoPr w.heap.size _ out.length (prCells out) rfl (hown.alloc _) ⟨wr.heap.size, 0, none⟩ 1 [.string k, .string v] rfl rfl (one2 ⟨k, v⟩) (two_cells _ _ rfl _ _) ⟨by omega, by decide, by decide, rfl⟩ (by simp; omega) ?_; intro v3 w3 hown3 hbel3 hst3
                 have hown3' : w3.ownsRow w.heap.size 41 2 v3 (out ++ [(⟨k, v⟩ : Pr)]).length (prCells (out ++ [(⟨k, v⟩ : Pr)])) := by rw [List.length_append, prCells_append]; exact hown3
                 clear hown3
                 obtain ⟨ao3, cap3, rfl, _, _⟩ := own_lies hown3'
                 simp only [List.length_append, List.length_singleton] at hown3'
                 obtain ⟨k1, k2⟩ := kk w3 hbel3)
              | (at_builtin; refine wpList_appX _ rfl _ _ 34 rfl 41 2 32 Try.underlying34 Try.infoPr w.heap.size _ (out.length + 1) (prCells (out ++ [(⟨k, v⟩ : Pr)])) rfl (hown3'.alloc _) ⟨w3.heap.size, 0, none⟩ 1 [.string x.key, .string x.val] rfl rfl (one2 x) (two_cells _ _ rfl _ _) ⟨by omega, by decide, by decide, rfl⟩ (by have := hbel3.size; simp at this ⊢; omega) ?_; intro v4 w4 hown4 hbel4 hst4))
            go_roundw
            case rel =>
              have s3 := hbel3.size
              simp at s3
              refine ⟨c + 1, true, out ++ [(⟨k, v⟩ : Pr)] ++ [x], by omega, by go_num, rfl, by simp; omega, by rw [List.length_append, List.length_append, prCells_append]; exact hown4, (((hbel.alloc hsz _).trans hbel3).alloc (by omega) _).trans hbel4, HS2.out⟩
            case measure => simp [intOf]; omega
    · obtain rfl : c = p.length := by omega
      cases put with
      | true =>
        have he := into_end HS.out
        rw [HOUT.out] at he
        simp only [if_true] at he
        subst he
        clear HS HOUT
        go_wp2
        go_ret2
        exact ⟨_, _, _, rfl, hown, hbel⟩
      | false =>
        have he := into_end HS.out
        rw [HOUT.out] at he
        simp at he
        clear HS HOUT
        go_wp2_with (first
          | (at_builtin; refine wpList_appX _ rfl _ _ 34 rfl 41 2 32 Try.underlying34 Try.infoPr w.heap.size _ out.length (prCells out) rfl (hown.alloc _) ⟨wr.heap.size, 0, none⟩ 1 [.string k, .string v] rfl rfl (one2 ⟨k, v⟩) (two_cells _ _ rfl _ _) ⟨by omega, by decide, by decide, rfl⟩ (by simp; omega) ?_; intro v3 w3 hown3 hbel3 hst3
             have hown3' : w3.ownsRow w.heap.size 41 2 v3 OUT.length (prCells OUT) := by rw [← he, List.length_append, prCells_append]; exact hown3
             clear hown3
             obtain ⟨ao3, cap3, rfl, _, _⟩ := own_lies hown3'))
        go_ret2
        exact ⟨_, _, _, rfl, hown3', (hbel.alloc hsz _).trans hbel3⟩
set_option maxRecDepth 100000 in
set_option maxHeartbeats 1000000 in
theorem refWithout_any (p : List Pr) (ao : Option Addr) (cap : Nat) (k : ByteArray) (h900 : p.length ≤ 900) (w : World) (hl : LiesPr w w.heap.size ao p) :
    Calls Try.prog 33 #[.slice ao p.length cap, .string k] w fun e w' => ∃ ao' cap', e = .returned (.slice ao' (delL p k).length cap') ∧ w'.ownsRow w.heap.size 41 2 (.slice ao' (delL p k).length cap') (delL p k).length (prCells (delL p k)) ∧ Below w.heap.size w w' := by
  go_enter Try.func33, Try.ntmps33
  go_wp2
  go_loopw [5, 6] (fun vv i wr => ∃ (c : Nat) (out : List Pr), c ≤ p.length ∧ i = .int .i64 (c : Int) ∧ out.length ≤ c ∧ wr.ownsRow w.heap.size 41 2 vv out.length (prCells out) ∧ Below w.heap.size w wr ∧ Hid (out = delL (p.take c) k)) (fun _ i _ => p.length - (intOf i).toNat)
  case atStart => exact ⟨0, [], by omega, rfl, by simp, World.ownsRow_nil _ _ _ _, Below.refl _ _, rfl⟩
  case round =>
    obtain ⟨c, out, hc, rfl, hol, hown, hbel, HS⟩ := hrel
    have hsz := hbel.size
    obtain ⟨ao2, cap2, rfl, _, _⟩ := own_lies hown
    by_cases hcl : c < p.length
    · have HX : Hid (p[c]? = some p[c]) := List.getElem?_eq_getElem hcl
      obtain ⟨a, rfl, hblk, e0, e1⟩ := (hl.below PrAt.fast hbel) c p[c] HX.out
      generalize p[c] = x at *
      by_cases hk : x.key = k
      · have HS2 : Hid (out = delL (p.take (c + 1)) k) := by
          unfold Hid
          rw [take_succ_at HX.out, delL_app, ← HS.out]
          unfold delL
          rw [List.filter_cons, hk, bl_irr]
          simp
        have heq : (x.key.toList == k.toList) = true := by rw [hk]; simp
        clear HS hk
        go_wp2
        go_roundw
        case rel => exact ⟨c + 1, out, by omega, by go_num, by omega, hown, hbel, HS2.out⟩
        case measure => simp [intOf]; omega
      · have HS2 : Hid (out ++ [x] = delL (p.take (c + 1)) k) := by
          unfold Hid
          rw [take_succ_at HX.out, delL_app, ← HS.out, delL_same (l := [x]) (by intro y hy; rw [List.mem_singleton.1 hy]; exact hk)]
        have heq : (x.key.toList == k.toList) = false := key_ne hk
        clear HS hk
        go_wp2_with (first
          | (at_builtin; refine wpList_appX _ rfl _ _ 34 rfl 41 2 32 Try.underlying34 Try.infoPr w.heap.size _ out.length (prCells out) rfl (hown.alloc _) ⟨wr.heap.size, 0, none⟩ 1 [.string x.key, .string x.val] rfl rfl (one2 x) (two_cells _ _ rfl _ _) ⟨by omega, by decide, by decide, rfl⟩ (by simp; omega) ?_; intro v3 w3 hown3 hbel3 hst3))
        go_roundw
        case rel => exact ⟨c + 1, out ++ [x], by omega, by go_num, by simp; omega, by rw [List.length_append, prCells_append]; exact hown3, (hbel.alloc hsz _).trans hbel3, HS2.out⟩
        case measure => simp [intOf]; omega
    · obtain rfl : c = p.length := by omega
      have he := HS.out
      rw [List.take_length] at he
      subst he
      clear HS
      go_wp2
      go_ret
      exact ⟨_, _, rfl, hown, hbel⟩
end Go.Proofs.Ytdllfplgenpalaa
