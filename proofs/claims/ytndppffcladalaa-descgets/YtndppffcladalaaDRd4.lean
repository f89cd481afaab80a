/-
  Contracts: package desc's reader: lists of numbers and columns.
-/
import Derived.Test.YtndppffcladalaaDRd3
namespace Go.Proofs.Ytndppffcladalaa
open Go.RowKit Num
set_option linter.unusedVariables false

theorem size_of {y : ByteArray} {r : List UInt8} (h : y.data.toList = r) : y.size = r.length := by
  rw [← h]
  rfl
theorem new_cells (w : World) (t : TypeId) (cs : List Value) (b : Nat) (hb : w.heap.size = b) : ∀ j u, cs[j]? = some u → (w.alloc (.cells cs.toArray t)).cell? ((⟨b, 0, none⟩ : Addr).add j) = some u := by
  intro j u hj
  subst hb
  rw [Addr.add_lit, Nat.zero_add]
  exact box_cell (heap_new w _) j u (by simpa using hj)
/-- 'append' of one struct to a row of the call's own. -/
theorem wpList_appX {ops : Array Oper} {rest : List Oper} {o : Oper} {a : Act} {Q : Exit → Act → World → Prop} (w : World) (hgd : o.guard = none) (s x : Operand) (S : TypeId)
    (ho : o.op = .call { callee := .builtin .append, args := #[s, x], argTypes := #[S, S] })
    (E : TypeId) (sz bytes : Nat) (hS : Try.prog.underlying S = some (.slice E)) {z : Value} (hinfo : (Try.prog.info? E).map (fun i => (i.zero, i.size, i.bytes)) = some (some z, sz, bytes))
    (base : Nat) (v : Value) (n : Nat) (xs : List Value) (hs : a.eval s = v) (hown : w.ownsRow base E sz v n xs)
    (ad : Addr) (c : Nat) (cs : List Value) (hx : a.eval x = .slice (some ad) 1 c) (hl : cs.length = sz) (h1 : ∀ u ∈ cs, u.oneCell' = true) (hnews : ∀ j u, cs[j]? = some u → w.cell? (ad.add j) = some u)
    (hb : n ≤ 1000 ∧ 0 < sz ∧ bytes ≤ 100000 ∧ z.cells.size = sz) (hbase : base ≤ w.heap.size)
    (h : ∀ v' w', w'.ownsRow base E sz v' (n + 1) (xs ++ cs) → Below base w w' → Stay (fun _ => False) E w w' → wpList Try.prog ops Q rest (a.put o.dst v') w') : wpList Try.prog ops Q (o :: rest) a w := by
  obtain ⟨i0, hi, hz0, hz1, hz2⟩ := info_parts hinfo
  have hm : (n + 1) * bytes ≤ 1001 * 100000 := Nat.mul_le_mul (by omega) hb.2.2.1
  refine wpList_append_own w hgd s x S ho base E i0 z sz bytes hS hi hz0 hz1 hz2 hb.2.2.2 hb.2.1 v n xs hs hown ad 1 c cs hx (by omega) hnews h1 (by unfold maxLen; omega) (by omega) hbase ?_
  intro v' w' hown' hgrow _
  exact h v' w' hown' (Below.grown (Below.refl base w) hgrow hbase (fun k hk => (hown.lt k hk).1)) (Stay.grown hown hgrow)
theorem grown_low {w W W' : World} {p : Nat} (h : w.grownBy W (some p)) (k : Below w.heap.size W W') : w.grownBy W' (some p) :=
  ⟨k.os.trans h.os, k.tape.trans h.tape, k.output.trans h.output, Nat.le_trans h.size k.size, fun i hi hne => (k.block i hi).trans (h.block i hi hne)⟩
theorem own_snoc {α : Type} {V : Nat → World → List Value → α → Prop} {e : TypeId} {sz B : Nat} {w3 : World} {v3 : Value} {acc : List α} {a : α} {cs : List Value} {css : List (List Value)} (hcl : css.length = acc.length) (hcc : ∀ cs ∈ css, cs.length = sz ∧ ∀ u ∈ cs, u.oneCell' = true) (h1 : cs.length = sz) (h2 : ∀ u ∈ cs, u.oneCell' = true)
    (hrow : w3.ownsRow B e sz v3 (acc.length + 1) (css.flatten ++ cs)) (hVs : ∀ (i : Nat) cs x, css[i]? = some cs → acc[i]? = some x → V B w3 cs x) (hVa : V B w3 cs a) : OwnS V e sz B w3 v3 (acc ++ [a]) := by
  refine ⟨css ++ [cs], by simp [hcl], fun c hc => ?_, ?_, fun i c x hi hx => ?_⟩
  · rcases List.mem_append.1 hc with hc | hc
    · exact hcc c hc
    · rw [List.mem_singleton.1 hc]
      exact ⟨h1, h2⟩
  · rw [List.flatten_append, List.length_append]
    simpa using hrow
  · by_cases hlt : i < css.length
    · rw [List.getElem?_append_left hlt] at hi
      rw [List.getElem?_append_left (by omega)] at hx
      exact hVs i c x hi hx
    · rw [List.getElem?_append_right (by omega)] at hi
      rw [List.getElem?_append_right (by omega)] at hx
      have e0 : i - css.length = 0 := by
        have := (List.getElem?_eq_some_iff.1 hi).1
        simp at this
        omega
      rw [e0] at hi
      rw [show i - acc.length = 0 by omega] at hx
      simp at hi hx
      subst hi hx
      exact hVa
theorem Try.infoCol : (Try.prog.info? 45).map (fun i => (i.zero, i.size, i.bytes)) = some (some (.agg #[.int .i64 0, .string ⟨#[]⟩, .int .i64 0, .int .i64 0, .int .i64 0, .int .i64 0, .int .i64 0, .int .u64 0, .string ⟨#[]⟩]), 9, 88) := by kernel_rfl
theorem Try.infoIdx : (Try.prog.info? 52).map (fun i => (i.zero, i.size, i.bytes)) = some (some (.agg #[.int .i64 0, .string ⟨#[]⟩, .slice none 0 0, .bool false, .int .i64 0]), 5, 64) := by kernel_rfl
theorem Try.infoTab : (Try.prog.info? 40).map (fun i => (i.zero, i.size, i.bytes)) = some (some (.agg #[.int .i64 0, .string ⟨#[]⟩, .slice none 0 0, .slice none 0 0, .int .i64 0]), 5, 80) := by kernel_rfl
set_option maxHeartbeats 2000000 in
theorem gInts_any {p : Nat} {w : World} {x : ByteArray} (h : RdAt p w x) (hx : x.size ≤ 1000000) :
    Calls Try.prog 90 #[.pointer (some ⟨p, 0, none⟩), .int .u64 8, .func (.func 58) #[] #[]] w fun e w' => Rds p w (fun B w' v (l : List Int) => RowN B w' v l) (rdList 8 rdInt x.data.toList) e w' := by
  have hp := h.lt
  have hd : x.data.toList.length = x.size := rfl
  have hn := gNat_any h hx
  unfold rdList
  cases hr : rdNat x.data.toList with
  | none =>
    rw [hr] at hn
    clear hr
    go_enter Try.func90, Try.ntmps90
    go_wp2_with (go_at_call 76; refine hn.mono ?_; rintro e w1 ⟨hg, rfl⟩)
    exact ⟨rfl, hg, rfl⟩
  | some q =>
    have hle := rdNat_le _ _ hr
    have hzlt := rdNat_ok _ _ hr
    rw [hr] at hn
    clear hr
    obtain ⟨z, r⟩ := q
    simp only [Option.bind_some] at hle hzlt ⊢
    by_cases hz : 8 < z
    · rw [if_pos hz]
      have hz2 : (8 : Int) < (z : Int) := by omega
      go_enter Try.func90, Try.ntmps90
      go_wp2_with (go_at_call 76; refine hn.mono ?_; rintro e w1 ⟨hg, v, y, rfl, rfl, hat, hy⟩)
      exact ⟨rfl, hg, rfl⟩
    · rw [if_neg hz]
      have hz2 : ¬ (8 : Int) < (z : Int) := by omega
      go_enter Try.func90, Try.ntmps90
      go_wp2_with (go_at_call 76; refine hn.mono ?_; rintro e w1 ⟨hg1, v1, y1, rfl, rfl, hat1, hy1⟩)
      clear hn
      go_loopw [8, 16] (fun v i wr => ∃ (k : Nat) (acc : List Int) (y : ByteArray), k ≤ z ∧ i = .int .u64 (k : Int) ∧ acc.length = k ∧ RowN w.heap.size wr v acc ∧ RdAt p wr y ∧ y.size ≤ x.size ∧ w.grownBy wr (some p) ∧ Hid (rdMany rdInt z r = (rdMany rdInt (z - k) y.data.toList).map (fun s => (acc ++ s.1, s.2)))) (fun _ i _ => z - (intOf i).toNat)
      case atStart => exact ⟨0, [], y1, by omega, rfl, rfl, RowN.nil _ _, hat1, by have := size_of hy1; omega, hg1, by unfold Hid; rw [hy1]; simp⟩
      case round =>
        obtain ⟨k, acc, y, hk, rfl, hacc, hown, hat, hys, hg, HM⟩ := hrel
        clear hat1 hy1 hg1
        have hsz := hg.size
        have hyd : y.data.toList.length = y.size := rfl
        by_cases hkl : k < z
        · obtain ⟨m, hm⟩ : ∃ m, z - k = m + 1 := ⟨z - k - 1, by omega⟩
          have hone := gInt_any hat (by omega)
          cases hre : rdInt y.data.toList with
          | none =>
            have hno : Hid (rdMany rdInt z r = none) := by
              unfold Hid
              rw [HM.out, hm]
              unfold rdMany
              rw [hre]
              rfl
            rw [hre] at hone
            clear HM hre
            go_wp2_with (go_at_call 58; refine hone.mono ?_; rintro e w2 ⟨hg2, rfl⟩)
            rw [hno.out]
            exact ⟨rfl, hg.trans hg2, rfl⟩
          | some qq =>
            obtain ⟨a, s⟩ := qq
            have hsle : s.length ≤ y.size := rdInt_le _ _ hre
            have HM2 : Hid (rdMany rdInt z r = (rdMany rdInt (z - (k + 1)) s).map (fun t => ((acc ++ [a]) ++ t.1, t.2))) := by
              unfold Hid
              rw [HM.out, hm, show z - (k + 1) = m by omega]
              conv => lhs; unfold rdMany
              rw [hre]
              simp only [Option.bind_some, Option.map_map]
              congr 1
              funext t
              simp
            rw [hre] at hone
            clear HM hre
            go_wp2_with (first
              | (go_at_call 58; refine hone.mono ?_; rintro e w2 ⟨hg2, v2, y2, rfl, rfl, hat2, hy2⟩; have own2 := rowN_hold hown (HoldX.of_grown hg2 hp : HoldX _ 68 _ _) (by decide))
              | (at_builtin; refine wpList_appRowN _ rfl _ _ rfl w.heap.size _ acc rfl (own2.alloc _) _ _ _ rfl (one_cellB _ _ _ _ (by simp)) (by omega) (by have := hg2.size; simp; omega) ?_; intro v3 w3 hown3 hbel3 hst3))
            have hg3 : w.grownBy w3 (some p) := grown_low (hg.trans hg2) ((Below.refl _ _).alloc (hg.trans hg2).size _ |>.trans hbel3)
            have hat3 : RdAt p w3 y2 := stay_box hst3 (alloc_box _ hat2) (by decide) id
            have hys2 : y2.size ≤ x.size := by
              have : y2.size = s.length := by rw [← hy2]; rfl
              omega
            go_roundw
            case rel => exact ⟨k + 1, acc ++ [a], y2, by omega, by go_num, by rw [List.length_append, hacc]; rfl, hown3, hat3, hys2, hg3, by unfold Hid; rw [HM2.out, hy2]⟩
            case measure => simp [intOf]; omega
        · have hke : z - k = 0 := by omega
          have hyes : Hid (rdMany rdInt z r = some (acc, y.data.toList)) := by
            unfold Hid
            rw [HM.out, hke]
            simp [rdMany]
          clear HM
          go_wp2
          go_ret
          rw [hyes.out]
          exact ⟨hg, _, y, rfl, hown, hat, rfl⟩
set_option maxHeartbeats 2000000 in
theorem gCols_any {p : Nat} {w : World} {x : ByteArray} (h : RdAt p w x) (hx : x.size ≤ 1000000) :
    Calls Try.prog 78 #[.pointer (some ⟨p, 0, none⟩), .int .u64 8, .func (.func 79) #[] #[]] w fun e w' => Rds p w (fun B w' v (l : List Colm) => OwnK B w' v l) (rdList 8 rdCol x.data.toList) e w' := by
  have hp := h.lt
  have hd : x.data.toList.length = x.size := rfl
  have hn := gNat_any h hx
  unfold rdList
  cases hr : rdNat x.data.toList with
  | none =>
    rw [hr] at hn
    clear hr
    go_enter Try.func78, Try.ntmps78
    go_wp2_with (go_at_call 76; refine hn.mono ?_; rintro e w1 ⟨hg, rfl⟩)
    exact ⟨rfl, hg, rfl⟩
  | some q =>
    have hle := rdNat_le _ _ hr
    have hzlt := rdNat_ok _ _ hr
    rw [hr] at hn
    clear hr
    obtain ⟨z, r⟩ := q
    simp only [Option.bind_some] at hle hzlt ⊢
    by_cases hz : 8 < z
    · rw [if_pos hz]
      have hz2 : (8 : Int) < (z : Int) := by omega
      go_enter Try.func78, Try.ntmps78
      go_wp2_with (go_at_call 76; refine hn.mono ?_; rintro e w1 ⟨hg, v, y, rfl, rfl, hat, hy⟩)
      exact ⟨rfl, hg, rfl⟩
    · rw [if_neg hz]
      have hz2 : ¬ (8 : Int) < (z : Int) := by omega
      go_enter Try.func78, Try.ntmps78
      go_wp2_with (go_at_call 76; refine hn.mono ?_; rintro e w1 ⟨hg1, v1, y1, rfl, rfl, hat1, hy1⟩)
      clear hn
      go_loopw [8, 16] (fun v i wr => ∃ (k : Nat) (acc : List Colm) (y : ByteArray), k ≤ z ∧ i = .int .u64 (k : Int) ∧ acc.length = k ∧ OwnK w.heap.size wr v acc ∧ RdAt p wr y ∧ y.size ≤ x.size ∧ w.grownBy wr (some p) ∧ Hid (rdMany rdCol z r = (rdMany rdCol (z - k) y.data.toList).map (fun s => (acc ++ s.1, s.2)))) (fun _ i _ => z - (intOf i).toNat)
      case atStart => exact ⟨0, [], y1, by omega, rfl, rfl, OwnS.nil _ _ _ _ _, hat1, by have := size_of hy1; omega, hg1, by unfold Hid; rw [hy1]; simp⟩
      case round =>
        obtain ⟨k, acc, y, hk, rfl, hacc, hown, hat, hys, hg, HM⟩ := hrel
        clear hat1 hy1 hg1
        have hsz := hg.size
        have hyd : y.data.toList.length = y.size := rfl
        by_cases hkl : k < z
        · obtain ⟨m, hm⟩ : ∃ m, z - k = m + 1 := ⟨z - k - 1, by omega⟩
          have hone := gCol_any hat (by omega)
          cases hre : rdCol y.data.toList with
          | none =>
            have hno : Hid (rdMany rdCol z r = none) := by
              unfold Hid
              rw [HM.out, hm]
              unfold rdMany
              rw [hre]
              rfl
            rw [hre] at hone
            clear HM hre
            go_wp2_with (go_at_call 79; refine hone.mono ?_; rintro e w2 ⟨hg2, rfl⟩)
            rw [hno.out]
            exact ⟨rfl, hg.trans hg2, rfl⟩
          | some qq =>
            obtain ⟨a, s⟩ := qq
            have hsle : s.length ≤ y.size := rdCol_le _ _ hre
            have HM2 : Hid (rdMany rdCol z r = (rdMany rdCol (z - (k + 1)) s).map (fun t => ((acc ++ [a]) ++ t.1, t.2))) := by
              unfold Hid
              rw [HM.out, hm, show z - (k + 1) = m by omega]
              conv => lhs; unfold rdMany
              rw [hre]
              simp only [Option.bind_some, Option.map_map]
              congr 1
              funext t
              simp
            rw [hre] at hone
            clear HM hre
            go_wp2_with (first
              | (go_at_call 79; refine hone.mono ?_; rintro e w2 ⟨hg2, v2, y2, rfl, ⟨cs, rfl, hVc⟩, hat2, hy2⟩; unfold ColV colVs at hVc; subst hVc; have own2 := ownK_hold hown (HoldX.of_grown hg2 hp : HoldX _ 68 _ _) (by decide); obtain ⟨css, hcl, hcc, hrow2, hVs⟩ := own2)
              | (at_builtin; refine wpList_appX _ rfl _ _ 37 rfl 45 9 _ Try.underlying37 Try.infoCol w.heap.size _ acc.length _ rfl (hrow2.alloc _) _ _ _ rfl (by rfl) (by simp [Value.oneCell']) (new_cells _ _ _ _ (by simp)) ⟨by omega, by omega, by omega, rfl⟩ (by have := hg2.size; simp; omega) ?_; intro v3 w3 hown3 hbel3 hst3))
            have hg3 : w.grownBy w3 (some p) := grown_low (hg.trans hg2) ((Below.refl _ _).alloc (hg.trans hg2).size _ |>.trans hbel3)
            have hat3 : RdAt p w3 y2 := stay_box hst3 (alloc_box _ hat2) (by decide) id
            have hys2 : y2.size ≤ x.size := by
              have : y2.size = s.length := by rw [← hy2]; rfl
              omega
            have hh : HoldX w.heap.size 45 w2 w3 := (HoldX.of_below ((Below.refl _ _).alloc (Nat.le_refl _) _)).trans (HoldX.of_stay hst3)
            have hnew := own_snoc (V := ColV) (a := a) hcl hcc (by rfl) (by simp [Value.oneCell']) hown3 (fun i cs x a1 b1 => hVs i cs x a1 b1) rfl
            go_roundw
            case rel => exact ⟨k + 1, acc ++ [a], y2, by omega, by go_num, by rw [List.length_append, hacc]; rfl, hnew, hat3, hys2, hg3, by unfold Hid; rw [HM2.out, hy2]⟩
            case measure => simp [intOf]; omega
        · have hke : z - k = 0 := by omega
          have hyes : Hid (rdMany rdCol z r = some (acc, y.data.toList)) := by
            unfold Hid
            rw [HM.out, hke]
            simp [rdMany]
          clear HM
          go_wp2
          go_ret
          rw [hyes.out]
          exact ⟨hg, _, y, rfl, hown, hat, rfl⟩
end Go.Proofs.Ytndppffcladalaa
