/-
  Contracts: package cmd's reader: lists.
-/
import Derived.Test.YtbhaahkjglfjmaaCRd2
namespace Go.Proofs.Ytbhaahkjglfjmaa
open Go.RowKit Num
set_option linter.unusedVariables false

theorem size_of {y : ByteArray} {r : List UInt8} (h : y.data.toList = r) : y.size = r.length := by
  rw [← h]
  rfl
theorem new_cells (w : World) (t : TypeId) (cs : List Value) (b : Nat) (hb : w.heap.size = b) : ∀ j u, cs[j]? = some u → (w.alloc (.cells cs.toArray t)).cell? ((⟨b, 0, none⟩ : Addr).add j) = some u := by
  intro j u hj
  subst hb
  rw [Addr.add_lit, Nat.zero_add]
  exact box_cell (heap_new w _) j u (by simpa using hj)
/-- 'append' of one struct to a row of the call's own. -/
theorem wpList_appX {ops : Array Oper} {rest : List Oper} {o : Oper} {a : Act} {Q : Exit → Act → World → Prop} (w : World) (hgd : o.guard = none) (s x : Operand) (S : TypeId)
    (ho : o.op = .call { callee := .builtin .append, args := #[s, x], argTypes := #[S, S] })
    (E : TypeId) (sz bytes : Nat) (hS : Try.prog.underlying S = some (.slice E)) {z : Value} (hinfo : (Try.prog.info? E).map (fun i => (i.zero, i.size, i.bytes)) = some (some z, sz, bytes))
    (base : Nat) (v : Value) (n : Nat) (xs : List Value) (hs : a.eval s = v) (hown : w.ownsRow base E sz v n xs)
    (ad : Addr) (c : Nat) (cs : List Value) (hx : a.eval x = .slice (some ad) 1 c) (hl : cs.length = sz) (h1 : ∀ u ∈ cs, u.oneCell' = true) (hnews : ∀ j u, cs[j]? = some u → w.cell? (ad.add j) = some u)
    (hb : n ≤ 20000 ∧ 0 < sz ∧ bytes ≤ 100 ∧ z.cells.size = sz) (hbase : base ≤ w.heap.size)
    (h : ∀ v' w', w'.ownsRow base E sz v' (n + 1) (xs ++ cs) → Below base w w' → Stay (fun _ => False) E w w' → wpList Try.prog ops Q rest (a.put o.dst v') w') : wpList Try.prog ops Q (o :: rest) a w := by
  obtain ⟨i0, hi, hz0, hz1, hz2⟩ := info_parts hinfo
  have hm : (n + 1) * bytes ≤ 20001 * 100 := Nat.mul_le_mul (by omega) hb.2.2.1
  refine wpList_append_own w hgd s x S ho base E i0 z sz bytes hS hi hz0 hz1 hz2 hb.2.2.2 hb.2.1 v n xs hs hown ad 1 c cs hx (by omega) hnews h1 (by unfold maxLen; omega) (by omega) hbase ?_
  intro v' w' hown' hgrow _
  exact h v' w' hown' (Below.grown (Below.refl base w) hgrow hbase (fun k hk => (hown.lt k hk).1)) (Stay.grown hown hgrow)
theorem grown_low {w W W' : World} {p : Nat} (h : w.grownBy W (some p)) (k : Below w.heap.size W W') : w.grownBy W' (some p) :=
  ⟨k.os.trans h.os, k.tape.trans h.tape, k.output.trans h.output, Nat.le_trans h.size k.size, fun i hi hne => (k.block i hi).trans (h.block i hi hne)⟩
theorem own_snoc {α : Type} {V : Nat → World → List Value → α → Prop} {e : TypeId} {sz B : Nat} {w3 : World} {v3 : Value} {acc : List α} {a : α} {cs : List Value} {css : List (List Value)} (hcl : css.length = acc.length) (hcc : ∀ cs ∈ css, cs.length = sz ∧ ∀ u ∈ cs, u.oneCell' = true) (h1 : cs.length = sz) (h2 : ∀ u ∈ cs, u.oneCell' = true)
    (hrow : w3.ownsRow B e sz v3 (acc.length + 1) (css.flatten ++ cs)) (hVs : ∀ (i : Nat) cs x, css[i]? = some cs → acc[i]? = some x → V B w3 cs x) (hVa : V B w3 cs a) : OwnS V e sz B w3 v3 (acc ++ [a]) := by
  refine ⟨css ++ [cs], by simp [hcl], fun c hc => ?_, ?_, fun i c x hi hx => ?_⟩
  · rcases List.mem_append.1 hc with hc | hc
    · exact hcc c hc
    · rw [List.mem_singleton.1 hc]
      exact ⟨h1, h2⟩
  · rw [List.flatten_append, List.length_append]
    simpa using hrow
  · by_cases hlt : i < css.length
    · rw [List.getElem?_append_left hlt] at hi
      rw [List.getElem?_append_left (by omega)] at hx
      exact hVs i c x hi hx
    · rw [List.getElem?_append_right (by omega)] at hi
      rw [List.getElem?_append_right (by omega)] at hx
      have e0 : i - css.length = 0 := by
        have := (List.getElem?_eq_some_iff.1 hi).1
        simp at this
        omega
      rw [e0] at hi
      rw [show i - acc.length = 0 by omega] at hx
      simp at hi hx
      subst hi hx
      exact hVa
theorem Try.infoVal : (Try.prog.info? 45).map (fun i => (i.zero, i.size, i.bytes)) = some (some (.agg #[.int .i64 0, .int .i64 0, .int .u64 0, .string ⟨#[]⟩]), 4, 40) := by kernel_rfl
theorem Try.infoRng : (Try.prog.info? 50).map (fun i => (i.zero, i.size, i.bytes)) = some (some (.agg #[.string ⟨#[]⟩, .string ⟨#[]⟩]), 2, 32) := by kernel_rfl
theorem Try.infoWrt : (Try.prog.info? 41).map (fun i => (i.zero, i.size, i.bytes)) = some (some (.agg #[.string ⟨#[]⟩, .string ⟨#[]⟩, .bool false]), 3, 40) := by kernel_rfl
theorem Try.infoRow : (Try.prog.info? 42).map (fun i => (i.zero, i.size, i.bytes)) = some (some (.slice none 0 0), 1, 24) := by kernel_rfl
theorem min8_rdTxt (s : ByteArray) : 8 ≤ (txtB s).length := by rw [txt_len]; omega
theorem min8_rdRng (x : Rng) : 8 ≤ (rngB x).length := by unfold rngB; rw [List.length_append, txt_len]; omega
theorem min8_rdWrt (x : Wrt) : 8 ≤ (wrtB x).length := by unfold wrtB; rw [List.length_append, txt_len]; omega
theorem min8_rdVal (x : Val) : 8 ≤ (valB x).length := by unfold valB; rw [List.length_append, num8_len]; omega
theorem min8_rdRow (x : List Val) : 8 ≤ (rowB' x).length := by unfold rowB' lstB; rw [List.length_append, num8_len]; omega
theorem rdRow_ex : RdEx rdRow rowB' := rdLst_ex rdVal_ex
set_option maxHeartbeats 2000000 in
theorem gTxts_any {p : Nat} {w : World} {x : ByteArray} (h : RdAt p w x) (hx : x.size ≤ 100000) :
    Calls Try.prog 58 #[.pointer (some ⟨p, 0, none⟩), .func (.func 59) #[] #[]] w fun e w' => Rds p w (fun B w' v (l : List ByteArray) => RowS B w' v l) (rdLst rdTxt x.data.toList) e w' := by
  have hp := h.lt
  have hd : x.data.toList.length = x.size := rfl
  have hn := gNat_any h (by omega)
  unfold rdLst
  cases hr : rdNat x.data.toList with
  | none =>
    rw [hr] at hn
    clear hr
    go_enter Try.func58, Try.ntmps58
    go_wp2_with (go_at_call 73; refine hn.mono ?_; rintro e w1 ⟨hg, rfl⟩)
    exact ⟨rfl, hg, rfl⟩
  | some q =>
    have hle := rdNat_le _ _ hr
    have hzlt := rdNat_ok _ _ hr
    rw [hr] at hn
    clear hr
    obtain ⟨z, r⟩ := q
    simp only [Option.bind_some] at hle hzlt ⊢
    have hzb : (z : Int) ≤ 18446744073709551615 := by omega
    go_enter Try.func58, Try.ntmps58
    go_wp2_with (go_at_call 73; refine hn.mono ?_; rintro e w1 ⟨hg1, v1, y1, rfl, rfl, hat1, hy1⟩)
    clear hn
    go_loopw [5, 8] (fun v i wr => ∃ (k : Nat) (acc : List ByteArray) (y : ByteArray), k ≤ z ∧ i = .int .u64 (k : Int) ∧ acc.length = k ∧ 8 * k + y.size ≤ x.size ∧ RowS w.heap.size wr v acc ∧ RdAt p wr y ∧ w.grownBy wr (some p) ∧ Hid (rdMany rdTxt z r = (rdMany rdTxt (z - k) y.data.toList).map (fun s => (acc ++ s.1, s.2)))) (fun _ i _ => z - (intOf i).toNat)
    case atStart => exact ⟨0, [], y1, by omega, rfl, rfl, by have := size_of hy1; omega, RowS.nil _ _, hat1, hg1, by unfold Hid; rw [hy1]; simp⟩
    case round =>
      obtain ⟨k, acc, y, hk, rfl, hacc, hys, hown, hat, hg, HM⟩ := hrel
      clear hat1 hy1 hg1
      have hsz := hg.size
      have hyd : y.data.toList.length = y.size := rfl
      by_cases hkl : k < z
      · obtain ⟨m, hm⟩ : ∃ m, z - k = m + 1 := ⟨z - k - 1, by omega⟩
        have hone := gTxt_any hat (by omega)
        have hkz : (k : Int) < (z : Int) := by omega
        cases hre : rdTxt y.data.toList with
        | none =>
          have hno : Hid (rdMany rdTxt z r = none) := by
            unfold Hid
            rw [HM.out, hm]
            unfold rdMany
            rw [hre]
            rfl
          rw [hre] at hone
          clear HM hre
          go_wp2_with (go_at_call 59; refine hone.mono ?_; rintro e w2 ⟨hg2, rfl⟩)
          rw [hno.out]
          exact ⟨rfl, hg.trans hg2, rfl⟩
        | some qq =>
          obtain ⟨a, s⟩ := qq
          have hsle : s.length + 8 ≤ y.size := by
            have h1 := rdTxt_ex _ _ hre
            have h2 := min8_rdTxt a
            simp only at h1
            omega
          have HM2 : Hid (rdMany rdTxt z r = (rdMany rdTxt (z - (k + 1)) s).map (fun t => ((acc ++ [a]) ++ t.1, t.2))) := by
            unfold Hid
            rw [HM.out, hm, show z - (k + 1) = m by omega]
            conv => lhs; unfold rdMany
            rw [hre]
            simp only [Option.bind_some, Option.map_map]
            congr 1
            funext t
            simp
          rw [hre] at hone
          clear HM hre
          go_wp2_with (first
            | (go_at_call 59; refine hone.mono ?_; rintro e w2 ⟨hg2, v2, y2, rfl, rfl, hat2, hy2⟩; have own2 := rowS_hold hown (HoldX.of_grown hg2 hp : HoldX _ 71 _ _) (by decide))
            | (at_builtin; refine wpList_appRowS _ rfl _ _ rfl w.heap.size _ acc rfl (own2.alloc _) _ _ _ rfl (one_cellB _ _ _ _ (by simp)) (by omega) (by have := hg2.size; simp; omega) ?_; intro v3 w3 hown3 hbel3 hst3))
          have hg3 : w.grownBy w3 (some p) := grown_low (hg.trans hg2) ((Below.refl _ _).alloc (hg.trans hg2).size _ |>.trans hbel3)
          have hat3 : RdAt p w3 y2 := stay_box hst3 (alloc_box _ hat2) (by decide) id
          have hys2 : 8 * (k + 1) + y2.size ≤ x.size := by
            have : y2.size = s.length := by rw [← hy2]; rfl
            omega
          go_roundw
          case rel => exact ⟨k + 1, acc ++ [a], y2, by omega, by go_num, by rw [List.length_append, hacc]; rfl, hys2, hown3, hat3, hg3, by unfold Hid; rw [HM2.out, hy2]⟩
          case measure => simp [intOf]; omega
      · have hke : z - k = 0 := by omega
        have hyes : Hid (rdMany rdTxt z r = some (acc, y.data.toList)) := by
          unfold Hid
          rw [HM.out, hke]
          simp [rdMany]
        have hkz : ¬ (k : Int) < (z : Int) := by omega
        clear HM
        go_wp2
        go_ret
        rw [hyes.out]
        exact ⟨hg, _, y, rfl, hown, hat, rfl⟩
set_option maxHeartbeats 2000000 in
theorem gRngs_any {p : Nat} {w : World} {x : ByteArray} (h : RdAt p w x) (hx : x.size ≤ 100000) :
    Calls Try.prog 60 #[.pointer (some ⟨p, 0, none⟩), .func (.func 61) #[] #[]] w fun e w' => Rds p w (fun B w' v (l : List Rng) => OwnQ B w' v l) (rdLst rdRng x.data.toList) e w' := by
  have hp := h.lt
  have hd : x.data.toList.length = x.size := rfl
  have hn := gNat_any h (by omega)
  unfold rdLst
  cases hr : rdNat x.data.toList with
  | none =>
    rw [hr] at hn
    clear hr
    go_enter Try.func60, Try.ntmps60
    go_wp2_with (go_at_call 73; refine hn.mono ?_; rintro e w1 ⟨hg, rfl⟩)
    exact ⟨rfl, hg, rfl⟩
  | some q =>
    have hle := rdNat_le _ _ hr
    have hzlt := rdNat_ok _ _ hr
    rw [hr] at hn
    clear hr
    obtain ⟨z, r⟩ := q
    simp only [Option.bind_some] at hle hzlt ⊢
    have hzb : (z : Int) ≤ 18446744073709551615 := by omega
    go_enter Try.func60, Try.ntmps60
    go_wp2_with (go_at_call 73; refine hn.mono ?_; rintro e w1 ⟨hg1, v1, y1, rfl, rfl, hat1, hy1⟩)
    clear hn
    go_loopw [5, 8] (fun v i wr => ∃ (k : Nat) (acc : List Rng) (y : ByteArray), k ≤ z ∧ i = .int .u64 (k : Int) ∧ acc.length = k ∧ 8 * k + y.size ≤ x.size ∧ OwnQ w.heap.size wr v acc ∧ RdAt p wr y ∧ w.grownBy wr (some p) ∧ Hid (rdMany rdRng z r = (rdMany rdRng (z - k) y.data.toList).map (fun s => (acc ++ s.1, s.2)))) (fun _ i _ => z - (intOf i).toNat)
    case atStart => exact ⟨0, [], y1, by omega, rfl, rfl, by have := size_of hy1; omega, OwnS.nil _ _ _ _ _, hat1, hg1, by unfold Hid; rw [hy1]; simp⟩
    case round =>
      obtain ⟨k, acc, y, hk, rfl, hacc, hys, hown, hat, hg, HM⟩ := hrel
      clear hat1 hy1 hg1
      have hsz := hg.size
      have hyd : y.data.toList.length = y.size := rfl
      by_cases hkl : k < z
      · obtain ⟨m, hm⟩ : ∃ m, z - k = m + 1 := ⟨z - k - 1, by omega⟩
        have hone := gRng_any hat (by omega)
        have hkz : (k : Int) < (z : Int) := by omega
        cases hre : rdRng y.data.toList with
        | none =>
          have hno : Hid (rdMany rdRng z r = none) := by
            unfold Hid
            rw [HM.out, hm]
            unfold rdMany
            rw [hre]
            rfl
          rw [hre] at hone
          clear HM hre
          go_wp2_with (go_at_call 61; refine hone.mono ?_; rintro e w2 ⟨hg2, rfl⟩)
          rw [hno.out]
          exact ⟨rfl, hg.trans hg2, rfl⟩
        | some qq =>
          obtain ⟨a, s⟩ := qq
          have hsle : s.length + 8 ≤ y.size := by
            have h1 := rdRng_ex _ _ hre
            have h2 := min8_rdRng a
            simp only at h1
            omega
          have HM2 : Hid (rdMany rdRng z r = (rdMany rdRng (z - (k + 1)) s).map (fun t => ((acc ++ [a]) ++ t.1, t.2))) := by
            unfold Hid
            rw [HM.out, hm, show z - (k + 1) = m by omega]
            conv => lhs; unfold rdMany
            rw [hre]
            simp only [Option.bind_some, Option.map_map]
            congr 1
            funext t
            simp
          rw [hre] at hone
          clear HM hre
          go_wp2_with (first
            | (go_at_call 61; refine hone.mono ?_; rintro e w2 ⟨hg2, v2, y2, rfl, ⟨cs, rfl, hVc⟩, hat2, hy2⟩; unfold RngV at hVc; subst hVc; have own2 := ownQ_hold hown (HoldX.of_grown hg2 hp : HoldX _ 71 _ _) (by decide); obtain ⟨css, hcl, hcc, hrow2, hVs⟩ := own2)
            | (at_builtin; refine wpList_appX _ rfl _ _ 23 rfl 50 2 _ Try.underlying23 Try.infoRng w.heap.size _ acc.length _ rfl (hrow2.alloc _) _ _ _ rfl (by rfl) (by simp [Value.oneCell']) (new_cells _ _ _ _ (by simp)) ⟨by omega, by omega, by omega, rfl⟩ (by have := hg2.size; simp; omega) ?_; intro v3 w3 hown3 hbel3 hst3))
          have hg3 : w.grownBy w3 (some p) := grown_low (hg.trans hg2) ((Below.refl _ _).alloc (hg.trans hg2).size _ |>.trans hbel3)
          have hat3 : RdAt p w3 y2 := stay_box hst3 (alloc_box _ hat2) (by decide) id
          have hys2 : 8 * (k + 1) + y2.size ≤ x.size := by
            have : y2.size = s.length := by rw [← hy2]; rfl
            omega
          have hh : HoldX w.heap.size 50 w2 w3 := (HoldX.of_below ((Below.refl _ _).alloc (Nat.le_refl _) _)).trans (HoldX.of_stay hst3)
          have hnew := own_snoc (V := RngV) (a := a) hcl hcc (by rfl) (by simp [Value.oneCell']) hown3 (fun i cs x a1 b1 => hVs i cs x a1 b1) rfl
          go_roundw
          case rel => exact ⟨k + 1, acc ++ [a], y2, by omega, by go_num, by rw [List.length_append, hacc]; rfl, hys2, hnew, hat3, hg3, by unfold Hid; rw [HM2.out, hy2]⟩
          case measure => simp [intOf]; omega
      · have hke : z - k = 0 := by omega
        have hyes : Hid (rdMany rdRng z r = some (acc, y.data.toList)) := by
          unfold Hid
          rw [HM.out, hke]
          simp [rdMany]
        have hkz : ¬ (k : Int) < (z : Int) := by omega
        clear HM
        go_wp2
        go_ret
        rw [hyes.out]
        exact ⟨hg, _, y, rfl, hown, hat, rfl⟩
set_option maxHeartbeats 2000000 in
theorem gWrts_any {p : Nat} {w : World} {x : ByteArray} (h : RdAt p w x) (hx : x.size ≤ 100000) :
    Calls Try.prog 62 #[.pointer (some ⟨p, 0, none⟩), .func (.func 63) #[] #[]] w fun e w' => Rds p w (fun B w' v (l : List Wrt) => OwnW B w' v l) (rdLst rdWrt x.data.toList) e w' := by
  have hp := h.lt
  have hd : x.data.toList.length = x.size := rfl
  have hn := gNat_any h (by omega)
  unfold rdLst
  cases hr : rdNat x.data.toList with
  | none =>
    rw [hr] at hn
    clear hr
    go_enter Try.func62, Try.ntmps62
    go_wp2_with (go_at_call 73; refine hn.mono ?_; rintro e w1 ⟨hg, rfl⟩)
    exact ⟨rfl, hg, rfl⟩
  | some q =>
    have hle := rdNat_le _ _ hr
    have hzlt := rdNat_ok _ _ hr
    rw [hr] at hn
    clear hr
    obtain ⟨z, r⟩ := q
    simp only [Option.bind_some] at hle hzlt ⊢
    have hzb : (z : Int) ≤ 18446744073709551615 := by omega
    go_enter Try.func62, Try.ntmps62
    go_wp2_with (go_at_call 73; refine hn.mono ?_; rintro e w1 ⟨hg1, v1, y1, rfl, rfl, hat1, hy1⟩)
    clear hn
    go_loopw [5, 8] (fun v i wr => ∃ (k : Nat) (acc : List Wrt) (y : ByteArray), k ≤ z ∧ i = .int .u64 (k : Int) ∧ acc.length = k ∧ 8 * k + y.size ≤ x.size ∧ OwnW w.heap.size wr v acc ∧ RdAt p wr y ∧ w.grownBy wr (some p) ∧ Hid (rdMany rdWrt z r = (rdMany rdWrt (z - k) y.data.toList).map (fun s => (acc ++ s.1, s.2)))) (fun _ i _ => z - (intOf i).toNat)
    case atStart => exact ⟨0, [], y1, by omega, rfl, rfl, by have := size_of hy1; omega, OwnS.nil _ _ _ _ _, hat1, hg1, by unfold Hid; rw [hy1]; simp⟩
    case round =>
      obtain ⟨k, acc, y, hk, rfl, hacc, hys, hown, hat, hg, HM⟩ := hrel
      clear hat1 hy1 hg1
      have hsz := hg.size
      have hyd : y.data.toList.length = y.size := rfl
      by_cases hkl : k < z
      · obtain ⟨m, hm⟩ : ∃ m, z - k = m + 1 := ⟨z - k - 1, by omega⟩
        have hone := gWrt_any hat (by omega)
        have hkz : (k : Int) < (z : Int) := by omega
        cases hre : rdWrt y.data.toList with
        | none =>
          have hno : Hid (rdMany rdWrt z r = none) := by
            unfold Hid
            rw [HM.out, hm]
            unfold rdMany
            rw [hre]
            rfl
          rw [hre] at hone
          clear HM hre
          go_wp2_with (go_at_call 63; refine hone.mono ?_; rintro e w2 ⟨hg2, rfl⟩)
          rw [hno.out]
          exact ⟨rfl, hg.trans hg2, rfl⟩
        | some qq =>
          obtain ⟨a, s⟩ := qq
          have hsle : s.length + 8 ≤ y.size := by
            have h1 := rdWrt_ex _ _ hre
            have h2 := min8_rdWrt a
            simp only at h1
            omega
          have HM2 : Hid (rdMany rdWrt z r = (rdMany rdWrt (z - (k + 1)) s).map (fun t => ((acc ++ [a]) ++ t.1, t.2))) := by
            unfold Hid
            rw [HM.out, hm, show z - (k + 1) = m by omega]
            conv => lhs; unfold rdMany
            rw [hre]
            simp only [Option.bind_some, Option.map_map]
            congr 1
            funext t
            simp
          rw [hre] at hone
          clear HM hre
          go_wp2_with (first
            | (go_at_call 63; refine hone.mono ?_; rintro e w2 ⟨hg2, v2, y2, rfl, ⟨cs, rfl, hVc⟩, hat2, hy2⟩; unfold WrtV at hVc; subst hVc; have own2 := ownW_hold hown (HoldX.of_grown hg2 hp : HoldX _ 71 _ _) (by decide); obtain ⟨css, hcl, hcc, hrow2, hVs⟩ := own2)
            | (at_builtin; refine wpList_appX _ rfl _ _ 24 rfl 41 3 _ Try.underlying24 Try.infoWrt w.heap.size _ acc.length _ rfl (hrow2.alloc _) _ _ _ rfl (by rfl) (by simp [Value.oneCell']) (new_cells _ _ _ _ (by simp)) ⟨by omega, by omega, by omega, rfl⟩ (by have := hg2.size; simp; omega) ?_; intro v3 w3 hown3 hbel3 hst3))
          have hg3 : w.grownBy w3 (some p) := grown_low (hg.trans hg2) ((Below.refl _ _).alloc (hg.trans hg2).size _ |>.trans hbel3)
          have hat3 : RdAt p w3 y2 := stay_box hst3 (alloc_box _ hat2) (by decide) id
          have hys2 : 8 * (k + 1) + y2.size ≤ x.size := by
            have : y2.size = s.length := by rw [← hy2]; rfl
            omega
          have hh : HoldX w.heap.size 41 w2 w3 := (HoldX.of_below ((Below.refl _ _).alloc (Nat.le_refl _) _)).trans (HoldX.of_stay hst3)
          have hnew := own_snoc (V := WrtV) (a := a) hcl hcc (by rfl) (by simp [Value.oneCell']) hown3 (fun i cs x a1 b1 => hVs i cs x a1 b1) rfl
          go_roundw
          case rel => exact ⟨k + 1, acc ++ [a], y2, by omega, by go_num, by rw [List.length_append, hacc]; rfl, hys2, hnew, hat3, hg3, by unfold Hid; rw [HM2.out, hy2]⟩
          case measure => simp [intOf]; omega
      · have hke : z - k = 0 := by omega
        have hyes : Hid (rdMany rdWrt z r = some (acc, y.data.toList)) := by
          unfold Hid
          rw [HM.out, hke]
          simp [rdMany]
        have hkz : ¬ (k : Int) < (z : Int) := by omega
        clear HM
        go_wp2
        go_ret
        rw [hyes.out]
        exact ⟨hg, _, y, rfl, hown, hat, rfl⟩
set_option maxHeartbeats 2000000 in
theorem gVals_any {p : Nat} {w : World} {x : ByteArray} (h : RdAt p w x) (hx : x.size ≤ 100000) :
    Calls Try.prog 75 #[.pointer (some ⟨p, 0, none⟩), .func (.func 76) #[] #[]] w fun e w' => Rds p w (fun B w' v (l : List Val) => OwnV B w' v l) (rdLst rdVal x.data.toList) e w' := by
  have hp := h.lt
  have hd : x.data.toList.length = x.size := rfl
  have hn := gNat_any h (by omega)
  unfold rdLst
  cases hr : rdNat x.data.toList with
  | none =>
    rw [hr] at hn
    clear hr
    go_enter Try.func75, Try.ntmps75
    go_wp2_with (go_at_call 73; refine hn.mono ?_; rintro e w1 ⟨hg, rfl⟩)
    exact ⟨rfl, hg, rfl⟩
  | some q =>
    have hle := rdNat_le _ _ hr
    have hzlt := rdNat_ok _ _ hr
    rw [hr] at hn
    clear hr
    obtain ⟨z, r⟩ := q
    simp only [Option.bind_some] at hle hzlt ⊢
    have hzb : (z : Int) ≤ 18446744073709551615 := by omega
    go_enter Try.func75, Try.ntmps75
    go_wp2_with (go_at_call 73; refine hn.mono ?_; rintro e w1 ⟨hg1, v1, y1, rfl, rfl, hat1, hy1⟩)
    clear hn
    go_loopw [5, 8] (fun v i wr => ∃ (k : Nat) (acc : List Val) (y : ByteArray), k ≤ z ∧ i = .int .u64 (k : Int) ∧ acc.length = k ∧ 8 * k + y.size ≤ x.size ∧ OwnV w.heap.size wr v acc ∧ RdAt p wr y ∧ w.grownBy wr (some p) ∧ Hid (rdMany rdVal z r = (rdMany rdVal (z - k) y.data.toList).map (fun s => (acc ++ s.1, s.2)))) (fun _ i _ => z - (intOf i).toNat)
    case atStart => exact ⟨0, [], y1, by omega, rfl, rfl, by have := size_of hy1; omega, OwnS.nil _ _ _ _ _, hat1, hg1, by unfold Hid; rw [hy1]; simp⟩
    case round =>
      obtain ⟨k, acc, y, hk, rfl, hacc, hys, hown, hat, hg, HM⟩ := hrel
      clear hat1 hy1 hg1
      have hsz := hg.size
      have hyd : y.data.toList.length = y.size := rfl
      by_cases hkl : k < z
      · obtain ⟨m, hm⟩ : ∃ m, z - k = m + 1 := ⟨z - k - 1, by omega⟩
        have hone := gVal_any hat (by omega)
        have hkz : (k : Int) < (z : Int) := by omega
        cases hre : rdVal y.data.toList with
        | none =>
          have hno : Hid (rdMany rdVal z r = none) := by
            unfold Hid
            rw [HM.out, hm]
            unfold rdMany
            rw [hre]
            rfl
          rw [hre] at hone
          clear HM hre
          go_wp2_with (go_at_call 76; refine hone.mono ?_; rintro e w2 ⟨hg2, rfl⟩)
          rw [hno.out]
          exact ⟨rfl, hg.trans hg2, rfl⟩
        | some qq =>
          obtain ⟨a, s⟩ := qq
          have hsle : s.length + 8 ≤ y.size := by
            have h1 := rdVal_ex _ _ hre
            have h2 := min8_rdVal a
            simp only at h1
            omega
          have HM2 : Hid (rdMany rdVal z r = (rdMany rdVal (z - (k + 1)) s).map (fun t => ((acc ++ [a]) ++ t.1, t.2))) := by
            unfold Hid
            rw [HM.out, hm, show z - (k + 1) = m by omega]
            conv => lhs; unfold rdMany
            rw [hre]
            simp only [Option.bind_some, Option.map_map]
            congr 1
            funext t
            simp
          rw [hre] at hone
          clear HM hre
          go_wp2_with (first
            | (go_at_call 76; refine hone.mono ?_; rintro e w2 ⟨hg2, v2, y2, rfl, ⟨cs, rfl, hVc⟩, hat2, hy2⟩; unfold ValV at hVc; subst hVc; have own2 := ownV_hold hown (HoldX.of_grown hg2 hp : HoldX _ 71 _ _) (by decide); obtain ⟨css, hcl, hcc, hrow2, hVs⟩ := own2)
            | (at_builtin; refine wpList_appX _ rfl _ _ 42 rfl 45 4 _ Try.underlying42 Try.infoVal w.heap.size _ acc.length _ rfl (hrow2.alloc _) _ _ _ rfl (by rfl) (by simp [Value.oneCell']) (new_cells _ _ _ _ (by simp)) ⟨by omega, by omega, by omega, rfl⟩ (by have := hg2.size; simp; omega) ?_; intro v3 w3 hown3 hbel3 hst3))
          have hg3 : w.grownBy w3 (some p) := grown_low (hg.trans hg2) ((Below.refl _ _).alloc (hg.trans hg2).size _ |>.trans hbel3)
          have hat3 : RdAt p w3 y2 := stay_box hst3 (alloc_box _ hat2) (by decide) id
          have hys2 : 8 * (k + 1) + y2.size ≤ x.size := by
            have : y2.size = s.length := by rw [← hy2]; rfl
            omega
          have hh : HoldX w.heap.size 45 w2 w3 := (HoldX.of_below ((Below.refl _ _).alloc (Nat.le_refl _) _)).trans (HoldX.of_stay hst3)
          have hnew := own_snoc (V := ValV) (a := a) hcl hcc (by rfl) (by simp [Value.oneCell']) hown3 (fun i cs x a1 b1 => hVs i cs x a1 b1) rfl
          go_roundw
          case rel => exact ⟨k + 1, acc ++ [a], y2, by omega, by go_num, by rw [List.length_append, hacc]; rfl, hys2, hnew, hat3, hg3, by unfold Hid; rw [HM2.out, hy2]⟩
          case measure => simp [intOf]; omega
      · have hke : z - k = 0 := by omega
        have hyes : Hid (rdMany rdVal z r = some (acc, y.data.toList)) := by
          unfold Hid
          rw [HM.out, hke]
          simp [rdMany]
        have hkz : ¬ (k : Int) < (z : Int) := by omega
        clear HM
        go_wp2
        go_ret
        rw [hyes.out]
        exact ⟨hg, _, y, rfl, hown, hat, rfl⟩
theorem gRow_any {p : Nat} {w : World} {x : ByteArray} (h : RdAt p w x) (hx : x.size ≤ 100000) :
    Calls Try.prog 65 #[.pointer (some ⟨p, 0, none⟩)] w fun e w' => Rds p w (fun B w' v (l : List Val) => OwnV B w' v l) (rdRow x.data.toList) e w' := by
  have hmf : ∀ (fn : Fn) (first cap : Array Value) (w : World), (Instr.makeFunc fn first cap).run Try.prog w = .ok (.func fn first cap) w := fun _ _ _ _ => rfl
  have hv := gVals_any h hx
  unfold rdRow
  cases hr : rdLst rdVal x.data.toList with
  | none =>
    rw [hr] at hv
    clear hr
    go_enter Try.func65, Try.ntmps65
    go_wp2_with (go_at_call 75; refine hv.mono ?_; rintro e w1 ⟨hg, rfl⟩)
    exact ⟨rfl, hg, rfl⟩
  | some q =>
    rw [hr] at hv
    clear hr
    go_enter Try.func65, Try.ntmps65
    go_wp2_with (go_at_call 75; refine hv.mono ?_; rintro e w1 ⟨hg, v, y, rfl, hV, hat, hy⟩)
    go_ret
    exact ⟨hg, _, y, rfl, hV, hat, hy⟩
set_option maxHeartbeats 2000000 in
theorem gRows_any {p : Nat} {w : World} {x : ByteArray} (h : RdAt p w x) (hx : x.size ≤ 100000) :
    Calls Try.prog 64 #[.pointer (some ⟨p, 0, none⟩), .func (.func 65) #[] #[]] w fun e w' => Rds p w (fun B w' v (l : List (List Val)) => OwnX B w' v l) (rdLst rdRow x.data.toList) e w' := by
  have hp := h.lt
  have hd : x.data.toList.length = x.size := rfl
  have hn := gNat_any h (by omega)
  unfold rdLst
  cases hr : rdNat x.data.toList with
  | none =>
    rw [hr] at hn
    clear hr
    go_enter Try.func64, Try.ntmps64
    go_wp2_with (go_at_call 73; refine hn.mono ?_; rintro e w1 ⟨hg, rfl⟩)
    exact ⟨rfl, hg, rfl⟩
  | some q =>
    have hle := rdNat_le _ _ hr
    have hzlt := rdNat_ok _ _ hr
    rw [hr] at hn
    clear hr
    obtain ⟨z, r⟩ := q
    simp only [Option.bind_some] at hle hzlt ⊢
    have hzb : (z : Int) ≤ 18446744073709551615 := by omega
    go_enter Try.func64, Try.ntmps64
    go_wp2_with (go_at_call 73; refine hn.mono ?_; rintro e w1 ⟨hg1, v1, y1, rfl, rfl, hat1, hy1⟩)
    clear hn
    go_loopw [5, 8] (fun v i wr => ∃ (k : Nat) (acc : List (List Val)) (y : ByteArray), k ≤ z ∧ i = .int .u64 (k : Int) ∧ acc.length = k ∧ 8 * k + y.size ≤ x.size ∧ OwnX w.heap.size wr v acc ∧ RdAt p wr y ∧ w.grownBy wr (some p) ∧ Hid (rdMany rdRow z r = (rdMany rdRow (z - k) y.data.toList).map (fun s => (acc ++ s.1, s.2)))) (fun _ i _ => z - (intOf i).toNat)
    case atStart => exact ⟨0, [], y1, by omega, rfl, rfl, by have := size_of hy1; omega, OwnS.nil _ _ _ _ _, hat1, hg1, by unfold Hid; rw [hy1]; simp⟩
    case round =>
      obtain ⟨k, acc, y, hk, rfl, hacc, hys, hown, hat, hg, HM⟩ := hrel
      clear hat1 hy1 hg1
      have hsz := hg.size
      have hyd : y.data.toList.length = y.size := rfl
      by_cases hkl : k < z
      · obtain ⟨m, hm⟩ : ∃ m, z - k = m + 1 := ⟨z - k - 1, by omega⟩
        have hone := gRow_any hat (by omega)
        have hkz : (k : Int) < (z : Int) := by omega
        cases hre : rdRow y.data.toList with
        | none =>
          have hno : Hid (rdMany rdRow z r = none) := by
            unfold Hid
            rw [HM.out, hm]
            unfold rdMany
            rw [hre]
            rfl
          rw [hre] at hone
          clear HM hre
          go_wp2_with (go_at_call 65; refine hone.mono ?_; rintro e w2 ⟨hg2, rfl⟩)
          rw [hno.out]
          exact ⟨rfl, hg.trans hg2, rfl⟩
        | some qq =>
          obtain ⟨a, s⟩ := qq
          have hsle : s.length + 8 ≤ y.size := by
            have h1 := rdRow_ex _ _ hre
            have h2 := min8_rdRow a
            simp only at h1
            omega
          have HM2 : Hid (rdMany rdRow z r = (rdMany rdRow (z - (k + 1)) s).map (fun t => ((acc ++ [a]) ++ t.1, t.2))) := by
            unfold Hid
            rw [HM.out, hm, show z - (k + 1) = m by omega]
            conv => lhs; unfold rdMany
            rw [hre]
            simp only [Option.bind_some, Option.map_map]
            congr 1
            funext t
            simp
          rw [hre] at hone
          clear HM hre
          go_wp2_with (first
            | (go_at_call 65; refine hone.mono ?_; rintro e w2 ⟨hg2, v2, y2, rfl, hrn, hat2, hy2⟩; obtain ⟨aon, capn, rfl⟩ := OwnS.shape hrn; have own2 := ownX_hold hown (HoldX.of_grown hg2 hp : HoldX _ 71 _ _) (by decide) (by decide); obtain ⟨css, hcl, hcc, hrow2, hVs⟩ := own2)
            | (at_builtin; refine wpList_appX _ rfl _ _ 25 rfl 42 1 _ Try.underlying25 Try.infoRow w.heap.size _ acc.length _ rfl (hrow2.alloc _) _ _ _ rfl (by rfl) (by simp [Value.oneCell']) (new_cells _ _ _ _ (by simp)) ⟨by omega, by omega, by omega, rfl⟩ (by have := hg2.size; simp; omega) ?_; intro v3 w3 hown3 hbel3 hst3))
          have hg3 : w.grownBy w3 (some p) := grown_low (hg.trans hg2) ((Below.refl _ _).alloc (hg.trans hg2).size _ |>.trans hbel3)
          have hat3 : RdAt p w3 y2 := stay_box hst3 (alloc_box _ hat2) (by decide) id
          have hys2 : 8 * (k + 1) + y2.size ≤ x.size := by
            have : y2.size = s.length := by rw [← hy2]; rfl
            omega
          have hh : HoldX w.heap.size 42 w2 w3 := (HoldX.of_below ((Below.refl _ _).alloc (Nat.le_refl _) _)).trans (HoldX.of_stay hst3)
          have hnew := own_snoc (V := RowV) (a := a) hcl hcc (by rfl) (by simp [Value.oneCell']) hown3 (fun i cs x a1 b1 => rowV_hold (hVs i cs x a1 b1) hh (by decide)) ⟨_, rfl, ownV_hold (ownV_mono hrn hsz) hh (by decide)⟩
          go_roundw
          case rel => exact ⟨k + 1, acc ++ [a], y2, by omega, by go_num, by rw [List.length_append, hacc]; rfl, hys2, hnew, hat3, hg3, by unfold Hid; rw [HM2.out, hy2]⟩
          case measure => simp [intOf]; omega
      · have hke : z - k = 0 := by omega
        have hyes : Hid (rdMany rdRow z r = some (acc, y.data.toList)) := by
          unfold Hid
          rw [HM.out, hke]
          simp [rdMany]
        have hkz : ¬ (k : Int) < (z : Int) := by omega
        clear HM
        go_wp2
        go_ret
        rw [hyes.out]
        exact ⟨hg, _, y, rfl, hown, hat, rfl⟩
end Go.Proofs.Ytbhaahkjglfjmaa
