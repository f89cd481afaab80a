/-
  Contracts: package cmd's reader: lists.
-/
import Derived.Test.YtclliljkmmpglaaGreatBase
import Derived.Test.YtclliljkmmpglaaGreatCRd2
namespace Go.Proofs.YtclliljkmmpglaaGreat
open Go.RowKit Num
set_option linter.unusedVariables false
set_option maxRecDepth 100000

/-- 'append' of one struct to a row of the call's own. -/
theorem wpList_appXC {ops : Array Oper} {rest : List Oper} {o : Oper} {a : Act} {Q : Exit → Act → World → Prop} (w : World) (hgd : o.guard = none) (s x : Operand) (S : TypeId)
    (ho : o.op = .call { callee := .builtin .append, args := #[s, x], argTypes := #[S, S] })
    (E : TypeId) (sz bytes : Nat) (hS : Tryz.prog.underlying S = some (.slice E)) {z : Value} (hinfo : (Tryz.prog.info? E).map (fun i => (i.zero, i.size, i.bytes)) = some (some z, sz, bytes))
    (base : Nat) (v : Value) (n : Nat) (xs : List Value) (hs : a.eval s = v) (hown : w.ownsRow base E sz v n xs)
    (ad : Addr) (c : Nat) (cs : List Value) (hx : a.eval x = .slice (some ad) 1 c) (hl : cs.length = sz) (h1 : ∀ u ∈ cs, u.oneCell' = true) (hnews : ∀ j u, cs[j]? = some u → w.cell? (ad.add j) = some u)
    (hb : n ≤ 20000 ∧ 0 < sz ∧ bytes ≤ 100 ∧ z.cells.size = sz) (hbase : base ≤ w.heap.size)
    (h : ∀ v' w', w'.ownsRow base E sz v' (n + 1) (xs ++ cs) → Below base w w' → Stay (fun _ => False) E w w' → wpList Tryz.prog ops Q rest (a.put o.dst v') w') : wpList Tryz.prog ops Q (o :: rest) a w := by
  obtain ⟨i0, hi, hz0, hz1, hz2⟩ := info_parts hinfo
  have hm : (n + 1) * bytes ≤ 20001 * 100 := Nat.mul_le_mul (by omega) hb.2.2.1
  refine wpList_append_own w hgd s x S ho base E i0 z sz bytes hS hi hz0 hz1 hz2 hb.2.2.2 hb.2.1 v n xs hs hown ad 1 c cs hx (by omega) hnews h1 (by unfold maxLen; omega) (by omega) hbase ?_
  intro v' w' hown' hgrow _
  exact h v' w' hown' (Below.grown (Below.refl base w) hgrow hbase (fun k hk => (hown.lt k hk).1)) (Stay.grown hown hgrow)
theorem Tryz.infoVal : (Tryz.prog.info? 119).map (fun i => (i.zero, i.size, i.bytes)) = some (some (.agg #[.int .i64 0, .int .i64 0, .int .u64 0, .string ⟨#[]⟩]), 4, 40) := by kernel_rfl
theorem Tryz.infoRng : (Tryz.prog.info? 67).map (fun i => (i.zero, i.size, i.bytes)) = some (some (.agg #[.string ⟨#[]⟩, .string ⟨#[]⟩]), 2, 32) := by kernel_rfl
theorem Tryz.infoWrt : (Tryz.prog.info? 72).map (fun i => (i.zero, i.size, i.bytes)) = some (some (.agg #[.string ⟨#[]⟩, .string ⟨#[]⟩, .bool false]), 3, 40) := by kernel_rfl
theorem Tryz.infoRow : (Tryz.prog.info? 116).map (fun i => (i.zero, i.size, i.bytes)) = some (some (.slice none 0 0), 1, 24) := by kernel_rfl
theorem min8_rdTxt (s : ByteArray) : 8 ≤ (txtB s).length := by rw [txt_len]; omega
theorem min8_rdRng (x : Rng) : 8 ≤ (rngB x).length := by unfold rngB; rw [List.length_append, txt_len]; omega
theorem min8_rdWrt (x : Wrt) : 8 ≤ (wrtB x).length := by unfold wrtB; rw [List.length_append, txt_len]; omega
theorem min8_rdVal (x : Val) : 8 ≤ (valB x).length := by unfold valB; rw [List.length_append, num8_len]; omega
theorem min8_rdRow (x : List Val) : 8 ≤ (rowB' x).length := by unfold rowB' lstB; rw [List.length_append, num8_len]; omega
theorem rdRow_ex : RdEx rdRow rowB' := rdLst_ex rdVal_ex
set_option maxHeartbeats 2000000 in
theorem gTxts_any {p : Nat} {w : World} {x : ByteArray} (h : RdAt p w x) (hx : x.size ≤ 100000) :
    Calls Tryz.prog 107 #[.pointer (some ⟨p, 0, none⟩), .func (.func 108) #[] #[]] w fun e w' => Rds p w (fun B w' v (l : List ByteArray) => RowS B w' v l) (rdLst rdTxt x.data.toList) e w' := by
  have hp := h.lt
  have hd : x.data.toList.length = x.size := rfl
  have hn := gNat_any h (by omega)
  unfold rdLst
  cases hr : rdNat x.data.toList with
  | none =>
    rw [hr] at hn
    clear hr
    go_enter Tryz.func107, Tryz.ntmps107
    go_wp2_with (go_at_call 133; refine hn.mono ?_; rintro e w1 ⟨hg, rfl⟩)
    exact ⟨rfl, hg, rfl⟩
  | some q =>
    have hle := rdNat_le _ _ hr
    have hzlt := rdNat_ok _ _ hr
    rw [hr] at hn
    clear hr
    obtain ⟨z, r⟩ := q
    simp only [Option.bind_some] at hle hzlt ⊢
    have hzb : (z : Int) ≤ 18446744073709551615 := by omega
    go_enter Tryz.func107, Tryz.ntmps107
    go_wp2_with (go_at_call 133; refine hn.mono ?_; rintro e w1 ⟨hg1, v1, y1, rfl, rfl, hat1, hy1⟩)
    clear hn
    go_loopw [5, 8] (fun v i wr => ∃ (k : Nat) (acc : List ByteArray) (y : ByteArray), k ≤ z ∧ i = .int .u64 (k : Int) ∧ acc.length = k ∧ 8 * k + y.size ≤ x.size ∧ RowS w.heap.size wr v acc ∧ RdAt p wr y ∧ w.grownBy wr (some p) ∧ Hid (rdMany rdTxt z r = (rdMany rdTxt (z - k) y.data.toList).map (fun s => (acc ++ s.1, s.2)))) (fun _ i _ => z - (intOf i).toNat)
    case atStart => exact ⟨0, [], y1, by omega, rfl, rfl, by have := size_of hy1; omega, RowS.nil _ _, hat1, hg1, by unfold Hid; rw [hy1]; simp⟩
    case round =>
      obtain ⟨k, acc, y, hk, rfl, hacc, hys, hown, hat, hg, HM⟩ := hrel
      clear hat1 hy1 hg1
      have hsz := hg.size
      have hyd : y.data.toList.length = y.size := rfl
      by_cases hkl : k < z
      · obtain ⟨m, hm⟩ : ∃ m, z - k = m + 1 := ⟨z - k - 1, by omega⟩
        have hone := gTxt_any hat (by omega)
        have hkz : (k : Int) < (z : Int) := by omega
        cases hre : rdTxt y.data.toList with
        | none =>
          have hno : Hid (rdMany rdTxt z r = none) := by
            unfold Hid
            rw [HM.out, hm]
            unfold rdMany
            rw [hre]
            rfl
          rw [hre] at hone
          clear HM hre
          go_wp2_with (go_at_call 108; refine hone.mono ?_; rintro e w2 ⟨hg2, rfl⟩)
          rw [hno.out]
          exact ⟨rfl, hg.trans hg2, rfl⟩
        | some qq =>
          obtain ⟨a, s⟩ := qq
          have hsle : s.length + 8 ≤ y.size := by
            have h1 := rdTxt_ex _ _ hre
            have h2 := min8_rdTxt a
            simp only at h1
            omega
          have HM2 : Hid (rdMany rdTxt z r = (rdMany rdTxt (z - (k + 1)) s).map (fun t => ((acc ++ [a]) ++ t.1, t.2))) := by
            unfold Hid
            rw [HM.out, hm, show z - (k + 1) = m by omega]
            conv => lhs; unfold rdMany
            rw [hre]
            simp only [Option.bind_some, Option.map_map]
            congr 1
            funext t
            simp
          rw [hre] at hone
          clear HM hre
          go_wp2_with (first
            | (go_at_call 108; refine hone.mono ?_; rintro e w2 ⟨hg2, v2, y2, rfl, rfl, hat2, hy2⟩; have own2 := rowS_hold hown (HoldX.of_grown hg2 hp : HoldX _ 152 _ _) (by decide))
            | (at_builtin; refine wpList_appRowS _ rfl _ _ rfl w.heap.size _ acc rfl (own2.alloc _) _ _ _ rfl (one_cellB _ _ _ _ (by simp)) (by omega) (by have := hg2.size; simp; omega) ?_; intro v3 w3 hown3 hbel3 hst3))
          have hg3 : w.grownBy w3 (some p) := grown_low (hg.trans hg2) ((Below.refl _ _).alloc (hg.trans hg2).size _ |>.trans hbel3)
          have hat3 : RdAt p w3 y2 := stay_box hst3 (alloc_box _ hat2) (by decide) id
          have hys2 : 8 * (k + 1) + y2.size ≤ x.size := by
            have : y2.size = s.length := by rw [← hy2]; rfl
            omega
          go_roundw
          case rel => exact ⟨k + 1, acc ++ [a], y2, by omega, by go_num, by rw [List.length_append, hacc]; rfl, hys2, hown3, hat3, hg3, by unfold Hid; rw [HM2.out, hy2]⟩
          case measure => simp [intOf]; omega
      · have hke : z - k = 0 := by omega
        have hyes : Hid (rdMany rdTxt z r = some (acc, y.data.toList)) := by
          unfold Hid
          rw [HM.out, hke]
          simp [rdMany]
        have hkz : ¬ (k : Int) < (z : Int) := by omega
        clear HM
        go_wp2
        go_ret
        rw [hyes.out]
        exact ⟨hg, _, y, rfl, hown, hat, rfl⟩
set_option maxHeartbeats 2000000 in
theorem gRngs_any {p : Nat} {w : World} {x : ByteArray} (h : RdAt p w x) (hx : x.size ≤ 100000) :
    Calls Tryz.prog 109 #[.pointer (some ⟨p, 0, none⟩), .func (.func 110) #[] #[]] w fun e w' => Rds p w (fun B w' v (l : List Rng) => OwnQ B w' v l) (rdLst rdRng x.data.toList) e w' := by
  have hp := h.lt
  have hd : x.data.toList.length = x.size := rfl
  have hn := gNat_any h (by omega)
  unfold rdLst
  cases hr : rdNat x.data.toList with
  | none =>
    rw [hr] at hn
    clear hr
    go_enter Tryz.func109, Tryz.ntmps109
    go_wp2_with (go_at_call 133; refine hn.mono ?_; rintro e w1 ⟨hg, rfl⟩)
    exact ⟨rfl, hg, rfl⟩
  | some q =>
    have hle := rdNat_le _ _ hr
    have hzlt := rdNat_ok _ _ hr
    rw [hr] at hn
    clear hr
    obtain ⟨z, r⟩ := q
    simp only [Option.bind_some] at hle hzlt ⊢
    have hzb : (z : Int) ≤ 18446744073709551615 := by omega
    go_enter Tryz.func109, Tryz.ntmps109
    go_wp2_with (go_at_call 133; refine hn.mono ?_; rintro e w1 ⟨hg1, v1, y1, rfl, rfl, hat1, hy1⟩)
    clear hn
    go_loopw [5, 8] (fun v i wr => ∃ (k : Nat) (acc : List Rng) (y : ByteArray), k ≤ z ∧ i = .int .u64 (k : Int) ∧ acc.length = k ∧ 8 * k + y.size ≤ x.size ∧ OwnQ w.heap.size wr v acc ∧ RdAt p wr y ∧ w.grownBy wr (some p) ∧ Hid (rdMany rdRng z r = (rdMany rdRng (z - k) y.data.toList).map (fun s => (acc ++ s.1, s.2)))) (fun _ i _ => z - (intOf i).toNat)
    case atStart => exact ⟨0, [], y1, by omega, rfl, rfl, by have := size_of hy1; omega, OwnS.nil _ _ _ _ _, hat1, hg1, by unfold Hid; rw [hy1]; simp⟩
    case round =>
      obtain ⟨k, acc, y, hk, rfl, hacc, hys, hown, hat, hg, HM⟩ := hrel
      clear hat1 hy1 hg1
      have hsz := hg.size
      have hyd : y.data.toList.length = y.size := rfl
      by_cases hkl : k < z
      · obtain ⟨m, hm⟩ : ∃ m, z - k = m + 1 := ⟨z - k - 1, by omega⟩
        have hone := gRng_any hat (by omega)
        have hkz : (k : Int) < (z : Int) := by omega
        cases hre : rdRng y.data.toList with
        | none =>
          have hno : Hid (rdMany rdRng z r = none) := by
            unfold Hid
            rw [HM.out, hm]
            unfold rdMany
            rw [hre]
            rfl
          rw [hre] at hone
          clear HM hre
          go_wp2_with (go_at_call 110; refine hone.mono ?_; rintro e w2 ⟨hg2, rfl⟩)
          rw [hno.out]
          exact ⟨rfl, hg.trans hg2, rfl⟩
        | some qq =>
          obtain ⟨a, s⟩ := qq
          have hsle : s.length + 8 ≤ y.size := by
            have h1 := rdRng_ex _ _ hre
            have h2 := min8_rdRng a
            simp only at h1
            omega
          have HM2 : Hid (rdMany rdRng z r = (rdMany rdRng (z - (k + 1)) s).map (fun t => ((acc ++ [a]) ++ t.1, t.2))) := by
            unfold Hid
            rw [HM.out, hm, show z - (k + 1) = m by omega]
            conv => lhs; unfold rdMany
            rw [hre]
            simp only [Option.bind_some, Option.map_map]
            congr 1
            funext t
            simp
          rw [hre] at hone
          clear HM hre
          go_wp2_with (first
            | (go_at_call 110; refine hone.mono ?_; rintro e w2 ⟨hg2, v2, y2, rfl, ⟨cs, rfl, hVc⟩, hat2, hy2⟩; unfold RngV at hVc; subst hVc; have own2 := ownQ_hold hown (HoldX.of_grown hg2 hp : HoldX _ 152 _ _) (by decide); obtain ⟨css, hcl, hcc, hrow2, hVs⟩ := own2)
            | (at_builtin; refine wpList_appXC _ rfl _ _ 37 rfl 67 2 _ Tryz.underlying37 Tryz.infoRng w.heap.size _ acc.length _ rfl (hrow2.alloc _) _ _ _ rfl (by rfl) (by simp [Value.oneCell']) (new_cells _ _ _ _ (by simp)) ⟨by omega, by omega, by omega, rfl⟩ (by have := hg2.size; simp; omega) ?_; intro v3 w3 hown3 hbel3 hst3))
          have hg3 : w.grownBy w3 (some p) := grown_low (hg.trans hg2) ((Below.refl _ _).alloc (hg.trans hg2).size _ |>.trans hbel3)
          have hat3 : RdAt p w3 y2 := stay_box hst3 (alloc_box _ hat2) (by decide) id
          have hys2 : 8 * (k + 1) + y2.size ≤ x.size := by
            have : y2.size = s.length := by rw [← hy2]; rfl
            omega
          have hh : HoldX w.heap.size 67 w2 w3 := (HoldX.of_below ((Below.refl _ _).alloc (Nat.le_refl _) _)).trans (HoldX.of_stay hst3)
          have hnew := own_snoc (V := RngV) (a := a) hcl hcc (by rfl) (by simp [Value.oneCell']) hown3 (fun i cs x a1 b1 => hVs i cs x a1 b1) rfl
          go_roundw
          case rel => exact ⟨k + 1, acc ++ [a], y2, by omega, by go_num, by rw [List.length_append, hacc]; rfl, hys2, hnew, hat3, hg3, by unfold Hid; rw [HM2.out, hy2]⟩
          case measure => simp [intOf]; omega
      · have hke : z - k = 0 := by omega
        have hyes : Hid (rdMany rdRng z r = some (acc, y.data.toList)) := by
          unfold Hid
          rw [HM.out, hke]
          simp [rdMany]
        have hkz : ¬ (k : Int) < (z : Int) := by omega
        clear HM
        go_wp2
        go_ret
        rw [hyes.out]
        exact ⟨hg, _, y, rfl, hown, hat, rfl⟩
set_option maxHeartbeats 2000000 in
theorem gWrts_any {p : Nat} {w : World} {x : ByteArray} (h : RdAt p w x) (hx : x.size ≤ 100000) :
    Calls Tryz.prog 111 #[.pointer (some ⟨p, 0, none⟩), .func (.func 112) #[] #[]] w fun e w' => Rds p w (fun B w' v (l : List Wrt) => OwnW B w' v l) (rdLst rdWrt x.data.toList) e w' := by
  have hp := h.lt
  have hd : x.data.toList.length = x.size := rfl
  have hn := gNat_any h (by omega)
  unfold rdLst
  cases hr : rdNat x.data.toList with
  | none =>
    rw [hr] at hn
    clear hr
    go_enter Tryz.func111, Tryz.ntmps111
    go_wp2_with (go_at_call 133; refine hn.mono ?_; rintro e w1 ⟨hg, rfl⟩)
    exact ⟨rfl, hg, rfl⟩
  | some q =>
    have hle := rdNat_le _ _ hr
    have hzlt := rdNat_ok _ _ hr
    rw [hr] at hn
    clear hr
    obtain ⟨z, r⟩ := q
    simp only [Option.bind_some] at hle hzlt ⊢
    have hzb : (z : Int) ≤ 18446744073709551615 := by omega
    go_enter Tryz.func111, Tryz.ntmps111
    go_wp2_with (go_at_call 133; refine hn.mono ?_; rintro e w1 ⟨hg1, v1, y1, rfl, rfl, hat1, hy1⟩)
    clear hn
    go_loopw [5, 8] (fun v i wr => ∃ (k : Nat) (acc : List Wrt) (y : ByteArray), k ≤ z ∧ i = .int .u64 (k : Int) ∧ acc.length = k ∧ 8 * k + y.size ≤ x.size ∧ OwnW w.heap.size wr v acc ∧ RdAt p wr y ∧ w.grownBy wr (some p) ∧ Hid (rdMany rdWrt z r = (rdMany rdWrt (z - k) y.data.toList).map (fun s => (acc ++ s.1, s.2)))) (fun _ i _ => z - (intOf i).toNat)
    case atStart => exact ⟨0, [], y1, by omega, rfl, rfl, by have := size_of hy1; omega, OwnS.nil _ _ _ _ _, hat1, hg1, by unfold Hid; rw [hy1]; simp⟩
    case round =>
      obtain ⟨k, acc, y, hk, rfl, hacc, hys, hown, hat, hg, HM⟩ := hrel
      clear hat1 hy1 hg1
      have hsz := hg.size
      have hyd : y.data.toList.length = y.size := rfl
      by_cases hkl : k < z
      · obtain ⟨m, hm⟩ : ∃ m, z - k = m + 1 := ⟨z - k - 1, by omega⟩
        have hone := gWrt_any hat (by omega)
        have hkz : (k : Int) < (z : Int) := by omega
        cases hre : rdWrt y.data.toList with
        | none =>
          have hno : Hid (rdMany rdWrt z r = none) := by
            unfold Hid
            rw [HM.out, hm]
            unfold rdMany
            rw [hre]
            rfl
          rw [hre] at hone
          clear HM hre
          go_wp2_with (go_at_call 112; refine hone.mono ?_; rintro e w2 ⟨hg2, rfl⟩)
          rw [hno.out]
          exact ⟨rfl, hg.trans hg2, rfl⟩
        | some qq =>
          obtain ⟨a, s⟩ := qq
          have hsle : s.length + 8 ≤ y.size := by
            have h1 := rdWrt_ex _ _ hre
            have h2 := min8_rdWrt a
            simp only at h1
            omega
          have HM2 : Hid (rdMany rdWrt z r = (rdMany rdWrt (z - (k + 1)) s).map (fun t => ((acc ++ [a]) ++ t.1, t.2))) := by
            unfold Hid
            rw [HM.out, hm, show z - (k + 1) = m by omega]
            conv => lhs; unfold rdMany
            rw [hre]
            simp only [Option.bind_some, Option.map_map]
            congr 1
            funext t
            simp
          rw [hre] at hone
          clear HM hre
          go_wp2_with (first
            | (go_at_call 112; refine hone.mono ?_; rintro e w2 ⟨hg2, v2, y2, rfl, ⟨cs, rfl, hVc⟩, hat2, hy2⟩; unfold WrtV at hVc; subst hVc; have own2 := ownW_hold hown (HoldX.of_grown hg2 hp : HoldX _ 152 _ _) (by decide); obtain ⟨css, hcl, hcc, hrow2, hVs⟩ := own2)
            | (at_builtin; refine wpList_appXC _ rfl _ _ 38 rfl 72 3 _ Tryz.underlying38 Tryz.infoWrt w.heap.size _ acc.length _ rfl (hrow2.alloc _) _ _ _ rfl (by rfl) (by simp [Value.oneCell']) (new_cells _ _ _ _ (by simp)) ⟨by omega, by omega, by omega, rfl⟩ (by have := hg2.size; simp; omega) ?_; intro v3 w3 hown3 hbel3 hst3))
          have hg3 : w.grownBy w3 (some p) := grown_low (hg.trans hg2) ((Below.refl _ _).alloc (hg.trans hg2).size _ |>.trans hbel3)
          have hat3 : RdAt p w3 y2 := stay_box hst3 (alloc_box _ hat2) (by decide) id
          have hys2 : 8 * (k + 1) + y2.size ≤ x.size := by
            have : y2.size = s.length := by rw [← hy2]; rfl
            omega
          have hh : HoldX w.heap.size 72 w2 w3 := (HoldX.of_below ((Below.refl _ _).alloc (Nat.le_refl _) _)).trans (HoldX.of_stay hst3)
          have hnew := own_snoc (V := WrtV) (a := a) hcl hcc (by rfl) (by simp [Value.oneCell']) hown3 (fun i cs x a1 b1 => hVs i cs x a1 b1) rfl
          go_roundw
          case rel => exact ⟨k + 1, acc ++ [a], y2, by omega, by go_num, by rw [List.length_append, hacc]; rfl, hys2, hnew, hat3, hg3, by unfold Hid; rw [HM2.out, hy2]⟩
          case measure => simp [intOf]; omega
      · have hke : z - k = 0 := by omega
        have hyes : Hid (rdMany rdWrt z r = some (acc, y.data.toList)) := by
          unfold Hid
          rw [HM.out, hke]
          simp [rdMany]
        have hkz : ¬ (k : Int) < (z : Int) := by omega
        clear HM
        go_wp2
        go_ret
        rw [hyes.out]
        exact ⟨hg, _, y, rfl, hown, hat, rfl⟩
set_option maxHeartbeats 2000000 in
theorem gVals_any {p : Nat} {w : World} {x : ByteArray} (h : RdAt p w x) (hx : x.size ≤ 100000) :
    Calls Tryz.prog 135 #[.pointer (some ⟨p, 0, none⟩), .func (.func 136) #[] #[]] w fun e w' => Rds p w (fun B w' v (l : List Val) => OwnV B w' v l) (rdLst rdVal x.data.toList) e w' := by
  have hp := h.lt
  have hd : x.data.toList.length = x.size := rfl
  have hn := gNat_any h (by omega)
  unfold rdLst
  cases hr : rdNat x.data.toList with
  | none =>
    rw [hr] at hn
    clear hr
    go_enter Tryz.func135, Tryz.ntmps135
    go_wp2_with (go_at_call 133; refine hn.mono ?_; rintro e w1 ⟨hg, rfl⟩)
    exact ⟨rfl, hg, rfl⟩
  | some q =>
    have hle := rdNat_le _ _ hr
    have hzlt := rdNat_ok _ _ hr
    rw [hr] at hn
    clear hr
    obtain ⟨z, r⟩ := q
    simp only [Option.bind_some] at hle hzlt ⊢
    have hzb : (z : Int) ≤ 18446744073709551615 := by omega
    go_enter Tryz.func135, Tryz.ntmps135
    go_wp2_with (go_at_call 133; refine hn.mono ?_; rintro e w1 ⟨hg1, v1, y1, rfl, rfl, hat1, hy1⟩)
    clear hn
    go_loopw [5, 8] (fun v i wr => ∃ (k : Nat) (acc : List Val) (y : ByteArray), k ≤ z ∧ i = .int .u64 (k : Int) ∧ acc.length = k ∧ 8 * k + y.size ≤ x.size ∧ OwnV w.heap.size wr v acc ∧ RdAt p wr y ∧ w.grownBy wr (some p) ∧ Hid (rdMany rdVal z r = (rdMany rdVal (z - k) y.data.toList).map (fun s => (acc ++ s.1, s.2)))) (fun _ i _ => z - (intOf i).toNat)
    case atStart => exact ⟨0, [], y1, by omega, rfl, rfl, by have := size_of hy1; omega, OwnS.nil _ _ _ _ _, hat1, hg1, by unfold Hid; rw [hy1]; simp⟩
    case round =>
      obtain ⟨k, acc, y, hk, rfl, hacc, hys, hown, hat, hg, HM⟩ := hrel
      clear hat1 hy1 hg1
      have hsz := hg.size
      have hyd : y.data.toList.length = y.size := rfl
      by_cases hkl : k < z
      · obtain ⟨m, hm⟩ : ∃ m, z - k = m + 1 := ⟨z - k - 1, by omega⟩
        have hone := gVal_any hat (by omega)
        have hkz : (k : Int) < (z : Int) := by omega
        cases hre : rdVal y.data.toList with
        | none =>
          have hno : Hid (rdMany rdVal z r = none) := by
            unfold Hid
            rw [HM.out, hm]
            unfold rdMany
            rw [hre]
            rfl
          rw [hre] at hone
          clear HM hre
          go_wp2_with (go_at_call 136; refine hone.mono ?_; rintro e w2 ⟨hg2, rfl⟩)
          rw [hno.out]
          exact ⟨rfl, hg.trans hg2, rfl⟩
        | some qq =>
          obtain ⟨a, s⟩ := qq
          have hsle : s.length + 8 ≤ y.size := by
            have h1 := rdVal_ex _ _ hre
            have h2 := min8_rdVal a
            simp only at h1
            omega
          have HM2 : Hid (rdMany rdVal z r = (rdMany rdVal (z - (k + 1)) s).map (fun t => ((acc ++ [a]) ++ t.1, t.2))) := by
            unfold Hid
            rw [HM.out, hm, show z - (k + 1) = m by omega]
            conv => lhs; unfold rdMany
            rw [hre]
            simp only [Option.bind_some, Option.map_map]
            congr 1
            funext t
            simp
          rw [hre] at hone
          clear HM hre
          go_wp2_with (first
            | (go_at_call 136; refine hone.mono ?_; rintro e w2 ⟨hg2, v2, y2, rfl, ⟨cs, rfl, hVc⟩, hat2, hy2⟩; unfold ValV at hVc; subst hVc; have own2 := ownV_hold hown (HoldX.of_grown hg2 hp : HoldX _ 152 _ _) (by decide); obtain ⟨css, hcl, hcc, hrow2, hVs⟩ := own2)
            | (at_builtin; refine wpList_appXC _ rfl _ _ 116 rfl 119 4 _ Tryz.underlying116 Tryz.infoVal w.heap.size _ acc.length _ rfl (hrow2.alloc _) _ _ _ rfl (by rfl) (by simp [Value.oneCell']) (new_cells _ _ _ _ (by simp)) ⟨by omega, by omega, by omega, rfl⟩ (by have := hg2.size; simp; omega) ?_; intro v3 w3 hown3 hbel3 hst3))
          have hg3 : w.grownBy w3 (some p) := grown_low (hg.trans hg2) ((Below.refl _ _).alloc (hg.trans hg2).size _ |>.trans hbel3)
          have hat3 : RdAt p w3 y2 := stay_box hst3 (alloc_box _ hat2) (by decide) id
          have hys2 : 8 * (k + 1) + y2.size ≤ x.size := by
            have : y2.size = s.length := by rw [← hy2]; rfl
            omega
          have hh : HoldX w.heap.size 119 w2 w3 := (HoldX.of_below ((Below.refl _ _).alloc (Nat.le_refl _) _)).trans (HoldX.of_stay hst3)
          have hnew := own_snoc (V := ValV) (a := a) hcl hcc (by rfl) (by simp [Value.oneCell']) hown3 (fun i cs x a1 b1 => hVs i cs x a1 b1) rfl
          go_roundw
          case rel => exact ⟨k + 1, acc ++ [a], y2, by omega, by go_num, by rw [List.length_append, hacc]; rfl, hys2, hnew, hat3, hg3, by unfold Hid; rw [HM2.out, hy2]⟩
          case measure => simp [intOf]; omega
      · have hke : z - k = 0 := by omega
        have hyes : Hid (rdMany rdVal z r = some (acc, y.data.toList)) := by
          unfold Hid
          rw [HM.out, hke]
          simp [rdMany]
        have hkz : ¬ (k : Int) < (z : Int) := by omega
        clear HM
        go_wp2
        go_ret
        rw [hyes.out]
        exact ⟨hg, _, y, rfl, hown, hat, rfl⟩
theorem gRow_any {p : Nat} {w : World} {x : ByteArray} (h : RdAt p w x) (hx : x.size ≤ 100000) :
    Calls Tryz.prog 114 #[.pointer (some ⟨p, 0, none⟩)] w fun e w' => Rds p w (fun B w' v (l : List Val) => OwnV B w' v l) (rdRow x.data.toList) e w' := by
  have hmf : ∀ (fn : Fn) (first cap : Array Value) (w : World), (Instr.makeFunc fn first cap).run Tryz.prog w = .ok (.func fn first cap) w := fun _ _ _ _ => rfl
  have hv := gVals_any h hx
  unfold rdRow
  cases hr : rdLst rdVal x.data.toList with
  | none =>
    rw [hr] at hv
    clear hr
    go_enter Tryz.func114, Tryz.ntmps114
    go_wp2_with (go_at_call 135; refine hv.mono ?_; rintro e w1 ⟨hg, rfl⟩)
    exact ⟨rfl, hg, rfl⟩
  | some q =>
    rw [hr] at hv
    clear hr
    go_enter Tryz.func114, Tryz.ntmps114
    go_wp2_with (go_at_call 135; refine hv.mono ?_; rintro e w1 ⟨hg, v, y, rfl, hV, hat, hy⟩)
    go_ret
    exact ⟨hg, _, y, rfl, hV, hat, hy⟩
set_option maxHeartbeats 2000000 in
theorem gRows_any {p : Nat} {w : World} {x : ByteArray} (h : RdAt p w x) (hx : x.size ≤ 100000) :
    Calls Tryz.prog 113 #[.pointer (some ⟨p, 0, none⟩), .func (.func 114) #[] #[]] w fun e w' => Rds p w (fun B w' v (l : List (List Val)) => OwnX B w' v l) (rdLst rdRow x.data.toList) e w' := by
  have hp := h.lt
  have hd : x.data.toList.length = x.size := rfl
  have hn := gNat_any h (by omega)
  unfold rdLst
  cases hr : rdNat x.data.toList with
  | none =>
    rw [hr] at hn
    clear hr
    go_enter Tryz.func113, Tryz.ntmps113
    go_wp2_with (go_at_call 133; refine hn.mono ?_; rintro e w1 ⟨hg, rfl⟩)
    exact ⟨rfl, hg, rfl⟩
  | some q =>
    have hle := rdNat_le _ _ hr
    have hzlt := rdNat_ok _ _ hr
    rw [hr] at hn
    clear hr
    obtain ⟨z, r⟩ := q
    simp only [Option.bind_some] at hle hzlt ⊢
    have hzb : (z : Int) ≤ 18446744073709551615 := by omega
    go_enter Tryz.func113, Tryz.ntmps113
    go_wp2_with (go_at_call 133; refine hn.mono ?_; rintro e w1 ⟨hg1, v1, y1, rfl, rfl, hat1, hy1⟩)
    clear hn
    go_loopw [5, 8] (fun v i wr => ∃ (k : Nat) (acc : List (List Val)) (y : ByteArray), k ≤ z ∧ i = .int .u64 (k : Int) ∧ acc.length = k ∧ 8 * k + y.size ≤ x.size ∧ OwnX w.heap.size wr v acc ∧ RdAt p wr y ∧ w.grownBy wr (some p) ∧ Hid (rdMany rdRow z r = (rdMany rdRow (z - k) y.data.toList).map (fun s => (acc ++ s.1, s.2)))) (fun _ i _ => z - (intOf i).toNat)
    case atStart => exact ⟨0, [], y1, by omega, rfl, rfl, by have := size_of hy1; omega, OwnS.nil _ _ _ _ _, hat1, hg1, by unfold Hid; rw [hy1]; simp⟩
    case round =>
      obtain ⟨k, acc, y, hk, rfl, hacc, hys, hown, hat, hg, HM⟩ := hrel
      clear hat1 hy1 hg1
      have hsz := hg.size
      have hyd : y.data.toList.length = y.size := rfl
      by_cases hkl : k < z
      · obtain ⟨m, hm⟩ : ∃ m, z - k = m + 1 := ⟨z - k - 1, by omega⟩
        have hone := gRow_any hat (by omega)
        have hkz : (k : Int) < (z : Int) := by omega
        cases hre : rdRow y.data.toList with
        | none =>
          have hno : Hid (rdMany rdRow z r = none) := by
            unfold Hid
            rw [HM.out, hm]
            unfold rdMany
            rw [hre]
            rfl
          rw [hre] at hone
          clear HM hre
          go_wp2_with (go_at_call 114; refine hone.mono ?_; rintro e w2 ⟨hg2, rfl⟩)
          rw [hno.out]
          exact ⟨rfl, hg.trans hg2, rfl⟩
        | some qq =>
          obtain ⟨a, s⟩ := qq
          have hsle : s.length + 8 ≤ y.size := by
            have h1 := rdRow_ex _ _ hre
            have h2 := min8_rdRow a
            simp only at h1
            omega
          have HM2 : Hid (rdMany rdRow z r = (rdMany rdRow (z - (k + 1)) s).map (fun t => ((acc ++ [a]) ++ t.1, t.2))) := by
            unfold Hid
            rw [HM.out, hm, show z - (k + 1) = m by omega]
            conv => lhs; unfold rdMany
            rw [hre]
            simp only [Option.bind_some, Option.map_map]
            congr 1
            funext t
            simp
          rw [hre] at hone
          clear HM hre
          go_wp2_with (first
            | (go_at_call 114; refine hone.mono ?_; rintro e w2 ⟨hg2, v2, y2, rfl, hrn, hat2, hy2⟩; obtain ⟨aon, capn, rfl⟩ := OwnS.shape hrn; have own2 := ownX_hold hown (HoldX.of_grown hg2 hp : HoldX _ 152 _ _) (by decide) (by decide); obtain ⟨css, hcl, hcc, hrow2, hVs⟩ := own2)
            | (at_builtin; refine wpList_appXC _ rfl _ _ 39 rfl 116 1 _ Tryz.underlying39 Tryz.infoRow w.heap.size _ acc.length _ rfl (hrow2.alloc _) _ _ _ rfl (by rfl) (by simp [Value.oneCell']) (new_cells _ _ _ _ (by simp)) ⟨by omega, by omega, by omega, rfl⟩ (by have := hg2.size; simp; omega) ?_; intro v3 w3 hown3 hbel3 hst3))
          have hg3 : w.grownBy w3 (some p) := grown_low (hg.trans hg2) ((Below.refl _ _).alloc (hg.trans hg2).size _ |>.trans hbel3)
          have hat3 : RdAt p w3 y2 := stay_box hst3 (alloc_box _ hat2) (by decide) id
          have hys2 : 8 * (k + 1) + y2.size ≤ x.size := by
            have : y2.size = s.length := by rw [← hy2]; rfl
            omega
          have hh : HoldX w.heap.size 116 w2 w3 := (HoldX.of_below ((Below.refl _ _).alloc (Nat.le_refl _) _)).trans (HoldX.of_stay hst3)
          have hnew := own_snoc (V := RowV) (a := a) hcl hcc (by rfl) (by simp [Value.oneCell']) hown3 (fun i cs x a1 b1 => rowV_hold (hVs i cs x a1 b1) hh (by decide)) ⟨_, rfl, ownV_hold (ownV_mono hrn hsz) hh (by decide)⟩
          go_roundw
          case rel => exact ⟨k + 1, acc ++ [a], y2, by omega, by go_num, by rw [List.length_append, hacc]; rfl, hys2, hnew, hat3, hg3, by unfold Hid; rw [HM2.out, hy2]⟩
          case measure => simp [intOf]; omega
      · have hke : z - k = 0 := by omega
        have hyes : Hid (rdMany rdRow z r = some (acc, y.data.toList)) := by
          unfold Hid
          rw [HM.out, hke]
          simp [rdMany]
        have hkz : ¬ (k : Int) < (z : Int) := by omega
        clear HM
        go_wp2
        go_ret
        rw [hyes.out]
        exact ⟨hg, _, y, rfl, hown, hat, rfl⟩
end Go.Proofs.YtclliljkmmpglaaGreat
