/-
  Contracts: the reader of bytes of package lex.
-/
import Derived.Test.YtiajlhjjmlakmaaGreatDoorLxQh
namespace Go.Proofs.YtiajlhjjmlakmaaGreatDoor
open Go.RowKit Num
set_option linter.unusedVariables false
set_option maxRecDepth 100000

theorem below_up {w w' w'' : World} {o : Obj} (h : Below (w.alloc o).heap.size (w.alloc o) w') {x : Obj} (h2 : Below (w.heap.size + 1) (w'.alloc x) w'') : Below (w.alloc o).heap.size (w.alloc o) w'' :=
  (h.alloc h.size x).trans (by simpa using h2)
theorem pairsL_next : ∀ (k : Nat) (d : List UInt8) (h : 2 * k + 1 < d.length), pairsL (d.take (2 * (k + 1))) = pairsL (d.take (2 * k)) ++ [UInt8.ofNat (nib d[2 * k] * 16 + nib d[2 * k + 1])]
  | 0, d, h => by
    match d, h with
    | a :: b :: r, _ => rfl
  | k + 1, d, h => by
    match d, h with
    | a :: b :: r, h =>
      simp only [List.length_cons] at h
      have ih := pairsL_next k r (by omega)
      show UInt8.ofNat (nib a * 16 + nib b) :: pairsL (r.take (2 * (k + 1))) = (UInt8.ofNat (nib a * 16 + nib b) :: pairsL (r.take (2 * k))) ++ _
      rw [ih]
      rfl
theorem pairsL_len : ∀ (k : Nat) (d : List UInt8), 2 * k ≤ d.length → (pairsL (d.take (2 * k))).length = k
  | 0, d, h => by simp [pairsL]
  | k + 1, d, h => by
    rw [pairsL_next k d (by omega), List.length_append, pairsL_len k d (by omega)]
    rfl
theorem pair_at (x : ByteArray) (d : List UInt8) (hx : x = str d) (k : Nat) (h : 2 * k + 1 < d.length) : (x.extract (2 * k) (2 * k + 2)).data.toList = [d[2 * k], d[2 * k + 1]] := by
  subst hx
  rw [Go.Lib.extract_data, data_str]
  rw [show 2 * k + 2 - 2 * k = 2 by omega, List.drop_eq_getElem_cons (by omega), List.drop_eq_getElem_cons (by omega)]
  rfl
set_option maxHeartbeats 1000000 in
theorem readBytes_any (s : ByteArray) (hs : 2 ≤ s.size) (hs2 : s.size ≤ 100000) (w : World) :
    Calls Tryz.prog 47 #[.string s] w fun e w' => e = .returned (tkV s.data.toList (bytesT (s.data.toList.drop 2))) ∧ Below w.heap.size w w' := by
  cases hd : digsG (s.data.toList.drop 2) with
  | none =>
    have hres : Hid (tkV s.data.toList (bytesT (s.data.toList.drop 2)) = .tuple #[tokV 0 ⟨#[]⟩ noV 0, .bool false]) := by
      unfold Hid bytesT
      rw [hd]
      rfl
    have hr := readDigits_no s hs (by omega) hd
    clear hd
    go_enter Tryz.func47, Tryz.ntmps47
    go_wp2_with (first
      | (go_at_call 90; refine (hr _).mono ?_; rintro e w1 ⟨rfl, hb1⟩; have hz := zbox_at hb1; obtain ⟨q0, q1, q2, q3, q4, q5, q6⟩ := cells7 hz; obtain ⟨z0, z1, z2, z3, z4, z5, z6⟩ := free7 hz; clear hz))
    refine bodyPost_ret (v := .tuple #[tokV 0 ⟨#[]⟩ noV 0, .bool false]) (by simp [results, Tryz.results47, go_sem, tokV, noV, q0, q1, q2, q3, q4, q5, q6]) rfl ⟨by rw [hres.out], ?_⟩
    exact below_set7 (below_box0 hb1) (Nat.le_refl _) _ _ _ _ _ _ _
  | some d =>
    have hr := readDigits_yes s hs (by omega) d hd
    have hlen := digsG_len hd
    have hl : s.data.toList.length = s.size := rfl
    simp only [List.length_drop] at hlen
    obtain ⟨x, hx⟩ : ∃ x, str d = x := ⟨_, rfl⟩
    have hxs : x.size = d.length := by rw [← hx, size_str]
    rw [hx] at hr
    obtain ⟨t, ht⟩ : ∃ t, str (s.data.toList.take (d.length + 3)) = t := ⟨_, rfl⟩
    rw [ht] at hr
    by_cases h2 : d.length % 2 = 0
    · obtain ⟨h, hh⟩ : ∃ h, d.length = 2 * h := ⟨d.length / 2, by omega⟩
      have hxi : (x.size : Int) % 2 = 0 := by omega
      have hxd : (x.size : Int) / 2 = (h : Int) := by omega
      have hxm : (x.size : Int) ≤ 100000 := by omega
      have hhm : h ≤ 50000 := by omega
      have hn0 : ∀ k, k < h → ∀ p : ByteArray, x.extract (2 * k) (2 * k + 2) = p → ∃ N B, N < 256 ∧ B = UInt8.ofNat N ∧ pairsL (d.take (2 * (k + 1))) = pairsL (d.take (2 * k)) ++ [B] ∧ ∀ w, Calls Tryz.prog 91 #[.string p] w fun e w' => e = .returned (.int .u64 ((N : Nat) : Int)) ∧ w' = w := by
        intro k hk p hp
        have hd2 := pair_at x d hx.symm k (by omega)
        rw [hp] at hd2
        have hall := digsG_hex hd
        have ha := nib_lt (hall d[2 * k] (List.getElem_mem _))
        have hb := nib_lt (hall d[2 * k + 1] (List.getElem_mem _))
        refine ⟨nib d[2 * k] * 16 + nib d[2 * k + 1], _, by omega, rfl, pairsL_next k d (by omega), ?_⟩
        have hps : p.size = 2 := by
          have := congrArg List.length hd2
          exact this
        have hnn := number_any p (by omega) (by
          rw [hd2]
          intro c hc
          simp only [List.mem_cons, List.not_mem_nil, or_false] at hc
          rcases hc with rfl | rfl
          · exact hall _ (List.getElem_mem _)
          · exact hall _ (List.getElem_mem _))
        rw [hd2] at hnn
        have e : hexNum [d[2 * k], d[2 * k + 1]] = nib d[2 * k] * 16 + nib d[2 * k + 1] := by simp [hexNum]
        rw [e] at hnn
        exact hnn
      have hn : Hid (∀ k, k < h → ∀ p : ByteArray, x.extract (2 * k) (2 * k + 2) = p → ∃ N B, N < 256 ∧ B = UInt8.ofNat N ∧ pairsL (d.take (2 * (k + 1))) = pairsL (d.take (2 * k)) ++ [B] ∧ ∀ w, Calls Tryz.prog 91 #[.string p] w fun e w' => e = .returned (.int .u64 ((N : Nat) : Int)) ∧ w' = w) := hn0
      clear hn0
      have hfull : Hid (d.take (2 * h) = d ∧ (pairsL d).length = h) := by
        have e : d.take (2 * h) = d := List.take_of_length_le (by omega)
        exact ⟨e, by rw [← pairsL_len h d (by omega), e]⟩
      have hres : Hid (tkV s.data.toList (bytesT (s.data.toList.drop 2)) = if h ≤ 40 then .tuple #[tokV 3 t ⟨4, 0, 0, str (pairsL d)⟩ 0, .bool true] else .tuple #[tokV 0 ⟨#[]⟩ noV 0, .bool false]) := by
        unfold Hid bytesT
        rw [hd]
        simp only
        by_cases h40 : h ≤ 40
        · rw [if_pos ⟨h2, by omega⟩, if_pos h40]
          show Value.tuple #[tokV 3 (str (s.data.toList.take (d.length + 3))) _ 0, .bool true] = _
          rw [ht]
        · rw [if_neg (by omega), if_neg h40]
          rfl
      clear hd hlen hl hx hxs h2 ht hh
      have hxe : ((x.size : Int) % 2 == 0) = true := by simpa using hxi
      obtain ⟨i0, hi, hz0, hz1, hz2⟩ := info_parts Tryz.infoU8
      go_enter Tryz.func47, Tryz.ntmps47
      go_wp2_with (first
        | (go_at_call 90; refine (hr _).mono ?_; rintro e w1 ⟨rfl, hb1⟩)
        | (at_make; refine wpList_make_own _ rfl _ _ 110 rfl (w.heap.size + 1) 5 i0 (.int .u8 0) 1 Tryz.underlying110 hi hz0 hz1 _ _ _ h rfl rfl (by omega) (by rw [hz2]; omega) (by unfold maxLen; omega) (by have := hb1.size; simp at this; omega) ?_; intro w2 hown2 hgrow2))
      have hb2 : Below (w.alloc zBox).heap.size (w.alloc zBox) w2 := hb1.grown hgrow2 hb1.size (by simp)
      clear hgrow2 hb1 hr
      go_loopw [7, 8, 31] (fun v _ i wr => ∃ k : Nat, k ≤ h ∧ i = .int .i64 (k : Int) ∧ wr.ownsRow (w.heap.size + 1) 5 1 v k (cellsOf (pairsL (d.take (2 * k)))) ∧ Below (w.alloc zBox).heap.size (w.alloc zBox) wr) (fun _ _ i _ => h - (intOf i).toNat)
      case atStart => exact ⟨0, by omega, rfl, hown2, hb2⟩
      case round =>
        obtain ⟨k, hk, rfl, hown, hbel⟩ := hrel
        clear hown2 hb2
        have hsz : w.heap.size + 1 ≤ wr.heap.size := by have := hbel.size; simpa using this
        by_cases hkh : k < h
        · obtain ⟨p, hp⟩ : ∃ p, x.extract (2 * k) (2 * k + 2) = p := ⟨_, rfl⟩
          obtain ⟨N, B, hN, hB, hnx, hnum⟩ := hn.out k hkh p hp
          have hBn : (N : Int) = ((B.toNat : Nat) : Int) := by
            rw [hB]
            rw [ofNat_toNat hN]
          have hnx : Hid (pairsL (d.take (2 * (k + 1))) = pairsL (d.take (2 * k)) ++ [B]) := hnx
          have hks : (2 : Int) * (k : Int) + 2 ≤ (x.size : Int) := by omega
          clear hB
          go_wp2_with (first
            | (go_at_call 91; refine (hnum _).mono ?_; rintro e w3 ⟨rfl, rfl⟩)
            | (at_builtin; refine wpList_app _ rfl _ _ rfl (w.heap.size + 1) _ k _ rfl (World.ownsRow.alloc hown _) _ _ _ [B] rfl rfl (one_new _ _ _ _ rfl) (by omega) (by simp; omega) ?_; intro v4 w4 hown4 hbel4))
          rw [← hnx.out] at hown4
          go_roundw
          case rel => exact ⟨k + 1, by omega, by go_num, hown4, below_up hbel hbel4⟩
          case measure => simp [intOf]; omega
        · obtain rfl : k = h := by omega
          rw [hfull.out.1] at hown
          have hconv := conv_own _ _ _ _ _ hown
          have hdl := hfull.out.2
          generalize pairsL d = P at *
          by_cases h40 : k ≤ 40
          · have hres2 : Hid (tkV s.data.toList (bytesT (s.data.toList.drop 2)) = .tuple #[tokV 3 t ⟨4, 0, 0, str P⟩ 0, .bool true]) := by
              unfold Hid
              rw [hres.out, if_pos h40]
            have hv := valued_yes t ⟨4, 0, 0, str P⟩ (by simp [Val.may, may, size_str, hdl]; omega)
            unfold Val.v tokV at hv
            clear hres hn hfull hdl
            go_wp2_with (first
              | (go_at_call 92; refine (hv _).mono ?_; rintro e w3 ⟨rfl, hb3⟩; have hz := heap_next (zbox_at hbel) hb3; obtain ⟨q0, q1, q2, q3, q4, q5, q6⟩ := cells7 hz; obtain ⟨z0, z1, z2, z3, z4, z5, z6⟩ := free7 hz; clear hz))
            refine bodyPost_ret (v := .tuple #[tokV 3 t ⟨4, 0, 0, str P⟩ 0, .bool true]) (by simp [results, Tryz.results47, go_sem, tokV, q0, q1, q2, q3, q4, q5, q6]) rfl ⟨by rw [hres2.out], ?_⟩
            exact below_set7 (below_two hbel hb3) (Nat.le_refl _) _ _ _ _ _ _ _
          · have hres2 : Hid (tkV s.data.toList (bytesT (s.data.toList.drop 2)) = .tuple #[tokV 0 ⟨#[]⟩ noV 0, .bool false]) := by
              unfold Hid
              rw [hres.out, if_neg h40]
            have hv := valued_no t ⟨4, 0, 0, str P⟩ (by simp [Val.may, may, size_str, hdl]; omega)
            unfold Val.v tokV noV at hv
            clear hres hn hfull hdl
            go_wp2_with (first
              | (go_at_call 92; refine (hv _).mono ?_; rintro e w3 ⟨rfl, hb3⟩; have hz := heap_next (zbox_at hbel) hb3; obtain ⟨q0, q1, q2, q3, q4, q5, q6⟩ := cells7 hz; obtain ⟨z0, z1, z2, z3, z4, z5, z6⟩ := free7 hz; clear hz))
            refine bodyPost_ret (v := .tuple #[tokV 0 ⟨#[]⟩ noV 0, .bool false]) (by simp [results, Tryz.results47, go_sem, tokV, noV, q0, q1, q2, q3, q4, q5, q6]) rfl ⟨by rw [hres2.out], ?_⟩
            exact below_set7 (below_two hbel hb3) (Nat.le_refl _) _ _ _ _ _ _ _
    · have hres : Hid (tkV s.data.toList (bytesT (s.data.toList.drop 2)) = .tuple #[tokV 0 ⟨#[]⟩ noV 0, .bool false]) := by
        unfold Hid bytesT
        rw [hd]
        simp only
        rw [if_neg (by omega)]
        rfl
      have hxi : ¬ (x.size : Int) % 2 = 0 := by omega
      have hxi2 : ((x.size : Int) % 2 == 0) = false := by simpa using hxi
      clear hd hlen hl hx hxs h2 ht
      go_enter Tryz.func47, Tryz.ntmps47
      go_wp2_with (first
        | (go_at_call 90; refine (hr _).mono ?_; rintro e w1 ⟨rfl, hb1⟩; have hz := zbox_at hb1; obtain ⟨q0, q1, q2, q3, q4, q5, q6⟩ := cells7 hz; obtain ⟨z0, z1, z2, z3, z4, z5, z6⟩ := free7 hz; clear hz))
      refine bodyPost_ret (v := .tuple #[tokV 0 ⟨#[]⟩ noV 0, .bool false]) (by simp [results, Tryz.results47, go_sem, tokV, noV, q0, q1, q2, q3, q4, q5, q6]) rfl ⟨by rw [hres.out], ?_⟩
      exact below_set7 (below_box0 hb1) (Nat.le_refl _) _ _ _ _ _ _ _
end Go.Proofs.YtiajlhjjmlakmaaGreatDoor
