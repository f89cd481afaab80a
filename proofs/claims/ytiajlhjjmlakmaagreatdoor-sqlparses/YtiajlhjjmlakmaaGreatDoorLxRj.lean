import Derived.Test.YtiajlhjjmlakmaaGreatDoorLxRh
namespace Go.Proofs.YtiajlhjjmlakmaaGreatDoor
open Go.RowKit Num
set_option maxHeartbeats 1000000
set_option linter.unusedVariables false
set_option maxRecDepth 100000
set_option linter.unusedSimpArgs false

theorem run_one1 (W : World) (base : Nat) (v : Value) (l : List UInt8) (hown : W.ownsRow base 5 1 v l.length (cellsOf l)) (b : UInt8) (hl : l.length ≤ 100000) (hbase : base ≤ W.heap.size) :
    ∃ v' w', (Builtin.append_ #[110, 110] 110 #[v, .slice (some ⟨W.heap.size, 0, none⟩) 1 1]).run Tryz.prog ((W.alloc (.cells #[.int .u8 (b.toNat : Int)] 5)).drew) = .ok v' w' ∧
      w'.ownsRow base 5 1 v' (l ++ [b]).length (cellsOf (l ++ [b])) ∧ Below base W w' := by
  obtain ⟨i0, hi, hz0, hz1, hz2⟩ := info_parts Tryz.infoU8
  obtain ⟨v', w', hr, h2, h3, _, _⟩ := run_append_own_at (P := Tryz.prog) ((W.alloc (.cells #[.int .u8 (b.toNat : Int)] 5)).drew) base 110 110 5 i0 (.int .u8 0) 1 1 Tryz.underlying110 hi hz0 hz1 hz2 rfl (by decide) v l.length (cellsOf l) (World.ownsRow.drew (World.ownsRow.alloc hown _)) ⟨W.heap.size, 0, none⟩ 1 1 (cellsOf [b]) rfl (by
      intro j u hj
      have := one_new W 5 b _ rfl j u hj
      exact this) (by
      intro u hu
      simp only [cellsOf, List.map_cons, List.map_nil, List.mem_cons, List.not_mem_nil, or_false] at hu
      subst hu
      rfl) (by unfold maxLen; omega) (by omega) (by simp; omega)
  refine ⟨v', w', hr, ?_, ?_⟩
  · have e : cellsOf l ++ cellsOf [b] = cellsOf (l ++ [b]) := by simp [cellsOf]
    rw [e] at h2
    rw [show (l ++ [b]).length = l.length + 1 by simp]
    exact h2
  · exact ((((Below.refl base W).alloc hbase _).drew).grown h3 (by simp; omega) (fun k hk => (hown.lt k hk).1))
theorem hex_says {s : ByteArray} {p J : Nat} (hJ : HexTo (s.data.toList.drop (p + 2)) (2 * J)) {q : List UInt8} (hq : (s.data.toList.drop (p + 2)).drop (2 * J) = 39 :: q) (b : Bool) (hb : b = decide (J ≤ 40)) :
    RefSays s p (bytesT (s.data.toList.drop (p + 2))) (.returned (.tuple #[tokV 3 (s.extract p (p + 2 + 2 * J + 1)) ⟨4, 0, 0, str (pairsL ((s.data.toList.drop (p + 2)).take (2 * J)))⟩ (p : Int), .int .i64 (((p + 2 + 2 * J : Nat) : Int) + 1), .bool b])) := by
  have hd := hex_quote hJ hq
  have hdl : ((s.data.toList.drop (p + 2)).take (2 * J)).length = 2 * J := by rw [List.length_take]; have := hJ.1; omega
  have hfin : bytesT (s.data.toList.drop (p + 2)) = if J ≤ 40 then some (3, 2 * J + 3, ⟨4, 0, 0, str (pairsL ((s.data.toList.drop (p + 2)).take (2 * J)))⟩) else none := by
    rw [bytesT, hd]
    simp only [hdl]
    by_cases h40 : J ≤ 40
    · rw [if_pos ⟨by omega, by omega⟩, if_pos h40]
    · rw [if_neg (by omega), if_neg h40]
  rw [hfin]
  subst hb
  by_cases h40 : J ≤ 40
  · rw [if_pos h40, decide_eq_true h40]
    show _ = _
    rw [ext_sub, show p + 2 + 2 * J + 1 - p = 2 * J + 3 by omega, show (((p + 2 + 2 * J : Nat) : Int) + 1) = ((p + (2 * J + 3) : Nat) : Int) by omega]
  · rw [if_neg h40, decide_eq_false h40]
    exact ⟨_, _, _, _, _, rfl⟩
theorem hex_at {s : ByteArray} {p J : Nat} (hJ : HexTo (s.data.toList.drop (p + 2)) (2 * J)) {q : List UInt8} (hq : (s.data.toList.drop (p + 2)).drop (2 * J) = 39 :: q) :
    p + 2 + 2 * J < s.size ∧ (∀ h : p + 2 + 2 * J < s.size, s[p + 2 + 2 * J].toNat = 39) ∧ (∀ i (h : p + 2 + i < s.size), i < 2 * J → hexB s[p + 2 + i] = true ∧ ∃ h2 : i < (s.data.toList.drop (p + 2)).length, (s.data.toList.drop (p + 2))[i] = s[p + 2 + i]) := by
  have hl : s.data.toList.length = s.size := rfl
  have hn := congrArg List.length hq
  rw [List.length_drop, List.length_drop, List.length_cons, hl] at hn
  refine ⟨by omega, fun h => ?_, fun i h hi => ?_⟩
  · rw [List.drop_drop] at hq
    have hd := sdrop_at s (p + 2 + 2 * J) h
    rw [hd] at hq
    rw [(List.cons.inj hq).1]
    rfl
  · have h2 : i < (s.data.toList.drop (p + 2)).length := by rw [List.length_drop, hl]; omega
    have e : (s.data.toList.drop (p + 2))[i] = s[p + 2 + i] := List.getElem_drop
    exact ⟨by rw [← e]; exact hJ.2 i h2 hi, h2, e⟩
theorem refHex_x (s : ByteArray) (p : Nat) (hp : p + 1 < s.size) (hs2 : s.size ≤ 1000) {J : Nat} {q : List UInt8} (hJ : HexTo (s.data.toList.drop (p + 2)) (2 * J)) (hq : (s.data.toList.drop (p + 2)).drop (2 * J) = 39 :: q) (h120 : s[p].toNat = 120) (w : World) :
    Calls Tryz.prog 67 #[.string s, .int .i64 (p : Int)] w fun e w' => RefSays s p (bytesT (s.data.toList.drop (p + 2))) e ∧ Below w.heap.size w w' := by
  have hsm : (s.size : Int) ≤ 1000 := by omega
  have hH := hex_at hJ hq
  have hz := hH.1
  have h39 := hH.2.1 hz
  have hsay := hex_says hJ hq
  clear hJ hq
  go_enter Tryz.func67, Tryz.ntmps67
  go_wp2
  go_loopw [7, 8] (fun v i wr => ∃ (j : Nat), j ≤ J ∧ i = .int .i64 ((p + 2 + 2 * j : Nat) : Int) ∧ wr.ownsRow (w.heap.size + 1) 5 1 v j (cellsOf (pairsL ((s.data.toList.drop (p + 2)).take (2 * j)))) ∧ Below (w.alloc zBoxR).heap.size (w.alloc zBoxR) wr) (fun _ i _ => s.size - (intOf i).toNat)
  case atStart => exact ⟨0, by omega, by go_num, World.ownsRow_nil _ _ _ _, Below.refl _ _⟩
  case round =>
    obtain ⟨j, hj, rfl, hown, hbel⟩ := hrel
    have hsz : w.heap.size + 1 ≤ wr.heap.size := by have := hbel.size; simpa using this
    by_cases hjJ : j < J
    · have hkk : p + 2 + (2 * j + 1) < s.size := by omega
      obtain ⟨hxa, hr0, e0⟩ := hH.2.2 (2 * j) (by omega) (by omega)
      obtain ⟨hxb, hr1, e1⟩ := hH.2.2 (2 * j + 1) hkk (by omega)
      obtain ⟨k, hkj⟩ : ∃ k, p + 2 + 2 * j = k := ⟨_, rfl⟩
      simp only [← Nat.add_assoc, hkj] at hxa hxb e0 e1 hkk
      have hks : k < s.size := by omega
      have hk1i : (k : Int) + 1 < (s.size : Int) := by omega
      rw [hkj]
      obtain ⟨hha, hvl⟩ := half_hex hxa
      obtain ⟨hhb, hvm⟩ := half_hex hxb
      have hnx0 := pairsL_next j (s.data.toList.drop (p + 2)) hr1
      rw [e0, e1] at hnx0
      obtain ⟨A, hA⟩ : ∃ A, nib s[k] = A := ⟨_, rfl⟩
      obtain ⟨B, hB⟩ : ∃ B, nib s[k + 1] = B := ⟨_, rfl⟩
      rw [hA] at hha hvl hnx0
      rw [hB] at hhb hvm hnx0
      obtain ⟨U, hU⟩ : ∃ U, UInt8.ofNat (A * 16 + B) = U := ⟨_, rfl⟩
      rw [hU] at hnx0
      have hUn : (A : Int) * 16 + (B : Int) = ((U.toNat : Nat) : Int) := by
        rw [← hU, ofNat_toNat (by omega)]
        omega
      have hpl : (pairsL ((s.data.toList.drop (p + 2)).take (2 * j))).length = j := pairsL_len j _ (by omega)
      obtain ⟨v', w', hrun, hown2, hbel2⟩ := run_one1 wr (w.heap.size + 1) _ (pairsL ((s.data.toList.drop (p + 2)).take (2 * j))) (by rw [hpl]; exact hown) U (by omega) hsz
      have hl2 : (pairsL ((s.data.toList.drop (p + 2)).take (2 * j)) ++ [U]).length = j + 1 := by simp [hpl]
      rw [hl2, ← hnx0] at hown2
      have hpos1 : (0 : Int) ≤ (A : Int) := by omega
      have hpos2 : (0 : Int) ≤ (B : Int) := by omega
      have hwr : IntKind.i64.wrap ((k : Int) + 1) = (k : Int) + 1 := by rw [IntKind.wrap_i64]; omega
      have hw1 : IntKind.i64.wrap (16 * (A : Int)) = 16 * (A : Int) := by rw [IntKind.wrap_i64]; omega
      have hw2 : IntKind.i64.wrap (16 * (A : Int) + (B : Int)) = ((U.toNat : Nat) : Int) := by rw [IntKind.wrap_i64]; omega
      have hub := U.toNat_lt
      have hw3 : IntKind.u8.wrap ((U.toNat : Nat) : Int) = ((U.toNat : Nat) : Int) := by rw [IntKind.wrap_u8]; omega
      clear hxa hxb hnx0 hA hB hU hpl hl2 hUn hH hsay e0 e1 hr0 hr1
      go_wp2_with (first
        | (go_at_call 108; refine (half_any _ _).mono ?_; rintro e w1 ⟨rfl, rfl⟩))
      go_region_law (first
        | (refine step_app_run rfl (.tmp 32) (.tmp 45) 110 rfl _ _ (by simp [Act.eval]) (by simp [Act.eval]) hrun ?_)
        | (go_simp
           go_wp2_with (go_at_call 108; refine (half_any _ _).mono ?_; rintro e w9 ⟨rfl, rfl⟩)))
      all_goals
        go_wp2
        go_roundw
        case rel => exact ⟨j + 1, by omega, by go_num, hown2, hbel.trans (by simpa using hbel2)⟩
        case measure => simp [intOf]; omega
    · obtain rfl : j = J := by omega
      obtain ⟨k, hkj⟩ : ∃ k, p + 2 + 2 * j = k := ⟨_, rfl⟩
      simp only [hkj] at hz h39 hsay
      rw [hkj]
      have h39c : ∀ W, Calls Tryz.prog 108 #[.int .u8 39] W fun e w' => e = .returned (.int .i64 (-1)) ∧ w' = W := half_any 39
      have hi39 : ((s[k].toNat : Nat) : Int) = 39 := by omega
      have hbe : (((s[k].toNat : Nat) : Int) == 39) = true := by rw [hi39]; rfl
      have hb39 : (((s[k].toNat : Nat) : Int) != 39) = false := by rw [bne, hbe]; rfl
      have hb1 : (p : Int) ≤ (k : Int) + 1 := by omega
      have hb2 : (k : Int) + 1 ≤ (s.size : Int) := by omega
      have hb3 : (0 : Int) ≤ (k : Int) + 1 := by omega
      have hwr : IntKind.i64.wrap ((k : Int) + 1) = (k : Int) + 1 := by rw [IntKind.wrap_i64]; omega
      have hhneg : ¬ (0 : Int) ≤ -1 := by omega
      obtain ⟨t, ht⟩ : ∃ t, s.extract p (k + 1) = t := ⟨_, rfl⟩
      obtain ⟨P, hP⟩ : ∃ P, pairsL ((s.data.toList.drop (p + 2)).take (2 * j)) = P := ⟨_, rfl⟩
      rw [hP] at hown hsay
      have hconv := conv_own (wr.alloc (.cells #[.int .i64 3, .string t, .int .i64 0, .int .i64 0, .int .u64 0, .string ⟨#[]⟩, .int .i64 (p : Int)] 62)) _ _ _ _ (World.ownsRow.alloc hown _)
      rw [ht] at hsay
      obtain ⟨ao, cap, rfl⟩ := own_form hown
      have hzb := zboxR_at hbel
      obtain ⟨q0, q1, q2, q3, q4, q5, q6⟩ := cells7 hzb
      obtain ⟨z0, z1, z2, z3, z4, z5, z6⟩ := free7 hzb
      have hn0 : w.heap.size < wr.heap.size := by omega
      have hn1 : ¬ w.heap.size = wr.heap.size := by omega
      have hn2 : ¬ wr.heap.size = w.heap.size := by omega
      clear hzb hH h39 hkj
      have hx := int_eq s[p] 120
      have hx : (((s[p].toNat : Nat) : Int) == 120) = decide (s[p].toNat = 120) := hx
      rw [decide_eq_true h120] at hx
      by_cases hk1 : k + 1 < s.size
      · have hk1i : (k : Int) + 1 < (s.size : Int) := by omega
        go_wp2_with (first
          | (go_at_call 108; refine (h39c _).mono ?_; rintro e w1 ⟨rfl, rfl⟩))
        refine bodyPost_ret (v := .tuple #[tokV 3 t ⟨4, 0, 0, str P⟩ (p : Int), .int .i64 ((k : Int) + 1), .bool (decide ((j : Int) ≤ 40))]) (by simp [results, Tryz.results67, go_sem, tokV, q0, q1, q2, q3, q4, q5, q6, hn0, hn1, hn2]) rfl ⟨hsay _ (by by_cases h : j ≤ 40 <;> simp [h] <;> omega), ?_⟩
        have hB := below_set7 (below_box0 hbel) (Nat.le_refl _) (.int .i64 3) (.string t) (.int .i64 4) (.int .i64 0) (.int .u64 0) (.string (str P)) (.int .i64 (p : Int))
        exact hB.alloc hB.size _
      · have hk1i : ¬ (k : Int) + 1 < (s.size : Int) := by omega
        go_wp2_with (first
          | (go_at_call 108; refine (h39c _).mono ?_; rintro e w1 ⟨rfl, rfl⟩))
        refine bodyPost_ret (v := .tuple #[tokV 3 t ⟨4, 0, 0, str P⟩ (p : Int), .int .i64 ((k : Int) + 1), .bool (decide ((j : Int) ≤ 40))]) (by simp [results, Tryz.results67, go_sem, tokV, q0, q1, q2, q3, q4, q5, q6, hn0, hn1, hn2]) rfl ⟨hsay _ (by by_cases h : j ≤ 40 <;> simp [h] <;> omega), ?_⟩
        have hB := below_set7 (below_box0 hbel) (Nat.le_refl _) (.int .i64 3) (.string t) (.int .i64 4) (.int .i64 0) (.int .u64 0) (.string (str P)) (.int .i64 (p : Int))
        exact hB.alloc hB.size _
theorem hex_says_f {s : ByteArray} {p J : Nat} (hJ : HexTo (s.data.toList.drop (p + 2)) (2 * J)) {q : List UInt8} (hq : (s.data.toList.drop (p + 2)).drop (2 * J) = 39 :: q) :
    (J ≠ 8 → floatT (s.data.toList.drop (p + 2)) = none) ∧ (J = 8 → (pairsL ((s.data.toList.drop (p + 2)).take (2 * J))).length = 8 ∧ numOf (pairsL ((s.data.toList.drop (p + 2)).take (2 * J))) < 18446744073709551616 ∧ RefSays s p (floatT (s.data.toList.drop (p + 2))) (.returned (.tuple #[tokV 3 (s.extract p (p + 2 + 2 * J + 1)) ⟨3, 0, canon (numOf (pairsL ((s.data.toList.drop (p + 2)).take (2 * J)))), ⟨#[]⟩⟩ (p : Int), .int .i64 (((p + 2 + 2 * J : Nat) : Int) + 1), .bool true]))) := by
  have hd := hex_quote hJ hq
  have hdl : ((s.data.toList.drop (p + 2)).take (2 * J)).length = 2 * J := by rw [List.length_take]; have := hJ.1; omega
  refine ⟨fun h8 => ?_, fun h8 => ?_⟩
  · rw [floatT, hd]
    simp only [hdl]
    exact if_neg (by omega)
  · subst h8
    have hx : ∀ c ∈ (s.data.toList.drop (p + 2)).take (2 * 8), hexB c = true := by
      intro c hc
      obtain ⟨i, hi, rfl⟩ := List.mem_iff_getElem.1 hc
      rw [hdl] at hi
      rw [List.getElem_take]
      exact hJ.2 i (by have := hJ.1; omega) hi
    have hn := numOf_pairs 8 ((s.data.toList.drop (p + 2)).take (2 * 8)) (by omega) hx
    rw [List.take_take, Nat.min_self] at hn
    have hpl : (pairsL ((s.data.toList.drop (p + 2)).take (2 * 8))).length = 8 := pairsL_len 8 _ (by have := hJ.1; omega)
    refine ⟨hpl, ?_, ?_⟩
    · have := numOf_take_lt (pairsL ((s.data.toList.drop (p + 2)).take (2 * 8))) 8 (by omega)
      rw [List.take_of_length_le (by omega)] at this
      omega
    · have hfin : floatT (s.data.toList.drop (p + 2)) = some (3, 19, ⟨3, 0, canon (hexNum ((s.data.toList.drop (p + 2)).take (2 * 8))), ⟨#[]⟩⟩) := by
        rw [floatT, hd]
        show (if ((s.data.toList.drop (p + 2)).take (2 * 8)).length = 16 then _ else _) = _
        rw [if_pos hdl]
      rw [hn, hfin]
      show _ = _
      rw [ext_sub, show p + 2 + 2 * 8 + 1 - p = 19 by omega, show (((p + 2 + 2 * 8 : Nat) : Int) + 1) = ((p + 19 : Nat) : Int) by omega]
theorem refHex_n (s : ByteArray) (p : Nat) (hp : p + 1 < s.size) (hs2 : s.size ≤ 1000) {J : Nat} {q : List UInt8} (hJ : HexTo (s.data.toList.drop (p + 2)) (2 * J)) (hq : (s.data.toList.drop (p + 2)).drop (2 * J) = 39 :: q) (h120 : ¬ s[p].toNat = 120) (h8 : J ≠ 8) (w : World) :
    Calls Tryz.prog 67 #[.string s, .int .i64 (p : Int)] w fun e w' => RefSays s p (floatT (s.data.toList.drop (p + 2))) e ∧ Below w.heap.size w w' := by
  have hsm : (s.size : Int) ≤ 1000 := by omega
  have hH := hex_at hJ hq
  have hz := hH.1
  have h39 := hH.2.1 hz
  have hsay := (hex_says_f hJ hq).1 h8
  clear hJ hq
  go_enter Tryz.func67, Tryz.ntmps67
  go_wp2
  go_loopw [7, 8] (fun v i wr => ∃ (j : Nat), j ≤ J ∧ i = .int .i64 ((p + 2 + 2 * j : Nat) : Int) ∧ wr.ownsRow (w.heap.size + 1) 5 1 v j (cellsOf (pairsL ((s.data.toList.drop (p + 2)).take (2 * j)))) ∧ Below (w.alloc zBoxR).heap.size (w.alloc zBoxR) wr) (fun _ i _ => s.size - (intOf i).toNat)
  case atStart => exact ⟨0, by omega, by go_num, World.ownsRow_nil _ _ _ _, Below.refl _ _⟩
  case round =>
    obtain ⟨j, hj, rfl, hown, hbel⟩ := hrel
    have hsz : w.heap.size + 1 ≤ wr.heap.size := by have := hbel.size; simpa using this
    by_cases hjJ : j < J
    · have hkk : p + 2 + (2 * j + 1) < s.size := by omega
      obtain ⟨hxa, hr0, e0⟩ := hH.2.2 (2 * j) (by omega) (by omega)
      obtain ⟨hxb, hr1, e1⟩ := hH.2.2 (2 * j + 1) hkk (by omega)
      obtain ⟨k, hkj⟩ : ∃ k, p + 2 + 2 * j = k := ⟨_, rfl⟩
      simp only [← Nat.add_assoc, hkj] at hxa hxb e0 e1 hkk
      have hks : k < s.size := by omega
      have hk1i : (k : Int) + 1 < (s.size : Int) := by omega
      rw [hkj]
      obtain ⟨hha, hvl⟩ := half_hex hxa
      obtain ⟨hhb, hvm⟩ := half_hex hxb
      have hnx0 := pairsL_next j (s.data.toList.drop (p + 2)) hr1
      rw [e0, e1] at hnx0
      obtain ⟨A, hA⟩ : ∃ A, nib s[k] = A := ⟨_, rfl⟩
      obtain ⟨B, hB⟩ : ∃ B, nib s[k + 1] = B := ⟨_, rfl⟩
      rw [hA] at hha hvl hnx0
      rw [hB] at hhb hvm hnx0
      obtain ⟨U, hU⟩ : ∃ U, UInt8.ofNat (A * 16 + B) = U := ⟨_, rfl⟩
      rw [hU] at hnx0
      have hUn : (A : Int) * 16 + (B : Int) = ((U.toNat : Nat) : Int) := by
        rw [← hU, ofNat_toNat (by omega)]
        omega
      have hpl : (pairsL ((s.data.toList.drop (p + 2)).take (2 * j))).length = j := pairsL_len j _ (by omega)
      obtain ⟨v', w', hrun, hown2, hbel2⟩ := run_one1 wr (w.heap.size + 1) _ (pairsL ((s.data.toList.drop (p + 2)).take (2 * j))) (by rw [hpl]; exact hown) U (by omega) hsz
      have hl2 : (pairsL ((s.data.toList.drop (p + 2)).take (2 * j)) ++ [U]).length = j + 1 := by simp [hpl]
      rw [hl2, ← hnx0] at hown2
      have hpos1 : (0 : Int) ≤ (A : Int) := by omega
      have hpos2 : (0 : Int) ≤ (B : Int) := by omega
      have hwr : IntKind.i64.wrap ((k : Int) + 1) = (k : Int) + 1 := by rw [IntKind.wrap_i64]; omega
      have hw1 : IntKind.i64.wrap (16 * (A : Int)) = 16 * (A : Int) := by rw [IntKind.wrap_i64]; omega
      have hw2 : IntKind.i64.wrap (16 * (A : Int) + (B : Int)) = ((U.toNat : Nat) : Int) := by rw [IntKind.wrap_i64]; omega
      have hub := U.toNat_lt
      have hw3 : IntKind.u8.wrap ((U.toNat : Nat) : Int) = ((U.toNat : Nat) : Int) := by rw [IntKind.wrap_u8]; omega
      clear hxa hxb hnx0 hA hB hU hpl hl2 hUn hH hsay e0 e1 hr0 hr1
      go_wp2_with (first
        | (go_at_call 108; refine (half_any _ _).mono ?_; rintro e w1 ⟨rfl, rfl⟩))
      go_region_law (first
        | (refine step_app_run rfl (.tmp 32) (.tmp 45) 110 rfl _ _ (by simp [Act.eval]) (by simp [Act.eval]) hrun ?_)
        | (go_simp
           go_wp2_with (go_at_call 108; refine (half_any _ _).mono ?_; rintro e w9 ⟨rfl, rfl⟩)))
      all_goals
        go_wp2
        go_roundw
        case rel => exact ⟨j + 1, by omega, by go_num, hown2, hbel.trans (by simpa using hbel2)⟩
        case measure => simp [intOf]; omega
    · obtain rfl : j = J := by omega
      obtain ⟨k, hkj⟩ : ∃ k, p + 2 + 2 * j = k := ⟨_, rfl⟩
      simp only [hkj] at hz h39
      rw [hkj]
      have h39c : ∀ W, Calls Tryz.prog 108 #[.int .u8 39] W fun e w' => e = .returned (.int .i64 (-1)) ∧ w' = W := half_any 39
      have hi39 : ((s[k].toNat : Nat) : Int) = 39 := by omega
      have hbe : (((s[k].toNat : Nat) : Int) == 39) = true := by rw [hi39]; rfl
      have hb39 : (((s[k].toNat : Nat) : Int) != 39) = false := by rw [bne, hbe]; rfl
      have hb1 : (p : Int) ≤ (k : Int) + 1 := by omega
      have hb2 : (k : Int) + 1 ≤ (s.size : Int) := by omega
      have hb3 : (0 : Int) ≤ (k : Int) + 1 := by omega
      have hwr : IntKind.i64.wrap ((k : Int) + 1) = (k : Int) + 1 := by rw [IntKind.wrap_i64]; omega
      have hhneg : ¬ (0 : Int) ≤ -1 := by omega
      obtain ⟨t, ht⟩ : ∃ t, s.extract p (k + 1) = t := ⟨_, rfl⟩
      obtain ⟨P, hP⟩ : ∃ P, pairsL ((s.data.toList.drop (p + 2)).take (2 * j)) = P := ⟨_, rfl⟩
      rw [hP] at hown
      have hconv := conv_own (wr.alloc (.cells #[.int .i64 3, .string t, .int .i64 0, .int .i64 0, .int .u64 0, .string ⟨#[]⟩, .int .i64 (p : Int)] 62)) _ _ _ _ (World.ownsRow.alloc hown _)
      obtain ⟨ao, cap, rfl⟩ := own_form hown
      have hzb := zboxR_at hbel
      obtain ⟨q0, q1, q2, q3, q4, q5, q6⟩ := cells7 hzb
      obtain ⟨z0, z1, z2, z3, z4, z5, z6⟩ := free7 hzb
      have hn0 : w.heap.size < wr.heap.size := by omega
      have hn1 : ¬ w.heap.size = wr.heap.size := by omega
      have hn2 : ¬ wr.heap.size = w.heap.size := by omega
      clear hzb hH h39 hkj
      have hx := int_eq s[p] 120
      have hx : (((s[p].toNat : Nat) : Int) == 120) = decide (s[p].toNat = 120) := hx
      rw [decide_eq_false h120] at hx
      by_cases hk1 : k + 1 < s.size
      · have hk1i : (k : Int) + 1 < (s.size : Int) := by omega
        go_wp2_with (first
          | (go_at_call 108; refine (h39c _).mono ?_; rintro e w1 ⟨rfl, rfl⟩))
        refine bodyPost_ret (v := .tuple #[tokV 0 ⟨#[]⟩ noV 0, .int .i64 0, .bool false]) (by simp [results, Tryz.results67, go_sem, tokV, noV, q0, q1, q2, q3, q4, q5, q6, hn0, hn1, hn2]) rfl ⟨refSays_none hsay _ _ _ _ _, ?_⟩
        have hB := below_set7 (below_box0 hbel) (Nat.le_refl _) (.int .i64 0) (.string ⟨#[]⟩) (.int .i64 0) (.int .i64 0) (.int .u64 0) (.string ⟨#[]⟩) (.int .i64 0)
        exact hB.alloc hB.size _
      · have hk1i : ¬ (k : Int) + 1 < (s.size : Int) := by omega
        go_wp2_with (first
          | (go_at_call 108; refine (h39c _).mono ?_; rintro e w1 ⟨rfl, rfl⟩))
        refine bodyPost_ret (v := .tuple #[tokV 0 ⟨#[]⟩ noV 0, .int .i64 0, .bool false]) (by simp [results, Tryz.results67, go_sem, tokV, noV, q0, q1, q2, q3, q4, q5, q6, hn0, hn1, hn2]) rfl ⟨refSays_none hsay _ _ _ _ _, ?_⟩
        have hB := below_set7 (below_box0 hbel) (Nat.le_refl _) (.int .i64 0) (.string ⟨#[]⟩) (.int .i64 0) (.int .i64 0) (.int .u64 0) (.string ⟨#[]⟩) (.int .i64 0)
        exact hB.alloc hB.size _
theorem refHex_f (s : ByteArray) (p : Nat) (hp : p + 1 < s.size) (hs2 : s.size ≤ 1000) {J : Nat} {q : List UInt8} (hJ : HexTo (s.data.toList.drop (p + 2)) (2 * J)) (hq : (s.data.toList.drop (p + 2)).drop (2 * J) = 39 :: q) (h120 : ¬ s[p].toNat = 120) (h8 : J = 8) (w : World) :
    Calls Tryz.prog 67 #[.string s, .int .i64 (p : Int)] w fun e w' => RefSays s p (floatT (s.data.toList.drop (p + 2))) e ∧ Below w.heap.size w w' := by
  have hsm : (s.size : Int) ≤ 1000 := by omega
  have hH := hex_at hJ hq
  have hz := hH.1
  have h39 := hH.2.1 hz
  obtain ⟨hpl, hsm2, hsay⟩ := (hex_says_f hJ hq).2 h8
  subst h8
  clear hJ hq
  go_enter Tryz.func67, Tryz.ntmps67
  go_wp2
  go_loopw [7, 8] (fun v i wr => ∃ (j : Nat), j ≤ 8 ∧ i = .int .i64 ((p + 2 + 2 * j : Nat) : Int) ∧ wr.ownsRow (w.heap.size + 1) 5 1 v j (cellsOf (pairsL ((s.data.toList.drop (p + 2)).take (2 * j)))) ∧ Below (w.alloc zBoxR).heap.size (w.alloc zBoxR) wr) (fun _ i _ => s.size - (intOf i).toNat)
  case atStart => exact ⟨0, by omega, by go_num, World.ownsRow_nil _ _ _ _, Below.refl _ _⟩
  case round =>
    obtain ⟨j, hj, rfl, hown, hbel⟩ := hrel
    have hsz : w.heap.size + 1 ≤ wr.heap.size := by have := hbel.size; simpa using this
    by_cases hjJ : j < 8
    · have hkk : p + 2 + (2 * j + 1) < s.size := by omega
      obtain ⟨hxa, hr0, e0⟩ := hH.2.2 (2 * j) (by omega) (by omega)
      obtain ⟨hxb, hr1, e1⟩ := hH.2.2 (2 * j + 1) hkk (by omega)
      obtain ⟨k, hkj⟩ : ∃ k, p + 2 + 2 * j = k := ⟨_, rfl⟩
      simp only [← Nat.add_assoc, hkj] at hxa hxb e0 e1 hkk
      have hks : k < s.size := by omega
      have hk1i : (k : Int) + 1 < (s.size : Int) := by omega
      rw [hkj]
      obtain ⟨hha, hvl⟩ := half_hex hxa
      obtain ⟨hhb, hvm⟩ := half_hex hxb
      have hnx0 := pairsL_next j (s.data.toList.drop (p + 2)) hr1
      rw [e0, e1] at hnx0
      obtain ⟨A, hA⟩ : ∃ A, nib s[k] = A := ⟨_, rfl⟩
      obtain ⟨B, hB⟩ : ∃ B, nib s[k + 1] = B := ⟨_, rfl⟩
      rw [hA] at hha hvl hnx0
      rw [hB] at hhb hvm hnx0
      obtain ⟨U, hU⟩ : ∃ U, UInt8.ofNat (A * 16 + B) = U := ⟨_, rfl⟩
      rw [hU] at hnx0
      have hUn : (A : Int) * 16 + (B : Int) = ((U.toNat : Nat) : Int) := by
        rw [← hU, ofNat_toNat (by omega)]
        omega
      have hpl : (pairsL ((s.data.toList.drop (p + 2)).take (2 * j))).length = j := pairsL_len j _ (by omega)
      obtain ⟨v', w', hrun, hown2, hbel2⟩ := run_one1 wr (w.heap.size + 1) _ (pairsL ((s.data.toList.drop (p + 2)).take (2 * j))) (by rw [hpl]; exact hown) U (by omega) hsz
      have hl2 : (pairsL ((s.data.toList.drop (p + 2)).take (2 * j)) ++ [U]).length = j + 1 := by simp [hpl]
      rw [hl2, ← hnx0] at hown2
      have hpos1 : (0 : Int) ≤ (A : Int) := by omega
      have hpos2 : (0 : Int) ≤ (B : Int) := by omega
      have hwr : IntKind.i64.wrap ((k : Int) + 1) = (k : Int) + 1 := by rw [IntKind.wrap_i64]; omega
      have hw1 : IntKind.i64.wrap (16 * (A : Int)) = 16 * (A : Int) := by rw [IntKind.wrap_i64]; omega
      have hw2 : IntKind.i64.wrap (16 * (A : Int) + (B : Int)) = ((U.toNat : Nat) : Int) := by rw [IntKind.wrap_i64]; omega
      have hub := U.toNat_lt
      have hw3 : IntKind.u8.wrap ((U.toNat : Nat) : Int) = ((U.toNat : Nat) : Int) := by rw [IntKind.wrap_u8]; omega
      clear hxa hxb hnx0 hA hB hU hpl hl2 hUn hH hsay e0 e1 hr0 hr1
      go_wp2_with (first
        | (go_at_call 108; refine (half_any _ _).mono ?_; rintro e w1 ⟨rfl, rfl⟩))
      go_region_law (first
        | (refine step_app_run rfl (.tmp 32) (.tmp 45) 110 rfl _ _ (by simp [Act.eval]) (by simp [Act.eval]) hrun ?_)
        | (go_simp
           go_wp2_with (go_at_call 108; refine (half_any _ _).mono ?_; rintro e w9 ⟨rfl, rfl⟩)))
      all_goals
        go_wp2
        go_roundw
        case rel => exact ⟨j + 1, by omega, by go_num, hown2, hbel.trans (by simpa using hbel2)⟩
        case measure => simp [intOf]; omega
    · obtain rfl : j = 8 := by omega
      obtain ⟨k, hkj⟩ : ∃ k, p + 2 + 2 * 8 = k := ⟨_, rfl⟩
      simp only [hkj] at hz h39 hsay
      rw [hkj]
      have h39c : ∀ W, Calls Tryz.prog 108 #[.int .u8 39] W fun e w' => e = .returned (.int .i64 (-1)) ∧ w' = W := half_any 39
      have hi39 : ((s[k].toNat : Nat) : Int) = 39 := by omega
      have hbe : (((s[k].toNat : Nat) : Int) == 39) = true := by rw [hi39]; rfl
      have hb39 : (((s[k].toNat : Nat) : Int) != 39) = false := by rw [bne, hbe]; rfl
      have hb1 : (p : Int) ≤ (k : Int) + 1 := by omega
      have hb2 : (k : Int) + 1 ≤ (s.size : Int) := by omega
      have hb3 : (0 : Int) ≤ (k : Int) + 1 := by omega
      have hwr : IntKind.i64.wrap ((k : Int) + 1) = (k : Int) + 1 := by rw [IntKind.wrap_i64]; omega
      have hhneg : ¬ (0 : Int) ≤ -1 := by omega
      obtain ⟨t, ht⟩ : ∃ t, s.extract p (k + 1) = t := ⟨_, rfl⟩
      obtain ⟨P, hP⟩ : ∃ P, pairsL ((s.data.toList.drop (p + 2)).take (2 * 8)) = P := ⟨_, rfl⟩
      rw [hP] at hown hsay hsm2 hpl
      have hnum : ∀ W, Calls Tryz.prog 110 #[.string (str P)] W fun e w' => e = .returned (.int .u64 (numOf P : Nat)) ∧ w' = W := fun W => by
        have h := number_ok (str P) (by rw [size_str]; omega) W
        rw [show (str P).data.toList = P by simp [str], List.take_of_length_le (by omega)] at h
        exact h
      have hcan := fun W => refCanon_any (numOf P) hsm2 W
      clear hpl
      have hconv := conv_own (wr.alloc (.cells #[.int .i64 3, .string t, .int .i64 0, .int .i64 0, .int .u64 0, .string ⟨#[]⟩, .int .i64 (p : Int)] 62)) _ _ _ _ (World.ownsRow.alloc hown _)
      rw [ht] at hsay
      obtain ⟨ao, cap, rfl⟩ := own_form hown
      have hzb := zboxR_at hbel
      obtain ⟨q0, q1, q2, q3, q4, q5, q6⟩ := cells7 hzb
      obtain ⟨z0, z1, z2, z3, z4, z5, z6⟩ := free7 hzb
      have hn0 : w.heap.size < wr.heap.size := by omega
      have hn1 : ¬ w.heap.size = wr.heap.size := by omega
      have hn2 : ¬ wr.heap.size = w.heap.size := by omega
      clear hzb hH h39 hkj
      have hx := int_eq s[p] 120
      have hx : (((s[p].toNat : Nat) : Int) == 120) = decide (s[p].toNat = 120) := hx
      rw [decide_eq_false h120] at hx
      by_cases hk1 : k + 1 < s.size
      · have hk1i : (k : Int) + 1 < (s.size : Int) := by omega
        go_wp2_with (first
          | (go_at_call 108; refine (h39c _).mono ?_; rintro e w1 ⟨rfl, rfl⟩)
          | (go_at_call 110; refine (hnum _).mono ?_; rintro e w1 ⟨rfl, rfl⟩)
          | (go_at_call 109; refine (hcan _).mono ?_; rintro e w1 ⟨rfl, rfl⟩))
        refine bodyPost_ret (v := .tuple #[tokV 3 t ⟨3, 0, canon (numOf P), ⟨#[]⟩⟩ (p : Int), .int .i64 ((k : Int) + 1), .bool true]) (by simp [results, Tryz.results67, go_sem, tokV, q0, q1, q2, q3, q4, q5, q6, hn0, hn1, hn2]) rfl ⟨hsay, ?_⟩
        have hB := below_set7 (below_box0 hbel) (Nat.le_refl _) (.int .i64 3) (.string t) (.int .i64 3) (.int .i64 0) (.int .u64 (canon (numOf P) : Int)) (.string ⟨#[]⟩) (.int .i64 (p : Int))
        exact hB.alloc hB.size _
      · have hk1i : ¬ (k : Int) + 1 < (s.size : Int) := by omega
        go_wp2_with (first
          | (go_at_call 108; refine (h39c _).mono ?_; rintro e w1 ⟨rfl, rfl⟩)
          | (go_at_call 110; refine (hnum _).mono ?_; rintro e w1 ⟨rfl, rfl⟩)
          | (go_at_call 109; refine (hcan _).mono ?_; rintro e w1 ⟨rfl, rfl⟩))
        refine bodyPost_ret (v := .tuple #[tokV 3 t ⟨3, 0, canon (numOf P), ⟨#[]⟩⟩ (p : Int), .int .i64 ((k : Int) + 1), .bool true]) (by simp [results, Tryz.results67, go_sem, tokV, q0, q1, q2, q3, q4, q5, q6, hn0, hn1, hn2]) rfl ⟨hsay, ?_⟩
        have hB := below_set7 (below_box0 hbel) (Nat.le_refl _) (.int .i64 3) (.string t) (.int .i64 3) (.int .i64 0) (.int .u64 (canon (numOf P) : Int)) (.string ⟨#[]⟩) (.int .i64 (p : Int))
        exact hB.alloc hB.size _
end Go.Proofs.YtiajlhjjmlakmaaGreatDoor
