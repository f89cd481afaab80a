/-
  Contracts: the readers of floats and bytes of package lex.
-/
import Derived.Test.YtiajlhjjmlakmaaGreatDoorLxQi
namespace Go.Proofs.YtiajlhjjmlakmaaGreatDoor
open Go.RowKit Num
set_option linter.unusedVariables false
set_option maxRecDepth 100000

theorem digsG_hex {r d : List UInt8} (h : digsG r = some d) : ∀ c ∈ d, hexB c = true := by
  unfold digsG at h
  split at h
  · have h := Option.some.inj h
    subst h
    intro c hc
    obtain ⟨j, hj, rfl⟩ := List.mem_iff_getElem.1 hc
    rw [List.length_take] at hj
    rw [List.getElem_take]
    exact runL_in hexB r j (by omega) (by omega)
  · cases h
theorem readFloat_any (s : ByteArray) (hs : 2 ≤ s.size) (hs2 : s.size ≤ 1000000) (w : World) :
    Calls Tryz.prog 48 #[.string s] w fun e w' => e = .returned (tkV s.data.toList (floatT (s.data.toList.drop 2))) ∧ Below w.heap.size w w' := by
  cases hd : digsG (s.data.toList.drop 2) with
  | none =>
    have hres : Hid (tkV s.data.toList (floatT (s.data.toList.drop 2)) = .tuple #[tokV 0 ⟨#[]⟩ noV 0, .bool false]) := by
      unfold Hid floatT
      rw [hd]
      rfl
    have hr := readDigits_no s hs hs2 hd
    clear hd
    go_enter Tryz.func48, Tryz.ntmps48
    go_wp2_with (first
      | (go_at_call 90; refine (hr _).mono ?_; rintro e w1 ⟨rfl, hb1⟩; have hz := zbox_at hb1; obtain ⟨q0, q1, q2, q3, q4, q5, q6⟩ := cells7 hz; obtain ⟨z0, z1, z2, z3, z4, z5, z6⟩ := free7 hz; clear hz))
    refine bodyPost_ret (v := .tuple #[tokV 0 ⟨#[]⟩ noV 0, .bool false]) (by simp [results, Tryz.results48, go_sem, tokV, noV, q0, q1, q2, q3, q4, q5, q6]) rfl ⟨by rw [hres.out], ?_⟩
    exact below_set7 (below_box0 hb1) (Nat.le_refl _) _ _ _ _ _ _ _
  | some d =>
    have hr := readDigits_yes s hs hs2 d hd
    have hlen := digsG_len hd
    have hl : s.data.toList.length = s.size := rfl
    simp only [List.length_drop] at hlen
    obtain ⟨x, hx⟩ : ∃ x, str d = x := ⟨_, rfl⟩
    have hxs : x.size = d.length := by rw [← hx, size_str]
    rw [hx] at hr
    by_cases h16 : d.length = 16
    · obtain ⟨t, ht⟩ : ∃ t, str (s.data.toList.take 19) = t := ⟨_, rfl⟩
      rw [h16, ht] at hr
      have hxi : (x.size : Int) = 16 := by omega
      have hn := number_any x (by omega) (by rw [← hx, data_str]; exact digsG_hex hd)
      rw [← hx, data_str, hx] at hn
      have hca := canon_any (hexNum d)
      have hv := valued_yes t ⟨3, 0, canon (hexNum d), ⟨#[]⟩⟩ (by simp [Val.may, may, Lib.toList_data, canon_canon])
      have hres : Hid (tkV s.data.toList (floatT (s.data.toList.drop 2)) = .tuple #[tokV 3 t ⟨3, 0, canon (hexNum d), ⟨#[]⟩⟩ 0, .bool true]) := by
        unfold Hid floatT
        rw [hd]
        simp only
        rw [if_pos h16]
        show Value.tuple #[tokV 3 (str (s.data.toList.take 19)) _ 0, .bool true] = _
        rw [ht]
      unfold Val.v tokV at hv
      generalize canon (hexNum d) = F at *
      generalize hexNum d = N at *
      clear hd hlen hl hx hxs h16 ht
      go_enter Tryz.func48, Tryz.ntmps48
      go_wp2_with (first
        | (go_at_call 90; refine (hr _).mono ?_; rintro e w1 ⟨rfl, hb1⟩)
        | (go_at_call 91; refine (hn _).mono ?_; rintro e w2 ⟨rfl, rfl⟩)
        | (go_at_call 93; refine (hca _).mono ?_; rintro e w2 ⟨rfl, rfl⟩)
        | (go_at_call 92; refine (hv _).mono ?_; rintro e w3 ⟨rfl, hb3⟩; have hz := heap_next (zbox_at hb1) hb3; obtain ⟨q0, q1, q2, q3, q4, q5, q6⟩ := cells7 hz; obtain ⟨z0, z1, z2, z3, z4, z5, z6⟩ := free7 hz; clear hz))
      refine bodyPost_ret (v := .tuple #[tokV 3 t ⟨3, 0, F, ⟨#[]⟩⟩ 0, .bool true]) (by simp [results, Tryz.results48, go_sem, tokV, q0, q1, q2, q3, q4, q5, q6]) rfl ⟨by rw [hres.out], ?_⟩
      exact below_set7 (below_two hb1 hb3) (Nat.le_refl _) _ _ _ _ _ _ _
    · have hres : Hid (tkV s.data.toList (floatT (s.data.toList.drop 2)) = .tuple #[tokV 0 ⟨#[]⟩ noV 0, .bool false]) := by
        unfold Hid floatT
        rw [hd]
        simp only
        rw [if_neg h16]
        rfl
      have hxi : ¬ (x.size : Int) = 16 := by omega
      have hxi2 : ((x.size : Int) == 16) = false := by simpa using hxi
      obtain ⟨t, ht⟩ : ∃ t, str (s.data.toList.take (d.length + 3)) = t := ⟨_, rfl⟩
      rw [ht] at hr
      clear hd hlen hl hx hxs h16 ht
      go_enter Tryz.func48, Tryz.ntmps48
      go_wp2_with (first
        | (go_at_call 90; refine (hr _).mono ?_; rintro e w1 ⟨rfl, hb1⟩; have hz := zbox_at hb1; obtain ⟨q0, q1, q2, q3, q4, q5, q6⟩ := cells7 hz; obtain ⟨z0, z1, z2, z3, z4, z5, z6⟩ := free7 hz; clear hz))
      refine bodyPost_ret (v := .tuple #[tokV 0 ⟨#[]⟩ noV 0, .bool false]) (by simp [results, Tryz.results48, go_sem, tokV, noV, q0, q1, q2, q3, q4, q5, q6]) rfl ⟨by rw [hres.out], ?_⟩
      exact below_set7 (below_box0 hb1) (Nat.le_refl _) _ _ _ _ _ _ _
end Go.Proofs.YtiajlhjjmlakmaaGreatDoor
