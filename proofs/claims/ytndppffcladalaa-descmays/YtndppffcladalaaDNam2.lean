/-
  Contracts: which texts are names (6.1): of the program and of the document's own.
-/
import Derived.Test.YtndppffcladalaaDName
namespace Go.Proofs.Ytndppffcladalaa
open Go.RowKit Num
set_option linter.unusedVariables false

theorem name_head (s : ByteArray) (h0 : 0 < s.size) : s.data.toList.headD 0 = s[0] := by
  have hd : s.data.toList.length = s.size := rfl
  cases h : s.data.toList with
  | nil => rw [h] at hd; simp at hd; omega
  | cons b r =>
    have : s.data.toList[0]'(by omega) = s[0] := rfl
    simp only [h] at this
    exact this
theorem name_cut {s : ByteArray} (h : ¬ (1 ≤ s.size ∧ s.size ≤ 16)) : nameOk s = false := by
  have hd : s.data.toList.length = s.size := rfl
  unfold nameOk nameL
  by_cases h1 : 1 ≤ s.size
  · rw [decide_eq_false (show ¬ s.data.toList.length ≤ 16 by omega)]
    simp
  · rw [decide_eq_false (show ¬ 1 ≤ s.data.toList.length by omega)]
    simp
theorem name_first {s : ByteArray} (h0 : 0 < s.size) (h : lowB s[0] = false) : nameOk s = false := by
  unfold nameOk nameL
  rw [name_head s h0, h]
  simp
theorem name_bad {s : ByteArray} (k : Nat) (hk : k < s.size) (h : letB s[k] = false) : nameOk s = false := by
  have hd : s.data.toList.length = s.size := rfl
  have : s.data.toList.all letB = false := by
    rw [Bool.eq_false_iff]
    intro ha
    have := List.all_eq_true.1 ha (s.data.toList[k]'(by omega)) (List.getElem_mem _)
    rw [show s.data.toList[k]'(by omega) = s[k] from rfl, h] at this
    cases this
  unfold nameOk nameL
  rw [this]
  simp
theorem name_good {s : ByteArray} (h1 : 1 ≤ s.size) (h2 : s.size ≤ 16) (h3 : lowB s[0] = true) (h : ∀ k (hk : k < s.size), letB s[k] = true) : nameOk s = !words.contains s.toList := by
  have hd : s.data.toList.length = s.size := rfl
  have ha : s.data.toList.all letB = true := by
    rw [List.all_eq_true]
    intro x hx
    obtain ⟨k, hk, rfl⟩ := List.getElem_of_mem hx
    exact h k (by omega)
  unfold nameOk nameL
  rw [decide_eq_true (show 1 ≤ s.data.toList.length by omega), decide_eq_true (show s.data.toList.length ≤ 16 by omega), name_head s (by omega), h3, ha, Lib.toList_data]
  simp
theorem name_word {s : ByteArray} (h : words.contains s.toList = true) : nameOk s = false := by
  rw [Lib.toList_data] at h
  unfold nameOk nameL
  rw [h]
  simp

theorem name_any (s : ByteArray) (w : World) :
    Calls Try.prog 9 #[.string s] w fun e w' => e = .returned (.bool (nameOk s)) ∧ w' = w := by
  by_cases hs : 1 ≤ s.size ∧ s.size ≤ 16
  · obtain ⟨h1, h2⟩ := hs
    have h1' : ¬ (s.size : Int) < 1 := by omega
    have h2' : ¬ 16 < (s.size : Int) := by omega
    have h0 : 0 < s.size := by omega
    have hl := letter_any s[0]
    rcases Bool.eq_false_or_eq_true (lowB s[0]) with hf | hf
    · rw [hf] at hl
      have hw := word_any s
      go_enter Try.func9, Try.ntmps9
      go_wp2_with (go_at_call 20; refine (hl _).mono ?_; rintro e w1 ⟨rfl, rfl⟩)
      clear hl
      go_loop [20] (fun i => ∃ k : Nat, k ≤ s.size ∧ i = .int .i64 (k : Int) ∧ Hid (∀ j (hj : j < s.size), j < k → letB s[j] = true)) (fun i => s.size - (intOf i).toNat)
      case atStart => exact ⟨0, by omega, rfl, fun _ _ h => absurd h (Nat.not_lt_zero _)⟩
      case round =>
        obtain ⟨k, hk, rfl, HK⟩ := hrel
        by_cases hks : k < s.size
        · have hl := letter_any s[k]
          have hd := digit_any s[k]
          have hsplit : (lowB s[k] = true) ∨ (lowB s[k] = false ∧ digB s[k] = true) ∨ (lowB s[k] = false ∧ digB s[k] = false ∧ s[k].toNat = 95) ∨ (lowB s[k] = false ∧ digB s[k] = false ∧ ¬ s[k].toNat = 95) := by
            cases lowB s[k] <;> cases digB s[k] <;> by_cases s[k].toNat = 95 <;> simp_all
          rcases hsplit with ha | ⟨ha, hb⟩ | ⟨ha, hb, hc⟩ | ⟨ha, hb, hc⟩
          · have HK2 : Hid (∀ j (hj : j < s.size), j < k + 1 → letB s[j] = true) := by
              intro j hj hjk
              by_cases h : j = k
              · subst h
                simp [letB, ha]
              · exact HK.out j hj (by omega)
            rw [ha] at hl
            clear HK ha
            go_wp2_with (first | (go_at_call 20; refine (hl _).mono ?_; rintro e w1 ⟨rfl, rfl⟩) | (go_at_call 21; refine (hd _).mono ?_; rintro e w2 ⟨rfl, rfl⟩))
            go_round
            case rel => exact ⟨k + 1, by omega, by go_num, HK2⟩
            case measure => simp [intOf]; omega
          · have HK2 : Hid (∀ j (hj : j < s.size), j < k + 1 → letB s[j] = true) := by
              intro j hj hjk
              by_cases h : j = k
              · subst h
                simp [letB, hb]
              · exact HK.out j hj (by omega)
            rw [ha] at hl
            rw [hb] at hd
            clear HK ha hb
            go_wp2_with (first | (go_at_call 20; refine (hl _).mono ?_; rintro e w1 ⟨rfl, rfl⟩) | (go_at_call 21; refine (hd _).mono ?_; rintro e w2 ⟨rfl, rfl⟩))
            go_round
            case rel => exact ⟨k + 1, by omega, by go_num, HK2⟩
            case measure => simp [intOf]; omega
          · have HK2 : Hid (∀ j (hj : j < s.size), j < k + 1 → letB s[j] = true) := by
              intro j hj hjk
              by_cases h : j = k
              · subst h
                simp [letB, hc]
              · exact HK.out j hj (by omega)
            have h4 : (((s[k].toNat : Nat) : Int) != 95) = false := by
              rw [hc]
              rfl
            rw [ha] at hl
            rw [hb] at hd
            clear HK ha hb hc
            go_wp2_with (first | (go_at_call 20; refine (hl _).mono ?_; rintro e w1 ⟨rfl, rfl⟩) | (go_at_call 21; refine (hd _).mono ?_; rintro e w2 ⟨rfl, rfl⟩))
            go_round
            case rel => exact ⟨k + 1, by omega, by go_num, HK2⟩
            case measure => simp [intOf]; omega
          · have hbad := name_bad k hks (by simp [letB, ha, hb, hc])
            have h5 : (((s[k].toNat : Nat) : Int) != 95) = true := by
              rw [bne_iff_ne]
              omega
            rw [ha] at hl
            rw [hb] at hd
            clear HK ha hb hc
            go_wp2_with (first | (go_at_call 20; refine (hl _).mono ?_; rintro e w1 ⟨rfl, rfl⟩) | (go_at_call 21; refine (hd _).mono ?_; rintro e w2 ⟨rfl, rfl⟩))
            go_ret
            rw [hbad]
            exact ⟨rfl, rfl⟩
        · have hg : Hid (nameOk s = !words.contains s.toList) := name_good h1 h2 hf (fun j hj => HK.out j hj (by omega))
          clear HK
          generalize words.contains s.toList = c at *
          go_wp2_with (first | (go_at_call 22; refine (hw _).mono ?_; rintro e w1 ⟨rfl, rfl⟩))
          go_ret
          rw [hg.out]
          exact ⟨rfl, rfl⟩
    · rw [hf] at hl
      rw [name_first h0 hf]
      go_enter Try.func9, Try.ntmps9
      go_wp2_with (go_at_call 20; refine (hl _).mono ?_; rintro e w1 ⟨rfl, rfl⟩)
      go_ret
      exact ⟨rfl, rfl⟩
  · rw [name_cut hs]
    by_cases h1 : (s.size : Int) < 1
    · go_enter Try.func9, Try.ntmps9
      go_wp2
      go_ret
      exact ⟨rfl, rfl⟩
    · have h2 : 16 < (s.size : Int) := by omega
      go_enter Try.func9, Try.ntmps9
      go_wp2
      go_ret
      exact ⟨rfl, rfl⟩
theorem empty_list {s : ByteArray} (h : 1 ≤ s.size) : s.toList.isEmpty = false := by
  have hd : s.data.toList.length = s.size := rfl
  rw [Lib.toList_data]
  cases hh : s.data.toList with
  | nil => rw [hh] at hd; simp at hd; omega
  | cons => rfl
theorem refName_any (s : ByteArray) (w : World) :
    Calls Try.prog 10 #[.string s] w fun e w' => e = .returned (.bool (nameOk s)) ∧ w' = w := by
  by_cases hs : 1 ≤ s.size ∧ s.size ≤ 16
  · obtain ⟨h1, h2⟩ := hs
    have h1' := empty_list h1
    have h2' : ¬ 16 < (s.size : Int) := by omega
    have h0 : 0 < s.size := by omega
    have hw := refWord_any s
    by_cases hf1 : ((s[0].toNat : Nat) : Int) < 97
    · rw [name_first h0 (by unfold lowB; rw [decide_eq_false (show ¬ 97 ≤ s[0].toNat by omega), Bool.false_and])]
      go_enter Try.func10, Try.ntmps10
      go_wp2
      go_ret
      exact ⟨rfl, rfl⟩
    · by_cases hf2 : 122 < ((s[0].toNat : Nat) : Int)
      · rw [name_first h0 (by unfold lowB; rw [decide_eq_false (show ¬ s[0].toNat ≤ 122 by omega), Bool.and_false])]
        go_enter Try.func10, Try.ntmps10
        go_wp2
        go_ret
        exact ⟨rfl, rfl⟩
      · have hf : lowB s[0] = true := by
          unfold lowB
          rw [decide_eq_true (show 97 ≤ s[0].toNat by omega), decide_eq_true (show s[0].toNat ≤ 122 by omega)]
          rfl
        rcases Bool.eq_false_or_eq_true (words.contains s.toList) with hc | hc
        · rw [name_word hc]
          rw [hc] at hw
          go_enter Try.func10, Try.ntmps10
          go_wp2_with (first | (go_at_call 23; refine (hw _).mono ?_; rintro e w1 ⟨rfl, rfl⟩))
          go_ret
          exact ⟨rfl, rfl⟩
        · rw [hc] at hw
          go_enter Try.func10, Try.ntmps10
          go_wp2_with (first | (go_at_call 23; refine (hw _).mono ?_; rintro e w1 ⟨rfl, rfl⟩))
          clear hw
          go_loop [3] (fun i => ∃ k : Nat, k ≤ s.size ∧ i = .int .i64 (k : Int) ∧ Hid (∀ j (hj : j < s.size), j < k → letB s[j] = true)) (fun i => s.size - (intOf i).toNat)
          case atStart => exact ⟨0, by omega, rfl, fun _ _ h => absurd h (Nat.not_lt_zero _)⟩
          case round =>
            obtain ⟨k, hk, rfl, HK⟩ := hrel
            by_cases hks : k < s.size
            · have hl := refLetter_any s[k]
              rcases Bool.eq_false_or_eq_true (letB s[k]) with ha | ha
              · have HK2 : Hid (∀ j (hj : j < s.size), j < k + 1 → letB s[j] = true) := by
                  intro j hj hjk
                  by_cases h : j = k
                  · subst h
                    exact ha
                  · exact HK.out j hj (by omega)
                rw [ha] at hl
                clear HK ha
                go_wp2_with (first | (go_at_call 24; refine (hl _).mono ?_; rintro e w1 ⟨rfl, rfl⟩))
                go_round
                case rel => exact ⟨k + 1, by omega, by go_num, HK2⟩
                case measure => simp [intOf]; omega
              · have hbad := name_bad k hks ha
                rw [ha] at hl
                clear HK ha
                go_wp2_with (first | (go_at_call 24; refine (hl _).mono ?_; rintro e w1 ⟨rfl, rfl⟩))
                go_ret
                rw [hbad]
                exact ⟨rfl, rfl⟩
            · have hg : Hid (nameOk s = true) := (name_good h1 h2 hf (fun j hj => HK.out j hj (by omega))).trans (by rw [hc]; rfl)
              clear HK
              go_wp2
              go_ret
              rw [hg.out]
              exact ⟨rfl, rfl⟩
  · rw [name_cut hs]
    by_cases h1 : s.size = 0
    · have h1' : s.toList.isEmpty = true := by
        have hd : s.data.toList.length = s.size := rfl
        rw [Lib.toList_data, List.isEmpty_iff]
        exact List.eq_nil_of_length_eq_zero (by omega)
      go_enter Try.func10, Try.ntmps10
      go_wp2
      go_ret
      exact ⟨rfl, rfl⟩
    · have h2 : 16 < (s.size : Int) := by omega
      have h1' := empty_list (s := s) (by omega)
      go_enter Try.func10, Try.ntmps10
      go_wp2
      go_ret
      exact ⟨rfl, rfl⟩
end Go.Proofs.Ytndppffcladalaa
