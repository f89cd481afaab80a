import Derived.Test.YtiajlhjjmlakmaaGreatDoorLxW
namespace Go.Proofs.YtiajlhjjmlakmaaGreatDoor
open Go.RowKit Num
set_option maxHeartbeats 4000000
set_option linter.unusedVariables false
set_option maxRecDepth 100000

set_option maxRecDepth 100000 in
theorem word_any (s : ByteArray) (w : World) :
  Calls Tryz.prog 96 #[.string s] w fun e w' => e = .returned (.bool (words.contains s.toList)) ∧ w' = w := by
 rcases Bool.eq_false_or_eq_true (s.toList == [105, 110, 115, 101, 114, 116]) with h0 | h0
 ·rw [show words.contains s.toList = true by simp only [words, List.contains_cons, h0, Bool.true_or]]
  go_enter Tryz.func96, Tryz.ntmps96
  go_wp2
  go_ret
  exact ⟨rfl, rfl⟩
 rcases Bool.eq_false_or_eq_true (s.toList == [105, 110, 116, 111]) with h1 | h1
 ·rw [show words.contains s.toList = true by simp only [words, List.contains_cons, h0, h1, Bool.true_or, Bool.false_or]]
  go_enter Tryz.func96, Tryz.ntmps96
  go_wp2
  go_ret
  exact ⟨rfl, rfl⟩
 rcases Bool.eq_false_or_eq_true (s.toList == [118, 97, 108, 117, 101, 115]) with h2 | h2
 ·rw [show words.contains s.toList = true by simp only [words, List.contains_cons, h0, h1, h2, Bool.true_or, Bool.false_or]]
  go_enter Tryz.func96, Tryz.ntmps96
  go_wp2
  go_ret
  exact ⟨rfl, rfl⟩
 rcases Bool.eq_false_or_eq_true (s.toList == [117, 112, 100, 97, 116, 101]) with h3 | h3
 ·rw [show words.contains s.toList = true by simp only [words, List.contains_cons, h0, h1, h2, h3, Bool.true_or, Bool.false_or]]
  go_enter Tryz.func96, Tryz.ntmps96
  go_wp2
  go_ret
  exact ⟨rfl, rfl⟩
 rcases Bool.eq_false_or_eq_true (s.toList == [115, 101, 116]) with h4 | h4
 ·rw [show words.contains s.toList = true by simp only [words, List.contains_cons, h0, h1, h2, h3, h4, Bool.true_or, Bool.false_or]]
  go_enter Tryz.func96, Tryz.ntmps96
  go_wp2
  go_ret
  exact ⟨rfl, rfl⟩
 rcases Bool.eq_false_or_eq_true (s.toList == [119, 104, 101, 114, 101]) with h5 | h5
 ·rw [show words.contains s.toList = true by simp only [words, List.contains_cons, h0, h1, h2, h3, h4, h5, Bool.true_or, Bool.false_or]]
  go_enter Tryz.func96, Tryz.ntmps96
  go_wp2
  go_ret
  exact ⟨rfl, rfl⟩
 rcases Bool.eq_false_or_eq_true (s.toList == [97, 110, 100]) with h6 | h6
 ·rw [show words.contains s.toList = true by simp only [words, List.contains_cons, h0, h1, h2, h3, h4, h5, h6, Bool.true_or, Bool.false_or]]
  go_enter Tryz.func96, Tryz.ntmps96
  go_wp2
  go_ret
  exact ⟨rfl, rfl⟩
 rcases Bool.eq_false_or_eq_true (s.toList == [100, 101, 108, 101, 116, 101]) with h7 | h7
 ·rw [show words.contains s.toList = true by simp only [words, List.contains_cons, h0, h1, h2, h3, h4, h5, h6, h7, Bool.true_or, Bool.false_or]]
  go_enter Tryz.func96, Tryz.ntmps96
  go_wp2
  go_ret
  exact ⟨rfl, rfl⟩
 rcases Bool.eq_false_or_eq_true (s.toList == [102, 114, 111, 109]) with h8 | h8
 ·rw [show words.contains s.toList = true by simp only [words, List.contains_cons, h0, h1, h2, h3, h4, h5, h6, h7, h8, Bool.true_or, Bool.false_or]]
  go_enter Tryz.func96, Tryz.ntmps96
  go_wp2
  go_ret
  exact ⟨rfl, rfl⟩
 rcases Bool.eq_false_or_eq_true (s.toList == [115, 101, 108, 101, 99, 116]) with h9 | h9
 ·rw [show words.contains s.toList = true by simp only [words, List.contains_cons, h0, h1, h2, h3, h4, h5, h6, h7, h8, h9, Bool.true_or, Bool.false_or]]
  go_enter Tryz.func96, Tryz.ntmps96
  go_wp2
  go_ret
  exact ⟨rfl, rfl⟩
 rcases Bool.eq_false_or_eq_true (s.toList == [99, 114, 101, 97, 116, 101]) with h10 | h10
 ·rw [show words.contains s.toList = true by simp only [words, List.contains_cons, h0, h1, h2, h3, h4, h5, h6, h7, h8, h9, h10, Bool.true_or, Bool.false_or]]
  go_enter Tryz.func96, Tryz.ntmps96
  go_wp2
  go_ret
  exact ⟨rfl, rfl⟩
 rcases Bool.eq_false_or_eq_true (s.toList == [117, 110, 105, 113, 117, 101]) with h11 | h11
 ·rw [show words.contains s.toList = true by simp only [words, List.contains_cons, h0, h1, h2, h3, h4, h5, h6, h7, h8, h9, h10, h11, Bool.true_or, Bool.false_or]]
  go_enter Tryz.func96, Tryz.ntmps96
  go_wp2
  go_ret
  exact ⟨rfl, rfl⟩
 rcases Bool.eq_false_or_eq_true (s.toList == [116, 97, 98, 108, 101]) with h12 | h12
 ·rw [show words.contains s.toList = true by simp only [words, List.contains_cons, h0, h1, h2, h3, h4, h5, h6, h7, h8, h9, h10, h11, h12, Bool.true_or, Bool.false_or]]
  go_enter Tryz.func96, Tryz.ntmps96
  go_wp2
  go_ret
  exact ⟨rfl, rfl⟩
 rcases Bool.eq_false_or_eq_true (s.toList == [105, 110, 100, 101, 120]) with h13 | h13
 ·rw [show words.contains s.toList = true by simp only [words, List.contains_cons, h0, h1, h2, h3, h4, h5, h6, h7, h8, h9, h10, h11, h12, h13, Bool.true_or, Bool.false_or]]
  go_enter Tryz.func96, Tryz.ntmps96
  go_wp2
  go_ret
  exact ⟨rfl, rfl⟩
 rcases Bool.eq_false_or_eq_true (s.toList == [111, 110]) with h14 | h14
 ·rw [show words.contains s.toList = true by simp only [words, List.contains_cons, h0, h1, h2, h3, h4, h5, h6, h7, h8, h9, h10, h11, h12, h13, h14, Bool.true_or, Bool.false_or]]
  go_enter Tryz.func96, Tryz.ntmps96
  go_wp2
  go_ret
  exact ⟨rfl, rfl⟩
 rcases Bool.eq_false_or_eq_true (s.toList == [100, 114, 111, 112]) with h15 | h15
 ·rw [show words.contains s.toList = true by simp only [words, List.contains_cons, h0, h1, h2, h3, h4, h5, h6, h7, h8, h9, h10, h11, h12, h13, h14, h15, Bool.true_or, Bool.false_or]]
  go_enter Tryz.func96, Tryz.ntmps96
  go_wp2
  go_ret
  exact ⟨rfl, rfl⟩
 rcases Bool.eq_false_or_eq_true (s.toList == [97, 108, 116, 101, 114]) with h16 | h16
 ·rw [show words.contains s.toList = true by simp only [words, List.contains_cons, h0, h1, h2, h3, h4, h5, h6, h7, h8, h9, h10, h11, h12, h13, h14, h15, h16, Bool.true_or, Bool.false_or]]
  go_enter Tryz.func96, Tryz.ntmps96
  go_wp2
  go_ret
  exact ⟨rfl, rfl⟩
 rcases Bool.eq_false_or_eq_true (s.toList == [97, 100, 100]) with h17 | h17
 ·rw [show words.contains s.toList = true by simp only [words, List.contains_cons, h0, h1, h2, h3, h4, h5, h6, h7, h8, h9, h10, h11, h12, h13, h14, h15, h16, h17, Bool.true_or, Bool.false_or]]
  go_enter Tryz.func96, Tryz.ntmps96
  go_wp2
  go_ret
  exact ⟨rfl, rfl⟩
 rcases Bool.eq_false_or_eq_true (s.toList == [99, 111, 108, 117, 109, 110]) with h18 | h18
 ·rw [show words.contains s.toList = true by simp only [words, List.contains_cons, h0, h1, h2, h3, h4, h5, h6, h7, h8, h9, h10, h11, h12, h13, h14, h15, h16, h17, h18, Bool.true_or, Bool.false_or]]
  go_enter Tryz.func96, Tryz.ntmps96
  go_wp2
  go_ret
  exact ⟨rfl, rfl⟩
 rcases Bool.eq_false_or_eq_true (s.toList == [100, 101, 102, 97, 117, 108, 116]) with h19 | h19
 ·rw [show words.contains s.toList = true by simp only [words, List.contains_cons, h0, h1, h2, h3, h4, h5, h6, h7, h8, h9, h10, h11, h12, h13, h14, h15, h16, h17, h18, h19, Bool.true_or, Bool.false_or]]
  go_enter Tryz.func96, Tryz.ntmps96
  go_wp2
  go_ret
  exact ⟨rfl, rfl⟩
 rcases Bool.eq_false_or_eq_true (s.toList == [110, 111, 116]) with h20 | h20
 ·rw [show words.contains s.toList = true by simp only [words, List.contains_cons, h0, h1, h2, h3, h4, h5, h6, h7, h8, h9, h10, h11, h12, h13, h14, h15, h16, h17, h18, h19, h20, Bool.true_or, Bool.false_or]]
  go_enter Tryz.func96, Tryz.ntmps96
  go_wp2
  go_ret
  exact ⟨rfl, rfl⟩
 rcases Bool.eq_false_or_eq_true (s.toList == [110, 117, 108, 108]) with h21 | h21
 ·rw [show words.contains s.toList = true by simp only [words, List.contains_cons, h0, h1, h2, h3, h4, h5, h6, h7, h8, h9, h10, h11, h12, h13, h14, h15, h16, h17, h18, h19, h20, h21, Bool.true_or, Bool.false_or]]
  go_enter Tryz.func96, Tryz.ntmps96
  go_wp2
  go_ret
  exact ⟨rfl, rfl⟩
 rcases Bool.eq_false_or_eq_true (s.toList == [105, 115]) with h22 | h22
 ·rw [show words.contains s.toList = true by simp only [words, List.contains_cons, h0, h1, h2, h3, h4, h5, h6, h7, h8, h9, h10, h11, h12, h13, h14, h15, h16, h17, h18, h19, h20, h21, h22, Bool.true_or, Bool.false_or]]
  go_enter Tryz.func96, Tryz.ntmps96
  go_wp2
  go_ret
  exact ⟨rfl, rfl⟩
 rcases Bool.eq_false_or_eq_true (s.toList == [112, 114, 105, 109, 97, 114, 121]) with h23 | h23
 ·rw [show words.contains s.toList = true by simp only [words, List.contains_cons, h0, h1, h2, h3, h4, h5, h6, h7, h8, h9, h10, h11, h12, h13, h14, h15, h16, h17, h18, h19, h20, h21, h22, h23, Bool.true_or, Bool.false_or]]
  go_enter Tryz.func96, Tryz.ntmps96
  go_wp2
  go_ret
  exact ⟨rfl, rfl⟩
 rcases Bool.eq_false_or_eq_true (s.toList == [107, 101, 121]) with h24 | h24
 ·rw [show words.contains s.toList = true by simp only [words, List.contains_cons, h0, h1, h2, h3, h4, h5, h6, h7, h8, h9, h10, h11, h12, h13, h14, h15, h16, h17, h18, h19, h20, h21, h22, h23, h24, Bool.true_or, Bool.false_or]]
  go_enter Tryz.func96, Tryz.ntmps96
  go_wp2
  go_ret
  exact ⟨rfl, rfl⟩
 rcases Bool.eq_false_or_eq_true (s.toList == [98, 111, 111, 108]) with h25 | h25
 ·rw [show words.contains s.toList = true by simp only [words, List.contains_cons, h0, h1, h2, h3, h4, h5, h6, h7, h8, h9, h10, h11, h12, h13, h14, h15, h16, h17, h18, h19, h20, h21, h22, h23, h24, h25, Bool.true_or, Bool.false_or]]
  go_enter Tryz.func96, Tryz.ntmps96
  go_wp2
  go_ret
  exact ⟨rfl, rfl⟩
 rcases Bool.eq_false_or_eq_true (s.toList == [105, 110, 116]) with h26 | h26
 ·rw [show words.contains s.toList = true by simp only [words, List.contains_cons, h0, h1, h2, h3, h4, h5, h6, h7, h8, h9, h10, h11, h12, h13, h14, h15, h16, h17, h18, h19, h20, h21, h22, h23, h24, h25, h26, Bool.true_or, Bool.false_or]]
  go_enter Tryz.func96, Tryz.ntmps96
  go_wp2
  go_ret
  exact ⟨rfl, rfl⟩
 rcases Bool.eq_false_or_eq_true (s.toList == [102, 108, 111, 97, 116]) with h27 | h27
 ·rw [show words.contains s.toList = true by simp only [words, List.contains_cons, h0, h1, h2, h3, h4, h5, h6, h7, h8, h9, h10, h11, h12, h13, h14, h15, h16, h17, h18, h19, h20, h21, h22, h23, h24, h25, h26, h27, Bool.true_or, Bool.false_or]]
  go_enter Tryz.func96, Tryz.ntmps96
  go_wp2
  go_ret
  exact ⟨rfl, rfl⟩
 rcases Bool.eq_false_or_eq_true (s.toList == [98, 121, 116, 101, 115]) with h28 | h28
 ·rw [show words.contains s.toList = true by simp only [words, List.contains_cons, h0, h1, h2, h3, h4, h5, h6, h7, h8, h9, h10, h11, h12, h13, h14, h15, h16, h17, h18, h19, h20, h21, h22, h23, h24, h25, h26, h27, h28, Bool.true_or, Bool.false_or]]
  go_enter Tryz.func96, Tryz.ntmps96
  go_wp2
  go_ret
  exact ⟨rfl, rfl⟩
 rcases Bool.eq_false_or_eq_true (s.toList == [116, 101, 120, 116]) with h29 | h29
 ·rw [show words.contains s.toList = true by simp only [words, List.contains_cons, h0, h1, h2, h3, h4, h5, h6, h7, h8, h9, h10, h11, h12, h13, h14, h15, h16, h17, h18, h19, h20, h21, h22, h23, h24, h25, h26, h27, h28, h29, Bool.true_or, Bool.false_or]]
  go_enter Tryz.func96, Tryz.ntmps96
  go_wp2
  go_ret
  exact ⟨rfl, rfl⟩
 rcases Bool.eq_false_or_eq_true (s.toList == [116, 114, 117, 101]) with h30 | h30
 ·rw [show words.contains s.toList = true by simp only [words, List.contains_cons, h0, h1, h2, h3, h4, h5, h6, h7, h8, h9, h10, h11, h12, h13, h14, h15, h16, h17, h18, h19, h20, h21, h22, h23, h24, h25, h26, h27, h28, h29, h30, Bool.true_or, Bool.false_or]]
  go_enter Tryz.func96, Tryz.ntmps96
  go_wp2
  go_ret
  exact ⟨rfl, rfl⟩
 rcases Bool.eq_false_or_eq_true (s.toList == [102, 97, 108, 115, 101]) with h31 | h31
 ·rw [show words.contains s.toList = true by simp only [words, List.contains_cons, h0, h1, h2, h3, h4, h5, h6, h7, h8, h9, h10, h11, h12, h13, h14, h15, h16, h17, h18, h19, h20, h21, h22, h23, h24, h25, h26, h27, h28, h29, h30, h31, Bool.true_or, Bool.false_or]]
  go_enter Tryz.func96, Tryz.ntmps96
  go_wp2
  go_ret
  exact ⟨rfl, rfl⟩
 rw [show words.contains s.toList = false by simp only [words, List.contains_cons, List.contains_nil, h0, h1, h2, h3, h4, h5, h6, h7, h8, h9, h10, h11, h12, h13, h14, h15, h16, h17, h18, h19, h20, h21, h22, h23, h24, h25, h26, h27, h28, h29, h30, h31, Bool.or_self]]
 go_enter Tryz.func96, Tryz.ntmps96
 go_wp2
 go_ret
 exact ⟨rfl, rfl⟩
set_option maxRecDepth 100000 in
theorem refWord_any (s : ByteArray) (w : World) :
  Calls Tryz.prog 70 #[.string s] w fun e w' => e = .returned (.bool (words.contains s.toList)) ∧ w' = w := by
 rcases Bool.eq_false_or_eq_true (s.toList == [105, 110, 115, 101, 114, 116]) with h0 | h0
 ·rw [show words.contains s.toList = true by simp only [words, List.contains_cons, h0, Bool.true_or]]
  go_enter Tryz.func70, Tryz.ntmps70
  go_wp2
  go_ret
  exact ⟨rfl, rfl⟩
 rcases Bool.eq_false_or_eq_true (s.toList == [105, 110, 116, 111]) with h1 | h1
 ·rw [show words.contains s.toList = true by simp only [words, List.contains_cons, h0, h1, Bool.true_or, Bool.false_or]]
  go_enter Tryz.func70, Tryz.ntmps70
  go_wp2
  go_ret
  exact ⟨rfl, rfl⟩
 rcases Bool.eq_false_or_eq_true (s.toList == [118, 97, 108, 117, 101, 115]) with h2 | h2
 ·rw [show words.contains s.toList = true by simp only [words, List.contains_cons, h0, h1, h2, Bool.true_or, Bool.false_or]]
  go_enter Tryz.func70, Tryz.ntmps70
  go_wp2
  go_ret
  exact ⟨rfl, rfl⟩
 rcases Bool.eq_false_or_eq_true (s.toList == [117, 112, 100, 97, 116, 101]) with h3 | h3
 ·rw [show words.contains s.toList = true by simp only [words, List.contains_cons, h0, h1, h2, h3, Bool.true_or, Bool.false_or]]
  go_enter Tryz.func70, Tryz.ntmps70
  go_wp2
  go_ret
  exact ⟨rfl, rfl⟩
 rcases Bool.eq_false_or_eq_true (s.toList == [115, 101, 116]) with h4 | h4
 ·rw [show words.contains s.toList = true by simp only [words, List.contains_cons, h0, h1, h2, h3, h4, Bool.true_or, Bool.false_or]]
  go_enter Tryz.func70, Tryz.ntmps70
  go_wp2
  go_ret
  exact ⟨rfl, rfl⟩
 rcases Bool.eq_false_or_eq_true (s.toList == [119, 104, 101, 114, 101]) with h5 | h5
 ·rw [show words.contains s.toList = true by simp only [words, List.contains_cons, h0, h1, h2, h3, h4, h5, Bool.true_or, Bool.false_or]]
  go_enter Tryz.func70, Tryz.ntmps70
  go_wp2
  go_ret
  exact ⟨rfl, rfl⟩
 rcases Bool.eq_false_or_eq_true (s.toList == [97, 110, 100]) with h6 | h6
 ·rw [show words.contains s.toList = true by simp only [words, List.contains_cons, h0, h1, h2, h3, h4, h5, h6, Bool.true_or, Bool.false_or]]
  go_enter Tryz.func70, Tryz.ntmps70
  go_wp2
  go_ret
  exact ⟨rfl, rfl⟩
 rcases Bool.eq_false_or_eq_true (s.toList == [100, 101, 108, 101, 116, 101]) with h7 | h7
 ·rw [show words.contains s.toList = true by simp only [words, List.contains_cons, h0, h1, h2, h3, h4, h5, h6, h7, Bool.true_or, Bool.false_or]]
  go_enter Tryz.func70, Tryz.ntmps70
  go_wp2
  go_ret
  exact ⟨rfl, rfl⟩
 rcases Bool.eq_false_or_eq_true (s.toList == [102, 114, 111, 109]) with h8 | h8
 ·rw [show words.contains s.toList = true by simp only [words, List.contains_cons, h0, h1, h2, h3, h4, h5, h6, h7, h8, Bool.true_or, Bool.false_or]]
  go_enter Tryz.func70, Tryz.ntmps70
  go_wp2
  go_ret
  exact ⟨rfl, rfl⟩
 rcases Bool.eq_false_or_eq_true (s.toList == [115, 101, 108, 101, 99, 116]) with h9 | h9
 ·rw [show words.contains s.toList = true by simp only [words, List.contains_cons, h0, h1, h2, h3, h4, h5, h6, h7, h8, h9, Bool.true_or, Bool.false_or]]
  go_enter Tryz.func70, Tryz.ntmps70
  go_wp2
  go_ret
  exact ⟨rfl, rfl⟩
 rcases Bool.eq_false_or_eq_true (s.toList == [99, 114, 101, 97, 116, 101]) with h10 | h10
 ·rw [show words.contains s.toList = true by simp only [words, List.contains_cons, h0, h1, h2, h3, h4, h5, h6, h7, h8, h9, h10, Bool.true_or, Bool.false_or]]
  go_enter Tryz.func70, Tryz.ntmps70
  go_wp2
  go_ret
  exact ⟨rfl, rfl⟩
 rcases Bool.eq_false_or_eq_true (s.toList == [117, 110, 105, 113, 117, 101]) with h11 | h11
 ·rw [show words.contains s.toList = true by simp only [words, List.contains_cons, h0, h1, h2, h3, h4, h5, h6, h7, h8, h9, h10, h11, Bool.true_or, Bool.false_or]]
  go_enter Tryz.func70, Tryz.ntmps70
  go_wp2
  go_ret
  exact ⟨rfl, rfl⟩
 rcases Bool.eq_false_or_eq_true (s.toList == [116, 97, 98, 108, 101]) with h12 | h12
 ·rw [show words.contains s.toList = true by simp only [words, List.contains_cons, h0, h1, h2, h3, h4, h5, h6, h7, h8, h9, h10, h11, h12, Bool.true_or, Bool.false_or]]
  go_enter Tryz.func70, Tryz.ntmps70
  go_wp2
  go_ret
  exact ⟨rfl, rfl⟩
 rcases Bool.eq_false_or_eq_true (s.toList == [105, 110, 100, 101, 120]) with h13 | h13
 ·rw [show words.contains s.toList = true by simp only [words, List.contains_cons, h0, h1, h2, h3, h4, h5, h6, h7, h8, h9, h10, h11, h12, h13, Bool.true_or, Bool.false_or]]
  go_enter Tryz.func70, Tryz.ntmps70
  go_wp2
  go_ret
  exact ⟨rfl, rfl⟩
 rcases Bool.eq_false_or_eq_true (s.toList == [111, 110]) with h14 | h14
 ·rw [show words.contains s.toList = true by simp only [words, List.contains_cons, h0, h1, h2, h3, h4, h5, h6, h7, h8, h9, h10, h11, h12, h13, h14, Bool.true_or, Bool.false_or]]
  go_enter Tryz.func70, Tryz.ntmps70
  go_wp2
  go_ret
  exact ⟨rfl, rfl⟩
 rcases Bool.eq_false_or_eq_true (s.toList == [100, 114, 111, 112]) with h15 | h15
 ·rw [show words.contains s.toList = true by simp only [words, List.contains_cons, h0, h1, h2, h3, h4, h5, h6, h7, h8, h9, h10, h11, h12, h13, h14, h15, Bool.true_or, Bool.false_or]]
  go_enter Tryz.func70, Tryz.ntmps70
  go_wp2
  go_ret
  exact ⟨rfl, rfl⟩
 rcases Bool.eq_false_or_eq_true (s.toList == [97, 108, 116, 101, 114]) with h16 | h16
 ·rw [show words.contains s.toList = true by simp only [words, List.contains_cons, h0, h1, h2, h3, h4, h5, h6, h7, h8, h9, h10, h11, h12, h13, h14, h15, h16, Bool.true_or, Bool.false_or]]
  go_enter Tryz.func70, Tryz.ntmps70
  go_wp2
  go_ret
  exact ⟨rfl, rfl⟩
 rcases Bool.eq_false_or_eq_true (s.toList == [97, 100, 100]) with h17 | h17
 ·rw [show words.contains s.toList = true by simp only [words, List.contains_cons, h0, h1, h2, h3, h4, h5, h6, h7, h8, h9, h10, h11, h12, h13, h14, h15, h16, h17, Bool.true_or, Bool.false_or]]
  go_enter Tryz.func70, Tryz.ntmps70
  go_wp2
  go_ret
  exact ⟨rfl, rfl⟩
 rcases Bool.eq_false_or_eq_true (s.toList == [99, 111, 108, 117, 109, 110]) with h18 | h18
 ·rw [show words.contains s.toList = true by simp only [words, List.contains_cons, h0, h1, h2, h3, h4, h5, h6, h7, h8, h9, h10, h11, h12, h13, h14, h15, h16, h17, h18, Bool.true_or, Bool.false_or]]
  go_enter Tryz.func70, Tryz.ntmps70
  go_wp2
  go_ret
  exact ⟨rfl, rfl⟩
 rcases Bool.eq_false_or_eq_true (s.toList == [100, 101, 102, 97, 117, 108, 116]) with h19 | h19
 ·rw [show words.contains s.toList = true by simp only [words, List.contains_cons, h0, h1, h2, h3, h4, h5, h6, h7, h8, h9, h10, h11, h12, h13, h14, h15, h16, h17, h18, h19, Bool.true_or, Bool.false_or]]
  go_enter Tryz.func70, Tryz.ntmps70
  go_wp2
  go_ret
  exact ⟨rfl, rfl⟩
 rcases Bool.eq_false_or_eq_true (s.toList == [110, 111, 116]) with h20 | h20
 ·rw [show words.contains s.toList = true by simp only [words, List.contains_cons, h0, h1, h2, h3, h4, h5, h6, h7, h8, h9, h10, h11, h12, h13, h14, h15, h16, h17, h18, h19, h20, Bool.true_or, Bool.false_or]]
  go_enter Tryz.func70, Tryz.ntmps70
  go_wp2
  go_ret
  exact ⟨rfl, rfl⟩
 rcases Bool.eq_false_or_eq_true (s.toList == [110, 117, 108, 108]) with h21 | h21
 ·rw [show words.contains s.toList = true by simp only [words, List.contains_cons, h0, h1, h2, h3, h4, h5, h6, h7, h8, h9, h10, h11, h12, h13, h14, h15, h16, h17, h18, h19, h20, h21, Bool.true_or, Bool.false_or]]
  go_enter Tryz.func70, Tryz.ntmps70
  go_wp2
  go_ret
  exact ⟨rfl, rfl⟩
 rcases Bool.eq_false_or_eq_true (s.toList == [105, 115]) with h22 | h22
 ·rw [show words.contains s.toList = true by simp only [words, List.contains_cons, h0, h1, h2, h3, h4, h5, h6, h7, h8, h9, h10, h11, h12, h13, h14, h15, h16, h17, h18, h19, h20, h21, h22, Bool.true_or, Bool.false_or]]
  go_enter Tryz.func70, Tryz.ntmps70
  go_wp2
  go_ret
  exact ⟨rfl, rfl⟩
 rcases Bool.eq_false_or_eq_true (s.toList == [112, 114, 105, 109, 97, 114, 121]) with h23 | h23
 ·rw [show words.contains s.toList = true by simp only [words, List.contains_cons, h0, h1, h2, h3, h4, h5, h6, h7, h8, h9, h10, h11, h12, h13, h14, h15, h16, h17, h18, h19, h20, h21, h22, h23, Bool.true_or, Bool.false_or]]
  go_enter Tryz.func70, Tryz.ntmps70
  go_wp2
  go_ret
  exact ⟨rfl, rfl⟩
 rcases Bool.eq_false_or_eq_true (s.toList == [107, 101, 121]) with h24 | h24
 ·rw [show words.contains s.toList = true by simp only [words, List.contains_cons, h0, h1, h2, h3, h4, h5, h6, h7, h8, h9, h10, h11, h12, h13, h14, h15, h16, h17, h18, h19, h20, h21, h22, h23, h24, Bool.true_or, Bool.false_or]]
  go_enter Tryz.func70, Tryz.ntmps70
  go_wp2
  go_ret
  exact ⟨rfl, rfl⟩
 rcases Bool.eq_false_or_eq_true (s.toList == [98, 111, 111, 108]) with h25 | h25
 ·rw [show words.contains s.toList = true by simp only [words, List.contains_cons, h0, h1, h2, h3, h4, h5, h6, h7, h8, h9, h10, h11, h12, h13, h14, h15, h16, h17, h18, h19, h20, h21, h22, h23, h24, h25, Bool.true_or, Bool.false_or]]
  go_enter Tryz.func70, Tryz.ntmps70
  go_wp2
  go_ret
  exact ⟨rfl, rfl⟩
 rcases Bool.eq_false_or_eq_true (s.toList == [105, 110, 116]) with h26 | h26
 ·rw [show words.contains s.toList = true by simp only [words, List.contains_cons, h0, h1, h2, h3, h4, h5, h6, h7, h8, h9, h10, h11, h12, h13, h14, h15, h16, h17, h18, h19, h20, h21, h22, h23, h24, h25, h26, Bool.true_or, Bool.false_or]]
  go_enter Tryz.func70, Tryz.ntmps70
  go_wp2
  go_ret
  exact ⟨rfl, rfl⟩
 rcases Bool.eq_false_or_eq_true (s.toList == [102, 108, 111, 97, 116]) with h27 | h27
 ·rw [show words.contains s.toList = true by simp only [words, List.contains_cons, h0, h1, h2, h3, h4, h5, h6, h7, h8, h9, h10, h11, h12, h13, h14, h15, h16, h17, h18, h19, h20, h21, h22, h23, h24, h25, h26, h27, Bool.true_or, Bool.false_or]]
  go_enter Tryz.func70, Tryz.ntmps70
  go_wp2
  go_ret
  exact ⟨rfl, rfl⟩
 rcases Bool.eq_false_or_eq_true (s.toList == [98, 121, 116, 101, 115]) with h28 | h28
 ·rw [show words.contains s.toList = true by simp only [words, List.contains_cons, h0, h1, h2, h3, h4, h5, h6, h7, h8, h9, h10, h11, h12, h13, h14, h15, h16, h17, h18, h19, h20, h21, h22, h23, h24, h25, h26, h27, h28, Bool.true_or, Bool.false_or]]
  go_enter Tryz.func70, Tryz.ntmps70
  go_wp2
  go_ret
  exact ⟨rfl, rfl⟩
 rcases Bool.eq_false_or_eq_true (s.toList == [116, 101, 120, 116]) with h29 | h29
 ·rw [show words.contains s.toList = true by simp only [words, List.contains_cons, h0, h1, h2, h3, h4, h5, h6, h7, h8, h9, h10, h11, h12, h13, h14, h15, h16, h17, h18, h19, h20, h21, h22, h23, h24, h25, h26, h27, h28, h29, Bool.true_or, Bool.false_or]]
  go_enter Tryz.func70, Tryz.ntmps70
  go_wp2
  go_ret
  exact ⟨rfl, rfl⟩
 rcases Bool.eq_false_or_eq_true (s.toList == [116, 114, 117, 101]) with h30 | h30
 ·rw [show words.contains s.toList = true by simp only [words, List.contains_cons, h0, h1, h2, h3, h4, h5, h6, h7, h8, h9, h10, h11, h12, h13, h14, h15, h16, h17, h18, h19, h20, h21, h22, h23, h24, h25, h26, h27, h28, h29, h30, Bool.true_or, Bool.false_or]]
  go_enter Tryz.func70, Tryz.ntmps70
  go_wp2
  go_ret
  exact ⟨rfl, rfl⟩
 rcases Bool.eq_false_or_eq_true (s.toList == [102, 97, 108, 115, 101]) with h31 | h31
 ·rw [show words.contains s.toList = true by simp only [words, List.contains_cons, h0, h1, h2, h3, h4, h5, h6, h7, h8, h9, h10, h11, h12, h13, h14, h15, h16, h17, h18, h19, h20, h21, h22, h23, h24, h25, h26, h27, h28, h29, h30, h31, Bool.true_or, Bool.false_or]]
  go_enter Tryz.func70, Tryz.ntmps70
  go_wp2
  go_ret
  exact ⟨rfl, rfl⟩
 rw [show words.contains s.toList = false by simp only [words, List.contains_cons, List.contains_nil, h0, h1, h2, h3, h4, h5, h6, h7, h8, h9, h10, h11, h12, h13, h14, h15, h16, h17, h18, h19, h20, h21, h22, h23, h24, h25, h26, h27, h28, h29, h30, h31, Bool.or_self]]
 go_enter Tryz.func70, Tryz.ntmps70
 go_wp2
 go_ret
 exact ⟨rfl, rfl⟩
end Go.Proofs.YtiajlhjjmlakmaaGreatDoor
