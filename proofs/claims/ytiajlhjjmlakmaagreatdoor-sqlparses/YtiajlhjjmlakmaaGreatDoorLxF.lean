import Derived.Test.YtiajlhjjmlakmaaGreatDoorLxQt
namespace Go.Proofs.YtiajlhjjmlakmaaGreatDoor
open Go.RowKit Num
set_option linter.unusedVariables false
set_option maxRecDepth 100000

theorem low_of {c : UInt8} {n : Nat} (h : c.toNat = n) (h1 : 97 ≤ n) (h2 : n ≤ 122) : lowB c = true := by
 unfold lowB
 rw [decide_eq_true (show 97 ≤ c.toNat by omega), decide_eq_true (show c.toNat ≤ 122 by omega)]
 rfl
theorem low_not {c : UInt8} (h : lowB c = false) {n : Nat} (h1 : 97 ≤ n) (h2 : n ≤ 122) : ¬ c.toNat = n := fun e => by
 rw [low_of e h1 h2] at h
 cases h
theorem first_bytes (s : ByteArray) (h0 : 0 < s.size) (hs2 : s.size ≤ 100000) (h1 : s[0].toNat = 120) (h2 : (s.data.toList.drop 1).head? = some 39) (w : World) :
  Calls Tryz.prog 26 #[.string s] w fun e w' => e = .returned (tkV s.data.toList (tokL s.data.toList)) ∧ Below w.heap.size w w' := by
 obtain ⟨b, hb⟩ : ∃ b, s.extract 1 s.size = b := ⟨_, rfl⟩
 have hl : s.data.toList.length = s.size := rfl
 have hcr : s.data.toList = s[0] :: s.data.toList.drop 1 := by
  have := sdrop_at s 0 h0
  simpa using this
 have hbd : b.data.toList = s.data.toList.drop 1 := by rw [← hb, ext_drop, data_str]
 have hbs : b.size ≤ 1000000 := by rw [← hb, ext_drop, size_str, List.length_drop]; omega
 have hq := quoted_any b hbs
 rw [hbd] at hq
 have e1 := int_eq s[0] 120
 have e2 := int_eq s[0] 102
 have e3 := int_eq s[0] 45
 have e4 := int_eq s[0] 39
 have e1 : (((s[0].toNat : Nat) : Int) == 120) = decide (s[0].toNat = 120) := e1
 have e2 : (((s[0].toNat : Nat) : Int) == 102) = decide (s[0].toNat = 102) := e2
 have e3 : (((s[0].toNat : Nat) : Int) == 45) = decide (s[0].toNat = 45) := e3
 have e4 : (((s[0].toNat : Nat) : Int) == 39) = decide (s[0].toNat = 39) := e4
 have hlet : ∀ z : Int, z = (s[0].toNat : Int) → ∀ w, Calls Tryz.prog 49 #[.int .u8 z] w fun e w' => e = .returned (.bool (lowB s[0])) ∧ w' = w := fun z hz w => by subst hz; exact letter_any s[0] w
 have hdig : ∀ z : Int, z = (s[0].toNat : Int) → ∀ w, Calls Tryz.prog 51 #[.int .u8 z] w fun e w' => e = .returned (.bool (digB s[0])) ∧ w' = w := fun z hz w => by subst hz; exact digit_any s[0] w
 have hsig : ∀ z : Int, z = (s[0].toNat : Int) → ∀ w, Calls Tryz.prog 54 #[.int .u8 z] w fun e w' => e = .returned (.bool (signB s[0])) ∧ w' = w := fun z hz w => by subst hz; exact sign_any s[0] w
 have htok : tokL (s[0] :: s.data.toList.drop 1) = bytesT ((s.data.toList.drop 1).drop 1) := by
  rw [tokL]
  rw [if_pos ⟨h1, h2⟩]
 rw [← hcr] at htok
 rw [htok]
 clear htok hl hbs
 have hs : 2 ≤ s.size := by
  cases hd : s.data.toList.drop 1 with
  | nil => rw [hd] at h2; cases h2
  | cons a q =>
   have := congrArg List.length hd
   have hl : s.data.toList.length = s.size := rfl
   simp only [List.length_drop, List.length_cons] at this
   omega
 rw [decide_eq_true h1] at e1
 rw [decide_eq_true h2] at hq
 rw [List.drop_drop]
 have hv := readBytes_any s hs hs2
 obtain ⟨k, t, v, bb, htk⟩ := tk_open s.data.toList (bytesT (s.data.toList.drop 2))
 rw [htk] at hv ⊢
 unfold tokV at hv
 clear htk hcr hbd h1 h2 e2 e3 e4
 go_enter Tryz.func26, Tryz.ntmps26
 go_wp2_with (first
   | (go_at_call 46; refine (hq _).mono ?_; rintro e w1 ⟨rfl, rfl⟩)
   | (go_at_call 49; refine (hlet _ (by first | rfl | (simp at e1; omega) | (simp at e2; omega)) _).mono ?_; rintro e w1 ⟨rfl, rfl⟩)
   | (go_at_call 51; refine (hdig _ (by first | rfl | (simp at e3; omega)) _).mono ?_; rintro e w1 ⟨rfl, rfl⟩)
   | (go_at_call 54; refine (hsig _ (by first | rfl | omega) _).mono ?_; rintro e w1 ⟨rfl, rfl⟩)
   | (go_at_call 47; refine (hv _).mono ?_; rintro e w3 ⟨rfl, hb3⟩; have hz := zbox_at hb3; obtain ⟨q0, q1, q2, q3, q4, q5, q6⟩ := cells7 hz; obtain ⟨z0, z1, z2, z3, z4, z5, z6⟩ := free7 hz; clear hz))
 refine bodyPost_ret (v := .tuple #[tokV k t v 0, .bool bb]) (by simp [results, Tryz.results26, go_sem, tokV, q0, q1, q2, q3, q4, q5, q6]) rfl ⟨rfl, ?_⟩
 exact below_set7 (below_box0 hb3) (Nat.le_refl _) _ _ _ _ _ _ _
theorem first_float (s : ByteArray) (h0 : 0 < s.size) (hs2 : s.size ≤ 100000) (h1 : s[0].toNat = 102) (h2 : (s.data.toList.drop 1).head? = some 39) (w : World) :
  Calls Tryz.prog 26 #[.string s] w fun e w' => e = .returned (tkV s.data.toList (tokL s.data.toList)) ∧ Below w.heap.size w w' := by
 obtain ⟨b, hb⟩ : ∃ b, s.extract 1 s.size = b := ⟨_, rfl⟩
 have hl : s.data.toList.length = s.size := rfl
 have hcr : s.data.toList = s[0] :: s.data.toList.drop 1 := by
  have := sdrop_at s 0 h0
  simpa using this
 have hbd : b.data.toList = s.data.toList.drop 1 := by rw [← hb, ext_drop, data_str]
 have hbs : b.size ≤ 1000000 := by rw [← hb, ext_drop, size_str, List.length_drop]; omega
 have hq := quoted_any b hbs
 rw [hbd] at hq
 have e1 := int_eq s[0] 120
 have e2 := int_eq s[0] 102
 have e3 := int_eq s[0] 45
 have e4 := int_eq s[0] 39
 have e1 : (((s[0].toNat : Nat) : Int) == 120) = decide (s[0].toNat = 120) := e1
 have e2 : (((s[0].toNat : Nat) : Int) == 102) = decide (s[0].toNat = 102) := e2
 have e3 : (((s[0].toNat : Nat) : Int) == 45) = decide (s[0].toNat = 45) := e3
 have e4 : (((s[0].toNat : Nat) : Int) == 39) = decide (s[0].toNat = 39) := e4
 have hlet : ∀ z : Int, z = (s[0].toNat : Int) → ∀ w, Calls Tryz.prog 49 #[.int .u8 z] w fun e w' => e = .returned (.bool (lowB s[0])) ∧ w' = w := fun z hz w => by subst hz; exact letter_any s[0] w
 have hdig : ∀ z : Int, z = (s[0].toNat : Int) → ∀ w, Calls Tryz.prog 51 #[.int .u8 z] w fun e w' => e = .returned (.bool (digB s[0])) ∧ w' = w := fun z hz w => by subst hz; exact digit_any s[0] w
 have hsig : ∀ z : Int, z = (s[0].toNat : Int) → ∀ w, Calls Tryz.prog 54 #[.int .u8 z] w fun e w' => e = .returned (.bool (signB s[0])) ∧ w' = w := fun z hz w => by subst hz; exact sign_any s[0] w
 have htok : tokL (s[0] :: s.data.toList.drop 1) = floatT ((s.data.toList.drop 1).drop 1) := by
  rw [tokL]
  rw [if_neg (by omega), if_pos ⟨h1, h2⟩]
 rw [← hcr] at htok
 rw [htok]
 clear htok hl hbs
 have hs : 2 ≤ s.size := by
  cases hd : s.data.toList.drop 1 with
  | nil => rw [hd] at h2; cases h2
  | cons a q =>
   have := congrArg List.length hd
   have hl : s.data.toList.length = s.size := rfl
   simp only [List.length_drop, List.length_cons] at this
   omega
 rw [decide_eq_false (by omega)] at e1
 rw [decide_eq_true h1] at e2
 rw [decide_eq_true h2] at hq
 rw [List.drop_drop]
 have hv := readFloat_any s hs (by omega)
 obtain ⟨k, t, v, bb, htk⟩ := tk_open s.data.toList (floatT (s.data.toList.drop 2))
 rw [htk] at hv ⊢
 unfold tokV at hv
 clear htk hcr hbd h1 h2 e3 e4
 go_enter Tryz.func26, Tryz.ntmps26
 go_wp2_with (first
   | (go_at_call 46; refine (hq _).mono ?_; rintro e w1 ⟨rfl, rfl⟩)
   | (go_at_call 49; refine (hlet _ (by first | rfl | (simp at e1; omega) | (simp at e2; omega)) _).mono ?_; rintro e w1 ⟨rfl, rfl⟩)
   | (go_at_call 51; refine (hdig _ (by first | rfl | (simp at e3; omega)) _).mono ?_; rintro e w1 ⟨rfl, rfl⟩)
   | (go_at_call 54; refine (hsig _ (by first | rfl | omega) _).mono ?_; rintro e w1 ⟨rfl, rfl⟩)
   | (go_at_call 48; refine (hv _).mono ?_; rintro e w3 ⟨rfl, hb3⟩; have hz := zbox_at hb3; obtain ⟨q0, q1, q2, q3, q4, q5, q6⟩ := cells7 hz; obtain ⟨z0, z1, z2, z3, z4, z5, z6⟩ := free7 hz; clear hz))
 refine bodyPost_ret (v := .tuple #[tokV k t v 0, .bool bb]) (by simp [results, Tryz.results26, go_sem, tokV, q0, q1, q2, q3, q4, q5, q6]) rfl ⟨rfl, ?_⟩
 exact below_set7 (below_box0 hb3) (Nat.le_refl _) _ _ _ _ _ _ _
theorem first_name1 (s : ByteArray) (h0 : 0 < s.size) (hs2 : s.size ≤ 100000) (h1 : s[0].toNat = 120) (h2 : ¬ (s.data.toList.drop 1).head? = some 39) (h3 : lowB s[0] = true) (w : World) :
  Calls Tryz.prog 26 #[.string s] w fun e w' => e = .returned (tkV s.data.toList (tokL s.data.toList)) ∧ Below w.heap.size w w' := by
 obtain ⟨b, hb⟩ : ∃ b, s.extract 1 s.size = b := ⟨_, rfl⟩
 have hl : s.data.toList.length = s.size := rfl
 have hcr : s.data.toList = s[0] :: s.data.toList.drop 1 := by
  have := sdrop_at s 0 h0
  simpa using this
 have hbd : b.data.toList = s.data.toList.drop 1 := by rw [← hb, ext_drop, data_str]
 have hbs : b.size ≤ 1000000 := by rw [← hb, ext_drop, size_str, List.length_drop]; omega
 have hq := quoted_any b hbs
 rw [hbd] at hq
 have e1 := int_eq s[0] 120
 have e2 := int_eq s[0] 102
 have e3 := int_eq s[0] 45
 have e4 := int_eq s[0] 39
 have e1 : (((s[0].toNat : Nat) : Int) == 120) = decide (s[0].toNat = 120) := e1
 have e2 : (((s[0].toNat : Nat) : Int) == 102) = decide (s[0].toNat = 102) := e2
 have e3 : (((s[0].toNat : Nat) : Int) == 45) = decide (s[0].toNat = 45) := e3
 have e4 : (((s[0].toNat : Nat) : Int) == 39) = decide (s[0].toNat = 39) := e4
 have hlet : ∀ z : Int, z = (s[0].toNat : Int) → ∀ w, Calls Tryz.prog 49 #[.int .u8 z] w fun e w' => e = .returned (.bool (lowB s[0])) ∧ w' = w := fun z hz w => by subst hz; exact letter_any s[0] w
 have hdig : ∀ z : Int, z = (s[0].toNat : Int) → ∀ w, Calls Tryz.prog 51 #[.int .u8 z] w fun e w' => e = .returned (.bool (digB s[0])) ∧ w' = w := fun z hz w => by subst hz; exact digit_any s[0] w
 have hsig : ∀ z : Int, z = (s[0].toNat : Int) → ∀ w, Calls Tryz.prog 54 #[.int .u8 z] w fun e w' => e = .returned (.bool (signB s[0])) ∧ w' = w := fun z hz w => by subst hz; exact sign_any s[0] w
 have htok : tokL (s[0] :: s.data.toList.drop 1) = nameT (s[0] :: s.data.toList.drop 1) := by
  rw [tokL]
  rw [if_neg (fun h => h2 h.2), if_neg (fun h => h2 h.2), if_pos h3]
 rw [← hcr] at htok
 rw [htok]
 clear htok hl hbs
 rw [decide_eq_true h1] at e1
 rw [decide_eq_false (by omega)] at e2
 rw [decide_eq_false h2] at hq
 rw [h3] at hlet
 have hv := readName_any s (by omega)
 obtain ⟨k, t, v, bb, htk⟩ := tk_open s.data.toList (nameT s.data.toList)
 rw [htk] at hv ⊢
 unfold tokV at hv
 clear htk hcr hbd h1 h2 h3 e3 e4
 go_enter Tryz.func26, Tryz.ntmps26
 go_wp2_with (first
   | (go_at_call 46; refine (hq _).mono ?_; rintro e w1 ⟨rfl, rfl⟩)
   | (go_at_call 49; refine (hlet _ (by first | rfl | (simp at e1; omega) | (simp at e2; omega)) _).mono ?_; rintro e w1 ⟨rfl, rfl⟩)
   | (go_at_call 51; refine (hdig _ (by first | rfl | (simp at e3; omega)) _).mono ?_; rintro e w1 ⟨rfl, rfl⟩)
   | (go_at_call 54; refine (hsig _ (by first | rfl | omega) _).mono ?_; rintro e w1 ⟨rfl, rfl⟩)
   | (go_at_call 50; refine (hv _).mono ?_; rintro e w3 ⟨rfl, hb3⟩; have hz := zbox_at hb3; obtain ⟨q0, q1, q2, q3, q4, q5, q6⟩ := cells7 hz; obtain ⟨z0, z1, z2, z3, z4, z5, z6⟩ := free7 hz; clear hz))
 refine bodyPost_ret (v := .tuple #[tokV k t v 0, .bool bb]) (by simp [results, Tryz.results26, go_sem, tokV, q0, q1, q2, q3, q4, q5, q6]) rfl ⟨rfl, ?_⟩
 exact below_set7 (below_box0 hb3) (Nat.le_refl _) _ _ _ _ _ _ _
theorem first_name2 (s : ByteArray) (h0 : 0 < s.size) (hs2 : s.size ≤ 100000) (h1 : s[0].toNat = 102) (h2 : ¬ (s.data.toList.drop 1).head? = some 39) (h3 : lowB s[0] = true) (w : World) :
  Calls Tryz.prog 26 #[.string s] w fun e w' => e = .returned (tkV s.data.toList (tokL s.data.toList)) ∧ Below w.heap.size w w' := by
 obtain ⟨b, hb⟩ : ∃ b, s.extract 1 s.size = b := ⟨_, rfl⟩
 have hl : s.data.toList.length = s.size := rfl
 have hcr : s.data.toList = s[0] :: s.data.toList.drop 1 := by
  have := sdrop_at s 0 h0
  simpa using this
 have hbd : b.data.toList = s.data.toList.drop 1 := by rw [← hb, ext_drop, data_str]
 have hbs : b.size ≤ 1000000 := by rw [← hb, ext_drop, size_str, List.length_drop]; omega
 have hq := quoted_any b hbs
 rw [hbd] at hq
 have e1 := int_eq s[0] 120
 have e2 := int_eq s[0] 102
 have e3 := int_eq s[0] 45
 have e4 := int_eq s[0] 39
 have e1 : (((s[0].toNat : Nat) : Int) == 120) = decide (s[0].toNat = 120) := e1
 have e2 : (((s[0].toNat : Nat) : Int) == 102) = decide (s[0].toNat = 102) := e2
 have e3 : (((s[0].toNat : Nat) : Int) == 45) = decide (s[0].toNat = 45) := e3
 have e4 : (((s[0].toNat : Nat) : Int) == 39) = decide (s[0].toNat = 39) := e4
 have hlet : ∀ z : Int, z = (s[0].toNat : Int) → ∀ w, Calls Tryz.prog 49 #[.int .u8 z] w fun e w' => e = .returned (.bool (lowB s[0])) ∧ w' = w := fun z hz w => by subst hz; exact letter_any s[0] w
 have hdig : ∀ z : Int, z = (s[0].toNat : Int) → ∀ w, Calls Tryz.prog 51 #[.int .u8 z] w fun e w' => e = .returned (.bool (digB s[0])) ∧ w' = w := fun z hz w => by subst hz; exact digit_any s[0] w
 have hsig : ∀ z : Int, z = (s[0].toNat : Int) → ∀ w, Calls Tryz.prog 54 #[.int .u8 z] w fun e w' => e = .returned (.bool (signB s[0])) ∧ w' = w := fun z hz w => by subst hz; exact sign_any s[0] w
 have htok : tokL (s[0] :: s.data.toList.drop 1) = nameT (s[0] :: s.data.toList.drop 1) := by
  rw [tokL]
  rw [if_neg (fun h => h2 h.2), if_neg (fun h => h2 h.2), if_pos h3]
 rw [← hcr] at htok
 rw [htok]
 clear htok hl hbs
 rw [decide_eq_false (by omega)] at e1
 rw [decide_eq_true h1] at e2
 rw [decide_eq_false h2] at hq
 rw [h3] at hlet
 have hv := readName_any s (by omega)
 obtain ⟨k, t, v, bb, htk⟩ := tk_open s.data.toList (nameT s.data.toList)
 rw [htk] at hv ⊢
 unfold tokV at hv
 clear htk hcr hbd h1 h2 h3 e3 e4
 go_enter Tryz.func26, Tryz.ntmps26
 go_wp2_with (first
   | (go_at_call 46; refine (hq _).mono ?_; rintro e w1 ⟨rfl, rfl⟩)
   | (go_at_call 49; refine (hlet _ (by first | rfl | (simp at e1; omega) | (simp at e2; omega)) _).mono ?_; rintro e w1 ⟨rfl, rfl⟩)
   | (go_at_call 51; refine (hdig _ (by first | rfl | (simp at e3; omega)) _).mono ?_; rintro e w1 ⟨rfl, rfl⟩)
   | (go_at_call 54; refine (hsig _ (by first | rfl | omega) _).mono ?_; rintro e w1 ⟨rfl, rfl⟩)
   | (go_at_call 50; refine (hv _).mono ?_; rintro e w3 ⟨rfl, hb3⟩; have hz := zbox_at hb3; obtain ⟨q0, q1, q2, q3, q4, q5, q6⟩ := cells7 hz; obtain ⟨z0, z1, z2, z3, z4, z5, z6⟩ := free7 hz; clear hz))
 refine bodyPost_ret (v := .tuple #[tokV k t v 0, .bool bb]) (by simp [results, Tryz.results26, go_sem, tokV, q0, q1, q2, q3, q4, q5, q6]) rfl ⟨rfl, ?_⟩
 exact below_set7 (below_box0 hb3) (Nat.le_refl _) _ _ _ _ _ _ _
theorem first_name3 (s : ByteArray) (h0 : 0 < s.size) (hs2 : s.size ≤ 100000) (h1 : ¬ s[0].toNat = 120) (h2 : ¬ s[0].toNat = 102) (h3 : lowB s[0] = true) (w : World) :
  Calls Tryz.prog 26 #[.string s] w fun e w' => e = .returned (tkV s.data.toList (tokL s.data.toList)) ∧ Below w.heap.size w w' := by
 obtain ⟨b, hb⟩ : ∃ b, s.extract 1 s.size = b := ⟨_, rfl⟩
 have hl : s.data.toList.length = s.size := rfl
 have hcr : s.data.toList = s[0] :: s.data.toList.drop 1 := by
  have := sdrop_at s 0 h0
  simpa using this
 have hbd : b.data.toList = s.data.toList.drop 1 := by rw [← hb, ext_drop, data_str]
 have hbs : b.size ≤ 1000000 := by rw [← hb, ext_drop, size_str, List.length_drop]; omega
 have hq := quoted_any b hbs
 rw [hbd] at hq
 have e1 := int_eq s[0] 120
 have e2 := int_eq s[0] 102
 have e3 := int_eq s[0] 45
 have e4 := int_eq s[0] 39
 have e1 : (((s[0].toNat : Nat) : Int) == 120) = decide (s[0].toNat = 120) := e1
 have e2 : (((s[0].toNat : Nat) : Int) == 102) = decide (s[0].toNat = 102) := e2
 have e3 : (((s[0].toNat : Nat) : Int) == 45) = decide (s[0].toNat = 45) := e3
 have e4 : (((s[0].toNat : Nat) : Int) == 39) = decide (s[0].toNat = 39) := e4
 have hlet : ∀ z : Int, z = (s[0].toNat : Int) → ∀ w, Calls Tryz.prog 49 #[.int .u8 z] w fun e w' => e = .returned (.bool (lowB s[0])) ∧ w' = w := fun z hz w => by subst hz; exact letter_any s[0] w
 have hdig : ∀ z : Int, z = (s[0].toNat : Int) → ∀ w, Calls Tryz.prog 51 #[.int .u8 z] w fun e w' => e = .returned (.bool (digB s[0])) ∧ w' = w := fun z hz w => by subst hz; exact digit_any s[0] w
 have hsig : ∀ z : Int, z = (s[0].toNat : Int) → ∀ w, Calls Tryz.prog 54 #[.int .u8 z] w fun e w' => e = .returned (.bool (signB s[0])) ∧ w' = w := fun z hz w => by subst hz; exact sign_any s[0] w
 have htok : tokL (s[0] :: s.data.toList.drop 1) = nameT (s[0] :: s.data.toList.drop 1) := by
  rw [tokL]
  rw [if_neg (fun h => h1 h.1), if_neg (fun h => h2 h.1), if_pos h3]
 rw [← hcr] at htok
 rw [htok]
 clear htok hl hbs
 rw [decide_eq_false h1] at e1
 rw [decide_eq_false h2] at e2
 rw [h3] at hlet
 have hv := readName_any s (by omega)
 obtain ⟨k, t, v, bb, htk⟩ := tk_open s.data.toList (nameT s.data.toList)
 rw [htk] at hv ⊢
 unfold tokV at hv
 clear htk hcr hbd h1 h2 h3 e3 e4
 go_enter Tryz.func26, Tryz.ntmps26
 go_wp2_with (first
   | (go_at_call 46; refine (hq _).mono ?_; rintro e w1 ⟨rfl, rfl⟩)
   | (go_at_call 49; refine (hlet _ (by first | rfl | (simp at e1; omega) | (simp at e2; omega)) _).mono ?_; rintro e w1 ⟨rfl, rfl⟩)
   | (go_at_call 51; refine (hdig _ (by first | rfl | (simp at e3; omega)) _).mono ?_; rintro e w1 ⟨rfl, rfl⟩)
   | (go_at_call 54; refine (hsig _ (by first | rfl | omega) _).mono ?_; rintro e w1 ⟨rfl, rfl⟩)
   | (go_at_call 50; refine (hv _).mono ?_; rintro e w3 ⟨rfl, hb3⟩; have hz := zbox_at hb3; obtain ⟨q0, q1, q2, q3, q4, q5, q6⟩ := cells7 hz; obtain ⟨z0, z1, z2, z3, z4, z5, z6⟩ := free7 hz; clear hz))
 refine bodyPost_ret (v := .tuple #[tokV k t v 0, .bool bb]) (by simp [results, Tryz.results26, go_sem, tokV, q0, q1, q2, q3, q4, q5, q6]) rfl ⟨rfl, ?_⟩
 exact below_set7 (below_box0 hb3) (Nat.le_refl _) _ _ _ _ _ _ _
theorem first_int1 (s : ByteArray) (h0 : 0 < s.size) (hs2 : s.size ≤ 100000) (h3 : lowB s[0] = false) (h4 : digB s[0] = true) (w : World) (hG : Glob w) :
  Calls Tryz.prog 26 #[.string s] w fun e w' => e = .returned (tkV s.data.toList (tokL s.data.toList)) ∧ Below w.heap.size w w' := by
 obtain ⟨b, hb⟩ : ∃ b, s.extract 1 s.size = b := ⟨_, rfl⟩
 have hl : s.data.toList.length = s.size := rfl
 have hcr : s.data.toList = s[0] :: s.data.toList.drop 1 := by
  have := sdrop_at s 0 h0
  simpa using this
 have hbd : b.data.toList = s.data.toList.drop 1 := by rw [← hb, ext_drop, data_str]
 have hbs : b.size ≤ 1000000 := by rw [← hb, ext_drop, size_str, List.length_drop]; omega
 have hq := quoted_any b hbs
 rw [hbd] at hq
 have e1 := int_eq s[0] 120
 have e2 := int_eq s[0] 102
 have e3 := int_eq s[0] 45
 have e4 := int_eq s[0] 39
 have e1 : (((s[0].toNat : Nat) : Int) == 120) = decide (s[0].toNat = 120) := e1
 have e2 : (((s[0].toNat : Nat) : Int) == 102) = decide (s[0].toNat = 102) := e2
 have e3 : (((s[0].toNat : Nat) : Int) == 45) = decide (s[0].toNat = 45) := e3
 have e4 : (((s[0].toNat : Nat) : Int) == 39) = decide (s[0].toNat = 39) := e4
 have hlet : ∀ z : Int, z = (s[0].toNat : Int) → ∀ w, Calls Tryz.prog 49 #[.int .u8 z] w fun e w' => e = .returned (.bool (lowB s[0])) ∧ w' = w := fun z hz w => by subst hz; exact letter_any s[0] w
 have hdig : ∀ z : Int, z = (s[0].toNat : Int) → ∀ w, Calls Tryz.prog 51 #[.int .u8 z] w fun e w' => e = .returned (.bool (digB s[0])) ∧ w' = w := fun z hz w => by subst hz; exact digit_any s[0] w
 have hsig : ∀ z : Int, z = (s[0].toNat : Int) → ∀ w, Calls Tryz.prog 54 #[.int .u8 z] w fun e w' => e = .returned (.bool (signB s[0])) ∧ w' = w := fun z hz w => by subst hz; exact sign_any s[0] w
 have htok : tokL (s[0] :: s.data.toList.drop 1) = intT (s[0] :: (s.data.toList.drop 1).take (runL letB (s.data.toList.drop 1))) := by
  rw [tokL]
  rw [if_neg (fun h => low_not h3 (by omega) (by omega) h.1), if_neg (fun h => low_not h3 (by omega) (by omega) h.1), if_neg (by simp [h3]), if_pos (.inl h4)]
 rw [← hcr] at htok
 rw [htok]
 clear htok hl hbs
 rw [decide_eq_false (low_not h3 (by omega) (by omega))] at e1
 rw [decide_eq_false (low_not h3 (by omega) (by omega))] at e2
 rw [h3] at hlet
 rw [h4] at hdig
 have hv := readInt_any s _ _ hcr (by omega)
 obtain ⟨k, t, v, bb, htk⟩ := tk_open s.data.toList (intT (s[0] :: (s.data.toList.drop 1).take (runL letB (s.data.toList.drop 1))))
 rw [htk] at hv ⊢
 unfold tokV at hv
 clear htk hcr hbd h3 h4 e3 e4
 go_enter Tryz.func26, Tryz.ntmps26
 go_wp2_with (first
   | (go_at_call 46; refine (hq _).mono ?_; rintro e w1 ⟨rfl, rfl⟩)
   | (go_at_call 49; refine (hlet _ (by first | rfl | (simp at e1; omega) | (simp at e2; omega)) _).mono ?_; rintro e w1 ⟨rfl, rfl⟩)
   | (go_at_call 51; refine (hdig _ (by first | rfl | (simp at e3; omega)) _).mono ?_; rintro e w1 ⟨rfl, rfl⟩)
   | (go_at_call 54; refine (hsig _ (by first | rfl | omega) _).mono ?_; rintro e w1 ⟨rfl, rfl⟩)
   | (go_at_call 52; refine (hv _ (hG.alloc _)).mono ?_; rintro e w3 ⟨rfl, hb3⟩; have hz := zbox_at hb3; obtain ⟨q0, q1, q2, q3, q4, q5, q6⟩ := cells7 hz; obtain ⟨z0, z1, z2, z3, z4, z5, z6⟩ := free7 hz; clear hz))
 refine bodyPost_ret (v := .tuple #[tokV k t v 0, .bool bb]) (by simp [results, Tryz.results26, go_sem, tokV, q0, q1, q2, q3, q4, q5, q6]) rfl ⟨rfl, ?_⟩
 exact below_set7 (below_box0 hb3) (Nat.le_refl _) _ _ _ _ _ _ _
theorem first_int2 (s : ByteArray) (h0 : 0 < s.size) (hs2 : s.size ≤ 100000) (h3 : lowB s[0] = false) (h4 : digB s[0] = false) (h5 : s[0].toNat = 45) (w : World) (hG : Glob w) :
  Calls Tryz.prog 26 #[.string s] w fun e w' => e = .returned (tkV s.data.toList (tokL s.data.toList)) ∧ Below w.heap.size w w' := by
 obtain ⟨b, hb⟩ : ∃ b, s.extract 1 s.size = b := ⟨_, rfl⟩
 have hl : s.data.toList.length = s.size := rfl
 have hcr : s.data.toList = s[0] :: s.data.toList.drop 1 := by
  have := sdrop_at s 0 h0
  simpa using this
 have hbd : b.data.toList = s.data.toList.drop 1 := by rw [← hb, ext_drop, data_str]
 have hbs : b.size ≤ 1000000 := by rw [← hb, ext_drop, size_str, List.length_drop]; omega
 have hq := quoted_any b hbs
 rw [hbd] at hq
 have e1 := int_eq s[0] 120
 have e2 := int_eq s[0] 102
 have e3 := int_eq s[0] 45
 have e4 := int_eq s[0] 39
 have e1 : (((s[0].toNat : Nat) : Int) == 120) = decide (s[0].toNat = 120) := e1
 have e2 : (((s[0].toNat : Nat) : Int) == 102) = decide (s[0].toNat = 102) := e2
 have e3 : (((s[0].toNat : Nat) : Int) == 45) = decide (s[0].toNat = 45) := e3
 have e4 : (((s[0].toNat : Nat) : Int) == 39) = decide (s[0].toNat = 39) := e4
 have hlet : ∀ z : Int, z = (s[0].toNat : Int) → ∀ w, Calls Tryz.prog 49 #[.int .u8 z] w fun e w' => e = .returned (.bool (lowB s[0])) ∧ w' = w := fun z hz w => by subst hz; exact letter_any s[0] w
 have hdig : ∀ z : Int, z = (s[0].toNat : Int) → ∀ w, Calls Tryz.prog 51 #[.int .u8 z] w fun e w' => e = .returned (.bool (digB s[0])) ∧ w' = w := fun z hz w => by subst hz; exact digit_any s[0] w
 have hsig : ∀ z : Int, z = (s[0].toNat : Int) → ∀ w, Calls Tryz.prog 54 #[.int .u8 z] w fun e w' => e = .returned (.bool (signB s[0])) ∧ w' = w := fun z hz w => by subst hz; exact sign_any s[0] w
 have htok : tokL (s[0] :: s.data.toList.drop 1) = intT (s[0] :: (s.data.toList.drop 1).take (runL letB (s.data.toList.drop 1))) := by
  rw [tokL]
  rw [if_neg (fun h => low_not h3 (by omega) (by omega) h.1), if_neg (fun h => low_not h3 (by omega) (by omega) h.1), if_neg (by simp [h3]), if_pos (.inr h5)]
 rw [← hcr] at htok
 rw [htok]
 clear htok hl hbs
 rw [decide_eq_false (low_not h3 (by omega) (by omega))] at e1
 rw [decide_eq_false (low_not h3 (by omega) (by omega))] at e2
 rw [h3] at hlet
 rw [h4] at hdig
 rw [decide_eq_true h5] at e3
 have hv := readInt_any s _ _ hcr (by omega)
 obtain ⟨k, t, v, bb, htk⟩ := tk_open s.data.toList (intT (s[0] :: (s.data.toList.drop 1).take (runL letB (s.data.toList.drop 1))))
 rw [htk] at hv ⊢
 unfold tokV at hv
 clear htk hcr hbd h3 h4 h5 e4
 go_enter Tryz.func26, Tryz.ntmps26
 go_wp2_with (first
   | (go_at_call 46; refine (hq _).mono ?_; rintro e w1 ⟨rfl, rfl⟩)
   | (go_at_call 49; refine (hlet _ (by first | rfl | (simp at e1; omega) | (simp at e2; omega)) _).mono ?_; rintro e w1 ⟨rfl, rfl⟩)
   | (go_at_call 51; refine (hdig _ (by first | rfl | (simp at e3; omega)) _).mono ?_; rintro e w1 ⟨rfl, rfl⟩)
   | (go_at_call 54; refine (hsig _ (by first | rfl | omega) _).mono ?_; rintro e w1 ⟨rfl, rfl⟩)
   | (go_at_call 52; refine (hv _ (hG.alloc _)).mono ?_; rintro e w3 ⟨rfl, hb3⟩; have hz := zbox_at hb3; obtain ⟨q0, q1, q2, q3, q4, q5, q6⟩ := cells7 hz; obtain ⟨z0, z1, z2, z3, z4, z5, z6⟩ := free7 hz; clear hz))
 refine bodyPost_ret (v := .tuple #[tokV k t v 0, .bool bb]) (by simp [results, Tryz.results26, go_sem, tokV, q0, q1, q2, q3, q4, q5, q6]) rfl ⟨rfl, ?_⟩
 exact below_set7 (below_box0 hb3) (Nat.le_refl _) _ _ _ _ _ _ _
theorem first_text (s : ByteArray) (h0 : 0 < s.size) (hs2 : s.size ≤ 100000) (h3 : lowB s[0] = false) (h4 : digB s[0] = false) (h5 : ¬ s[0].toNat = 45) (h6 : s[0].toNat = 39) (w : World) :
  Calls Tryz.prog 26 #[.string s] w fun e w' => e = .returned (tkV s.data.toList (tokL s.data.toList)) ∧ Below w.heap.size w w' := by
 obtain ⟨b, hb⟩ : ∃ b, s.extract 1 s.size = b := ⟨_, rfl⟩
 have hl : s.data.toList.length = s.size := rfl
 have hcr : s.data.toList = s[0] :: s.data.toList.drop 1 := by
  have := sdrop_at s 0 h0
  simpa using this
 have hbd : b.data.toList = s.data.toList.drop 1 := by rw [← hb, ext_drop, data_str]
 have hbs : b.size ≤ 1000000 := by rw [← hb, ext_drop, size_str, List.length_drop]; omega
 have hq := quoted_any b hbs
 rw [hbd] at hq
 have e1 := int_eq s[0] 120
 have e2 := int_eq s[0] 102
 have e3 := int_eq s[0] 45
 have e4 := int_eq s[0] 39
 have e1 : (((s[0].toNat : Nat) : Int) == 120) = decide (s[0].toNat = 120) := e1
 have e2 : (((s[0].toNat : Nat) : Int) == 102) = decide (s[0].toNat = 102) := e2
 have e3 : (((s[0].toNat : Nat) : Int) == 45) = decide (s[0].toNat = 45) := e3
 have e4 : (((s[0].toNat : Nat) : Int) == 39) = decide (s[0].toNat = 39) := e4
 have hlet : ∀ z : Int, z = (s[0].toNat : Int) → ∀ w, Calls Tryz.prog 49 #[.int .u8 z] w fun e w' => e = .returned (.bool (lowB s[0])) ∧ w' = w := fun z hz w => by subst hz; exact letter_any s[0] w
 have hdig : ∀ z : Int, z = (s[0].toNat : Int) → ∀ w, Calls Tryz.prog 51 #[.int .u8 z] w fun e w' => e = .returned (.bool (digB s[0])) ∧ w' = w := fun z hz w => by subst hz; exact digit_any s[0] w
 have hsig : ∀ z : Int, z = (s[0].toNat : Int) → ∀ w, Calls Tryz.prog 54 #[.int .u8 z] w fun e w' => e = .returned (.bool (signB s[0])) ∧ w' = w := fun z hz w => by subst hz; exact sign_any s[0] w
 have htok : tokL (s[0] :: s.data.toList.drop 1) = textT (s.data.toList.drop 1) := by
  rw [tokL]
  rw [if_neg (fun h => low_not h3 (by omega) (by omega) h.1), if_neg (fun h => low_not h3 (by omega) (by omega) h.1), if_neg (by simp [h3]), if_neg (by simp [h4, h5]), if_pos h6]
 rw [← hcr] at htok
 rw [htok]
 clear htok hl hbs
 rw [decide_eq_false (low_not h3 (by omega) (by omega))] at e1
 rw [decide_eq_false (low_not h3 (by omega) (by omega))] at e2
 rw [h3] at hlet
 rw [h4] at hdig
 rw [decide_eq_false h5] at e3
 rw [decide_eq_true h6] at e4
 have hv := readText_any s h0 hs2
 obtain ⟨k, t, v, bb, htk⟩ := tk_open s.data.toList (textT (s.data.toList.drop 1))
 rw [htk] at hv ⊢
 unfold tokV at hv
 clear htk hcr hbd h3 h4 h5 h6
 go_enter Tryz.func26, Tryz.ntmps26
 go_wp2_with (first
   | (go_at_call 46; refine (hq _).mono ?_; rintro e w1 ⟨rfl, rfl⟩)
   | (go_at_call 49; refine (hlet _ (by first | rfl | (simp at e1; omega) | (simp at e2; omega)) _).mono ?_; rintro e w1 ⟨rfl, rfl⟩)
   | (go_at_call 51; refine (hdig _ (by first | rfl | (simp at e3; omega)) _).mono ?_; rintro e w1 ⟨rfl, rfl⟩)
   | (go_at_call 54; refine (hsig _ (by first | rfl | omega) _).mono ?_; rintro e w1 ⟨rfl, rfl⟩)
   | (go_at_call 53; refine (hv _).mono ?_; rintro e w3 ⟨rfl, hb3⟩; have hz := zbox_at hb3; obtain ⟨q0, q1, q2, q3, q4, q5, q6⟩ := cells7 hz; obtain ⟨z0, z1, z2, z3, z4, z5, z6⟩ := free7 hz; clear hz))
 refine bodyPost_ret (v := .tuple #[tokV k t v 0, .bool bb]) (by simp [results, Tryz.results26, go_sem, tokV, q0, q1, q2, q3, q4, q5, q6]) rfl ⟨rfl, ?_⟩
 exact below_set7 (below_box0 hb3) (Nat.le_refl _) _ _ _ _ _ _ _
theorem first_sign (s : ByteArray) (h0 : 0 < s.size) (hs2 : s.size ≤ 100000) (h3 : lowB s[0] = false) (h4 : digB s[0] = false) (h5 : ¬ s[0].toNat = 45) (h6 : ¬ s[0].toNat = 39) (h7 : signB s[0] = true) (w : World) :
  Calls Tryz.prog 26 #[.string s] w fun e w' => e = .returned (tkV s.data.toList (tokL s.data.toList)) ∧ Below w.heap.size w w' := by
 obtain ⟨b, hb⟩ : ∃ b, s.extract 1 s.size = b := ⟨_, rfl⟩
 have hl : s.data.toList.length = s.size := rfl
 have hcr : s.data.toList = s[0] :: s.data.toList.drop 1 := by
  have := sdrop_at s 0 h0
  simpa using this
 have hbd : b.data.toList = s.data.toList.drop 1 := by rw [← hb, ext_drop, data_str]
 have hbs : b.size ≤ 1000000 := by rw [← hb, ext_drop, size_str, List.length_drop]; omega
 have hq := quoted_any b hbs
 rw [hbd] at hq
 have e1 := int_eq s[0] 120
 have e2 := int_eq s[0] 102
 have e3 := int_eq s[0] 45
 have e4 := int_eq s[0] 39
 have e1 : (((s[0].toNat : Nat) : Int) == 120) = decide (s[0].toNat = 120) := e1
 have e2 : (((s[0].toNat : Nat) : Int) == 102) = decide (s[0].toNat = 102) := e2
 have e3 : (((s[0].toNat : Nat) : Int) == 45) = decide (s[0].toNat = 45) := e3
 have e4 : (((s[0].toNat : Nat) : Int) == 39) = decide (s[0].toNat = 39) := e4
 have hlet : ∀ z : Int, z = (s[0].toNat : Int) → ∀ w, Calls Tryz.prog 49 #[.int .u8 z] w fun e w' => e = .returned (.bool (lowB s[0])) ∧ w' = w := fun z hz w => by subst hz; exact letter_any s[0] w
 have hdig : ∀ z : Int, z = (s[0].toNat : Int) → ∀ w, Calls Tryz.prog 51 #[.int .u8 z] w fun e w' => e = .returned (.bool (digB s[0])) ∧ w' = w := fun z hz w => by subst hz; exact digit_any s[0] w
 have hsig : ∀ z : Int, z = (s[0].toNat : Int) → ∀ w, Calls Tryz.prog 54 #[.int .u8 z] w fun e w' => e = .returned (.bool (signB s[0])) ∧ w' = w := fun z hz w => by subst hz; exact sign_any s[0] w
 have htok : tokL (s[0] :: s.data.toList.drop 1) = some (4, 1, noV) := by
  rw [tokL]
  rw [if_neg (fun h => low_not h3 (by omega) (by omega) h.1), if_neg (fun h => low_not h3 (by omega) (by omega) h.1), if_neg (by simp [h3]), if_neg (by simp [h4, h5]), if_neg h6, if_pos h7]
 rw [← hcr] at htok
 rw [htok]
 clear htok hl hbs
 rw [decide_eq_false (low_not h3 (by omega) (by omega))] at e1
 rw [decide_eq_false (low_not h3 (by omega) (by omega))] at e2
 rw [h3] at hlet
 rw [h4] at hdig
 rw [decide_eq_false h5] at e3
 rw [decide_eq_false h6] at e4
 rw [h7] at hsig
 have hone : s.extract 0 1 = str (s.data.toList.take 1) := ext_take s 1
 show Calls _ _ _ _ fun e w' => e = .returned (.tuple #[tokV 4 (str (s.data.toList.take 1)) noV 0, .bool true]) ∧ Below w.heap.size w w'
 generalize str (s.data.toList.take 1) = y at *
 clear hcr hbd h3 h4 h5 h6 h7
 go_enter Tryz.func26, Tryz.ntmps26
 go_wp2_with (first
   | (go_at_call 46; refine (hq _).mono ?_; rintro e w1 ⟨rfl, rfl⟩)
   | (go_at_call 49; refine (hlet _ (by first | rfl | (simp at e1; omega) | (simp at e2; omega)) _).mono ?_; rintro e w1 ⟨rfl, rfl⟩)
   | (go_at_call 51; refine (hdig _ (by first | rfl | (simp at e3; omega)) _).mono ?_; rintro e w1 ⟨rfl, rfl⟩)
   | (go_at_call 54; refine (hsig _ (by first | rfl | omega) _).mono ?_; rintro e w1 ⟨rfl, rfl⟩))
 refine bodyPost_ret (v := .tuple #[tokV 4 y noV 0, .bool true]) (by simp [results, Tryz.results26, go_sem, tokV, noV]) rfl ⟨rfl, (Below.refl _ _).alloc (Nat.le_refl _) _⟩
theorem first_none (s : ByteArray) (h0 : 0 < s.size) (hs2 : s.size ≤ 100000) (h3 : lowB s[0] = false) (h4 : digB s[0] = false) (h5 : ¬ s[0].toNat = 45) (h6 : ¬ s[0].toNat = 39) (h7 : signB s[0] = false) (w : World) :
  Calls Tryz.prog 26 #[.string s] w fun e w' => e = .returned (tkV s.data.toList (tokL s.data.toList)) ∧ Below w.heap.size w w' := by
 obtain ⟨b, hb⟩ : ∃ b, s.extract 1 s.size = b := ⟨_, rfl⟩
 have hl : s.data.toList.length = s.size := rfl
 have hcr : s.data.toList = s[0] :: s.data.toList.drop 1 := by
  have := sdrop_at s 0 h0
  simpa using this
 have hbd : b.data.toList = s.data.toList.drop 1 := by rw [← hb, ext_drop, data_str]
 have hbs : b.size ≤ 1000000 := by rw [← hb, ext_drop, size_str, List.length_drop]; omega
 have hq := quoted_any b hbs
 rw [hbd] at hq
 have e1 := int_eq s[0] 120
 have e2 := int_eq s[0] 102
 have e3 := int_eq s[0] 45
 have e4 := int_eq s[0] 39
 have e1 : (((s[0].toNat : Nat) : Int) == 120) = decide (s[0].toNat = 120) := e1
 have e2 : (((s[0].toNat : Nat) : Int) == 102) = decide (s[0].toNat = 102) := e2
 have e3 : (((s[0].toNat : Nat) : Int) == 45) = decide (s[0].toNat = 45) := e3
 have e4 : (((s[0].toNat : Nat) : Int) == 39) = decide (s[0].toNat = 39) := e4
 have hlet : ∀ z : Int, z = (s[0].toNat : Int) → ∀ w, Calls Tryz.prog 49 #[.int .u8 z] w fun e w' => e = .returned (.bool (lowB s[0])) ∧ w' = w := fun z hz w => by subst hz; exact letter_any s[0] w
 have hdig : ∀ z : Int, z = (s[0].toNat : Int) → ∀ w, Calls Tryz.prog 51 #[.int .u8 z] w fun e w' => e = .returned (.bool (digB s[0])) ∧ w' = w := fun z hz w => by subst hz; exact digit_any s[0] w
 have hsig : ∀ z : Int, z = (s[0].toNat : Int) → ∀ w, Calls Tryz.prog 54 #[.int .u8 z] w fun e w' => e = .returned (.bool (signB s[0])) ∧ w' = w := fun z hz w => by subst hz; exact sign_any s[0] w
 have htok : tokL (s[0] :: s.data.toList.drop 1) = none := by
  rw [tokL]
  rw [if_neg (fun h => low_not h3 (by omega) (by omega) h.1), if_neg (fun h => low_not h3 (by omega) (by omega) h.1), if_neg (by simp [h3]), if_neg (by simp [h4, h5]), if_neg h6, if_neg (by simp [h7])]
 rw [← hcr] at htok
 rw [htok]
 clear htok hl hbs
 rw [decide_eq_false (low_not h3 (by omega) (by omega))] at e1
 rw [decide_eq_false (low_not h3 (by omega) (by omega))] at e2
 rw [h3] at hlet
 rw [h4] at hdig
 rw [decide_eq_false h5] at e3
 rw [decide_eq_false h6] at e4
 rw [h7] at hsig
 show Calls _ _ _ _ fun e w' => e = .returned (.tuple #[tokV 0 ⟨#[]⟩ noV 0, .bool false]) ∧ Below w.heap.size w w'
 clear hcr hbd h3 h4 h5 h6 h7
 go_enter Tryz.func26, Tryz.ntmps26
 go_wp2_with (first
   | (go_at_call 46; refine (hq _).mono ?_; rintro e w1 ⟨rfl, rfl⟩)
   | (go_at_call 49; refine (hlet _ (by first | rfl | (simp at e1; omega) | (simp at e2; omega)) _).mono ?_; rintro e w1 ⟨rfl, rfl⟩)
   | (go_at_call 51; refine (hdig _ (by first | rfl | (simp at e3; omega)) _).mono ?_; rintro e w1 ⟨rfl, rfl⟩)
   | (go_at_call 54; refine (hsig _ (by first | rfl | omega) _).mono ?_; rintro e w1 ⟨rfl, rfl⟩))
 refine bodyPost_ret (v := .tuple #[tokV 0 ⟨#[]⟩ noV 0, .bool false]) (by simp [results, Tryz.results26, go_sem, tokV, noV]) rfl ⟨rfl, (Below.refl _ _).alloc (Nat.le_refl _) _⟩
theorem first_any (s : ByteArray) (h0 : 0 < s.size) (hs2 : s.size ≤ 100000) (w : World) (hG : Glob w) :
  Calls Tryz.prog 26 #[.string s] w fun e w' => e = .returned (tkV s.data.toList (tokL s.data.toList)) ∧ Below w.heap.size w w' := by
 cases h3 : lowB s[0] with
 | true =>
  by_cases h1 : s[0].toNat = 120
  ·by_cases h2 : (s.data.toList.drop 1).head? = some 39
   ·exact first_bytes s h0 hs2 h1 h2 w
   ·exact first_name1 s h0 hs2 h1 h2 h3 w
  ·by_cases h2 : s[0].toNat = 102
   ·by_cases h4 : (s.data.toList.drop 1).head? = some 39
    ·exact first_float s h0 hs2 h2 h4 w
    ·exact first_name2 s h0 hs2 h2 h4 h3 w
   ·exact first_name3 s h0 hs2 h1 h2 h3 w
 | false =>
  cases h4 : digB s[0] with
  | true => exact first_int1 s h0 hs2 h3 h4 w hG
  | false =>
   by_cases h5 : s[0].toNat = 45
   ·exact first_int2 s h0 hs2 h3 h4 h5 w hG
   ·by_cases h6 : s[0].toNat = 39
    ·exact first_text s h0 hs2 h3 h4 h5 h6 w
    ·cases h7 : signB s[0] with
     | true => exact first_sign s h0 hs2 h3 h4 h5 h6 h7 w
     | false => exact first_none s h0 hs2 h3 h4 h5 h6 h7 w
end Go.Proofs.YtiajlhjjmlakmaaGreatDoor
