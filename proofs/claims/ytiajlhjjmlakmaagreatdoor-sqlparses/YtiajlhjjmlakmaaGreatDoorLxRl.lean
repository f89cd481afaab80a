import Derived.Test.YtiajlhjjmlakmaaGreatDoorLxRk
namespace Go.Proofs.YtiajlhjjmlakmaaGreatDoor
open Go.RowKit Num
set_option linter.unusedVariables false
set_option maxRecDepth 100000
set_option linter.unusedSimpArgs false

theorem refLex_long (s : ByteArray) (hs : ¬ s.size ≤ 400) (w : World) :
  Calls Tryz.prog 15 #[.string s] w fun e w' => e = .returned (.tuple #[.slice none 0 0, .int .i64 0, .int .i64 2]) ∧ w' = w := by
 have h : (400 : Int) < (s.size : Int) := by omega
 go_enter Tryz.func15, Tryz.ntmps15
 go_wp2
 refine bodyPost_ret (v := .tuple #[.slice none 0 0, .int .i64 0, .int .i64 2]) (by simp [results, Tryz.results15, go_sem]) rfl ⟨rfl, rfl⟩
theorem blank_of {b : UInt8} (h : blankB b = true) : ((b.toNat : Nat) : Int) = 32 ∨ ((b.toNat : Nat) : Int) = 9 ∨ ((b.toNat : Nat) : Int) = 10 := by
 unfold blankB at h
 simp only [Bool.or_eq_true, decide_eq_true_eq] at h
 omega
theorem blank_not {b : UInt8} (h : blankB b = false) : ¬ ((b.toNat : Nat) : Int) = 32 ∧ ¬ ((b.toNat : Nat) : Int) = 9 ∧ ¬ ((b.toNat : Nat) : Int) = 10 := by
 unfold blankB at h
 simp only [Bool.or_eq_false_iff, decide_eq_false_iff_not] at h
 omega
set_option maxHeartbeats 2000000 in
theorem refLex_any (s : ByteArray) (hs : s.size ≤ 400) (w : World) :
  Calls Tryz.prog 15 #[.string s] w fun e w' => LexEnd 62 w.heap.size 3 (lexAt s 0) e w' ∧ Below w.heap.size w w' := by
 have hs2 : ¬ (400 : Int) < (s.size : Int) := by omega
 go_enter Tryz.func15, Tryz.ntmps15
 go_wp2
 go_loopw [5, 6, 7, 8, 9] (fun v i _ _ _ wr => ∃ (k : Nat) (acc : List Tok), k ≤ s.size ∧ acc.length ≤ k ∧ i = .int .i64 (k : Int) ∧ Hid (lexAt s 0 = pre acc (lexAt s k)) ∧ wr.ownsRow w.heap.size 62 7 v acc.length (tokCells acc) ∧ Below w.heap.size w wr) (fun _ i _ _ _ _ => s.size - (intOf i).toNat)
 case atStart => exact ⟨0, [], by omega, by simp, rfl, (pre_nil _).symm, World.ownsRow_nil _ _ _ _, Below.refl _ _⟩
 case round =>
  obtain ⟨k, acc, hk, hac, rfl, HL, hown, hbel⟩ := hrel
  have hsz := hbel.size
  by_cases hks : k < s.size
  ·have hki : (k : Int) < (s.size : Int) := by omega
   have hwr : IntKind.i64.wrap ((k : Int) + 1) = (k : Int) + 1 := by rw [IntKind.wrap_i64]; omega
   cases hb : blankB s[k] with
   | true =>
    have HL2 : Hid (lexAt s 0 = pre acc (lexAt s (k + 1))) := by
     unfold Hid
     rw [← lexAt_blank s k hks hb]
     exact HL.out
    have hbl := blank_of hb
    clear HL hb
    rcases hbl with hbl | hbl | hbl
    ·go_wp2
     go_roundw
     case rel => exact ⟨k + 1, acc, by omega, by omega, by go_num, HL2, hown, hbel⟩
     case measure => simp [intOf]; omega
    ·go_wp2
     go_roundw
     case rel => exact ⟨k + 1, acc, by omega, by omega, by go_num, HL2, hown, hbel⟩
     case measure => simp [intOf]; omega
    ·go_wp2
     go_roundw
     case rel => exact ⟨k + 1, acc, by omega, by omega, by go_num, HL2, hown, hbel⟩
     case measure => simp [intOf]; omega
   | false =>
    obtain ⟨b1, b2, b3⟩ := blank_not hb
    have e1 : (((s[k].toNat : Nat) : Int) == 32) = false := beq_eq_false_iff_ne.2 b1
    have e2 : (((s[k].toNat : Nat) : Int) == 9) = false := beq_eq_false_iff_ne.2 b2
    have e3 : (((s[k].toNat : Nat) : Int) == 10) = false := beq_eq_false_iff_ne.2 b3
    have hf := refNext_any s k hks (by omega)
    cases ht : tokL (s.data.toList.drop k) with
    | none =>
     have hfin := lex_bad HL.out (lexAt_bad s k hks hb ht) 62 w.heap.size
     have hfin : Hid (∀ w', LexEnd 62 w.heap.size 3 (lexAt s 0) (.returned (.tuple #[.slice none 0 0, .int .i64 (k : Int), .int .i64 3])) w') := hfin
     rw [ht] at hf
     clear HL hb ht
     go_wp2_with (first
      | (go_at_call 37; refine (hf _).mono ?_; rintro e w2 ⟨⟨tk, tt, tv, tq, ti, rfl⟩, hb2⟩; simp only [tokV]))
     refine bodyPost_ret (v := .tuple #[.slice none 0 0, .int .i64 (k : Int), .int .i64 3]) (by simp [results, Tryz.results15, go_sem]) rfl ⟨hfin.out _, ?_⟩
     exact (below_next hbel (Nat.le_refl _) hb2).alloc (Nat.le_trans hsz hb2.size) _
    | some x =>
     obtain ⟨q, m, v⟩ := x
     have hm := tokL_len _ _ ht
     rw [List.length_drop, show s.data.toList.length = s.size from rfl] at hm
     have HN : Hid (lexAt s 0 = pre (acc ++ [⟨q, str ((s.data.toList.drop k).take m), v, k⟩]) (lexAt s (k + m))) := lex_next HL.out hks hb ht
     have hm : 1 ≤ m ∧ m ≤ s.size - k := hm
     rw [ht] at hf
     have hf : ∀ w, Calls Tryz.prog 37 #[.string s, .int .i64 (k : Int)] w fun e w' => e = .returned (.tuple #[tokV q (str ((s.data.toList.drop k).take m)) v (k : Int), .int .i64 ((k + m : Nat) : Int), .bool true]) ∧ Below w.heap.size w w' := hf
     unfold tokV at hf
     generalize str ((s.data.toList.drop k).take m) = t at *
     clear HL hb ht
     go_wp2_with (first
      | (go_at_call 37; refine (hf _).mono ?_; rintro e w2 ⟨rfl, hb2⟩)
      | (at_builtin; refine wpList_appTR _ rfl _ _ rfl w.heap.size _ acc rfl (World.ownsRow.alloc (World.ownsRow.alloc (own_mem hown hb2) _) _) _ _ ⟨q, t, v, k⟩ rfl (heap_new1 _ _ _) (by omega) (by have := hb2.size; simp; omega) ?_; intro v4 w4 hown4 hbel4 hg4))
     go_roundw
     case rel =>
      refine ⟨k + m, _, by omega, by simp; omega, by go_num, HN, hown4, ?_⟩
      exact (((below_next hbel (Nat.le_refl _) hb2).alloc (Nat.le_trans hsz hb2.size) _).alloc (by have := hb2.size; simp; omega) _).trans hbel4
     case measure => simp [intOf]; omega
  ·obtain rfl : k = s.size := by omega
   have hfin : Hid (∀ w' v, w'.ownsRow w.heap.size 62 7 v (acc ++ ([⟨0, ⟨#[]⟩, noV, s.size⟩] : List Tok)).length (tokCells (acc ++ ([⟨0, ⟨#[]⟩, noV, s.size⟩] : List Tok))) → LexEnd 62 w.heap.size 3 (lexAt s 0) (.returned (.tuple #[v, .int .i64 0, .int .i64 0])) w') := fun w' v h => lex_end HL.out rfl _ _ w' v h
   clear HL
   go_wp2_with (first
    | (at_builtin; refine wpList_appTR _ rfl _ _ rfl w.heap.size _ acc rfl (World.ownsRow.alloc hown _) _ _ ⟨0, ⟨#[]⟩, noV, s.size⟩ rfl (heap_alloc_new _ _) (by omega) (by simp; omega) ?_; intro v4 w4 hown4 hbel4 hg4))
   refine bodyPost_ret (v := .tuple #[v4, .int .i64 0, .int .i64 0]) (by simp [results, Tryz.results15, go_sem]) rfl ⟨hfin.out _ _ hown4, ?_⟩
   exact (hbel.alloc hsz _).trans hbel4
end Go.Proofs.YtiajlhjjmlakmaaGreatDoor
