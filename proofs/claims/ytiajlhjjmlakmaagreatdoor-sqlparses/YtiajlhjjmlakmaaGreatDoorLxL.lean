import Derived.Test.YtiajlhjjmlakmaaGreatDoorLxF
namespace Go.Proofs.YtiajlhjjmlakmaaGreatDoor
open Go.RowKit Num
set_option linter.unusedVariables false
set_option maxRecDepth 100000

def Num.tokCells1 (x : Tok) : List Value := [.int .i64 x.k, .string x.t, .int .i64 x.v.k, .int .i64 x.v.n, .int .u64 (x.v.f : Int), .string x.v.s, .int .i64 (x.p : Int)]
def Num.tokCells (l : List Tok) : List Value := l.flatMap tokCells1
theorem tokCells_snoc (l : List Tok) (y : Tok) : tokCells (l ++ [y]) = tokCells l ++ tokCells1 y := by simp [tokCells]
theorem Tryz.infoTokP : (Tryz.prog.info? 48).map (fun i => (i.zero, i.size, i.bytes)) = some (some (.agg #[.int .i64 0, .string ⟨#[]⟩, .int .i64 0, .int .i64 0, .int .u64 0, .string ⟨#[]⟩, .int .i64 0]), 7, 72) := by kernel_rfl
theorem wpList_appTP {ops : Array Oper} {rest : List Oper} {o : Oper} {a : Act} {Q : Exit → Act → World → Prop} (w : World) (hgd : o.guard = none) (s x : Operand)
  (ho : o.op = .call { callee := .builtin .append, args := #[s, x], argTypes := #[38, 38] })
  (base : Nat) (v : Value) (l : List Tok) (hs : a.eval s = v) (hown : w.ownsRow base 48 7 v l.length (tokCells l))
  (g c : Nat) (y : Tok) (hx : a.eval x = .slice (some ⟨g, 0, none⟩) 1 c) (hg : w.heap[g]? = some (.cells #[.int .i64 y.k, .string y.t, .int .i64 y.v.k, .int .i64 y.v.n, .int .u64 (y.v.f : Int), .string y.v.s, .int .i64 (y.p : Int)] 48 (0, 0)))
  (hb : l.length ≤ 100000) (hbase : base ≤ w.heap.size)
  (h : ∀ v' w', w'.ownsRow base 48 7 v' (l ++ [y]).length (tokCells (l ++ [y])) → Below base w w' → w.grownBy w' v.ownBlock → wpList Tryz.prog ops Q rest (a.put o.dst v') w') : wpList Tryz.prog ops Q (o :: rest) a w := by
 obtain ⟨i0, hi, hz0, hz1, hz2⟩ := info_parts Tryz.infoTokP
 refine wpList_append_own w hgd s x 38 ho base 48 i0 _ 7 72 Tryz.underlying38 hi hz0 hz1 hz2 rfl (by decide) v l.length (tokCells l) hs hown ⟨g, 0, none⟩ 1 c (tokCells1 y) hx rfl ?_ ?_ (by unfold maxLen; omega) (by omega) hbase ?_
 ·intro j u hj
  obtain ⟨c0, c1, c2, c3, c4, c5, c6⟩ := cells7 hg
  rw [Addr.add_lit, Nat.zero_add]
  match j, hj with
  | 0, hj => cases hj; exact c0
  | 1, hj => cases hj; exact c1
  | 2, hj => cases hj; exact c2
  | 3, hj => cases hj; exact c3
  | 4, hj => cases hj; exact c4
  | 5, hj => cases hj; exact c5
  | 6, hj => cases hj; exact c6
 ·intro u hu
  simp only [tokCells1, List.mem_cons, List.not_mem_nil, or_false] at hu
  rcases hu with rfl | rfl | rfl | rfl | rfl | rfl | rfl <;> rfl
 ·intro v' w' hown' hgrow _
  rw [← tokCells_snoc] at hown'
  rw [show (l ++ [y]).length = l.length + 1 by simp] at h
  exact h v' w' hown' (Below.grown (Below.refl base w) hgrow hbase (fun k hk => (hown.lt k hk).1)) hgrow
theorem Tryz.infoTokR : (Tryz.prog.info? 62).map (fun i => (i.zero, i.size, i.bytes)) = some (some (.agg #[.int .i64 0, .string ⟨#[]⟩, .int .i64 0, .int .i64 0, .int .u64 0, .string ⟨#[]⟩, .int .i64 0]), 7, 72) := by kernel_rfl
theorem wpList_appTR {ops : Array Oper} {rest : List Oper} {o : Oper} {a : Act} {Q : Exit → Act → World → Prop} (w : World) (hgd : o.guard = none) (s x : Operand)
  (ho : o.op = .call { callee := .builtin .append, args := #[s, x], argTypes := #[53, 53] })
  (base : Nat) (v : Value) (l : List Tok) (hs : a.eval s = v) (hown : w.ownsRow base 62 7 v l.length (tokCells l))
  (g c : Nat) (y : Tok) (hx : a.eval x = .slice (some ⟨g, 0, none⟩) 1 c) (hg : w.heap[g]? = some (.cells #[.int .i64 y.k, .string y.t, .int .i64 y.v.k, .int .i64 y.v.n, .int .u64 (y.v.f : Int), .string y.v.s, .int .i64 (y.p : Int)] 62 (0, 0)))
  (hb : l.length ≤ 100000) (hbase : base ≤ w.heap.size)
  (h : ∀ v' w', w'.ownsRow base 62 7 v' (l ++ [y]).length (tokCells (l ++ [y])) → Below base w w' → w.grownBy w' v.ownBlock → wpList Tryz.prog ops Q rest (a.put o.dst v') w') : wpList Tryz.prog ops Q (o :: rest) a w := by
 obtain ⟨i0, hi, hz0, hz1, hz2⟩ := info_parts Tryz.infoTokR
 refine wpList_append_own w hgd s x 53 ho base 62 i0 _ 7 72 Tryz.underlying53 hi hz0 hz1 hz2 rfl (by decide) v l.length (tokCells l) hs hown ⟨g, 0, none⟩ 1 c (tokCells1 y) hx rfl ?_ ?_ (by unfold maxLen; omega) (by omega) hbase ?_
 ·intro j u hj
  obtain ⟨c0, c1, c2, c3, c4, c5, c6⟩ := cells7 hg
  rw [Addr.add_lit, Nat.zero_add]
  match j, hj with
  | 0, hj => cases hj; exact c0
  | 1, hj => cases hj; exact c1
  | 2, hj => cases hj; exact c2
  | 3, hj => cases hj; exact c3
  | 4, hj => cases hj; exact c4
  | 5, hj => cases hj; exact c5
  | 6, hj => cases hj; exact c6
 ·intro u hu
  simp only [tokCells1, List.mem_cons, List.not_mem_nil, or_false] at hu
  rcases hu with rfl | rfl | rfl | rfl | rfl | rfl | rfl <;> rfl
 ·intro v' w' hown' hgrow _
  rw [← tokCells_snoc] at hown'
  rw [show (l ++ [y]).length = l.length + 1 by simp] at h
  exact h v' w' hown' (Below.grown (Below.refl base w) hgrow hbase (fun k hk => (hown.lt k hk).1)) hgrow
def LexEnd (T base : Nat) (bad : Int) (o : Said) (e : Ending) (w' : World) : Prop :=
 match o.1 with
 | none => e = .returned (.tuple #[.slice none 0 0, .int .i64 (o.2 : Int), .int .i64 bad])
 | some l => ∃ v, e = .returned (.tuple #[v, .int .i64 0, .int .i64 0]) ∧ w'.ownsRow base T 7 v l.length (tokCells l)
theorem own_mem {w w' : World} {B E sz n : Nat} {v : Value} {xs : List Value} (h : w.ownsRow B E sz v n xs) (hb : Below w.heap.size w w') : w'.ownsRow B E sz v n xs := by
 exact h.kept (row := none) ⟨hb.os, hb.tape, hb.output, hb.size, fun k hk _ => hb.block k hk⟩ (by cases v.ownBlock <;> simp)
theorem own_other {wr w2 w4 : World} {B E sz n : Nat} {v : Value} {xs : List Value} {o x : Obj} (hown : wr.ownsRow B E sz v n xs) (hb2 : Below wr.heap.size wr w2) (hg : ((w2.alloc o).alloc x).grownBy w4 v.ownBlock) : w4.heap[w2.heap.size]? = some o := by
 refine (hg.block w2.heap.size (by simp; omega) ?_).trans (heap_alloc (heap_alloc_new w2 o) x)
 intro e
 have h1 := (hown.lt _ e.symm).2
 have h2 := hb2.size
 omega
theorem lex_long (s : ByteArray) (hs : ¬ s.size ≤ 400) (w : World) :
  Calls Tryz.prog 9 #[.string s] w fun e w' => e = .returned (.tuple #[.slice none 0 0, .int .i64 0, .int .i64 2]) ∧ w' = w := by
 have h : (400 : Int) < (s.size : Int) := by omega
 go_enter Tryz.func9, Tryz.ntmps9
 go_wp2
 refine bodyPost_ret (v := .tuple #[.slice none 0 0, .int .i64 0, .int .i64 2]) (by simp [results, Tryz.results9, go_sem]) rfl ⟨rfl, rfl⟩
theorem lex_bad {s : ByteArray} {acc : List Tok} {k : Nat} (h : lexAt s 0 = pre acc (lexAt s k)) (hk : lexAt s k = (none, k)) (T base : Nat) (w' : World) : LexEnd T base 3 (lexAt s 0) (.returned (.tuple #[.slice none 0 0, .int .i64 (k : Int), .int .i64 3])) w' := by
 rw [h, hk]
 rfl
theorem lex_end {s : ByteArray} {acc : List Tok} {k : Nat} (h : lexAt s 0 = pre acc (lexAt s k)) (hk : s.size = k) (T base : Nat) (w' : World) (v : Value) (hown : w'.ownsRow base T 7 v (acc ++ ([⟨0, ⟨#[]⟩, noV, s.size⟩] : List Tok)).length (tokCells (acc ++ ([⟨0, ⟨#[]⟩, noV, s.size⟩] : List Tok)))) : LexEnd T base 3 (lexAt s 0) (.returned (.tuple #[v, .int .i64 0, .int .i64 0])) w' := by
 subst hk
 rw [h, lexAt_end s _ (Nat.le_refl _)]
 exact ⟨v, rfl, hown⟩
theorem lex_next {s : ByteArray} {acc : List Tok} {k : Nat} (h : lexAt s 0 = pre acc (lexAt s k)) (hk : k < s.size) (hb : blankB s[k] = false) {q : Int} {n : Nat} {v : Val} (ht : tokL (s.data.toList.drop k) = some (q, n, v)) : lexAt s 0 = pre (acc ++ [⟨q, str ((s.data.toList.drop k).take n), v, k⟩]) (lexAt s (k + n)) := by
 rw [h, lexAt_tok s k hk hb q n v ht, pre_pre]
set_option maxHeartbeats 2000000 in
theorem lex_any (s : ByteArray) (hs : s.size ≤ 400) (w : World) (hG : Glob w) :
  Calls Tryz.prog 9 #[.string s] w fun e w' => LexEnd 48 w.heap.size 3 (lexAt s 0) e w' ∧ Below w.heap.size w w' := by
 have hs2 : ¬ (400 : Int) < (s.size : Int) := by omega
 go_enter Tryz.func9, Tryz.ntmps9
 go_wp2
 go_loopw [5, 6, 7, 8, 9, 15] (fun v nx _ _ _ i wr => ∃ (k n : Nat) (acc : List Tok), k ≤ s.size ∧ n ≤ s.size ∧ acc.length ≤ n ∧ i = .int .i64 (k : Int) ∧ nx = .int .i64 (n : Int) ∧ Hid (lexAt s 0 = pre acc (lexAt s (max k n))) ∧ wr.ownsRow w.heap.size 48 7 v acc.length (tokCells acc) ∧ Below w.heap.size w wr) (fun _ _ _ _ _ i _ => s.size - (intOf i).toNat)
 case atStart => exact ⟨0, 0, [], by omega, by omega, by simp, rfl, rfl, (pre_nil _).symm, World.ownsRow_nil _ _ _ _, Below.refl _ _⟩
 case round =>
  obtain ⟨k, n, acc, hk, hn, hac, rfl, rfl, HL, hown, hbel⟩ := hrel
  have hsz := hbel.size
  by_cases hks : k < s.size
  ·by_cases hkn : k < n
   ·have hki : (k : Int) < (n : Int) := by omega
    have HL2 : Hid (lexAt s 0 = pre acc (lexAt s (max (k + 1) n))) := by
     have h := HL.out
     rw [Nat.max_eq_right (by omega)] at h
     rw [Nat.max_eq_right (by omega)]
     exact h
    clear HL
    go_wp2
    go_roundw
    case rel => exact ⟨k + 1, n, acc, by omega, hn, hac, by go_num, rfl, HL2, hown, hbel⟩
    case measure => simp [intOf]; omega
   ·have hki : ¬ (k : Int) < (n : Int) := by omega
    have hbl := blank_any s[k]
    have HK : Hid (lexAt s 0 = pre acc (lexAt s k)) := by
     have h := HL.out
     rw [Nat.max_eq_left (by omega)] at h
     exact h
    clear HL
    cases hb : blankB s[k] with
    | true =>
     rw [hb] at hbl
     have HL2 : Hid (lexAt s 0 = pre acc (lexAt s (max (k + 1) n))) := by
      unfold Hid
      rw [Nat.max_eq_left (by omega), ← lexAt_blank s k hks hb]
      exact HK.out
     clear HK hb
     go_wp2_with (first
      | (go_at_call 25; refine (hbl _).mono ?_; rintro e w1 ⟨rfl, rfl⟩))
     go_roundw
     case rel => exact ⟨k + 1, n, acc, by omega, hn, hac, by go_num, rfl, HL2, hown, hbel⟩
     case measure => simp [intOf]; omega
    | false =>
     rw [hb] at hbl
     obtain ⟨b, hbx⟩ : ∃ b, s.extract k s.size = b := ⟨_, rfl⟩
     have hbd : b.data.toList = s.data.toList.drop k := by rw [← hbx, ext_drop, data_str]
     have hbs : b.size = s.size - k := by
      have h1 : b.size = b.data.toList.length := rfl
      have h2 : s.data.toList.length = s.size := rfl
      rw [h1, hbd, List.length_drop, h2]
     have hf := first_any b (by omega) (by omega)
     rw [hbd] at hf
     cases ht : tokL (s.data.toList.drop k) with
     | none =>
      have hfin := lex_bad HK.out (lexAt_bad s k hks hb ht) 48 w.heap.size
      have hfin : Hid (∀ w', LexEnd 48 w.heap.size 3 (lexAt s 0) (.returned (.tuple #[.slice none 0 0, .int .i64 (k : Int), .int .i64 3])) w') := hfin
      rw [ht] at hf
      unfold tkV tokV at hf
      clear HK hb ht hbd hbs
      go_wp2_with (first
       | (go_at_call 25; refine (hbl _).mono ?_; rintro e w1 ⟨rfl, rfl⟩)
       | (go_at_call 26; refine (hf _ (hG.below hbel)).mono ?_; rintro e w2 ⟨rfl, hb2⟩))
      refine bodyPost_ret (v := .tuple #[.slice none 0 0, .int .i64 (k : Int), .int .i64 3]) (by simp [results, Tryz.results9, go_sem]) rfl ⟨hfin.out _, ?_⟩
      exact (below_next hbel (Nat.le_refl _) hb2).alloc (Nat.le_trans hsz hb2.size) _
     | some x =>
      obtain ⟨q, m, v⟩ := x
      have hm := tokL_len _ _ ht
      rw [List.length_drop, show s.data.toList.length = s.size from rfl] at hm
      have HN : Hid (lexAt s 0 = pre (acc ++ [⟨q, str ((s.data.toList.drop k).take m), v, k⟩]) (lexAt s (k + m))) := lex_next HK.out hks hb ht
      have hm : 1 ≤ m ∧ m ≤ s.size - k := hm
      have hts : (str ((s.data.toList.drop k).take m)).size = m := by
       rw [size_str, List.length_take, List.length_drop, show s.data.toList.length = s.size from rfl]
       omega
      rw [ht] at hf
      unfold tkV tokV at hf
      simp only at hf
      generalize str ((s.data.toList.drop k).take m) = t at *
      have htsi : (t.size : Int) ≤ 400 := by omega
      have hts : Hid (t.size = m) := hts
      clear HK hb ht hbd hbs
      go_wp2_with (first
       | (go_at_call 25; refine (hbl _).mono ?_; rintro e w1 ⟨rfl, rfl⟩)
       | (go_at_call 26; refine (hf _ (hG.below hbel)).mono ?_; rintro e w2 ⟨rfl, hb2⟩)
       | (at_builtin; refine wpList_appTP _ rfl _ _ rfl w.heap.size _ acc rfl (World.ownsRow.alloc (World.ownsRow.alloc (own_mem hown hb2) _) _) _ _ ⟨q, t, v, k⟩ rfl (heap_new1 _ _ _) (by omega) (by have := hb2.size; simp; omega) ?_; intro v4 w4 hown4 hbel4 hg4; have c1 := (cells7 (own_other hown hb2 hg4)).2.1))
      go_roundw
      case rel =>
       refine ⟨k + 1, k + m, _, by omega, by omega, by simp; omega, by go_num, by go_num, ?_, hown4, ?_⟩
       ·unfold Hid
        rw [Nat.max_eq_right (by omega)]
        exact HN.out
       ·exact (((below_next hbel (Nat.le_refl _) hb2).alloc (Nat.le_trans hsz hb2.size) _).alloc (by have := hb2.size; simp; omega) _).trans hbel4
      case measure => simp [intOf]; omega
  ·obtain rfl : k = s.size := by omega
   have hfin : Hid (∀ w' v, w'.ownsRow w.heap.size 48 7 v (acc ++ ([⟨0, ⟨#[]⟩, noV, s.size⟩] : List Tok)).length (tokCells (acc ++ ([⟨0, ⟨#[]⟩, noV, s.size⟩] : List Tok))) → LexEnd 48 w.heap.size 3 (lexAt s 0) (.returned (.tuple #[v, .int .i64 0, .int .i64 0])) w') := fun w' v h => lex_end (by have h := HL.out; rw [Nat.max_eq_left (by omega)] at h; exact h) rfl _ _ w' v h
   clear HL
   go_wp2_with (first
    | (at_builtin; refine wpList_appTP _ rfl _ _ rfl w.heap.size _ acc rfl (World.ownsRow.alloc hown _) _ _ ⟨0, ⟨#[]⟩, noV, s.size⟩ rfl (heap_alloc_new _ _) (by omega) (by simp; omega) ?_; intro v4 w4 hown4 hbel4 hg4))
   refine bodyPost_ret (v := .tuple #[v4, .int .i64 0, .int .i64 0]) (by simp [results, Tryz.results9, go_sem]) rfl ⟨hfin.out _ _ hown4, ?_⟩
   exact (hbel.alloc hsz _).trans hbel4
end Go.Proofs.YtiajlhjjmlakmaaGreatDoor
