import Derived.Test.YtiajlhjjmlakmaaGreatDoorSqV
import Derived.Test.YtiajlhjjmlakmaaGreatDoorRows
import Derived.WalkKit
import Derived.ProofKit
import Derived.WalkSpells
import Derived.WalkLawsBesides
import Derived.Laws.Externs
import Derived.Laws.FloatArith
import Derived.BigQuiet
import Derived.WalkSmall
import Derived.Laws.IdiomStrings
import Derived.Lib.Strings
namespace Go.Proofs.YtiajlhjjmlakmaaGreatDoor
open Go.RowKit Num

structure Low (w : World) where
 wd : World
 low : Below w.heap.size w wd

theorem Low.some (w : World) : Nonempty (Low w) := ⟨⟨w, Below.refl _ _⟩⟩

theorem wp_region_low {P : Program} {id : Nat} {Q : Exit → Act → World → Prop} {a : Act} {w : World} {l : List Oper} (hm : P.follows .mixedOrders = true) (hB : Region.lexB .any l.toArray = true)
  (h : Nonempty (Low w) → wpQuiet P l.toArray (fun w' => ∃ x : Low w, w' = x.wd) (fun a' => ∀ w', (∃ x : Low w, w' = x.wd) → Q .normal a' w') l a) : (Code.region id l.toArray true).wp P Q a w :=
 wp_region_quiet (C := fun w' => ∃ x : Low w, w' = x.wd) hm hB ⟨⟨_, (Below.refl _ w).drew⟩, rfl⟩ (by simpa using h (Low.some w))

theorem Calls.low_of {P : Program} {f : FuncId} {args : Array Value} {w : World} {x : Low w} {v : Value}
  (h : Calls P f args x.wd fun e w' => e = .returned v ∧ Below x.wd.heap.size x.wd w') : Calls P f args x.wd fun e w'' => e = .returned v ∧ ∃ y : Low w, w'' = y.wd :=
 h.mono fun _ w'' ⟨he, hb⟩ => ⟨he, ⟨w'', below_next x.low (Nat.le_refl _) hb⟩, rfl⟩
theorem Low.cell {w : World} (x : Low w) {p : Addr} (hp : p.block < w.heap.size) : x.wd.cell? p = w.cell? p := x.low.cell hp

theorem frombits_run (n : Nat) (w : World) : (callFunc 123 #[.int .u64 (n : Int)]).run Tryz.prog w = .ok (.value (.float .f64 n)) w := by
 rw [run_callFunc_extern Tryz.func123 (by kernel_rfl) (by kernel_rfl) (by kernel_rfl) (e := Extern.MathFloatBits.float64frombits) (by kernel_rfl)]
 rfl

theorem isNaN_any (n : Nat) (w : World) :
  Calls Tryz.prog 124 #[.float .f64 n] w fun e w' => e = .returned (.bool (decide (9218868437227405312 < n % 9223372036854775808))) ∧ w' = w := by
 go_enter Tryz.func124, Tryz.ntmps124
 go_wp2
 go_ret
 refine ⟨?_, rfl⟩
 have e : FloatKind.f64.format.order n n = if 9218868437227405312 < n % 9223372036854775808 then none else some .eq := order_self n
 rw [e]
 split <;> simp_all

theorem canon_any (n : Nat) (w : World) :
  Calls Tryz.prog 93 #[.int .u64 (n : Int)] w fun e w' => e = .returned (.int .u64 (canon n : Nat)) ∧ w' = w := by
 have hb := frombits_run n
 by_cases h1 : 9218868437227405312 < n % 9223372036854775808
 ·have ec : canon n = 9221120237041090560 := by unfold canon; rw [if_pos h1]
  rw [ec]
  go_enter Tryz.func93, Tryz.ntmps93
  go_wp2_with (go_at_call 124; refine (isNaN_any n _).mono ?_; rintro e w' ⟨rfl, rfl⟩)
  go_ret
  exact ⟨rfl, rfl⟩
 ·have hz : (FloatKind.f64.format.order n 0 == some .eq) = decide (n % 9223372036854775808 = 0) := order_zero n h1
  by_cases h2 : n % 9223372036854775808 = 0
  ·have ec : canon n = 0 := by unfold canon; rw [if_neg h1, if_pos h2]
   rw [ec]
   go_enter Tryz.func93, Tryz.ntmps93
   go_wp2_with (go_at_call 124; refine (isNaN_any n _).mono ?_; rintro e w' ⟨rfl, rfl⟩)
   go_ret
   exact ⟨rfl, rfl⟩
  ·have ec : canon n = n := by unfold canon; rw [if_neg h1, if_neg h2]
   rw [ec]
   go_enter Tryz.func93, Tryz.ntmps93
   go_wp2_with (go_at_call 124; refine (isNaN_any n _).mono ?_; rintro e w' ⟨rfl, rfl⟩)
   go_ret
   exact ⟨rfl, rfl⟩










theorem refCanon_any (n : Nat) (hn : n < 18446744073709551616) (w : World) :
  Calls Tryz.prog 109 #[.int .u64 (n : Int)] w fun e w' => e = .returned (.int .u64 (canon n : Nat)) ∧ w' = w := by
 have ha := andNot_top n hn
 by_cases h1 : 9218868437227405312 < n % 9223372036854775808
 ·have ec : canon n = 9221120237041090560 := by unfold canon; rw [if_pos h1]
  rw [ec]
  go_enter Tryz.func109, Tryz.ntmps109
  go_wp2
  go_ret
  exact ⟨rfl, rfl⟩
 ·by_cases h2 : n = 9223372036854775808
  ·have ec : canon n = 0 := by unfold canon; rw [if_neg h1, if_pos (by omega)]
   rw [ec]
   go_enter Tryz.func109, Tryz.ntmps109
   go_wp2
   go_ret
   exact ⟨rfl, rfl⟩
  ·have ec : canon n = n := by
    unfold canon; rw [if_neg h1]
    split <;> omega
   rw [ec]
   go_enter Tryz.func109, Tryz.ntmps109
   go_wp2
   go_ret
   exact ⟨rfl, rfl⟩




theorem may_float_yes (f : Nat) (hc : canon f = f) (s : ByteArray) (w : World) :
  Calls Tryz.prog 112 #[.agg #[.int .i64 3, .int .i64 0, .int .u64 (f : Int), .string s]] w fun e w' => e = .returned (.bool (s.toList.isEmpty)) ∧ Below w.heap.size w w' := by
 have hcf : ∀ w, Calls Tryz.prog 93 #[.int .u64 (f : Int)] w fun e w' => e = .returned (.int .u64 (f : Nat)) ∧ w' = w := fun w => by have := canon_any f w; rw [hc] at this; exact this
 clear hc
 go_enter Tryz.func112, Tryz.ntmps112
 go_wp2_with fail
 go_quiet ((go_at_call 93; refine Calls.quiet_of_same (hcf _)))
 go_wp2
 go_ret
 exact ⟨rfl, below_drewN (Below.alloc (Below.refl _ _) (Nat.le_refl _) _) _⟩
theorem may_float_no (f : Nat) (hc : ¬ canon f = f) (s : ByteArray) (w : World) :
  Calls Tryz.prog 112 #[.agg #[.int .i64 3, .int .i64 0, .int .u64 (f : Int), .string s]] w fun e w' => e = .returned (.bool false) ∧ Below w.heap.size w w' := by
 have hd : (((canon f : Nat) : Int) == (f : Int)) = false := by simp; omega
 have hd2 : decide (((canon f : Nat) : Int) = (f : Int)) = false := by simp; omega
 go_enter Tryz.func112, Tryz.ntmps112
 go_wp2_with fail
 go_quiet ((go_at_call 93; refine Calls.quiet_of_same (canon_any f _)))
 go_wp2
 go_ret
 exact ⟨rfl, below_drewN (Below.alloc (Below.refl _ _) (Nat.le_refl _) _) _⟩
theorem may_float_n (n : Int) (hn : ¬ n = 0) (f : Nat) (s : ByteArray) (w : World) :
  Calls Tryz.prog 112 #[.agg #[.int .i64 3, .int .i64 n, .int .u64 (f : Int), .string s]] w fun e w' => e = .returned (.bool false) ∧ Below w.heap.size w w' := by
 have hd : (n == 0) = false := by simp; omega
 have hd2 : decide (n = 0) = false := by simp; omega
 go_enter Tryz.func112, Tryz.ntmps112
 go_wp2_with fail
 go_quiet (fail)
 go_wp2
 go_ret
 exact ⟨rfl, below_drewN (Below.alloc (Below.refl _ _) (Nat.le_refl _) _) _⟩
theorem may_any (k n : Int) (f : Nat) (s : ByteArray) (w : World) :
  Calls Tryz.prog 112 #[.agg #[.int .i64 k, .int .i64 n, .int .u64 (f : Int), .string s]] w fun e w' => e = .returned (.bool (may k n f s)) ∧ Below w.heap.size w w' := by
 by_cases h3 : k = 3
 ·subst h3
  by_cases hn : n = 0
  ·subst hn
   by_cases hc : canon f = f
   ·have e : may 3 0 f s = s.toList.isEmpty := by simp [may, hc]
    rw [e]
    exact may_float_yes f hc s w
   ·have e : may 3 0 f s = false := by simp [may, hc]
    rw [e]
    exact may_float_no f hc s w
  ·have e : may 3 n f s = false := by simp [may, hn]
   rw [e]
   exact may_float_n n hn f s w
 ·go_enter Tryz.func112, Tryz.ntmps112
  go_wp2_with fail
  all_goals go_ret
  all_goals first
   | (rw [show may k n f s = s.toList.isEmpty by simp_all [may]]; exact ⟨rfl, Below.alloc (Below.refl _ _) (Nat.le_refl _) _⟩)
   | (rw [show may k n f s = decide ((s.size : Int) ≤ 40) by simp_all [may]]; exact ⟨rfl, Below.alloc (Below.refl _ _) (Nat.le_refl _) _⟩)
   | (rw [show may k n f s = false by simp_all [may]]; exact ⟨rfl, Below.alloc (Below.refl _ _) (Nat.le_refl _) _⟩)

theorem Tryz.infoU8 : (Tryz.prog.info? 5).map (fun i => (i.zero, i.size, i.bytes)) = some (some (.int .u8 0), 1, 1) := by kernel_rfl

theorem conv_own (w : World) (base : Nat) (v : Value) (n : Nat) (l : List UInt8) (h : w.ownsRow base 5 1 v n (cellsOf l)) :
  (convert 110 9 v).run Tryz.prog w = .ok (.string (str l)) w := by
 have hn : n = l.length := by have := h.1; simp [cellsOf] at this; omega
 subst hn
 rcases h.2 with ⟨rfl, hl⟩ | ⟨g, cap, cur, rfl, _, hg, _, _, _, ht⟩
 ·have : l = [] := List.eq_nil_of_length_eq_zero hl
  subst this
  rw [run_convert_bytes_string w 110 9 5 none 0 0 Tryz.underlying110 Tryz.underlying5 Tryz.underlying9]
  rfl
 ·refine run_convert_bytes_back w 110 9 5 ⟨g, 0, none⟩ cap l Tryz.underlying110 Tryz.underlying5 Tryz.underlying9 ?_
  intro j hj
  refine h.cells (g := g) rfl j _ ?_
  simp [cellsOf, List.getElem?_eq_getElem hj]

theorem wpList_app {ops : Array Oper} {rest : List Oper} {o : Oper} {a : Act} {Q : Exit → Act → World → Prop} (w : World) (hgd : o.guard = none) (s x : Operand)
  (ho : o.op = .call { callee := .builtin .append, args := #[s, x], argTypes := #[110, 110] })
  (base : Nat) (v : Value) (n : Nat) (l : List UInt8) (hs : a.eval s = v) (hown : w.ownsRow base 5 1 v n (cellsOf l))
  (ad : Addr) (m c : Nat) (news : List UInt8) (hx : a.eval x = .slice (some ad) m c) (hl : news.length = m) (hnews : ∀ j u, (cellsOf news)[j]? = some u → w.cell? (ad.add j) = some u)
  (hb : n + m ≤ 1000000) (hbase : base ≤ w.heap.size)
  (h : ∀ v' w', w'.ownsRow base 5 1 v' (n + m) (cellsOf (l ++ news)) → Below base w w' → wpList Tryz.prog ops Q rest (a.put o.dst v') w') : wpList Tryz.prog ops Q (o :: rest) a w := by
 obtain ⟨i0, hi, hz0, hz1, hz2⟩ := info_parts Tryz.infoU8
 refine wpList_append_own w hgd s x 110 ho base 5 i0 (.int .u8 0) 1 1 Tryz.underlying110 hi hz0 hz1 hz2 rfl (by decide) v n (cellsOf l) hs hown ad m c (cellsOf news) hx (by simp [cellsOf, hl]) hnews ?_ (by unfold maxLen; omega) (by omega) hbase ?_
 ·intro u hu
  simp only [cellsOf, List.mem_map] at hu
  obtain ⟨b, _, rfl⟩ := hu
  rfl
 ·intro v' w' hown' hgrow _
  have e : cellsOf l ++ cellsOf news = cellsOf (l ++ news) := by simp [cellsOf]
  rw [e] at hown'
  exact h v' w' hown' (Below.grown (Below.refl base w) hgrow hbase (fun k hk => (hown.lt k hk).1))

theorem one_new (w : World) (t : TypeId) (b : UInt8) (x : Int) (hx : x = (b.toNat : Int)) :
  ∀ j u, (cellsOf [b])[j]? = some u → (w.alloc (.cells #[.int .u8 x] t)).cell? ((⟨w.heap.size, 0, none⟩ : Addr).add j) = some u := by
 intro j u hj
 subst hx
 match j, hj with
 | 0, hj => simp [cellsOf] at hj; subst hj; simp [Addr.add]
set_option linter.unusedVariables false
set_option maxRecDepth 100000

theorem or_byte (N : Nat) (b : UInt8) (hN : N < 72057594037927936) : bits .or .u64 ((N : Int) * 256) (b.toNat : Int) = ((N * 256 + b.toNat : Nat) : Int) := by
 have hb : b.toNat < 256 := b.toNat_lt
 obtain ⟨m, hm⟩ : ∃ m, N * 256 = m := ⟨_, rfl⟩
 have hm1 : m < 18446744073709551616 := by omega
 have hb1 : b.toNat < 18446744073709551616 := by omega
 have e := u64_or_nat m b.toNat hm1 hb1
 have e2 : (N : Int) * 256 = (m : Int) := by omega
 rw [e2, e, nat_join 8 m b.toNat (by omega) hb, hm]

theorem number_ok (s : ByteArray) (hs : ¬ s.size < 8) (w : World) :
  Calls Tryz.prog 110 #[.string s] w fun e w' => e = .returned (.int .u64 (numOf (s.data.toList.take 8) : Nat)) ∧ w' = w := by
 go_enter Tryz.func110, Tryz.ntmps110
 go_wp2
 go_loop [3, 4] (fun n i => ∃ k : Nat, k ≤ 8 ∧ i = .int .i64 (k : Int) ∧ n = .int .u64 ((numOf (s.data.toList.take k) : Nat) : Int)) (fun _ i => 8 - (intOf i).toNat)
 case atStart => exact ⟨0, by omega, rfl, rfl⟩
 case round =>
  obtain ⟨k, hk, rfl, rfl⟩ := hrel
  by_cases hk8 : k < 8
  ·have hks : k < s.size := by omega
   have hN := numOf_take_lt s.data.toList k (by omega)
   have hN' := numOf_take s k hks
   obtain ⟨N, hNe⟩ : ∃ N, numOf (s.data.toList.take k) = N := ⟨_, rfl⟩
   obtain ⟨M, hMe⟩ : ∃ M, numOf (s.data.toList.take (k + 1)) = M := ⟨_, rfl⟩
   rw [hNe] at hN hN' ⊢
   rw [hMe] at hN'
   have hb : s[k].toNat < 256 := s[k].toNat_lt
   have hN2 : N < 72057594037927936 := Nat.lt_of_lt_of_le hN (Nat.le_trans (Nat.pow_le_pow_right (by omega) (show k ≤ 7 by omega)) (by decide))
   have ho := or_byte N s[k] hN2
   rw [← hN'] at ho
   have HM : Hid (numOf (s.data.toList.take (k + 1)) = M) := hMe
   clear hNe hMe hN hN'
   go_wp2
   go_round
   case rel => exact ⟨k + 1, by omega, by go_num, by rw [HM.out]⟩
   case measure => simp [intOf]; omega
  ·have hk8 : k = 8 := by omega
   subst hk8
   go_wp2
   go_ret
   exact ⟨rfl, rfl⟩

end Go.Proofs.YtiajlhjjmlakmaaGreatDoor
