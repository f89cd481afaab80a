/-
  Contracts: what package cmd asks of keys and of ranges (13.1).
-/
import Derived.Test.YtbhaahkjglfjmaaCPutL
import Derived.Test.YtbhaahkjglfjmaaVMay
namespace Go.Proofs.Ytbhaahkjglfjmaa
open Go.RowKit Num
open scoped Classical
set_option linter.unusedVariables false

/-- Is it so? -/
def Num.tru (P : Prop) [d : Decidable P] : Bool := @decide P d
theorem tru_yes {P : Prop} [d : Decidable P] (h : P) : tru P = true := decide_eq_true h
theorem tru_no {P : Prop} [d : Decidable P] (h : ¬ P) : tru P = false := decide_eq_false h
theorem tru_iff {P Q : Prop} [d : Decidable P] [d2 : Decidable Q] (h : P ↔ Q) : tru P = tru Q := by
  by_cases hp : P
  · rw [tru_yes hp, tru_yes (h.1 hp)]
  · rw [tru_no hp, tru_no (fun hq => hp (h.2 hq))]
theorem within_any (n lo hi : Int) (w : World) :
    Calls Try.prog 40 #[.int .i64 n, .int .i64 lo, .int .i64 hi] w fun e w' => e = .returned (.bool (tru (lo ≤ n ∧ n ≤ hi))) ∧ w' = w := by
  by_cases h1 : lo ≤ n
  · by_cases h2 : n ≤ hi
    · rw [tru_yes ⟨h1, h2⟩]
      go_enter Try.func40, Try.ntmps40
      go_wp2
      go_ret
      exact ⟨rfl, rfl⟩
    · rw [tru_no (fun h => h2 h.2)]
      go_enter Try.func40, Try.ntmps40
      go_wp2
      go_ret
      exact ⟨rfl, rfl⟩
  · rw [tru_no (fun h => h1 h.1)]
    go_enter Try.func40, Try.ntmps40
    go_wp2
    go_ret
    exact ⟨rfl, rfl⟩
theorem Try.infoStr : (Try.prog.info? 9).map (fun i => (i.zero, i.size, i.bytes)) = some (some (.string ⟨#[]⟩), 1, 16) := by kernel_rfl
theorem one_cell (w : World) (t : TypeId) (y : Value) : ∀ j u, [y][j]? = some u → (w.alloc (.cells #[y] t)).cell? ((⟨w.heap.size, 0, none⟩ : Addr).add j) = some u := by
  intro j u hj
  match j, hj with
  | 0, hj => simp at hj; subst hj; simp [Addr.add]
theorem one_cellB (w : World) (t : TypeId) (y : Value) (b : Nat) (hb : w.heap.size = b) : ∀ j u, [y][j]? = some u → (w.alloc (.cells #[y] t)).cell? ((⟨b, 0, none⟩ : Addr).add j) = some u := by
  subst hb
  exact one_cell w t y
/-- A box stays. -/
theorem stay_box {X : Nat → Prop} {e : TypeId} {w w' : World} (h : Stay X e w w') {b : Nat} {cs : Array Value} {t : TypeId} {fr : Nat × Nat} (hb : w.heap[b]? = some (.cells cs t fr)) (ht : t ≠ e) (hX : ¬ X b) : w'.heap[b]? = some (.cells cs t fr) := by
  rw [h.keep b (Array.getElem?_eq_some_iff.1 hb).1 hX (fun cs' fr' he => by rw [hb] at he; simp at he; exact ht he.2.1)]
  exact hb
theorem below_box {w w' : World} (h : Below w.heap.size w w') {b : Nat} {o : Obj} (hb : w.heap[b]? = some o) : w'.heap[b]? = some o := by
  rw [h.block b (Array.getElem?_eq_some_iff.1 hb).1]
  exact hb
theorem alloc_box {w : World} (o' : Obj) {b : Nat} {o : Obj} (hb : w.heap[b]? = some o) : (w.alloc o').heap[b]? = some o := by
  rw [Below.heap_alloc w o' b (Array.getElem?_eq_some_iff.1 hb).1]
  exact hb
/-- Another row of the call's own stays. -/
theorem own_stay {X : Nat → Prop} {e e' : TypeId} {w w' : World} {B size n : Nat} {v : Value} {xs : List Value} (h : w.ownsRow B e size v n xs) (hs : Stay X e' w w') (hne : e ≠ e') (hX : ∀ k, ¬ X k) : w'.ownsRow B e size v n xs := by
  refine ⟨h.1, ?_⟩
  rcases h.2 with h0 | ⟨g, cap, cur, hv, hb, hg, r⟩
  · exact .inl h0
  · exact .inr ⟨g, cap, cur, hv, hb, stay_box hs hg hne (hX g), r⟩
/-- A row of the call's own. -/
def Num.RowS (B : Nat) (w : World) (v : Value) (l : List ByteArray) : Prop := w.ownsRow B 9 1 v l.length (l.map Value.string)
theorem wpList_appRowS {ops : Array Oper} {rest : List Oper} {o : Oper} {a : Act} {Q : Exit → Act → World → Prop} (w : World) (hgd : o.guard = none) (s x : Operand)
    (ho : o.op = .call { callee := .builtin .append, args := #[s, x], argTypes := #[22, 22] })
    (base : Nat) (v : Value) (l : List ByteArray) (hs : a.eval s = v) (hown : RowS base w v l)
    (ad : Addr) (c : Nat) (y : ByteArray) (hx : a.eval x = .slice (some ad) 1 c) (hnews : ∀ j u, [Value.string y][j]? = some u → w.cell? (ad.add j) = some u)
    (hb : l.length ≤ 100000) (hbase : base ≤ w.heap.size)
    (h : ∀ v' w', RowS base w' v' (l ++ [y]) → Below base w w' → Stay (fun _ => False) 9 w w' → wpList Try.prog ops Q rest (a.put o.dst v') w') : wpList Try.prog ops Q (o :: rest) a w := by
  obtain ⟨i0, hi, hz0, hz1, hz2⟩ := info_parts Try.infoStr
  refine wpList_append_own w hgd s x 22 ho base 9 i0 _ 1 _ Try.underlying22 hi hz0 hz1 hz2 rfl (by decide) v l.length (l.map Value.string) hs hown ad 1 c [Value.string y] hx (by simp) hnews ?_ (by unfold maxLen; omega) (by omega) hbase ?_
  · intro u hu
    simp only [List.mem_singleton] at hu
    subst hu
    rfl
  · intro v' w' hown' hgrow _
    have e : l.map Value.string ++ [Value.string y] = (l ++ [y]).map Value.string := by simp
    rw [e] at hown'
    exact h v' w' (by unfold RowS; rw [List.length_append]; exact hown') (Below.grown (Below.refl base w) hgrow hbase (fun k hk => (hown.lt k hk).1)) (Stay.grown hown hgrow)
theorem Num.RowS.nil (B : Nat) (w : World) : RowS B w (.slice none 0 0) [] := World.ownsRow_nil _ _ _ _
theorem Num.RowS.below {B : Nat} {w w' : World} {v : Value} {l : List ByteArray} (h : RowS B w v l) (hb : Below w.heap.size w w') : RowS B w' v l := own_below h hb
theorem Num.RowS.alloc {B : Nat} {w : World} {v : Value} {l : List ByteArray} (h : RowS B w v l) (o : Obj) : RowS B (w.alloc o) v l := World.ownsRow.alloc h o
theorem Num.RowS.lies {B : Nat} {w : World} {v : Value} {l : List ByteArray} (h : RowS B w v l) : ∃ ao cap, v = .slice ao l.length cap ∧ l.length ≤ cap ∧ LiesS w w.heap.size ao l := by
  rcases h.2 with ⟨hv, h0⟩ | ⟨g, cap, cur, hv, _, hg, hcap, _⟩
  · subst hv
    have : l = [] := List.eq_nil_of_length_eq_zero h0
    subst this
    exact ⟨none, 0, rfl, Nat.le_refl _, fun i x hx => by simp at hx⟩
  · subst hv
    refine ⟨some ⟨g, 0, none⟩, cap, rfl, hcap, fun i x hx => ⟨_, rfl, (Array.getElem?_eq_some_iff.1 hg).1, ?_⟩⟩
    rw [Nat.mul_one]
    exact h.cells (g := g) rfl i _ (by rw [List.getElem?_map, hx]; rfl)
theorem addr_zero (a : Addr) : a.add 0 = a := by simp [Addr.add]
@[go_sem] theorem str_leq (t : TypeId) (a b : ByteArray) : binOp .leq t (.string a) (.string b) = pure (.bool (Op.bytesLess a.toList b.toList || a.toList == b.toList)) := by simp [binOp, Op.stringOp]
theorem mayKeys_any (ao : Option Addr) (cap : Nat) (l : List ByteArray) (w : World) (hl : LiesS w w.heap.size ao l) :
    Calls Try.prog 18 #[.slice ao l.length cap] w fun e w' => e = .returned (.bool (tru (KeysOk' l))) ∧ w' = w := by
  by_cases q : 200 < (l.length : Int)
  · rw [tru_no (show ¬ KeysOk' l from fun h => h.1 q)]
    go_enter Try.func18, Try.ntmps18
    go_wp2
    go_ret
    exact ⟨rfl, rfl⟩
  · have h200 : l.length ≤ 200 := by omega
    go_enter Try.func18, Try.ntmps18
    go_wp2
    go_loop [10] (fun i => ∃ k : Nat, k ≤ l.length ∧ i = .int .i64 (k : Int) ∧ Hid (∀ j, j < k → KeyAt l j)) (fun i => l.length - (intOf i).toNat)
    case atStart => exact ⟨0, by omega, rfl, fun _ h => absurd h (Nat.not_lt_zero _)⟩
    case round =>
      obtain ⟨k, hk, rfl, HK⟩ := hrel
      by_cases hkl : k < l.length
      · have HKs : KeyAt l k → Hid (∀ j, j < k + 1 → KeyAt l j) := by
          intro hx j hj
          by_cases h : j = k
          · subst h
            exact hx
          · exact HK.out j (by omega)
        have HKn : ¬ KeyAt l k → Hid (¬ KeysOk' l) := fun hx h => hx (h.2 k hkl)
        clear HK
        obtain ⟨a, rfl, hblk, c0⟩ := hl k l[k] (List.getElem?_eq_getElem hkl)
        rw [Nat.mul_one] at c0
        unfold TxtAt at c0
        have hat : ∀ x, l[k]? = some x → x = l[k] := fun x hx => by rw [List.getElem?_eq_getElem hkl] at hx; cases hx; rfl
        by_cases hz : 1000 < (l[k].size : Int)
        · have hno := HKn (fun h => (h _ (List.getElem?_eq_getElem hkl)).1 hz)
          clear HKs HKn hat
          generalize l[k] = y at *
          go_wp2
          go_ret
          rw [tru_no hno.out]
          exact ⟨rfl, rfl⟩
        · by_cases hk0 : k = 0
          · subst hk0
            have HK2 := HKs (fun x hx => by
              rw [hat x hx]
              exact ⟨hz, fun j y hj => by omega⟩)
            clear HKs HKn hat
            have c00 : w.cell? a = some (.string l[0]) := by rw [addr_zero] at c0; exact c0
            clear c0
            generalize l[0] = y at *
            go_wp2
            go_round
            case rel => exact ⟨1, by omega, by go_num, HK2⟩
            case measure => simp [intOf]; omega
          · obtain ⟨j, hj⟩ : ∃ j, k = j + 1 := ⟨k - 1, by omega⟩
            have hjl : j < l.length := by omega
            have HKs2 : leqT l[k] l[j] = false → Hid (∀ j, j < k + 1 → KeyAt l j) := fun he => HKs (fun x hx => by
              rw [hat x hx]
              refine ⟨hz, fun j' y hj' hy => ?_⟩
              obtain rfl : j' = j := by omega
              rw [List.getElem?_eq_getElem hjl] at hy
              cases hy
              exact he)
            have HKn2 : leqT l[k] l[j] = true → Hid (¬ KeysOk' l) := fun he => HKn (fun h => by
              have := (h _ (List.getElem?_eq_getElem hkl)).2 j l[j] hj (List.getElem?_eq_getElem hjl)
              rw [he] at this
              cases this)
            clear HKs HKn hat
            obtain ⟨a', ha', _, d0⟩ := hl j l[j] (List.getElem?_eq_getElem hjl)
            cases ha'
            rw [Nat.mul_one] at d0
            unfold TxtAt at d0
            have hsub : (k : Int) - 1 = (j : Int) := by omega
            have hjb : (j : Int) < (l.length : Int) := by omega
            have hpos : 0 < k := by omega
            have hpos2 : (0 : Int) < (k : Int) := by omega
            unfold leqT at HKs2 HKn2
            have HJ : Hid (k = j + 1) := hj
            clear hj hk0
            generalize l[k] = x at *
            generalize l[j] = y at *
            rcases Bool.eq_false_or_eq_true (Op.bytesLess x.toList y.toList) with h1 | h1
            · have hno := HKn2 (by rw [h1]; rfl)
              clear HKs2 HKn2
              go_wp2
              go_ret
              rw [tru_no hno.out]
              exact ⟨rfl, rfl⟩
            · rcases Bool.eq_false_or_eq_true (x.toList == y.toList) with h2 | h2
              · have hno := HKn2 (by rw [h1, h2]; rfl)
                clear HKs2 HKn2
                go_wp2
                go_ret
                rw [tru_no hno.out]
                exact ⟨rfl, rfl⟩
              · have HK2 := HKs2 (by rw [h1, h2]; rfl)
                clear HKs2 HKn2
                go_wp2
                go_round
                case rel => exact ⟨k + 1, by omega, by go_num, HK2⟩
                case measure => simp [intOf]; omega
      · have hyes : Hid (KeysOk' l) := ⟨by omega, fun i hi => HK.out i (by omega)⟩
        clear HK
        go_wp2
        go_ret
        rw [tru_yes hyes.out]
        exact ⟨rfl, rfl⟩
theorem mayRanges_any (ao : Option Addr) (cap : Nat) (l : List Rng) (w : World) (hl : LiesQ w w.heap.size ao l) :
    Calls Try.prog 19 #[.slice ao l.length cap] w fun e w' => e = .returned (.bool (tru (RngsOk l))) ∧ Below w.heap.size w w' := by
  by_cases q : 50 < (l.length : Int)
  · rw [tru_no (show ¬ RngsOk l from fun h => h.1 q)]
    go_enter Try.func19, Try.ntmps19
    go_wp2
    go_ret
    exact ⟨rfl, Below.refl _ _⟩
  · have h200 : l.length ≤ 50 := by omega
    go_enter Try.func19, Try.ntmps19
    go_wp2
    go_loopw [10] (fun i wr => ∃ k : Nat, k ≤ l.length ∧ i = .int .i64 (k : Int) ∧ Below w.heap.size w wr ∧ Hid (∀ j (hj : j < l.length), j < k → RngOk l[j])) (fun i _ => l.length - (intOf i).toNat)
    case atStart => exact ⟨0, by omega, rfl, Below.refl _ _, fun _ _ h => absurd h (Nat.not_lt_zero _)⟩
    case round =>
      obtain ⟨k, hk, rfl, hbel, HK⟩ := hrel
      have hsz := hbel.size
      by_cases hkl : k < l.length
      · have HKs : RngOk l[k] → Hid (∀ j (hj : j < l.length), j < k + 1 → RngOk l[j]) := by
          intro hx j hj hjk
          by_cases h : j = k
          · subst h
            exact hx
          · exact HK.out j hj (by omega)
        have HKn : ¬ RngOk l[k] → Hid (¬ RngsOk l) := fun hx h => hx (h.2 _ (List.getElem_mem hkl))
        clear HK
        obtain ⟨a, rfl, hblk, c0, c1⟩ := (hl.below RngAt.fast hbel) k l[k] (List.getElem?_eq_getElem hkl)
        generalize l[k] = y at *
        by_cases p1 : 1000 < (y.lo.size : Int)
        · have hno := HKn (fun h => h.1 p1)
          clear HKs HKn
          go_wp2
          go_ret
          rw [tru_no hno.out]
          exact ⟨rfl, hbel.alloc hsz _⟩
        · by_cases p2 : 1000 < (y.hi.size : Int)
          · have hno := HKn (fun h => h.2 p2)
            clear HKs HKn
            go_wp2
            go_ret
            rw [tru_no hno.out]
            exact ⟨rfl, hbel.alloc hsz _⟩
          · have HK2 := HKs ⟨p1, p2⟩
            clear HKs HKn
            go_wp2
            go_roundw
            case rel => exact ⟨k + 1, by omega, by go_num, hbel.alloc hsz _, HK2⟩
            case measure => simp [intOf]; omega
      · have hyes : Hid (RngsOk l) := ⟨by omega, fun x hx => by
          obtain ⟨j, hj, rfl⟩ := List.getElem_of_mem hx
          exact HK.out j hj (by omega)⟩
        clear HK
        go_wp2
        go_ret
        rw [tru_yes hyes.out]
        exact ⟨rfl, hbel⟩
end Go.Proofs.Ytbhaahkjglfjmaa
