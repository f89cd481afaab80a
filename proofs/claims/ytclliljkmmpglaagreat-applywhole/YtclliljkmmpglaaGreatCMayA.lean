/-
  Joined:
  Contracts: what package cmd asks of keys and of ranges (13.1).
  Contracts: what package cmd asks of writes and of rows (13.1).
-/
import Derived.Test.YtclliljkmmpglaaGreatBase
import Derived.Test.YtclliljkmmpglaaGreatCPutL
import Derived.Test.YtclliljkmmpglaaGreatFl
namespace Go.Proofs.YtclliljkmmpglaaGreat
open Go.RowKit Num
open scoped Classical
set_option linter.unusedVariables false
set_option maxRecDepth 100000

theorem within_anyC (n lo hi : Int) (w : World) :
    Calls Tryz.prog 156 #[.int .i64 n, .int .i64 lo, .int .i64 hi] w fun e w' => e = .returned (.bool (tru (lo ≤ n ∧ n ≤ hi))) ∧ w' = w := by
  by_cases h1 : lo ≤ n
  · by_cases h2 : n ≤ hi
    · rw [tru_yes ⟨h1, h2⟩]
      go_enter Tryz.func156, Tryz.ntmps156
      go_wp2
      go_ret
      exact ⟨rfl, rfl⟩
    · rw [tru_no (fun h => h2 h.2)]
      go_enter Tryz.func156, Tryz.ntmps156
      go_wp2
      go_ret
      exact ⟨rfl, rfl⟩
  · rw [tru_no (fun h => h1 h.1)]
    go_enter Tryz.func156, Tryz.ntmps156
    go_wp2
    go_ret
    exact ⟨rfl, rfl⟩
theorem Tryz.infoStrC : (Tryz.prog.info? 9).map (fun i => (i.zero, i.size, i.bytes)) = some (some (.string ⟨#[]⟩), 1, 16) := by kernel_rfl
/-- A row of the call's own. -/
def Num.RowS (B : Nat) (w : World) (v : Value) (l : List ByteArray) : Prop := w.ownsRow B 9 1 v l.length (l.map Value.string)
theorem wpList_appRowS {ops : Array Oper} {rest : List Oper} {o : Oper} {a : Act} {Q : Exit → Act → World → Prop} (w : World) (hgd : o.guard = none) (s x : Operand)
    (ho : o.op = .call { callee := .builtin .append, args := #[s, x], argTypes := #[36, 36] })
    (base : Nat) (v : Value) (l : List ByteArray) (hs : a.eval s = v) (hown : RowS base w v l)
    (ad : Addr) (c : Nat) (y : ByteArray) (hx : a.eval x = .slice (some ad) 1 c) (hnews : ∀ j u, [Value.string y][j]? = some u → w.cell? (ad.add j) = some u)
    (hb : l.length ≤ 100000) (hbase : base ≤ w.heap.size)
    (h : ∀ v' w', RowS base w' v' (l ++ [y]) → Below base w w' → Stay (fun _ => False) 9 w w' → wpList Tryz.prog ops Q rest (a.put o.dst v') w') : wpList Tryz.prog ops Q (o :: rest) a w := by
  obtain ⟨i0, hi, hz0, hz1, hz2⟩ := info_parts Tryz.infoStrC
  refine wpList_append_own w hgd s x 36 ho base 9 i0 _ 1 _ Tryz.underlying36 hi hz0 hz1 hz2 rfl (by decide) v l.length (l.map Value.string) hs hown ad 1 c [Value.string y] hx (by simp) hnews ?_ (by unfold maxLen; omega) (by omega) hbase ?_
  · intro u hu
    simp only [List.mem_singleton] at hu
    subst hu
    rfl
  · intro v' w' hown' hgrow _
    have e : l.map Value.string ++ [Value.string y] = (l ++ [y]).map Value.string := by simp
    rw [e] at hown'
    exact h v' w' (by unfold RowS; rw [List.length_append]; exact hown') (Below.grown (Below.refl base w) hgrow hbase (fun k hk => (hown.lt k hk).1)) (Stay.grown hown hgrow)
theorem Num.RowS.nil (B : Nat) (w : World) : RowS B w (.slice none 0 0) [] := World.ownsRow_nil _ _ _ _
theorem Num.RowS.below {B : Nat} {w w' : World} {v : Value} {l : List ByteArray} (h : RowS B w v l) (hb : Below w.heap.size w w') : RowS B w' v l := own_below h hb
theorem Num.RowS.alloc {B : Nat} {w : World} {v : Value} {l : List ByteArray} (h : RowS B w v l) (o : Obj) : RowS B (w.alloc o) v l := World.ownsRow.alloc h o
theorem Num.RowS.lies {B : Nat} {w : World} {v : Value} {l : List ByteArray} (h : RowS B w v l) : ∃ ao cap, v = .slice ao l.length cap ∧ l.length ≤ cap ∧ LiesS w w.heap.size ao l := by
  rcases h.2 with ⟨hv, h0⟩ | ⟨g, cap, cur, hv, _, hg, hcap, _⟩
  · subst hv
    have : l = [] := List.eq_nil_of_length_eq_zero h0
    subst this
    exact ⟨none, 0, rfl, Nat.le_refl _, fun i x hx => by simp at hx⟩
  · subst hv
    refine ⟨some ⟨g, 0, none⟩, cap, rfl, hcap, fun i x hx => ⟨_, rfl, (Array.getElem?_eq_some_iff.1 hg).1, ?_⟩⟩
    rw [Nat.mul_one]
    exact h.cells (g := g) rfl i _ (by rw [List.getElem?_map, hx]; rfl)
theorem addr_zeroC (a : Addr) : a.add 0 = a := by simp [Addr.add]
theorem mayKeys_any (ao : Option Addr) (cap : Nat) (l : List ByteArray) (w : World) (hl : LiesS w w.heap.size ao l) :
    Calls Tryz.prog 138 #[.slice ao l.length cap] w fun e w' => e = .returned (.bool (tru (KeysOk' l))) ∧ w' = w := by
  by_cases q : 200 < (l.length : Int)
  · rw [tru_no (show ¬ KeysOk' l from fun h => h.1 q)]
    go_enter Tryz.func138, Tryz.ntmps138
    go_wp2
    go_ret
    exact ⟨rfl, rfl⟩
  · have h200 : l.length ≤ 200 := by omega
    go_enter Tryz.func138, Tryz.ntmps138
    go_wp2
    go_loop [10] (fun i => ∃ k : Nat, k ≤ l.length ∧ i = .int .i64 (k : Int) ∧ Hid (∀ j, j < k → KeyAt l j)) (fun i => l.length - (intOf i).toNat)
    case atStart => exact ⟨0, by omega, rfl, fun _ h => absurd h (Nat.not_lt_zero _)⟩
    case round =>
      obtain ⟨k, hk, rfl, HK⟩ := hrel
      by_cases hkl : k < l.length
      · have HKs : KeyAt l k → Hid (∀ j, j < k + 1 → KeyAt l j) := by
          intro hx j hj
          by_cases h : j = k
          · subst h
            exact hx
          · exact HK.out j (by omega)
        have HKn : ¬ KeyAt l k → Hid (¬ KeysOk' l) := fun hx h => hx (h.2 k hkl)
        clear HK
        obtain ⟨a, rfl, hblk, c0⟩ := hl k l[k] (List.getElem?_eq_getElem hkl)
        rw [Nat.mul_one] at c0
        unfold TxtAt at c0
        have hat : ∀ x, l[k]? = some x → x = l[k] := fun x hx => by rw [List.getElem?_eq_getElem hkl] at hx; cases hx; rfl
        by_cases hz : 1000 < (l[k].size : Int)
        · have hno := HKn (fun h => (h _ (List.getElem?_eq_getElem hkl)).1 hz)
          clear HKs HKn hat
          generalize l[k] = y at *
          go_wp2
          go_ret
          rw [tru_no hno.out]
          exact ⟨rfl, rfl⟩
        · by_cases hk0 : k = 0
          · subst hk0
            have HK2 := HKs (fun x hx => by
              rw [hat x hx]
              exact ⟨hz, fun j y hj => by omega⟩)
            clear HKs HKn hat
            have c00 : w.cell? a = some (.string l[0]) := by rw [addr_zeroC] at c0; exact c0
            clear c0
            generalize l[0] = y at *
            go_wp2
            go_round
            case rel => exact ⟨1, by omega, by go_num, HK2⟩
            case measure => simp [intOf]; omega
          · obtain ⟨j, hj⟩ : ∃ j, k = j + 1 := ⟨k - 1, by omega⟩
            have hjl : j < l.length := by omega
            have HKs2 : leqT l[k] l[j] = false → Hid (∀ j, j < k + 1 → KeyAt l j) := fun he => HKs (fun x hx => by
              rw [hat x hx]
              refine ⟨hz, fun j' y hj' hy => ?_⟩
              obtain rfl : j' = j := by omega
              rw [List.getElem?_eq_getElem hjl] at hy
              cases hy
              exact he)
            have HKn2 : leqT l[k] l[j] = true → Hid (¬ KeysOk' l) := fun he => HKn (fun h => by
              have := (h _ (List.getElem?_eq_getElem hkl)).2 j l[j] hj (List.getElem?_eq_getElem hjl)
              rw [he] at this
              cases this)
            clear HKs HKn hat
            obtain ⟨a', ha', _, d0⟩ := hl j l[j] (List.getElem?_eq_getElem hjl)
            cases ha'
            rw [Nat.mul_one] at d0
            unfold TxtAt at d0
            have hsub : (k : Int) - 1 = (j : Int) := by omega
            have hjb : (j : Int) < (l.length : Int) := by omega
            have hpos : 0 < k := by omega
            have hpos2 : (0 : Int) < (k : Int) := by omega
            unfold leqT at HKs2 HKn2
            have HJ : Hid (k = j + 1) := hj
            clear hj hk0
            generalize l[k] = x at *
            generalize l[j] = y at *
            rcases Bool.eq_false_or_eq_true (Op.bytesLess x.toList y.toList) with h1 | h1
            · have hno := HKn2 (by rw [h1]; rfl)
              clear HKs2 HKn2
              go_wp2
              go_ret
              rw [tru_no hno.out]
              exact ⟨rfl, rfl⟩
            · rcases Bool.eq_false_or_eq_true (x.toList == y.toList) with h2 | h2
              · have hno := HKn2 (by rw [h1, h2]; rfl)
                clear HKs2 HKn2
                go_wp2
                go_ret
                rw [tru_no hno.out]
                exact ⟨rfl, rfl⟩
              · have HK2 := HKs2 (by rw [h1, h2]; rfl)
                clear HKs2 HKn2
                go_wp2
                go_round
                case rel => exact ⟨k + 1, by omega, by go_num, HK2⟩
                case measure => simp [intOf]; omega
      · have hyes : Hid (KeysOk' l) := ⟨by omega, fun i hi => HK.out i (by omega)⟩
        clear HK
        go_wp2
        go_ret
        rw [tru_yes hyes.out]
        exact ⟨rfl, rfl⟩
theorem mayRanges_any (ao : Option Addr) (cap : Nat) (l : List Rng) (w : World) (hl : LiesQ w w.heap.size ao l) :
    Calls Tryz.prog 139 #[.slice ao l.length cap] w fun e w' => e = .returned (.bool (tru (RngsOk l))) ∧ Below w.heap.size w w' := by
  by_cases q : 50 < (l.length : Int)
  · rw [tru_no (show ¬ RngsOk l from fun h => h.1 q)]
    go_enter Tryz.func139, Tryz.ntmps139
    go_wp2
    go_ret
    exact ⟨rfl, Below.refl _ _⟩
  · have h200 : l.length ≤ 50 := by omega
    go_enter Tryz.func139, Tryz.ntmps139
    go_wp2
    go_loopw [10] (fun i wr => ∃ k : Nat, k ≤ l.length ∧ i = .int .i64 (k : Int) ∧ Below w.heap.size w wr ∧ Hid (∀ j (hj : j < l.length), j < k → RngOk l[j])) (fun i _ => l.length - (intOf i).toNat)
    case atStart => exact ⟨0, by omega, rfl, Below.refl _ _, fun _ _ h => absurd h (Nat.not_lt_zero _)⟩
    case round =>
      obtain ⟨k, hk, rfl, hbel, HK⟩ := hrel
      have hsz := hbel.size
      by_cases hkl : k < l.length
      · have HKs : RngOk l[k] → Hid (∀ j (hj : j < l.length), j < k + 1 → RngOk l[j]) := by
          intro hx j hj hjk
          by_cases h : j = k
          · subst h
            exact hx
          · exact HK.out j hj (by omega)
        have HKn : ¬ RngOk l[k] → Hid (¬ RngsOk l) := fun hx h => hx (h.2 _ (List.getElem_mem hkl))
        clear HK
        obtain ⟨a, rfl, hblk, c0, c1⟩ := (hl.below RngAt.fast hbel) k l[k] (List.getElem?_eq_getElem hkl)
        generalize l[k] = y at *
        by_cases p1 : 1000 < (y.lo.size : Int)
        · have hno := HKn (fun h => h.1 p1)
          clear HKs HKn
          go_wp2
          go_ret
          rw [tru_no hno.out]
          exact ⟨rfl, hbel.alloc hsz _⟩
        · by_cases p2 : 1000 < (y.hi.size : Int)
          · have hno := HKn (fun h => h.2 p2)
            clear HKs HKn
            go_wp2
            go_ret
            rw [tru_no hno.out]
            exact ⟨rfl, hbel.alloc hsz _⟩
          · have HK2 := HKs ⟨p1, p2⟩
            clear HKs HKn
            go_wp2
            go_roundw
            case rel => exact ⟨k + 1, by omega, by go_num, hbel.alloc hsz _, HK2⟩
            case measure => simp [intOf]; omega
      · have hyes : Hid (RngsOk l) := ⟨by omega, fun x hx => by
          obtain ⟨j, hj, rfl⟩ := List.getElem_of_mem hx
          exact HK.out j hj (by omega)⟩
        clear HK
        go_wp2
        go_ret
        rw [tru_yes hyes.out]
        exact ⟨rfl, hbel⟩
end Go.Proofs.YtclliljkmmpglaaGreat
namespace Go.Proofs.YtclliljkmmpglaaGreat
open Go.RowKit Num
open scoped Classical
set_option linter.unusedVariables false
set_option maxRecDepth 100000

theorem map_snoc {α β : Type} (f : α → β) (l : List α) (k : Nat) (hk : k < l.length) : (l.take (k + 1)).map f = (l.take k).map f ++ [f l[k]] := by
  rw [List.take_succ_eq_append_getElem hk, List.map_append]
  rfl
theorem len_take {α β : Type} (f : α → β) (l : List α) (k : Nat) : ((l.take k).map f).length ≤ k := by
  rw [List.length_map, List.length_take]
  omega
theorem mayWrites_any (ao : Option Addr) (cap : Nat) (l : List Wrt) (w : World) (hl : LiesW w w.heap.size ao l) :
    Calls Tryz.prog 140 #[.slice ao l.length cap] w fun e w' => e = .returned (.bool (tru (WrtsOk l))) ∧ Below w.heap.size w w' := by
  by_cases q : 200 < (l.length : Int)
  · rw [tru_no (show ¬ WrtsOk l from fun h => h.1 q)]
    go_enter Tryz.func140, Tryz.ntmps140
    go_wp2
    go_ret
    exact ⟨rfl, Below.refl _ _⟩
  · have h200 : l.length ≤ 200 := by omega
    go_enter Tryz.func140, Tryz.ntmps140
    go_wp2
    go_loopw [3, 11] (fun v i wr => ∃ k : Nat, k ≤ l.length ∧ i = .int .i64 (k : Int) ∧ RowS w.heap.size wr v ((l.take k).map Wrt.key) ∧ Below w.heap.size w wr ∧ Hid (∀ j (hj : j < l.length), j < k → WrtOk l[j])) (fun _ i _ => l.length - (intOf i).toNat)
    case atStart => exact ⟨0, by omega, rfl, RowS.nil _ _, Below.refl _ _, fun _ _ h => absurd h (Nat.not_lt_zero _)⟩
    case round =>
      obtain ⟨k, hk, rfl, hrow, hbel, HK⟩ := hrel
      have hsz := hbel.size
      by_cases hkl : k < l.length
      · have HKs : WrtOk l[k] → Hid (∀ j (hj : j < l.length), j < k + 1 → WrtOk l[j]) := by
          intro hx j hj hjk
          by_cases h : j = k
          · subst h
            exact hx
          · exact HK.out j hj (by omega)
        have HKn : ¬ WrtOk l[k] → Hid (¬ WrtsOk l) := fun hx h => hx (h.2.1 _ (List.getElem_mem hkl))
        have hcat := map_snoc Wrt.key l k hkl
        have hlt := len_take Wrt.key l k
        clear HK
        obtain ⟨a, rfl, hblk, c0, c1, c2⟩ := (hl.below WrtAt.fast hbel) k l[k] (List.getElem?_eq_getElem hkl)
        have hend : ∀ (w7 : World) (v7 : Value), RowS w.heap.size w7 v7 ((l.take k).map Wrt.key ++ [(l[k]).key]) → RowS w.heap.size w7 v7 ((l.take (k + 1)).map Wrt.key) := by
          intro w7 v7 r1
          rw [hcat]
          exact r1
        clear hcat
        generalize (l.take k).map Wrt.key = L at *
        generalize l[k] = y at *
        obtain ⟨K, V, D⟩ := y
        dsimp only at c0 c1 c2 hend
        unfold WrtOk at HKs HKn
        dsimp only at HKs HKn
        have hbel2 := fun d => hbel.alloc hsz (.cells #[.string K, .string V, .bool d] 72)
        have r2 := fun d => hrow.alloc (.cells #[.string K, .string V, .bool d] 72)
        by_cases p1 : 10000 < (V.size : Int)
        · have hno := HKn (fun h => h.1 p1)
          clear HKs HKn hend
          go_wp2
          go_ret
          rw [tru_no hno.out]
          exact ⟨rfl, hbel2 _⟩
        · cases D with
          | true =>
            rcases Bool.eq_false_or_eq_true (V.toList.isEmpty) with p3 | p3
            · have HK2 := HKs ⟨p1, fun _ => p3⟩
              clear HKs HKn
              go_wp2_with (first
                | (at_builtin; refine wpList_appRowS _ rfl _ _ rfl w.heap.size _ L rfl ((r2 true).alloc _) _ _ _ rfl (one_cellB _ _ _ _ (by simp)) (by omega) (by simp; omega) ?_; intro v6 w6 r6 hb6 st6))
              have r7 := hend _ _ r6
              go_roundw
              case rel => exact ⟨k + 1, by omega, by go_num, r7, ((hbel2 true).alloc (by simp; omega) _).trans hb6, HK2⟩
              case measure => simp [intOf]; omega
            · have hno := HKn (fun h => by have := h.2 rfl; rw [p3] at this; cases this)
              clear HKs HKn hend
              go_wp2
              go_ret
              rw [tru_no hno.out]
              exact ⟨rfl, hbel2 _⟩
          | false =>
            have HK2 := HKs ⟨p1, fun h => by cases h⟩
            clear HKs HKn
            go_wp2_with (first
              | (at_builtin; refine wpList_appRowS _ rfl _ _ rfl w.heap.size _ L rfl ((r2 false).alloc _) _ _ _ rfl (one_cellB _ _ _ _ (by simp)) (by omega) (by simp; omega) ?_; intro v6 w6 r6 hb6 st6))
            have r7 := hend _ _ r6
            go_roundw
            case rel => exact ⟨k + 1, by omega, by go_num, r7, ((hbel2 false).alloc (by simp; omega) _).trans hb6, HK2⟩
            case measure => simp [intOf]; omega
      · have hke : k = l.length := by omega
        subst hke
        rw [List.take_length] at hrow
        obtain ⟨ao5, cap5, rfl, hcap5, hlS⟩ := hrow.lies
        have hnn := mayKeys_any ao5 cap5 (l.map Wrt.key) wr hlS
        have he : Hid (tru (WrtsOk l) = tru (KeysOk' (l.map Wrt.key))) := tru_iff ⟨fun h => h.2.2, fun h => ⟨by omega, fun x hx => by
          obtain ⟨j, hj, rfl⟩ := List.getElem_of_mem hx
          exact HK.out j hj hj, h⟩⟩
        clear HK hrow hlS hcap5
        generalize tru (KeysOk' (l.map Wrt.key)) = c at *
        generalize l.map Wrt.key = L at *
        go_wp2_with (go_at_call 138; refine hnn.mono ?_; rintro e w1 ⟨rfl, hq⟩; have hq' := hq.symm; clear hq; subst hq')
        go_ret
        rw [he.out]
        exact ⟨rfl, hbel⟩
theorem mayRows_any (ao : Option Addr) (cap : Nat) (l : List (List Val)) (w : World) (hl : LiesX w w.heap.size ao l) :
    Calls Tryz.prog 141 #[.slice ao l.length cap] w fun e w' => e = .returned (.bool (tru (RowsOk l))) ∧ Below w.heap.size w w' := by
  by_cases q : 200 < (l.length : Int)
  · rw [tru_no (show ¬ RowsOk l from fun h => h.1 q)]
    go_enter Tryz.func141, Tryz.ntmps141
    go_wp2
    go_ret
    exact ⟨rfl, Below.refl _ _⟩
  · have h200 : l.length ≤ 200 := by omega
    go_enter Tryz.func141, Tryz.ntmps141
    go_wp2
    go_loopw [12] (fun i wr => ∃ k : Nat, k ≤ l.length ∧ i = .int .i64 (k : Int) ∧ Below w.heap.size w wr ∧ Hid (∀ j (hj : j < l.length), j < k → RowOk' l[j])) (fun i _ => l.length - (intOf i).toNat)
    case atStart => exact ⟨0, by omega, rfl, Below.refl _ _, fun _ _ h => absurd h (Nat.not_lt_zero _)⟩
    case round =>
      obtain ⟨k, hk, rfl, hbel, HK⟩ := hrel
      have hsz := hbel.size
      by_cases hkl : k < l.length
      · have HKs : RowOk' l[k] → Hid (∀ j (hj : j < l.length), j < k + 1 → RowOk' l[j]) := by
          intro hx j hj hjk
          by_cases h : j = k
          · subst h
            exact hx
          · exact HK.out j hj (by omega)
        have HKn : ¬ RowOk' l[k] → Hid (¬ RowsOk l) := fun hx h => hx (h.2 _ (List.getElem_mem hkl))
        clear HK
        obtain ⟨a, rfl, hblk, ao2, cap2, c0, hl2⟩ := (hl.below RowAt.fast hbel) k l[k] (List.getElem?_eq_getElem hkl)
        rw [Nat.mul_one] at c0
        generalize l[k] = y at *
        by_cases p1 : 8 < (y.length : Int)
        · have hno := HKn (fun h => h.1 p1)
          clear HKs HKn
          go_wp2
          go_ret
          rw [tru_no hno.out]
          exact ⟨rfl, hbel⟩
        · have h8 : y.length ≤ 8 := by omega
          have HKs2 : (∀ v ∈ y, v.may = true) → Hid (∀ j (hj : j < l.length), j < k + 1 → RowOk' l[j]) := fun h => HKs ⟨p1, h⟩
          have HKn2 : (∃ v ∈ y, v.may = false) → Hid (¬ RowsOk l) := fun ⟨v, hv, h⟩ => HKn (fun h2 => by have := h2.2 v hv; rw [h] at this; cases this)
          clear HKs HKn
          rename World => W0
          go_wp2
          go_loopw [21] (fun i wr => ∃ m : Nat, m ≤ y.length ∧ i = .int .i64 (m : Int) ∧ Below w.heap.size w wr ∧ Below w.heap.size W0 wr ∧ Hid (∀ j (hj : j < y.length), j < m → (y[j]).may = true)) (fun i _ => y.length - (intOf i).toNat)
          case atStart => exact ⟨0, by omega, rfl, hbel, Below.refl _ _, fun _ _ h => absurd h (Nat.not_lt_zero _)⟩
          case round =>
            obtain ⟨m, hm, rfl, hbel2, hbr2, HM⟩ := hrel
            have hsz2 := hbel2.size
            by_cases hml : m < y.length
            · have HMs : (y[m]).may = true → Hid (∀ j (hj : j < y.length), j < m + 1 → (y[j]).may = true) := by
                intro hx j hj hjk
                by_cases h : j = m
                · subst h
                  exact hx
                · exact HM.out j hj (by omega)
              have HMn : (y[m]).may = false → Hid (¬ RowsOk l) := fun h => HKn2 ⟨_, List.getElem_mem hml, h⟩
              clear HM HKs2 HKn2
              obtain ⟨a2, rfl, hblk2, e0, e1, e2, e3⟩ := (hl2.below ValAt.fast hbr2) m y[m] (List.getElem?_eq_getElem hml)
              generalize y[m] = z at *
              have hmay : ∀ w, Calls Tryz.prog 157 #[.agg #[.int .i64 z.k, .int .i64 z.n, .int .u64 (z.f : Int), .string z.s]] w fun e w' => e = .returned (.bool z.may) ∧ Below w.heap.size w w' := may_any z.k z.n z.f z.s
              rcases Bool.eq_false_or_eq_true z.may with p2 | p2
              · rw [p2] at hmay
                have HM2 := HMs p2
                clear HMs HMn p2
                go_wp2_with (go_at_call 157; refine (hmay _).mono ?_; rintro e w5 ⟨rfl, hb5⟩)
                go_roundw
                case rel => exact ⟨m + 1, by omega, by go_num, hbel2.trans (below_box0 hb5 |>.mono hsz2), hbr2.trans (below_box0 hb5 |>.mono hsz2), HM2⟩
                case measure => simp [intOf]; omega
              · rw [p2] at hmay
                have hno := HMn p2
                clear HMs HMn p2
                go_wp2_with (go_at_call 157; refine (hmay _).mono ?_; rintro e w5 ⟨rfl, hb5⟩)
                go_ret
                rw [tru_no hno.out]
                exact ⟨rfl, hbel2.trans (below_box0 hb5 |>.mono hsz2)⟩
            · have HK2 := HKs2 (fun v hv => by
                obtain ⟨j, hj, rfl⟩ := List.getElem_of_mem hv
                exact HM.out j hj (by omega))
              clear HM HKs2 HKn2
              go_wp2
              go_roundw
              case rel => exact ⟨k + 1, by omega, by go_num, hbel2, HK2⟩
              case measure => simp [intOf]; omega
      · have hyes : Hid (RowsOk l) := ⟨by omega, fun x hx => by
          obtain ⟨j, hj, rfl⟩ := List.getElem_of_mem hx
          exact HK.out j hj (by omega)⟩
        clear HK
        go_wp2
        go_ret
        rw [tru_yes hyes.out]
        exact ⟨rfl, hbel⟩
end Go.Proofs.YtclliljkmmpglaaGreat
