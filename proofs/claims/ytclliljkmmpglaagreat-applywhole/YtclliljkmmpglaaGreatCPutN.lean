/-
  Contracts: numbers, bools and texts, as bytes behind bytes of the call's own: of the program.
-/
import Derived.Test.YtclliljkmmpglaaGreatBase
import Derived.Test.YtclliljkmmpglaaGreatCMem
namespace Go.Proofs.YtclliljkmmpglaaGreat
open Go.RowKit Num
set_option linter.unusedVariables false
set_option maxRecDepth 100000

/-- What the call's own bytes are by now, and what else stays. -/
structure Num.Cur (B : Nat) (w0 w : World) (v : Value) (L : List UInt8) : Prop where
  own : w.ownsRow B 5 1 v L.length (cellsOf L)
  low : Below B w0 w
  stay : Stay (fun _ => False) 5 w0 w
  base : B ≤ w0.heap.size
theorem Num.Cur.le {B : Nat} {w0 w : World} {v : Value} {L : List UInt8} (h : Cur B w0 w v L) : B ≤ w.heap.size := Nat.le_trans h.base h.stay.size
theorem Num.Cur.start {B : Nat} {w0 w : World} {v : Value} {L : List UInt8} (h : Cur B w0 w v L) (o : Obj) : Cur B (w.alloc o) (w.alloc o) v L := ⟨h.own.alloc o, Below.refl _ _, Stay.refl _ _ _, by have := h.le; simp; omega⟩
theorem Num.Cur.join {B : Nat} {w0 w w' : World} {v v' : Value} {L L' : List UInt8} {o : Obj} (h : Cur B w0 w v L) (k : Cur B (w.alloc o) w' v' L') : Cur B w0 w' v' L' := ⟨k.own, (h.low.alloc h.le o).trans k.low, h.stay.trans ((Stay.alloc _ _ _ _).trans k.stay), h.base⟩
theorem Num.Cur.as {B : Nat} {w0 w : World} {v : Value} {L L' : List UInt8} (h : Cur B w0 w v L) (e : L = L') : Cur B w0 w v L' := e ▸ h
theorem Num.Cur.box {B : Nat} {w0 w : World} {v : Value} {L : List UInt8} (h : Cur B w0 w v L) {b : Nat} {cs : Array Value} {t : TypeId} {fr : Nat × Nat} (hb : w0.heap[b]? = some (.cells cs t fr)) (ht : t ≠ 5) : w.heap[b]? = some (.cells cs t fr) := by
  rw [h.stay.keep b (Array.getElem?_eq_some_iff.1 hb).1 id (fun cs' fr' he => by rw [hb] at he; simp at he; exact ht he.2.1)]
  exact hb
theorem beTake_snoc (n k j : Nat) (h : j = 7 - k) : beTake n k ++ [byteAt n j] = beTake n (k + 1) := by
  subst h
  rfl
/-- 'append' of bytes to a slice of the call's own: and what stays. -/
theorem wpList_appS {ops : Array Oper} {rest : List Oper} {o : Oper} {a : Act} {Q : Exit → Act → World → Prop} (w : World) (hgd : o.guard = none) (s x : Operand)
    (ho : o.op = .call { callee := .builtin .append, args := #[s, x], argTypes := #[78, 78] })
    (base : Nat) (v : Value) (n : Nat) (l : List UInt8) (hs : a.eval s = v) (hown : w.ownsRow base 5 1 v n (cellsOf l))
    (ad : Addr) (m c : Nat) (news : List UInt8) (hx : a.eval x = .slice (some ad) m c) (hl : news.length = m) (hnews : ∀ j u, (cellsOf news)[j]? = some u → w.cell? (ad.add j) = some u)
    (hb : n + m ≤ 1000000) (hbase : base ≤ w.heap.size)
    (h : ∀ v' w', w'.ownsRow base 5 1 v' (n + m) (cellsOf (l ++ news)) → Below base w w' → Stay (fun _ => False) 5 w w' → wpList Tryz.prog ops Q rest (a.put o.dst v') w') : wpList Tryz.prog ops Q (o :: rest) a w := by
  obtain ⟨i0, hi, hz0, hz1, hz2⟩ := info_parts Tryz.infoU8
  refine wpList_append_own w hgd s x 78 ho base 5 i0 (.int .u8 0) 1 1 Tryz.underlying78 hi hz0 hz1 hz2 rfl (by decide) v n (cellsOf l) hs hown ad m c (cellsOf news) hx (by simp [cellsOf, hl]) hnews ?_ (by unfold maxLen; omega) (by omega) hbase ?_
  · intro u hu
    simp only [cellsOf, List.mem_map] at hu
    obtain ⟨b, _, rfl⟩ := hu
    rfl
  · intro v' w' hown' hgrow _
    have e : cellsOf l ++ cellsOf news = cellsOf (l ++ news) := by simp [cellsOf]
    rw [e] at hown'
    exact h v' w' hown' (Below.grown (Below.refl base w) hgrow hbase (fun k hk => (hown.lt k hk).1)) (Stay.grown hown hgrow)
theorem wpList_appsS {ops : Array Oper} {rest : List Oper} {o : Oper} {a : Act} {Q : Exit → Act → World → Prop} (w : World) (hgd : o.guard = none) (s x : Operand)
    (ho : o.op = .call { callee := .builtin .append, args := #[s, x], argTypes := #[78, 9] })
    (base : Nat) (v : Value) (n : Nat) (l : List UInt8) (hs : a.eval s = v) (hown : w.ownsRow base 5 1 v n (cellsOf l))
    (t : ByteArray) (hx : a.eval x = .string t)
    (hb : n + t.size ≤ 1000000) (hbase : base ≤ w.heap.size)
    (h : ∀ v' w', w'.ownsRow base 5 1 v' (n + t.size) (cellsOf (l ++ t.data.toList)) → Below base w w' → Stay (fun _ => False) 5 w w' → wpList Tryz.prog ops Q rest (a.put o.dst v') w') : wpList Tryz.prog ops Q (o :: rest) a w := by
  obtain ⟨i0, hi, hz0, hz1, hz2⟩ := info_parts Tryz.infoU8
  refine Go.Lib.wpList_append_own_string w hgd s x 78 9 ho base 5 i0 Tryz.underlying78 Tryz.underlying9 hi hz0 hz1 hz2 v n (cellsOf l) hs hown t hx (by unfold maxLen; omega) (by omega) hbase ?_
  intro v' w' hown' hgrow _
  have e : cellsOf l ++ Go.Lib.strCells t = cellsOf (l ++ t.data.toList) := by simp [cellsOf, Go.Lib.strCells]
  rw [e] at hown'
  exact h v' w' hown' (Below.grown (Below.refl base w) hgrow hbase (fun k hk => (hown.lt k hk).1)) (Stay.grown hown hgrow)

theorem dnum_any (n : Int) {B : Nat} {w0 w : World} {v : Value} {L : List UInt8} (hc : Cur B w0 w v L) (hlen : L.length + 8 ≤ 1000000) :
    Calls Tryz.prog 142 #[v, .int .i64 n] w fun e w' => ∃ v', e = .returned v' ∧ Cur B w0 w' v' (L ++ num8 n) := by
  obtain ⟨u, hu⟩ : ∃ u : Nat, IntKind.u64.wrap n = (u : Int) := ⟨(IntKind.u64.wrap n).toNat, by rw [IntKind.wrap_u64]; omega⟩
  have e8 : num8 n = be8 u := by
    unfold num8
    congr 1
    rw [IntKind.wrap_u64] at hu
    omega
  rw [e8]
  have hn0 : L.length = (L ++ beTake u 0).length := by simp [beTake]
  have hrow : w.ownsRow B 5 1 v (L.length + 0) (cellsOf (L ++ beTake u 0)) := by
    rw [show L ++ beTake u 0 = L by simp [beTake]]
    exact hc.own
  have hBw := hc.le
  go_enter Tryz.func142, Tryz.ntmps142
  go_wp2
  go_loopw [0, 6] (fun x i wr => ∃ k : Nat, k ≤ 8 ∧ i = .int .i64 (7 - (k : Int)) ∧ wr.ownsRow B 5 1 x (L.length + k) (cellsOf (L ++ beTake u k)) ∧ Below B w wr ∧ Stay (fun _ => False) 5 w wr) (fun _ i _ => (intOf i + 1).toNat)
  case atStart => exact ⟨0, by omega, rfl, hrow, Below.refl _ _, Stay.refl _ _ _⟩
  case round =>
    obtain ⟨k, hk, rfl, hown, hbel, hst⟩ := hrel
    have hsz := hst.size
    by_cases hk8 : k < 8
    · obtain ⟨j, hj⟩ : ∃ j : Nat, (7 : Int) - (k : Int) = (j : Int) := ⟨7 - k, by omega⟩
      have HD : Hid (j = 7 - k) := by unfold Hid; omega
      have hj8 : j ≤ 7 := by omega
      rw [hj]
      clear hj
      go_wp2_with (first
        | (at_builtin; refine wpList_appS _ rfl _ _ rfl B _ (L.length + k) (L ++ beTake u k) rfl (World.ownsRow.alloc hown _) _ _ _ [byteAt u j] rfl rfl (one_new _ _ _ _ (byte_int u j)) (by omega) (by simp; omega) ?_; intro v3 w3 hown3 hbel3 hst3))
      have hb3 : Below B w w3 := (hbel.alloc (by omega) _).trans hbel3
      have hs3 : Stay (fun _ => False) 5 w w3 := hst.trans ((Stay.alloc _ _ _ _).trans hst3)
      rw [List.append_assoc, beTake_snoc u k j HD.out] at hown3
      go_roundw
      case rel => exact ⟨k + 1, by omega, by have := HD.out; go_num, hown3, hb3, hs3⟩
      case measure => simp [intOf]
    · have hk8 : k = 8 := by omega
      subst hk8
      go_wp2
      go_ret
      exact ⟨_, rfl, by
        refine ⟨?_, hc.low.trans hbel, hc.stay.trans hst, hc.base⟩
        rw [List.length_append, be8_len]
        exact hown⟩
theorem dnum64_any (n : Int) {B : Nat} {w0 w : World} {v : Value} {L : List UInt8} (hc : Cur B w0 w v L) (hlen : L.length + 8 ≤ 1000000) :
    Calls Tryz.prog 165 #[v, .int .i64 n] w fun e w' => ∃ v', e = .returned v' ∧ Cur B w0 w' v' (L ++ num8 n) := by
  obtain ⟨u, hu⟩ : ∃ u : Nat, IntKind.u64.wrap n = (u : Int) := ⟨(IntKind.u64.wrap n).toNat, by rw [IntKind.wrap_u64]; omega⟩
  have e8 : num8 n = be8 u := by
    unfold num8
    congr 1
    rw [IntKind.wrap_u64] at hu
    omega
  rw [e8]
  have hn0 : L.length = (L ++ beTake u 0).length := by simp [beTake]
  have hrow : w.ownsRow B 5 1 v (L.length + 0) (cellsOf (L ++ beTake u 0)) := by
    rw [show L ++ beTake u 0 = L by simp [beTake]]
    exact hc.own
  have hBw := hc.le
  go_enter Tryz.func165, Tryz.ntmps165
  go_wp2
  go_loopw [0, 6] (fun x i wr => ∃ k : Nat, k ≤ 8 ∧ i = .int .i64 (7 - (k : Int)) ∧ wr.ownsRow B 5 1 x (L.length + k) (cellsOf (L ++ beTake u k)) ∧ Below B w wr ∧ Stay (fun _ => False) 5 w wr) (fun _ i _ => (intOf i + 1).toNat)
  case atStart => exact ⟨0, by omega, rfl, hrow, Below.refl _ _, Stay.refl _ _ _⟩
  case round =>
    obtain ⟨k, hk, rfl, hown, hbel, hst⟩ := hrel
    have hsz := hst.size
    by_cases hk8 : k < 8
    · obtain ⟨j, hj⟩ : ∃ j : Nat, (7 : Int) - (k : Int) = (j : Int) := ⟨7 - k, by omega⟩
      have HD : Hid (j = 7 - k) := by unfold Hid; omega
      have hj8 : j ≤ 7 := by omega
      rw [hj]
      clear hj
      go_wp2_with (first
        | (at_builtin; refine wpList_appS _ rfl _ _ rfl B _ (L.length + k) (L ++ beTake u k) rfl (World.ownsRow.alloc hown _) _ _ _ [byteAt u j] rfl rfl (one_new _ _ _ _ (byte_int u j)) (by omega) (by simp; omega) ?_; intro v3 w3 hown3 hbel3 hst3))
      have hb3 : Below B w w3 := (hbel.alloc (by omega) _).trans hbel3
      have hs3 : Stay (fun _ => False) 5 w w3 := hst.trans ((Stay.alloc _ _ _ _).trans hst3)
      rw [List.append_assoc, beTake_snoc u k j HD.out] at hown3
      go_roundw
      case rel => exact ⟨k + 1, by omega, by have := HD.out; go_num, hown3, hb3, hs3⟩
      case measure => simp [intOf]
    · have hk8 : k = 8 := by omega
      subst hk8
      go_wp2
      go_ret
      exact ⟨_, rfl, by
        refine ⟨?_, hc.low.trans hbel, hc.stay.trans hst, hc.base⟩
        rw [List.length_append, be8_len]
        exact hown⟩
theorem dnumU_any (f : Nat) {B : Nat} {w0 w : World} {v : Value} {L : List UInt8} (hc : Cur B w0 w v L) (hlen : L.length + 8 ≤ 1000000) :
    Calls Tryz.prog 166 #[v, .int .u64 (f : Int)] w fun e w' => ∃ v', e = .returned v' ∧ Cur B w0 w' v' (L ++ be8 f) := by
  obtain ⟨u, hu⟩ : ∃ u : Nat, u = f := ⟨f, rfl⟩
  subst hu
  have hn0 : L.length = (L ++ beTake u 0).length := by simp [beTake]
  have hrow : w.ownsRow B 5 1 v (L.length + 0) (cellsOf (L ++ beTake u 0)) := by
    rw [show L ++ beTake u 0 = L by simp [beTake]]
    exact hc.own
  have hBw := hc.le
  go_enter Tryz.func166, Tryz.ntmps166
  go_wp2
  go_loopw [0, 6] (fun x i wr => ∃ k : Nat, k ≤ 8 ∧ i = .int .i64 (7 - (k : Int)) ∧ wr.ownsRow B 5 1 x (L.length + k) (cellsOf (L ++ beTake u k)) ∧ Below B w wr ∧ Stay (fun _ => False) 5 w wr) (fun _ i _ => (intOf i + 1).toNat)
  case atStart => exact ⟨0, by omega, rfl, hrow, Below.refl _ _, Stay.refl _ _ _⟩
  case round =>
    obtain ⟨k, hk, rfl, hown, hbel, hst⟩ := hrel
    have hsz := hst.size
    by_cases hk8 : k < 8
    · obtain ⟨j, hj⟩ : ∃ j : Nat, (7 : Int) - (k : Int) = (j : Int) := ⟨7 - k, by omega⟩
      have HD : Hid (j = 7 - k) := by unfold Hid; omega
      have hj8 : j ≤ 7 := by omega
      rw [hj]
      clear hj
      go_wp2_with (first
        | (at_builtin; refine wpList_appS _ rfl _ _ rfl B _ (L.length + k) (L ++ beTake u k) rfl (World.ownsRow.alloc hown _) _ _ _ [byteAt u j] rfl rfl (one_new _ _ _ _ (byte_int u j)) (by omega) (by simp; omega) ?_; intro v3 w3 hown3 hbel3 hst3))
      have hb3 : Below B w w3 := (hbel.alloc (by omega) _).trans hbel3
      have hs3 : Stay (fun _ => False) 5 w w3 := hst.trans ((Stay.alloc _ _ _ _).trans hst3)
      rw [List.append_assoc, beTake_snoc u k j HD.out] at hown3
      go_roundw
      case rel => exact ⟨k + 1, by omega, by have := HD.out; go_num, hown3, hb3, hs3⟩
      case measure => simp [intOf]
    · have hk8 : k = 8 := by omega
      subst hk8
      go_wp2
      go_ret
      exact ⟨_, rfl, by
        refine ⟨?_, hc.low.trans hbel, hc.stay.trans hst, hc.base⟩
        rw [List.length_append, be8_len]
        exact hown⟩
theorem dbool_any (b : Bool) {B : Nat} {w0 w : World} {v : Value} {L : List UInt8} (hc : Cur B w0 w v L) (hlen : L.length + 8 ≤ 1000000) :
    Calls Tryz.prog 158 #[v, .bool b] w fun e w' => ∃ v', e = .returned v' ∧ Cur B w0 w' v' (L ++ num8 (if b then 1 else 0)) := by
  cases b with
  | true =>
    have h := dnum_any 1 hc hlen
    go_enter Tryz.func158, Tryz.ntmps158
    go_wp2_with (go_at_call 142; refine h.mono ?_; rintro e w1 ⟨v1, rfl, h1⟩)
    go_ret
    exact ⟨_, rfl, h1⟩
  | false =>
    have h := dnum_any 0 hc hlen
    go_enter Tryz.func158, Tryz.ntmps158
    go_wp2_with (go_at_call 142; refine h.mono ?_; rintro e w1 ⟨v1, rfl, h1⟩)
    go_ret
    exact ⟨_, rfl, h1⟩
theorem dtext_any (s : ByteArray) {B : Nat} {w0 w : World} {v : Value} {L : List UInt8} (hc : Cur B w0 w v L) (hlen : L.length + (8 + s.size) ≤ 1000000) :
    Calls Tryz.prog 144 #[v, .string s] w fun e w' => ∃ v', e = .returned v' ∧ Cur B w0 w' v' (L ++ txtB s) := by
  have h := dnum_any (s.size : Int) hc (by omega)
  go_enter Tryz.func144, Tryz.ntmps144
  go_wp2_with (first
    | (go_at_call 142; refine h.mono ?_; rintro e w1 ⟨v1, rfl, h1⟩)
    | (at_builtin; refine wpList_appsS _ rfl _ _ rfl B _ _ _ rfl h1.own s rfl (by rw [List.length_append, num8_len]; omega) h1.le ?_; intro v3 w3 hown3 hbel3 hst3))
  go_ret
  refine ⟨_, rfl, ?_, h1.low.trans hbel3, h1.stay.trans hst3, h1.base⟩
  unfold txtB
  rw [← List.append_assoc, List.length_append]
  exact hown3
end Go.Proofs.YtclliljkmmpglaaGreat
