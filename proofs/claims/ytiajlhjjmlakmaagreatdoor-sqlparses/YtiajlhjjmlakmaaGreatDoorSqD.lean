import Derived.Test.YtiajlhjjmlakmaaGreatDoorSqC
namespace Go.Proofs.YtiajlhjjmlakmaaGreatDoor
open Go.RowKit Num
set_option maxHeartbeats 1000000
set_option linter.unusedSimpArgs false
set_option linter.unusedVariables false
set_option maxRecDepth 100000

theorem own_formQ {w : World} {B E sz n : Nat} {v : Value} {xs : List Value} (h : w.ownsRow B E sz v n xs) : ∃ ao cap, v = .slice ao n cap := by
 rcases h.2 with ⟨hv, h0⟩ | ⟨g, cap, cur, hv, _⟩
 ·exact ⟨none, 0, by rw [hv, h0]⟩
 ·exact ⟨_, cap, hv⟩
theorem isT_lt {l : List Tok} (hE : EndK l) {s : ByteArray} (hs : s ≠ ⟨#[]⟩) {j : Nat} (hj : j < l.length) (hb : isT s (rem l j) = true) : j + 1 < l.length := by
 have hx := List.getElem?_eq_getElem hj
 rw [rem_at hx, isT_iff] at hb
 have hb := of_decide_eq_true hb
 rcases (hE j _ hx).1 with h | h
 ·exact h
 ·exact absurd (hb.symm.trans h.2) hs
theorem listN_stop {α : Type} {sep : ByteArray} {rd : Rd α} {q : List TkC} (h : isT sep q = false) (n : Nat) (acc : List α) : listN sep rd n acc q = (some acc, q) := by
 cases n with
 | zero => rfl
 | succ n =>
  show opt _ _ _ _ = _
  unfold opt
  rw [if_neg (by simp [h])]
  rfl
theorem listN_more {α : Type} {sep : ByteArray} {rd : Rd α} {q q' : List TkC} {a : α} (h : isT sep q = true) (n : Nat) (acc : List α) (hr : rd q.tail = (some a, q')) : listN sep rd (n + 1) acc q = listN sep rd n (acc ++ [a]) q' := by
 show opt _ _ _ _ = _
 unfold opt bnd
 rw [if_pos h, hr]
theorem listN_bad {α : Type} {sep : ByteArray} {rd : Rd α} {q q' : List TkC} (h : isT sep q = true) (n : Nat) (acc : List α) (hr : rd q.tail = (none, q')) : listN sep rd (n + 1) acc q = (none, q') := by
 show opt _ _ _ _ = _
 unfold opt bnd
 rw [if_pos h, hr]
theorem kp_belowB {g B : Nat} {w W W' : World} (h : w.grownBy W (some g)) (hb : Below B W W') (hB : w.heap.size ≤ B) : w.grownBy W' (some g) :=
 ⟨hb.os.trans h.os, hb.tape.trans h.tape, hb.output.trans h.output, Nat.le_trans h.size hb.size, fun k hk hn => (hb.block k (by omega)).trans (h.block k hk hn)⟩

theorem Tryz.infoQ_str : (Tryz.prog.info? 9).map (fun i => (i.zero, i.size, i.bytes)) = some (some (.string ⟨#[]⟩), 1, 16) := by kernel_rfl
theorem appQ_str {ops : Array Oper} {rest : List Oper} {o : Oper} {a : Act} {Q : Exit → Act → World → Prop} (w : World) (hgd : o.guard = none) (s x : Operand)
  (ho : o.op = .call { callee := .builtin .append, args := #[s, x], argTypes := #[22, 22] })
  (base : Nat) (v : Value) (l : List (ByteArray)) (hs : a.eval s = v) (hown : w.ownsRow base 9 1 v l.length (l.flatMap cS))
  (g c : Nat) (y : ByteArray) (hx : a.eval x = .slice (some ⟨g, 0, none⟩) 1 c) (hg : Bx w g 9 (cS y).toArray)
  (hb : l.length ≤ 100000) (hbase : base ≤ w.heap.size)
  (h : ∀ v' w', w'.ownsRow base 9 1 v' (l ++ [y]).length ((l ++ [y]).flatMap cS) → Below base w w' → wpList Tryz.prog ops Q rest (a.put o.dst v') w') : wpList Tryz.prog ops Q (o :: rest) a w := by
 obtain ⟨i0, hi, hz0, hz1, hz2⟩ := info_parts Tryz.infoQ_str
 refine wpList_append_own w hgd s x 22 ho base 9 i0 _ 1 16 Tryz.underlying22 hi hz0 hz1 hz2 rfl (by decide) v l.length (l.flatMap cS) hs hown ⟨g, 0, none⟩ 1 c (cS y) hx rfl ?_ ?_ (by unfold maxLen; omega) (by omega) hbase ?_
 ·intro j u hj
  rw [Addr.add_lit, Nat.zero_add]
  exact hg.cell j u (by simpa using hj)
 ·intro u hu
  simp only [cS, List.mem_cons, List.not_mem_nil, or_false] at hu
  rcases hu with rfl <;> rfl
 ·intro v' w' hown' hgrow _
  rw [show (l.flatMap cS) ++ cS y = (l ++ [y]).flatMap cS by simp] at hown'
  rw [show (l ++ [y]).length = l.length + 1 by simp] at h
  exact h v' w' hown' (Below.grown (Below.refl base w) hgrow hbase (fun k hk => (hown.lt k hk).1))
theorem sqreadList_str_any {g : Nat} {v : Value} {l : List Tok} (hE : EndK l) {i : Nat} (sep : ByteArray) (hsep : sep ≠ ⟨#[]⟩) (w : World) (hP : PAt g v l i w) :
  Calls Tryz.prog 62 #[.pointer (some ⟨g, 0, none⟩), .string sep, .func (.func 55) #[] #[]] w (Tells g v l i w (VL 9 1 cS) (listR sep nameR (rem l i))) := by
 have hg0 := hP.g_lt
 have hsm := hP.sm
 have hil := hP.lt
 have h0 := sqreadName_any hE w hP
 rcases e1 : nameR (rem l i) with ⟨o1, q1⟩
 cases o1 with
 | none =>
  have HO : Hid (listR sep nameR (rem l i) = (none, q1)) := by
   unfold Hid listR bnd
   rw [e1]
  go_enter Tryz.func62, Tryz.ntmps62
  go_wp2_with (go_at_call 55; refine h0.mono ?_; intro e w1 hT1; obtain ⟨j1, rfl, hk1, hj1, hP1, hr1⟩ := tells_no hT1 rfl e1)
  refine ⟨rfl, ?_⟩
  rw [HO.out]
  exact ⟨hk1, j1, hj1, hP1, hr1, rfl⟩
 | some a =>
  have HO : Hid (listR sep nameR (rem l i) = listN sep nameR (rem l i).length [a] q1) := by
   unfold Hid listR bnd
   rw [e1]
  have hlen := rem_len l i

  go_enter Tryz.func62, Tryz.ntmps62
  go_wp2_with (go_at_call 55; refine h0.mono ?_; intro e w1 hT1; obtain ⟨_, j1, rfl, hk1, hj1, hP1, hr1, rfl⟩ := tells_yes hT1 rfl e1)
  have hs1 : w.heap.size ≤ w1.heap.size := hk1.size
  have hrow : (w1.alloc (.cells #[.string a] 9)).ownsRow w.heap.size 9 1 (.slice (some ⟨w1.heap.size, 0, none⟩) 1 1) ([a] : List (ByteArray)).length (([a] : List (ByteArray)).flatMap cS) :=
   World.ownsRow_lit w1 #[.string a] 1 hs1 (by decide) rfl
  have hPa := hP1.alloc (.cells #[.string a] 9)
  have hKa := kp_alloc hk1 (.cells #[.string a] 9)
  clear h0 e1
  go_loopw [7, 12, 13, 14, 15, 16, 17, 18, 19, 20] (fun r _ _ _ _ _ _ _ _ _ wr => ∃ (acc : List (ByteArray)) (j n : Nat), Hid (i ≤ j) ∧ Hid (PAt g v l j wr) ∧ Hid (w.grownBy wr (some g)) ∧ Hid (listR sep nameR (rem l i) = listN sep nameR n acc (rem l j)) ∧ Hid (l.length ≤ j + n) ∧ Hid (acc.length ≤ j + 1) ∧ wr.ownsRow w.heap.size 9 1 r acc.length (acc.flatMap cS)) (fun _ _ _ _ _ _ _ _ _ _ wr => l.length - (intOf ((wr.cell? ⟨g, 1, none⟩).getD (.int .i64 0))).toNat)
  case atStart => exact ⟨[a], j1, (rem l i).length, hj1, hPa, hKa, by unfold Hid; rw [HO.out, hr1], by unfold Hid; omega, by unfold Hid; simp, hrow⟩
  case round =>
   obtain ⟨acc, j, n, Hj, HP, HK, HL, Hn, Ha, hown⟩ := hrel
   have hjl := HP.out.lt
   have hgr := HP.out.g_lt
   have hsr : w.heap.size ≤ wr.heap.size := HK.out.size
   rcases Bool.eq_false_or_eq_true (isT sep (rem l j)) with hi | hi
   ·have hj1l := isT_lt hE hsep hjl hi
    obtain ⟨m, rfl⟩ : ∃ m, n = m + 1 := ⟨n - 1, by have := Hn.out; omega⟩
    have hy := fun W h => took_yes hE hsep hi W (h : PAt g v l j W) rfl
    have hrd := fun W h => sqreadName_any hE W (h : PAt g v l (j + 1) W)
    rcases e2 : nameR (rem l j).tail with ⟨o2, q2⟩
    cases o2 with
    | none =>
     have HN : Hid (listR sep nameR (rem l i) = (none, q2)) := by
      unfold Hid
      rw [HL.out, listN_bad hi m acc e2]
     clear HL
     go_wp2_with (first
      | (go_at_call 55; have hz := hk2; clear hz; refine (hrd _ hP2).mono ?_; intro e w3 hT3; obtain ⟨j3, rfl, hk3, hj3, hP3, hr3⟩ := tells_no hT3 hr2 e2)
      | (go_at_call 27; refine (hy _ HP.out).mono ?_; rintro e w2 ⟨rfl, hk2, hP2, hr2⟩))
     refine ⟨rfl, ?_⟩
     rw [HN.out]
     exact ⟨(HK.out.trans hk2).trans hk3, j3, Nat.le_trans Hj.out (Nat.le_trans (Nat.le_succ j) hj3), hP3, hr3, rfl⟩
    | some b =>
     have HN : Hid (listR sep nameR (rem l i) = listN sep nameR m (acc ++ [b]) q2) := by
      unfold Hid
      rw [HL.out, listN_more hi m acc e2]
     have hal : acc.length ≤ 1001 := by have := Ha.out; omega
     clear HL

     go_wp2_with (first
      | (at_builtin; have hz := hk3; clear hz; refine appQ_str _ rfl _ _ rfl w.heap.size _ acc rfl ((row_kp (row_kp hown hk2 hg0) hk3 hg0).alloc _) _ _ b rfl (Bx.newB (by simp)) (by omega) (by simp; omega) ?_; intro v5 w5 hown5 hbel5)
      | (go_at_call 55; have hz := hk2; clear hz; refine (hrd _ hP2).mono ?_; intro e w3 hT3; obtain ⟨_, j3, rfl, hk3, hj3, hP3, hr3, rfl⟩ := tells_yes hT3 hr2 e2; have hs2 : wr.heap.size ≤ w2.heap.size := hk2.size; have hs3 : w2.heap.size ≤ w3.heap.size := hk3.size)
      | (go_at_call 27; refine (hy _ HP.out).mono ?_; rintro e w2 ⟨rfl, hk2, hP2, hr2⟩))
     have hK5 : w.grownBy w5 (some g) := kp_belowB (kp_alloc ((HK.out.trans hk2).trans hk3) _) hbel5 (Nat.le_refl _)
     have hP5 : PAt g v l j3 w5 := hP.of_kp hK5 ((hbel5.block g hg0).trans (hP3.alloc _).box) hP3.lt
     go_roundw
     case rel => exact ⟨acc ++ [b], j3, m, Nat.le_trans Hj.out (Nat.le_trans (Nat.le_succ j) hj3), hP5, hK5, by unfold Hid; rw [HN.out, hr3], by have := Hn.out; unfold Hid; omega, by have := Ha.out; unfold Hid; simp; omega, hown5⟩
     case measure =>
      rw [show w5.cell? ⟨g, 1, none⟩ = some (.int .i64 (j3 : Int)) from hP5.box.cell 1 _ rfl, show wr.cell? ⟨g, 1, none⟩ = some (.int .i64 (j : Int)) from HP.out.box.cell 1 _ rfl]
      simp only [Option.getD_some, intOf, Int.toNat_natCast]
      omega
   ·have hno := fun W h => took_no hi W (h : PAt g v l j W) rfl
    have HN : Hid (listR sep nameR (rem l i) = (some acc, rem l j)) := by
     unfold Hid
     rw [HL.out, listN_stop hi n acc]
    clear HL
    obtain ⟨ao, cap, rfl⟩ := own_formQ hown
    go_wp2_with (go_at_call 27; refine (hno _ HP.out).mono ?_; rintro e w2 ⟨rfl, hk2, hP2⟩)
    go_ret
    rw [HN.out]
    exact ⟨HK.out.trans hk2, j, Hj.out, hP2, rfl, _, rfl, ao, cap, rfl, row_kp hown hk2 hg0⟩

theorem Tryz.infoQ_val : (Tryz.prog.info? 46).map (fun i => (i.zero, i.size, i.bytes)) = some (some (.agg #[.int .i64 0, .int .i64 0, .int .u64 0, .string ⟨#[]⟩]), 4, 40) := by kernel_rfl
theorem appQ_val {ops : Array Oper} {rest : List Oper} {o : Oper} {a : Act} {Q : Exit → Act → World → Prop} (w : World) (hgd : o.guard = none) (s x : Operand)
  (ho : o.op = .call { callee := .builtin .append, args := #[s, x], argTypes := #[23, 23] })
  (base : Nat) (v : Value) (l : List (Val)) (hs : a.eval s = v) (hown : w.ownsRow base 46 4 v l.length (l.flatMap cV))
  (g c : Nat) (y : Val) (hx : a.eval x = .slice (some ⟨g, 0, none⟩) 1 c) (hg : Bx w g 46 (cV y).toArray)
  (hb : l.length ≤ 100000) (hbase : base ≤ w.heap.size)
  (h : ∀ v' w', w'.ownsRow base 46 4 v' (l ++ [y]).length ((l ++ [y]).flatMap cV) → Below base w w' → wpList Tryz.prog ops Q rest (a.put o.dst v') w') : wpList Tryz.prog ops Q (o :: rest) a w := by
 obtain ⟨i0, hi, hz0, hz1, hz2⟩ := info_parts Tryz.infoQ_val
 refine wpList_append_own w hgd s x 23 ho base 46 i0 _ 4 40 Tryz.underlying23 hi hz0 hz1 hz2 rfl (by decide) v l.length (l.flatMap cV) hs hown ⟨g, 0, none⟩ 1 c (cV y) hx rfl ?_ ?_ (by unfold maxLen; omega) (by omega) hbase ?_
 ·intro j u hj
  rw [Addr.add_lit, Nat.zero_add]
  exact hg.cell j u (by simpa using hj)
 ·intro u hu
  simp only [cV, List.mem_cons, List.not_mem_nil, or_false] at hu
  rcases hu with rfl | rfl | rfl | rfl <;> rfl
 ·intro v' w' hown' hgrow _
  rw [show (l.flatMap cV) ++ cV y = (l ++ [y]).flatMap cV by simp] at hown'
  rw [show (l ++ [y]).length = l.length + 1 by simp] at h
  exact h v' w' hown' (Below.grown (Below.refl base w) hgrow hbase (fun k hk => (hown.lt k hk).1))
theorem sqreadList_val_any {g : Nat} {v : Value} {l : List Tok} (hE : EndK l) {i : Nat} (sep : ByteArray) (hsep : sep ≠ ⟨#[]⟩) (w : World) (hP : PAt g v l i w) :
  Calls Tryz.prog 102 #[.pointer (some ⟨g, 0, none⟩), .string sep, .func (.func 58) #[] #[]] w (Tells g v l i w (VL 46 4 cV) (listR sep valueR (rem l i))) := by
 have hg0 := hP.g_lt
 have hsm := hP.sm
 have hil := hP.lt
 have h0 := sqreadValue_any hE w hP
 rcases e1 : valueR (rem l i) with ⟨o1, q1⟩
 cases o1 with
 | none =>
  have HO : Hid (listR sep valueR (rem l i) = (none, q1)) := by
   unfold Hid listR bnd
   rw [e1]
  go_enter Tryz.func102, Tryz.ntmps102
  go_wp2_with (go_at_call 58; refine h0.mono ?_; intro e w1 hT1; obtain ⟨j1, rfl, hk1, hj1, hP1, hr1⟩ := tells_no hT1 rfl e1)
  refine ⟨rfl, ?_⟩
  rw [HO.out]
  exact ⟨hk1, j1, hj1, hP1, hr1, rfl⟩
 | some a =>
  have HO : Hid (listR sep valueR (rem l i) = listN sep valueR (rem l i).length [a] q1) := by
   unfold Hid listR bnd
   rw [e1]
  have hlen := rem_len l i
  obtain ⟨ak, an, af, as_⟩ := a
  go_enter Tryz.func102, Tryz.ntmps102
  go_wp2_with (go_at_call 58; refine h0.mono ?_; intro e w1 hT1; obtain ⟨u1, j1, rfl, hk1, hj1, hP1, hr1, hV1⟩ := tells_yes hT1 rfl e1; obtain rfl : u1 = .agg #[.int .i64 ak, .int .i64 an, .int .u64 (af : Int), .string as_] := hV1)
  have hs1 : w.heap.size ≤ w1.heap.size := hk1.size
  have hrow : (w1.alloc (.cells #[.int .i64 ak, .int .i64 an, .int .u64 (af : Int), .string as_] 46)).ownsRow w.heap.size 46 4 (.slice (some ⟨w1.heap.size, 0, none⟩) 1 1) ([⟨ak, an, af, as_⟩] : List (Val)).length (([⟨ak, an, af, as_⟩] : List (Val)).flatMap cV) :=
   World.ownsRow_lit w1 #[.int .i64 ak, .int .i64 an, .int .u64 (af : Int), .string as_] 1 hs1 (by decide) rfl
  have hPa := hP1.alloc (.cells #[.int .i64 ak, .int .i64 an, .int .u64 (af : Int), .string as_] 46)
  have hKa := kp_alloc hk1 (.cells #[.int .i64 ak, .int .i64 an, .int .u64 (af : Int), .string as_] 46)
  clear h0 e1
  go_loopw [7, 12, 13, 14, 15, 16, 17, 18, 19, 20] (fun r _ _ _ _ _ _ _ _ _ wr => ∃ (acc : List (Val)) (j n : Nat), Hid (i ≤ j) ∧ Hid (PAt g v l j wr) ∧ Hid (w.grownBy wr (some g)) ∧ Hid (listR sep valueR (rem l i) = listN sep valueR n acc (rem l j)) ∧ Hid (l.length ≤ j + n) ∧ Hid (acc.length ≤ j + 1) ∧ wr.ownsRow w.heap.size 46 4 r acc.length (acc.flatMap cV)) (fun _ _ _ _ _ _ _ _ _ _ wr => l.length - (intOf ((wr.cell? ⟨g, 1, none⟩).getD (.int .i64 0))).toNat)
  case atStart => exact ⟨[⟨ak, an, af, as_⟩], j1, (rem l i).length, hj1, hPa, hKa, by unfold Hid; rw [HO.out, hr1], by unfold Hid; omega, by unfold Hid; simp, hrow⟩
  case round =>
   obtain ⟨acc, j, n, Hj, HP, HK, HL, Hn, Ha, hown⟩ := hrel
   have hjl := HP.out.lt
   have hgr := HP.out.g_lt
   have hsr : w.heap.size ≤ wr.heap.size := HK.out.size
   rcases Bool.eq_false_or_eq_true (isT sep (rem l j)) with hi | hi
   ·have hj1l := isT_lt hE hsep hjl hi
    obtain ⟨m, rfl⟩ : ∃ m, n = m + 1 := ⟨n - 1, by have := Hn.out; omega⟩
    have hy := fun W h => took_yes hE hsep hi W (h : PAt g v l j W) rfl
    have hrd := fun W h => sqreadValue_any hE W (h : PAt g v l (j + 1) W)
    rcases e2 : valueR (rem l j).tail with ⟨o2, q2⟩
    cases o2 with
    | none =>
     have HN : Hid (listR sep valueR (rem l i) = (none, q2)) := by
      unfold Hid
      rw [HL.out, listN_bad hi m acc e2]
     clear HL
     go_wp2_with (first
      | (go_at_call 58; have hz := hk2; clear hz; refine (hrd _ hP2).mono ?_; intro e w3 hT3; obtain ⟨j3, rfl, hk3, hj3, hP3, hr3⟩ := tells_no hT3 hr2 e2)
      | (go_at_call 27; refine (hy _ HP.out).mono ?_; rintro e w2 ⟨rfl, hk2, hP2, hr2⟩))
     refine ⟨rfl, ?_⟩
     rw [HN.out]
     exact ⟨(HK.out.trans hk2).trans hk3, j3, Nat.le_trans Hj.out (Nat.le_trans (Nat.le_succ j) hj3), hP3, hr3, rfl⟩
    | some b =>
     have HN : Hid (listR sep valueR (rem l i) = listN sep valueR m (acc ++ [b]) q2) := by
      unfold Hid
      rw [HL.out, listN_more hi m acc e2]
     have hal : acc.length ≤ 1001 := by have := Ha.out; omega
     clear HL
     obtain ⟨bk, bn, bf, bs_⟩ := b
     go_wp2_with (first
      | (at_builtin; have hz := hk3; clear hz; refine appQ_val _ rfl _ _ rfl w.heap.size _ acc rfl ((row_kp (row_kp hown hk2 hg0) hk3 hg0).alloc _) _ _ ⟨bk, bn, bf, bs_⟩ rfl (Bx.newB (by simp)) (by omega) (by simp; omega) ?_; intro v5 w5 hown5 hbel5)
      | (go_at_call 58; have hz := hk2; clear hz; refine (hrd _ hP2).mono ?_; intro e w3 hT3; obtain ⟨u3, j3, rfl, hk3, hj3, hP3, hr3, hV3⟩ := tells_yes hT3 hr2 e2; obtain rfl : u3 = .agg #[.int .i64 bk, .int .i64 bn, .int .u64 (bf : Int), .string bs_] := hV3; have hs2 : wr.heap.size ≤ w2.heap.size := hk2.size; have hs3 : w2.heap.size ≤ w3.heap.size := hk3.size)
      | (go_at_call 27; refine (hy _ HP.out).mono ?_; rintro e w2 ⟨rfl, hk2, hP2, hr2⟩))
     have hK5 : w.grownBy w5 (some g) := kp_belowB (kp_alloc ((HK.out.trans hk2).trans hk3) _) hbel5 (Nat.le_refl _)
     have hP5 : PAt g v l j3 w5 := hP.of_kp hK5 ((hbel5.block g hg0).trans (hP3.alloc _).box) hP3.lt
     go_roundw
     case rel => exact ⟨acc ++ [⟨bk, bn, bf, bs_⟩], j3, m, Nat.le_trans Hj.out (Nat.le_trans (Nat.le_succ j) hj3), hP5, hK5, by unfold Hid; rw [HN.out, hr3], by have := Hn.out; unfold Hid; omega, by have := Ha.out; unfold Hid; simp; omega, hown5⟩
     case measure =>
      rw [show w5.cell? ⟨g, 1, none⟩ = some (.int .i64 (j3 : Int)) from hP5.box.cell 1 _ rfl, show wr.cell? ⟨g, 1, none⟩ = some (.int .i64 (j : Int)) from HP.out.box.cell 1 _ rfl]
      simp only [Option.getD_some, intOf, Int.toNat_natCast]
      omega
   ·have hno := fun W h => took_no hi W (h : PAt g v l j W) rfl
    have HN : Hid (listR sep valueR (rem l i) = (some acc, rem l j)) := by
     unfold Hid
     rw [HL.out, listN_stop hi n acc]
    clear HL
    obtain ⟨ao, cap, rfl⟩ := own_formQ hown
    go_wp2_with (go_at_call 27; refine (hno _ HP.out).mono ?_; rintro e w2 ⟨rfl, hk2, hP2⟩)
    go_ret
    rw [HN.out]
    exact ⟨HK.out.trans hk2, j, Hj.out, hP2, rfl, _, rfl, ao, cap, rfl, row_kp hown hk2 hg0⟩

theorem Tryz.infoQ_set : (Tryz.prog.info? 65).map (fun i => (i.zero, i.size, i.bytes)) = some (some (.agg #[.string ⟨#[]⟩, .bool false, .int .i64 0, .int .i64 0, .int .u64 0, .string ⟨#[]⟩]), 6, 64) := by kernel_rfl
theorem appQ_set {ops : Array Oper} {rest : List Oper} {o : Oper} {a : Act} {Q : Exit → Act → World → Prop} (w : World) (hgd : o.guard = none) (s x : Operand)
  (ho : o.op = .call { callee := .builtin .append, args := #[s, x], argTypes := #[24, 24] })
  (base : Nat) (v : Value) (l : List (Sett)) (hs : a.eval s = v) (hown : w.ownsRow base 65 6 v l.length (l.flatMap cT))
  (g c : Nat) (y : Sett) (hx : a.eval x = .slice (some ⟨g, 0, none⟩) 1 c) (hg : Bx w g 65 (cT y).toArray)
  (hb : l.length ≤ 100000) (hbase : base ≤ w.heap.size)
  (h : ∀ v' w', w'.ownsRow base 65 6 v' (l ++ [y]).length ((l ++ [y]).flatMap cT) → Below base w w' → wpList Tryz.prog ops Q rest (a.put o.dst v') w') : wpList Tryz.prog ops Q (o :: rest) a w := by
 obtain ⟨i0, hi, hz0, hz1, hz2⟩ := info_parts Tryz.infoQ_set
 refine wpList_append_own w hgd s x 24 ho base 65 i0 _ 6 64 Tryz.underlying24 hi hz0 hz1 hz2 rfl (by decide) v l.length (l.flatMap cT) hs hown ⟨g, 0, none⟩ 1 c (cT y) hx rfl ?_ ?_ (by unfold maxLen; omega) (by omega) hbase ?_
 ·intro j u hj
  rw [Addr.add_lit, Nat.zero_add]
  exact hg.cell j u (by simpa using hj)
 ·intro u hu
  simp only [cT, List.mem_cons, List.not_mem_nil, or_false] at hu
  rcases hu with rfl | rfl | rfl | rfl | rfl | rfl <;> rfl
 ·intro v' w' hown' hgrow _
  rw [show (l.flatMap cT) ++ cT y = (l ++ [y]).flatMap cT by simp] at hown'
  rw [show (l ++ [y]).length = l.length + 1 by simp] at h
  exact h v' w' hown' (Below.grown (Below.refl base w) hgrow hbase (fun k hk => (hown.lt k hk).1))
theorem sqreadList_set_any {g : Nat} {v : Value} {l : List Tok} (hE : EndK l) {i : Nat} (sep : ByteArray) (hsep : sep ≠ ⟨#[]⟩) (w : World) (hP : PAt g v l i w) :
  Calls Tryz.prog 59 #[.pointer (some ⟨g, 0, none⟩), .string sep, .func (.func 60) #[] #[]] w (Tells g v l i w (VL 65 6 cT) (listR sep setR (rem l i))) := by
 have hg0 := hP.g_lt
 have hsm := hP.sm
 have hil := hP.lt
 have h0 := sqreadSet_any hE w hP
 rcases e1 : setR (rem l i) with ⟨o1, q1⟩
 cases o1 with
 | none =>
  have HO : Hid (listR sep setR (rem l i) = (none, q1)) := by
   unfold Hid listR bnd
   rw [e1]
  go_enter Tryz.func59, Tryz.ntmps59
  go_wp2_with (go_at_call 60; refine h0.mono ?_; intro e w1 hT1; obtain ⟨j1, rfl, hk1, hj1, hP1, hr1⟩ := tells_no hT1 rfl e1)
  refine ⟨rfl, ?_⟩
  rw [HO.out]
  exact ⟨hk1, j1, hj1, hP1, hr1, rfl⟩
 | some a =>
  have HO : Hid (listR sep setR (rem l i) = listN sep setR (rem l i).length [a] q1) := by
   unfold Hid listR bnd
   rw [e1]
  have hlen := rem_len l i
  obtain ⟨ac, ad, ⟨ak, an, af, as_⟩⟩ := a
  go_enter Tryz.func59, Tryz.ntmps59
  go_wp2_with (go_at_call 60; refine h0.mono ?_; intro e w1 hT1; obtain ⟨u1, j1, rfl, hk1, hj1, hP1, hr1, hV1⟩ := tells_yes hT1 rfl e1; obtain rfl : u1 = .agg #[.string ac, .bool ad, .int .i64 ak, .int .i64 an, .int .u64 (af : Int), .string as_] := hV1)
  have hs1 : w.heap.size ≤ w1.heap.size := hk1.size
  have hrow : (w1.alloc (.cells #[.string ac, .bool ad, .int .i64 ak, .int .i64 an, .int .u64 (af : Int), .string as_] 65)).ownsRow w.heap.size 65 6 (.slice (some ⟨w1.heap.size, 0, none⟩) 1 1) ([⟨ac, ad, ⟨ak, an, af, as_⟩⟩] : List (Sett)).length (([⟨ac, ad, ⟨ak, an, af, as_⟩⟩] : List (Sett)).flatMap cT) :=
   World.ownsRow_lit w1 #[.string ac, .bool ad, .int .i64 ak, .int .i64 an, .int .u64 (af : Int), .string as_] 1 hs1 (by decide) rfl
  have hPa := hP1.alloc (.cells #[.string ac, .bool ad, .int .i64 ak, .int .i64 an, .int .u64 (af : Int), .string as_] 65)
  have hKa := kp_alloc hk1 (.cells #[.string ac, .bool ad, .int .i64 ak, .int .i64 an, .int .u64 (af : Int), .string as_] 65)
  clear h0 e1
  go_loopw [7, 12, 13, 14, 15, 16, 17, 18, 19, 20] (fun r _ _ _ _ _ _ _ _ _ wr => ∃ (acc : List (Sett)) (j n : Nat), Hid (i ≤ j) ∧ Hid (PAt g v l j wr) ∧ Hid (w.grownBy wr (some g)) ∧ Hid (listR sep setR (rem l i) = listN sep setR n acc (rem l j)) ∧ Hid (l.length ≤ j + n) ∧ Hid (acc.length ≤ j + 1) ∧ wr.ownsRow w.heap.size 65 6 r acc.length (acc.flatMap cT)) (fun _ _ _ _ _ _ _ _ _ _ wr => l.length - (intOf ((wr.cell? ⟨g, 1, none⟩).getD (.int .i64 0))).toNat)
  case atStart => exact ⟨[⟨ac, ad, ⟨ak, an, af, as_⟩⟩], j1, (rem l i).length, hj1, hPa, hKa, by unfold Hid; rw [HO.out, hr1], by unfold Hid; omega, by unfold Hid; simp, hrow⟩
  case round =>
   obtain ⟨acc, j, n, Hj, HP, HK, HL, Hn, Ha, hown⟩ := hrel
   have hjl := HP.out.lt
   have hgr := HP.out.g_lt
   have hsr : w.heap.size ≤ wr.heap.size := HK.out.size
   rcases Bool.eq_false_or_eq_true (isT sep (rem l j)) with hi | hi
   ·have hj1l := isT_lt hE hsep hjl hi
    obtain ⟨m, rfl⟩ : ∃ m, n = m + 1 := ⟨n - 1, by have := Hn.out; omega⟩
    have hy := fun W h => took_yes hE hsep hi W (h : PAt g v l j W) rfl
    have hrd := fun W h => sqreadSet_any hE W (h : PAt g v l (j + 1) W)
    rcases e2 : setR (rem l j).tail with ⟨o2, q2⟩
    cases o2 with
    | none =>
     have HN : Hid (listR sep setR (rem l i) = (none, q2)) := by
      unfold Hid
      rw [HL.out, listN_bad hi m acc e2]
     clear HL
     go_wp2_with (first
      | (go_at_call 60; have hz := hk2; clear hz; refine (hrd _ hP2).mono ?_; intro e w3 hT3; obtain ⟨j3, rfl, hk3, hj3, hP3, hr3⟩ := tells_no hT3 hr2 e2)
      | (go_at_call 27; refine (hy _ HP.out).mono ?_; rintro e w2 ⟨rfl, hk2, hP2, hr2⟩))
     refine ⟨rfl, ?_⟩
     rw [HN.out]
     exact ⟨(HK.out.trans hk2).trans hk3, j3, Nat.le_trans Hj.out (Nat.le_trans (Nat.le_succ j) hj3), hP3, hr3, rfl⟩
    | some b =>
     have HN : Hid (listR sep setR (rem l i) = listN sep setR m (acc ++ [b]) q2) := by
      unfold Hid
      rw [HL.out, listN_more hi m acc e2]
     have hal : acc.length ≤ 1001 := by have := Ha.out; omega
     clear HL
     obtain ⟨bc, bd, ⟨bk, bn, bf, bs_⟩⟩ := b
     go_wp2_with (first
      | (at_builtin; have hz := hk3; clear hz; refine appQ_set _ rfl _ _ rfl w.heap.size _ acc rfl ((row_kp (row_kp hown hk2 hg0) hk3 hg0).alloc _) _ _ ⟨bc, bd, ⟨bk, bn, bf, bs_⟩⟩ rfl (Bx.newB (by simp)) (by omega) (by simp; omega) ?_; intro v5 w5 hown5 hbel5)
      | (go_at_call 60; have hz := hk2; clear hz; refine (hrd _ hP2).mono ?_; intro e w3 hT3; obtain ⟨u3, j3, rfl, hk3, hj3, hP3, hr3, hV3⟩ := tells_yes hT3 hr2 e2; obtain rfl : u3 = .agg #[.string bc, .bool bd, .int .i64 bk, .int .i64 bn, .int .u64 (bf : Int), .string bs_] := hV3; have hs2 : wr.heap.size ≤ w2.heap.size := hk2.size; have hs3 : w2.heap.size ≤ w3.heap.size := hk3.size)
      | (go_at_call 27; refine (hy _ HP.out).mono ?_; rintro e w2 ⟨rfl, hk2, hP2, hr2⟩))
     have hK5 : w.grownBy w5 (some g) := kp_belowB (kp_alloc ((HK.out.trans hk2).trans hk3) _) hbel5 (Nat.le_refl _)
     have hP5 : PAt g v l j3 w5 := hP.of_kp hK5 ((hbel5.block g hg0).trans (hP3.alloc _).box) hP3.lt
     go_roundw
     case rel => exact ⟨acc ++ [⟨bc, bd, ⟨bk, bn, bf, bs_⟩⟩], j3, m, Nat.le_trans Hj.out (Nat.le_trans (Nat.le_succ j) hj3), hP5, hK5, by unfold Hid; rw [HN.out, hr3], by have := Hn.out; unfold Hid; omega, by have := Ha.out; unfold Hid; simp; omega, hown5⟩
     case measure =>
      rw [show w5.cell? ⟨g, 1, none⟩ = some (.int .i64 (j3 : Int)) from hP5.box.cell 1 _ rfl, show wr.cell? ⟨g, 1, none⟩ = some (.int .i64 (j : Int)) from HP.out.box.cell 1 _ rfl]
      simp only [Option.getD_some, intOf, Int.toNat_natCast]
      omega
   ·have hno := fun W h => took_no hi W (h : PAt g v l j W) rfl
    have HN : Hid (listR sep setR (rem l i) = (some acc, rem l j)) := by
     unfold Hid
     rw [HL.out, listN_stop hi n acc]
    clear HL
    obtain ⟨ao, cap, rfl⟩ := own_formQ hown
    go_wp2_with (go_at_call 27; refine (hno _ HP.out).mono ?_; rintro e w2 ⟨rfl, hk2, hP2⟩)
    go_ret
    rw [HN.out]
    exact ⟨HK.out.trans hk2, j, Hj.out, hP2, rfl, _, rfl, ao, cap, rfl, row_kp hown hk2 hg0⟩

theorem Tryz.infoQ_cnd : (Tryz.prog.info? 67).map (fun i => (i.zero, i.size, i.bytes)) = some (some (.agg #[.string ⟨#[]⟩, .int .i64 0, .int .i64 0, .int .i64 0, .int .u64 0, .string ⟨#[]⟩]), 6, 64) := by kernel_rfl
theorem appQ_cnd {ops : Array Oper} {rest : List Oper} {o : Oper} {a : Act} {Q : Exit → Act → World → Prop} (w : World) (hgd : o.guard = none) (s x : Operand)
  (ho : o.op = .call { callee := .builtin .append, args := #[s, x], argTypes := #[25, 25] })
  (base : Nat) (v : Value) (l : List (Cnd)) (hs : a.eval s = v) (hown : w.ownsRow base 67 6 v l.length (l.flatMap cC))
  (g c : Nat) (y : Cnd) (hx : a.eval x = .slice (some ⟨g, 0, none⟩) 1 c) (hg : Bx w g 67 (cC y).toArray)
  (hb : l.length ≤ 100000) (hbase : base ≤ w.heap.size)
  (h : ∀ v' w', w'.ownsRow base 67 6 v' (l ++ [y]).length ((l ++ [y]).flatMap cC) → Below base w w' → wpList Tryz.prog ops Q rest (a.put o.dst v') w') : wpList Tryz.prog ops Q (o :: rest) a w := by
 obtain ⟨i0, hi, hz0, hz1, hz2⟩ := info_parts Tryz.infoQ_cnd
 refine wpList_append_own w hgd s x 25 ho base 67 i0 _ 6 64 Tryz.underlying25 hi hz0 hz1 hz2 rfl (by decide) v l.length (l.flatMap cC) hs hown ⟨g, 0, none⟩ 1 c (cC y) hx rfl ?_ ?_ (by unfold maxLen; omega) (by omega) hbase ?_
 ·intro j u hj
  rw [Addr.add_lit, Nat.zero_add]
  exact hg.cell j u (by simpa using hj)
 ·intro u hu
  simp only [cC, List.mem_cons, List.not_mem_nil, or_false] at hu
  rcases hu with rfl | rfl | rfl | rfl | rfl | rfl <;> rfl
 ·intro v' w' hown' hgrow _
  rw [show (l.flatMap cC) ++ cC y = (l ++ [y]).flatMap cC by simp] at hown'
  rw [show (l ++ [y]).length = l.length + 1 by simp] at h
  exact h v' w' hown' (Below.grown (Below.refl base w) hgrow hbase (fun k hk => (hown.lt k hk).1))
theorem sqreadList_cnd_any {g : Nat} {v : Value} {l : List Tok} (hE : EndK l) {i : Nat} (sep : ByteArray) (hsep : sep ≠ ⟨#[]⟩) (w : World) (hP : PAt g v l i w) :
  Calls Tryz.prog 103 #[.pointer (some ⟨g, 0, none⟩), .string sep, .func (.func 104) #[] #[]] w (Tells g v l i w (VL 67 6 cC) (listR sep condR (rem l i))) := by
 have hg0 := hP.g_lt
 have hsm := hP.sm
 have hil := hP.lt
 have h0 := sqreadCond_any hE w hP
 rcases e1 : condR (rem l i) with ⟨o1, q1⟩
 cases o1 with
 | none =>
  have HO : Hid (listR sep condR (rem l i) = (none, q1)) := by
   unfold Hid listR bnd
   rw [e1]
  go_enter Tryz.func103, Tryz.ntmps103
  go_wp2_with (go_at_call 104; refine h0.mono ?_; intro e w1 hT1; obtain ⟨j1, rfl, hk1, hj1, hP1, hr1⟩ := tells_no hT1 rfl e1)
  refine ⟨rfl, ?_⟩
  rw [HO.out]
  exact ⟨hk1, j1, hj1, hP1, hr1, rfl⟩
 | some a =>
  have HO : Hid (listR sep condR (rem l i) = listN sep condR (rem l i).length [a] q1) := by
   unfold Hid listR bnd
   rw [e1]
  have hlen := rem_len l i
  obtain ⟨ac, ad, ⟨ak, an, af, as_⟩⟩ := a
  go_enter Tryz.func103, Tryz.ntmps103
  go_wp2_with (go_at_call 104; refine h0.mono ?_; intro e w1 hT1; obtain ⟨u1, j1, rfl, hk1, hj1, hP1, hr1, hV1⟩ := tells_yes hT1 rfl e1; obtain rfl : u1 = .agg #[.string ac, .int .i64 ad, .int .i64 ak, .int .i64 an, .int .u64 (af : Int), .string as_] := hV1)
  have hs1 : w.heap.size ≤ w1.heap.size := hk1.size
  have hrow : (w1.alloc (.cells #[.string ac, .int .i64 ad, .int .i64 ak, .int .i64 an, .int .u64 (af : Int), .string as_] 67)).ownsRow w.heap.size 67 6 (.slice (some ⟨w1.heap.size, 0, none⟩) 1 1) ([⟨ac, ad, ⟨ak, an, af, as_⟩⟩] : List (Cnd)).length (([⟨ac, ad, ⟨ak, an, af, as_⟩⟩] : List (Cnd)).flatMap cC) :=
   World.ownsRow_lit w1 #[.string ac, .int .i64 ad, .int .i64 ak, .int .i64 an, .int .u64 (af : Int), .string as_] 1 hs1 (by decide) rfl
  have hPa := hP1.alloc (.cells #[.string ac, .int .i64 ad, .int .i64 ak, .int .i64 an, .int .u64 (af : Int), .string as_] 67)
  have hKa := kp_alloc hk1 (.cells #[.string ac, .int .i64 ad, .int .i64 ak, .int .i64 an, .int .u64 (af : Int), .string as_] 67)
  clear h0 e1
  go_loopw [7, 12, 13, 14, 15, 16, 17, 18, 19, 20] (fun r _ _ _ _ _ _ _ _ _ wr => ∃ (acc : List (Cnd)) (j n : Nat), Hid (i ≤ j) ∧ Hid (PAt g v l j wr) ∧ Hid (w.grownBy wr (some g)) ∧ Hid (listR sep condR (rem l i) = listN sep condR n acc (rem l j)) ∧ Hid (l.length ≤ j + n) ∧ Hid (acc.length ≤ j + 1) ∧ wr.ownsRow w.heap.size 67 6 r acc.length (acc.flatMap cC)) (fun _ _ _ _ _ _ _ _ _ _ wr => l.length - (intOf ((wr.cell? ⟨g, 1, none⟩).getD (.int .i64 0))).toNat)
  case atStart => exact ⟨[⟨ac, ad, ⟨ak, an, af, as_⟩⟩], j1, (rem l i).length, hj1, hPa, hKa, by unfold Hid; rw [HO.out, hr1], by unfold Hid; omega, by unfold Hid; simp, hrow⟩
  case round =>
   obtain ⟨acc, j, n, Hj, HP, HK, HL, Hn, Ha, hown⟩ := hrel
   have hjl := HP.out.lt
   have hgr := HP.out.g_lt
   have hsr : w.heap.size ≤ wr.heap.size := HK.out.size
   rcases Bool.eq_false_or_eq_true (isT sep (rem l j)) with hi | hi
   ·have hj1l := isT_lt hE hsep hjl hi
    obtain ⟨m, rfl⟩ : ∃ m, n = m + 1 := ⟨n - 1, by have := Hn.out; omega⟩
    have hy := fun W h => took_yes hE hsep hi W (h : PAt g v l j W) rfl
    have hrd := fun W h => sqreadCond_any hE W (h : PAt g v l (j + 1) W)
    rcases e2 : condR (rem l j).tail with ⟨o2, q2⟩
    cases o2 with
    | none =>
     have HN : Hid (listR sep condR (rem l i) = (none, q2)) := by
      unfold Hid
      rw [HL.out, listN_bad hi m acc e2]
     clear HL
     go_wp2_with (first
      | (go_at_call 104; have hz := hk2; clear hz; refine (hrd _ hP2).mono ?_; intro e w3 hT3; obtain ⟨j3, rfl, hk3, hj3, hP3, hr3⟩ := tells_no hT3 hr2 e2)
      | (go_at_call 27; refine (hy _ HP.out).mono ?_; rintro e w2 ⟨rfl, hk2, hP2, hr2⟩))
     refine ⟨rfl, ?_⟩
     rw [HN.out]
     exact ⟨(HK.out.trans hk2).trans hk3, j3, Nat.le_trans Hj.out (Nat.le_trans (Nat.le_succ j) hj3), hP3, hr3, rfl⟩
    | some b =>
     have HN : Hid (listR sep condR (rem l i) = listN sep condR m (acc ++ [b]) q2) := by
      unfold Hid
      rw [HL.out, listN_more hi m acc e2]
     have hal : acc.length ≤ 1001 := by have := Ha.out; omega
     clear HL
     obtain ⟨bc, bd, ⟨bk, bn, bf, bs_⟩⟩ := b
     go_wp2_with (first
      | (at_builtin; have hz := hk3; clear hz; refine appQ_cnd _ rfl _ _ rfl w.heap.size _ acc rfl ((row_kp (row_kp hown hk2 hg0) hk3 hg0).alloc _) _ _ ⟨bc, bd, ⟨bk, bn, bf, bs_⟩⟩ rfl (Bx.newB (by simp)) (by omega) (by simp; omega) ?_; intro v5 w5 hown5 hbel5)
      | (go_at_call 104; have hz := hk2; clear hz; refine (hrd _ hP2).mono ?_; intro e w3 hT3; obtain ⟨u3, j3, rfl, hk3, hj3, hP3, hr3, hV3⟩ := tells_yes hT3 hr2 e2; obtain rfl : u3 = .agg #[.string bc, .int .i64 bd, .int .i64 bk, .int .i64 bn, .int .u64 (bf : Int), .string bs_] := hV3; have hs2 : wr.heap.size ≤ w2.heap.size := hk2.size; have hs3 : w2.heap.size ≤ w3.heap.size := hk3.size)
      | (go_at_call 27; refine (hy _ HP.out).mono ?_; rintro e w2 ⟨rfl, hk2, hP2, hr2⟩))
     have hK5 : w.grownBy w5 (some g) := kp_belowB (kp_alloc ((HK.out.trans hk2).trans hk3) _) hbel5 (Nat.le_refl _)
     have hP5 : PAt g v l j3 w5 := hP.of_kp hK5 ((hbel5.block g hg0).trans (hP3.alloc _).box) hP3.lt
     go_roundw
     case rel => exact ⟨acc ++ [⟨bc, bd, ⟨bk, bn, bf, bs_⟩⟩], j3, m, Nat.le_trans Hj.out (Nat.le_trans (Nat.le_succ j) hj3), hP5, hK5, by unfold Hid; rw [HN.out, hr3], by have := Hn.out; unfold Hid; omega, by have := Ha.out; unfold Hid; simp; omega, hown5⟩
     case measure =>
      rw [show w5.cell? ⟨g, 1, none⟩ = some (.int .i64 (j3 : Int)) from hP5.box.cell 1 _ rfl, show wr.cell? ⟨g, 1, none⟩ = some (.int .i64 (j : Int)) from HP.out.box.cell 1 _ rfl]
      simp only [Option.getD_some, intOf, Int.toNat_natCast]
      omega
   ·have hno := fun W h => took_no hi W (h : PAt g v l j W) rfl
    have HN : Hid (listR sep condR (rem l i) = (some acc, rem l j)) := by
     unfold Hid
     rw [HL.out, listN_stop hi n acc]
    clear HL
    obtain ⟨ao, cap, rfl⟩ := own_formQ hown
    go_wp2_with (go_at_call 27; refine (hno _ HP.out).mono ?_; rintro e w2 ⟨rfl, hk2, hP2⟩)
    go_ret
    rw [HN.out]
    exact ⟨HK.out.trans hk2, j, Hj.out, hP2, rfl, _, rfl, ao, cap, rfl, row_kp hown hk2 hg0⟩

theorem Tryz.infoQ_col : (Tryz.prog.info? 126).map (fun i => (i.zero, i.size, i.bytes)) = some (some (.agg #[.string ⟨#[]⟩, .int .i64 0]), 2, 24) := by kernel_rfl
theorem appQ_col {ops : Array Oper} {rest : List Oper} {o : Oper} {a : Act} {Q : Exit → Act → World → Prop} (w : World) (hgd : o.guard = none) (s x : Operand)
  (ho : o.op = .call { callee := .builtin .append, args := #[s, x], argTypes := #[128, 128] })
  (base : Nat) (v : Value) (l : List (ByteArray × Int)) (hs : a.eval s = v) (hown : w.ownsRow base 126 2 v l.length (l.flatMap cP))
  (g c : Nat) (y : ByteArray × Int) (hx : a.eval x = .slice (some ⟨g, 0, none⟩) 1 c) (hg : Bx w g 126 (cP y).toArray)
  (hb : l.length ≤ 100000) (hbase : base ≤ w.heap.size)
  (h : ∀ v' w', w'.ownsRow base 126 2 v' (l ++ [y]).length ((l ++ [y]).flatMap cP) → Below base w w' → wpList Tryz.prog ops Q rest (a.put o.dst v') w') : wpList Tryz.prog ops Q (o :: rest) a w := by
 obtain ⟨i0, hi, hz0, hz1, hz2⟩ := info_parts Tryz.infoQ_col
 refine wpList_append_own w hgd s x 128 ho base 126 i0 _ 2 24 Tryz.underlying128 hi hz0 hz1 hz2 rfl (by decide) v l.length (l.flatMap cP) hs hown ⟨g, 0, none⟩ 1 c (cP y) hx rfl ?_ ?_ (by unfold maxLen; omega) (by omega) hbase ?_
 ·intro j u hj
  rw [Addr.add_lit, Nat.zero_add]
  exact hg.cell j u (by simpa using hj)
 ·intro u hu
  simp only [cP, List.mem_cons, List.not_mem_nil, or_false] at hu
  rcases hu with rfl | rfl <;> rfl
 ·intro v' w' hown' hgrow _
  rw [show (l.flatMap cP) ++ cP y = (l ++ [y]).flatMap cP by simp] at hown'
  rw [show (l ++ [y]).length = l.length + 1 by simp] at h
  exact h v' w' hown' (Below.grown (Below.refl base w) hgrow hbase (fun k hk => (hown.lt k hk).1))
theorem sqreadList_col_any {g : Nat} {v : Value} {l : List Tok} (hE : EndK l) {i : Nat} (sep : ByteArray) (hsep : sep ≠ ⟨#[]⟩) (w : World) (hP : PAt g v l i w) :
  Calls Tryz.prog 106 #[.pointer (some ⟨g, 0, none⟩), .string sep, .func (.func 105) #[] #[]] w (Tells g v l i w (VL 126 2 cP) (listR sep columnR (rem l i))) := by
 have hg0 := hP.g_lt
 have hsm := hP.sm
 have hil := hP.lt
 have h0 := sqreadColumn_any hE w hP
 rcases e1 : columnR (rem l i) with ⟨o1, q1⟩
 cases o1 with
 | none =>
  have HO : Hid (listR sep columnR (rem l i) = (none, q1)) := by
   unfold Hid listR bnd
   rw [e1]
  go_enter Tryz.func106, Tryz.ntmps106
  go_wp2_with (go_at_call 105; refine h0.mono ?_; intro e w1 hT1; obtain ⟨j1, rfl, hk1, hj1, hP1, hr1⟩ := tells_no hT1 rfl e1)
  refine ⟨rfl, ?_⟩
  rw [HO.out]
  exact ⟨hk1, j1, hj1, hP1, hr1, rfl⟩
 | some a =>
  have HO : Hid (listR sep columnR (rem l i) = listN sep columnR (rem l i).length [a] q1) := by
   unfold Hid listR bnd
   rw [e1]
  have hlen := rem_len l i
  obtain ⟨ac, ad⟩ := a
  go_enter Tryz.func106, Tryz.ntmps106
  go_wp2_with (go_at_call 105; refine h0.mono ?_; intro e w1 hT1; obtain ⟨u1, j1, rfl, hk1, hj1, hP1, hr1, hV1⟩ := tells_yes hT1 rfl e1; obtain rfl : u1 = .agg #[.string ac, .int .i64 ad] := hV1)
  have hs1 : w.heap.size ≤ w1.heap.size := hk1.size
  have hrow : (w1.alloc (.cells #[.string ac, .int .i64 ad] 126)).ownsRow w.heap.size 126 2 (.slice (some ⟨w1.heap.size, 0, none⟩) 1 1) ([(ac, ad)] : List (ByteArray × Int)).length (([(ac, ad)] : List (ByteArray × Int)).flatMap cP) :=
   World.ownsRow_lit w1 #[.string ac, .int .i64 ad] 1 hs1 (by decide) rfl
  have hPa := hP1.alloc (.cells #[.string ac, .int .i64 ad] 126)
  have hKa := kp_alloc hk1 (.cells #[.string ac, .int .i64 ad] 126)
  clear h0 e1
  go_loopw [7, 12, 13, 14, 15, 16, 17, 18, 19, 20] (fun r _ _ _ _ _ _ _ _ _ wr => ∃ (acc : List (ByteArray × Int)) (j n : Nat), Hid (i ≤ j) ∧ Hid (PAt g v l j wr) ∧ Hid (w.grownBy wr (some g)) ∧ Hid (listR sep columnR (rem l i) = listN sep columnR n acc (rem l j)) ∧ Hid (l.length ≤ j + n) ∧ Hid (acc.length ≤ j + 1) ∧ wr.ownsRow w.heap.size 126 2 r acc.length (acc.flatMap cP)) (fun _ _ _ _ _ _ _ _ _ _ wr => l.length - (intOf ((wr.cell? ⟨g, 1, none⟩).getD (.int .i64 0))).toNat)
  case atStart => exact ⟨[(ac, ad)], j1, (rem l i).length, hj1, hPa, hKa, by unfold Hid; rw [HO.out, hr1], by unfold Hid; omega, by unfold Hid; simp, hrow⟩
  case round =>
   obtain ⟨acc, j, n, Hj, HP, HK, HL, Hn, Ha, hown⟩ := hrel
   have hjl := HP.out.lt
   have hgr := HP.out.g_lt
   have hsr : w.heap.size ≤ wr.heap.size := HK.out.size
   rcases Bool.eq_false_or_eq_true (isT sep (rem l j)) with hi | hi
   ·have hj1l := isT_lt hE hsep hjl hi
    obtain ⟨m, rfl⟩ : ∃ m, n = m + 1 := ⟨n - 1, by have := Hn.out; omega⟩
    have hy := fun W h => took_yes hE hsep hi W (h : PAt g v l j W) rfl
    have hrd := fun W h => sqreadColumn_any hE W (h : PAt g v l (j + 1) W)
    rcases e2 : columnR (rem l j).tail with ⟨o2, q2⟩
    cases o2 with
    | none =>
     have HN : Hid (listR sep columnR (rem l i) = (none, q2)) := by
      unfold Hid
      rw [HL.out, listN_bad hi m acc e2]
     clear HL
     go_wp2_with (first
      | (go_at_call 105; have hz := hk2; clear hz; refine (hrd _ hP2).mono ?_; intro e w3 hT3; obtain ⟨j3, rfl, hk3, hj3, hP3, hr3⟩ := tells_no hT3 hr2 e2)
      | (go_at_call 27; refine (hy _ HP.out).mono ?_; rintro e w2 ⟨rfl, hk2, hP2, hr2⟩))
     refine ⟨rfl, ?_⟩
     rw [HN.out]
     exact ⟨(HK.out.trans hk2).trans hk3, j3, Nat.le_trans Hj.out (Nat.le_trans (Nat.le_succ j) hj3), hP3, hr3, rfl⟩
    | some b =>
     have HN : Hid (listR sep columnR (rem l i) = listN sep columnR m (acc ++ [b]) q2) := by
      unfold Hid
      rw [HL.out, listN_more hi m acc e2]
     have hal : acc.length ≤ 1001 := by have := Ha.out; omega
     clear HL
     obtain ⟨bc, bd⟩ := b
     go_wp2_with (first
      | (at_builtin; have hz := hk3; clear hz; refine appQ_col _ rfl _ _ rfl w.heap.size _ acc rfl ((row_kp (row_kp hown hk2 hg0) hk3 hg0).alloc _) _ _ (bc, bd) rfl (Bx.newB (by simp)) (by omega) (by simp; omega) ?_; intro v5 w5 hown5 hbel5)
      | (go_at_call 105; have hz := hk2; clear hz; refine (hrd _ hP2).mono ?_; intro e w3 hT3; obtain ⟨u3, j3, rfl, hk3, hj3, hP3, hr3, hV3⟩ := tells_yes hT3 hr2 e2; obtain rfl : u3 = .agg #[.string bc, .int .i64 bd] := hV3; have hs2 : wr.heap.size ≤ w2.heap.size := hk2.size; have hs3 : w2.heap.size ≤ w3.heap.size := hk3.size)
      | (go_at_call 27; refine (hy _ HP.out).mono ?_; rintro e w2 ⟨rfl, hk2, hP2, hr2⟩))
     have hK5 : w.grownBy w5 (some g) := kp_belowB (kp_alloc ((HK.out.trans hk2).trans hk3) _) hbel5 (Nat.le_refl _)
     have hP5 : PAt g v l j3 w5 := hP.of_kp hK5 ((hbel5.block g hg0).trans (hP3.alloc _).box) hP3.lt
     go_roundw
     case rel => exact ⟨acc ++ [(bc, bd)], j3, m, Nat.le_trans Hj.out (Nat.le_trans (Nat.le_succ j) hj3), hP5, hK5, by unfold Hid; rw [HN.out, hr3], by have := Hn.out; unfold Hid; omega, by have := Ha.out; unfold Hid; simp; omega, hown5⟩
     case measure =>
      rw [show w5.cell? ⟨g, 1, none⟩ = some (.int .i64 (j3 : Int)) from hP5.box.cell 1 _ rfl, show wr.cell? ⟨g, 1, none⟩ = some (.int .i64 (j : Int)) from HP.out.box.cell 1 _ rfl]
      simp only [Option.getD_some, intOf, Int.toNat_natCast]
      omega
   ·have hno := fun W h => took_no hi W (h : PAt g v l j W) rfl
    have HN : Hid (listR sep columnR (rem l i) = (some acc, rem l j)) := by
     unfold Hid
     rw [HL.out, listN_stop hi n acc]
    clear HL
    obtain ⟨ao, cap, rfl⟩ := own_formQ hown
    go_wp2_with (go_at_call 27; refine (hno _ HP.out).mono ?_; rintro e w2 ⟨rfl, hk2, hP2⟩)
    go_ret
    rw [HN.out]
    exact ⟨HK.out.trans hk2, j, Hj.out, hP2, rfl, _, rfl, ao, cap, rfl, row_kp hown hk2 hg0⟩
theorem sqreadRow_string_w0 {g : Nat} {v : Value} {l : List Tok} (hE : EndK l) {i : Nat}  {q1 : List TkC} (e1 : takeR ⟨#[40]⟩ (rem l i) = (none, q1)) (w : World) (hP : PAt g v l i w) :
  Calls Tryz.prog 56 #[.pointer (some ⟨g, 0, none⟩), .func (.func 55) #[] #[]] w (Tells g v l i w (VL 9 1 cS) (rowR nameR (rem l i))) := by
 have hg0 := hP.g_lt
 have HO : Hid (rowR nameR (rem l i) = (none, q1)) := by
  unfold Hid
  simp only [rowR, bnd, opt, ret, e1]
 go_enter Tryz.func56, Tryz.ntmps56
 go_wp2_with (first
  | (go_at_call 34; refine (take_1 hE (by decide) _ (hP.alloc _) (Bx.newB (by simp)) (by omega)).mono ?_; intro e w1 hT1; obtain ⟨j1, rfl, hk1, hj1, hP1, hr1⟩ := tells_no hT1 rfl e1))
 refine ⟨rfl, ?_⟩
 rw [HO.out]
 exact ⟨(kp_alloc (gr w g) _).trans hk1, j1, (by omega), hP1, hr1, rfl⟩
theorem sqreadRow_string_w1 {g : Nat} {v : Value} {l : List Tok} (hE : EndK l) {i : Nat}  {q1 q2 : List TkC} (e1 : takeR ⟨#[40]⟩ (rem l i) = (some (), q1)) (e2 : listR ⟨#[44]⟩ nameR q1 = (none, q2)) (w : World) (hP : PAt g v l i w) :
  Calls Tryz.prog 56 #[.pointer (some ⟨g, 0, none⟩), .func (.func 55) #[] #[]] w (Tells g v l i w (VL 9 1 cS) (rowR nameR (rem l i))) := by
 have hg0 := hP.g_lt
 have HO : Hid (rowR nameR (rem l i) = (none, q2)) := by
  unfold Hid
  simp only [rowR, bnd, opt, ret, e1, e2]
 go_enter Tryz.func56, Tryz.ntmps56
 go_wp2_with (first
  | (go_at_call 62; refine (sqreadList_str_any hE ⟨#[44]⟩ (by decide) _ hP1).mono ?_; intro e w2 hT2; obtain ⟨j2, rfl, hk2, hj2, hP2, hr2⟩ := tells_no hT2 hr1 e2)
  | (go_at_call 34; refine (take_1 hE (by decide) _ (hP.alloc _) (Bx.newB (by simp)) (by omega)).mono ?_; intro e w1 hT1; obtain ⟨_, j1, rfl, hk1, hj1, hP1, hr1, rfl⟩ := tells_yes hT1 rfl e1; have kk1 := (kp_alloc (gr w g) _).trans hk1; have hs1 := kk1.size))
 refine ⟨rfl, ?_⟩
 rw [HO.out]
 exact ⟨kk1.trans hk2, j2, (by omega), hP2, hr2, rfl⟩
theorem sqreadRow_string_w2 {g : Nat} {v : Value} {l : List Tok} (hE : EndK l) {i : Nat}  {q1 : List TkC} {xs : List (ByteArray)} {q2 q3 : List TkC} (e1 : takeR ⟨#[40]⟩ (rem l i) = (some (), q1)) (e2 : listR ⟨#[44]⟩ nameR q1 = (some xs, q2)) (e3 : takeR ⟨#[41]⟩ q2 = (none, q3)) (w : World) (hP : PAt g v l i w) :
  Calls Tryz.prog 56 #[.pointer (some ⟨g, 0, none⟩), .func (.func 55) #[] #[]] w (Tells g v l i w (VL 9 1 cS) (rowR nameR (rem l i))) := by
 have hg0 := hP.g_lt
 have HO : Hid (rowR nameR (rem l i) = (none, q3)) := by
  unfold Hid
  simp only [rowR, bnd, opt, ret, e1, e2, e3]
 go_enter Tryz.func56, Tryz.ntmps56
 go_wp2_with (first
  | (go_at_call 34; refine (take_1 hE (by decide) _ (hP2.alloc _) (Bx.newB (by simp)) (by omega)).mono ?_; intro e w3 hT3; obtain ⟨j3, rfl, hk3, hj3, hP3, hr3⟩ := tells_no hT3 hr2 e3)
  | (go_at_call 62; refine (sqreadList_str_any hE ⟨#[44]⟩ (by decide) _ hP1).mono ?_; intro e w2 hT2; obtain ⟨u2, j2, rfl, hk2, hj2, hP2, hr2, hV2⟩ := tells_yes hT2 hr1 e2; obtain ⟨xs_o, xs_c, rfl, ho2⟩ := hV2; have oo2 := row_mono ho2 kk1.size; have kk2 := kk1.trans hk2; have hs2 := kk2.size)
  | (go_at_call 34; refine (take_1 hE (by decide) _ (hP.alloc _) (Bx.newB (by simp)) (by omega)).mono ?_; intro e w1 hT1; obtain ⟨_, j1, rfl, hk1, hj1, hP1, hr1, rfl⟩ := tells_yes hT1 rfl e1; have kk1 := (kp_alloc (gr w g) _).trans hk1; have hs1 := kk1.size))
 refine ⟨rfl, ?_⟩
 rw [HO.out]
 exact ⟨(kp_alloc kk2 _).trans hk3, j3, (by omega), hP3, hr3, rfl⟩
theorem sqreadRow_string_w3 {g : Nat} {v : Value} {l : List Tok} (hE : EndK l) {i : Nat}  {q1 : List TkC} {xs : List (ByteArray)} {q2 q3 : List TkC} (e1 : takeR ⟨#[40]⟩ (rem l i) = (some (), q1)) (e2 : listR ⟨#[44]⟩ nameR q1 = (some xs, q2)) (e3 : takeR ⟨#[41]⟩ q2 = (some (), q3)) (w : World) (hP : PAt g v l i w) :
  Calls Tryz.prog 56 #[.pointer (some ⟨g, 0, none⟩), .func (.func 55) #[] #[]] w (Tells g v l i w (VL 9 1 cS) (rowR nameR (rem l i))) := by
 have hg0 := hP.g_lt
 have HO : Hid (rowR nameR (rem l i) = (some xs, q3)) := by
  unfold Hid
  simp only [rowR, bnd, opt, ret, e1, e2, e3]
 go_enter Tryz.func56, Tryz.ntmps56
 go_wp2_with (first
  | (go_at_call 34; refine (take_1 hE (by decide) _ (hP2.alloc _) (Bx.newB (by simp)) (by omega)).mono ?_; intro e w3 hT3; obtain ⟨_, j3, rfl, hk3, hj3, hP3, hr3, rfl⟩ := tells_yes hT3 hr2 e3; have kk3 := (kp_alloc kk2 _).trans hk3; have hs3 := kk3.size; have oxs3 := row_kp (oo2.alloc _) hk3 hg0)
  | (go_at_call 62; refine (sqreadList_str_any hE ⟨#[44]⟩ (by decide) _ hP1).mono ?_; intro e w2 hT2; obtain ⟨u2, j2, rfl, hk2, hj2, hP2, hr2, hV2⟩ := tells_yes hT2 hr1 e2; obtain ⟨xs_o, xs_c, rfl, ho2⟩ := hV2; have oo2 := row_mono ho2 kk1.size; have kk2 := kk1.trans hk2; have hs2 := kk2.size)
  | (go_at_call 34; refine (take_1 hE (by decide) _ (hP.alloc _) (Bx.newB (by simp)) (by omega)).mono ?_; intro e w1 hT1; obtain ⟨_, j1, rfl, hk1, hj1, hP1, hr1, rfl⟩ := tells_yes hT1 rfl e1; have kk1 := (kp_alloc (gr w g) _).trans hk1; have hs1 := kk1.size))
 go_ret
 rw [HO.out]
 exact ⟨kk3, j3, (by omega), hP3, hr3, _, rfl, ⟨xs_o, xs_c, rfl, oxs3⟩⟩
theorem sqreadRow_string_any {g : Nat} {v : Value} {l : List Tok} (hE : EndK l) {i : Nat}  (w : World) (hP : PAt g v l i w) :
  Calls Tryz.prog 56 #[.pointer (some ⟨g, 0, none⟩), .func (.func 55) #[] #[]] w (Tells g v l i w (VL 9 1 cS) (rowR nameR (rem l i))) := by
 rcases e1 : takeR ⟨#[40]⟩ (rem l i) with ⟨o1, q1⟩
 cases o1 with
 | none =>
  exact sqreadRow_string_w0 hE e1 w hP
 | some a1 =>
  cases a1
  rcases e2 : listR ⟨#[44]⟩ nameR q1 with ⟨o2, q2⟩
  cases o2 with
  | none =>
   exact sqreadRow_string_w1 hE e1 e2 w hP
  | some xs =>
   rcases e3 : takeR ⟨#[41]⟩ q2 with ⟨o3, q3⟩
   cases o3 with
   | none =>
    exact sqreadRow_string_w2 hE e1 e2 e3 w hP
   | some a3 =>
    cases a3
    exact sqreadRow_string_w3 hE e1 e2 e3 w hP
theorem sqreadRow_api_w0 {g : Nat} {v : Value} {l : List Tok} (hE : EndK l) {i : Nat}  {q1 : List TkC} (e1 : takeR ⟨#[40]⟩ (rem l i) = (none, q1)) (w : World) (hP : PAt g v l i w) :
  Calls Tryz.prog 57 #[.pointer (some ⟨g, 0, none⟩), .func (.func 58) #[] #[]] w (Tells g v l i w (VL 46 4 cV) (rowR valueR (rem l i))) := by
 have hg0 := hP.g_lt
 have HO : Hid (rowR valueR (rem l i) = (none, q1)) := by
  unfold Hid
  simp only [rowR, bnd, opt, ret, e1]
 go_enter Tryz.func57, Tryz.ntmps57
 go_wp2_with (first
  | (go_at_call 34; refine (take_1 hE (by decide) _ (hP.alloc _) (Bx.newB (by simp)) (by omega)).mono ?_; intro e w1 hT1; obtain ⟨j1, rfl, hk1, hj1, hP1, hr1⟩ := tells_no hT1 rfl e1))
 refine ⟨rfl, ?_⟩
 rw [HO.out]
 exact ⟨(kp_alloc (gr w g) _).trans hk1, j1, (by omega), hP1, hr1, rfl⟩
theorem sqreadRow_api_w1 {g : Nat} {v : Value} {l : List Tok} (hE : EndK l) {i : Nat}  {q1 q2 : List TkC} (e1 : takeR ⟨#[40]⟩ (rem l i) = (some (), q1)) (e2 : listR ⟨#[44]⟩ valueR q1 = (none, q2)) (w : World) (hP : PAt g v l i w) :
  Calls Tryz.prog 57 #[.pointer (some ⟨g, 0, none⟩), .func (.func 58) #[] #[]] w (Tells g v l i w (VL 46 4 cV) (rowR valueR (rem l i))) := by
 have hg0 := hP.g_lt
 have HO : Hid (rowR valueR (rem l i) = (none, q2)) := by
  unfold Hid
  simp only [rowR, bnd, opt, ret, e1, e2]
 go_enter Tryz.func57, Tryz.ntmps57
 go_wp2_with (first
  | (go_at_call 102; refine (sqreadList_val_any hE ⟨#[44]⟩ (by decide) _ hP1).mono ?_; intro e w2 hT2; obtain ⟨j2, rfl, hk2, hj2, hP2, hr2⟩ := tells_no hT2 hr1 e2)
  | (go_at_call 34; refine (take_1 hE (by decide) _ (hP.alloc _) (Bx.newB (by simp)) (by omega)).mono ?_; intro e w1 hT1; obtain ⟨_, j1, rfl, hk1, hj1, hP1, hr1, rfl⟩ := tells_yes hT1 rfl e1; have kk1 := (kp_alloc (gr w g) _).trans hk1; have hs1 := kk1.size))
 refine ⟨rfl, ?_⟩
 rw [HO.out]
 exact ⟨kk1.trans hk2, j2, (by omega), hP2, hr2, rfl⟩
theorem sqreadRow_api_w2 {g : Nat} {v : Value} {l : List Tok} (hE : EndK l) {i : Nat}  {q1 : List TkC} {xs : List (Val)} {q2 q3 : List TkC} (e1 : takeR ⟨#[40]⟩ (rem l i) = (some (), q1)) (e2 : listR ⟨#[44]⟩ valueR q1 = (some xs, q2)) (e3 : takeR ⟨#[41]⟩ q2 = (none, q3)) (w : World) (hP : PAt g v l i w) :
  Calls Tryz.prog 57 #[.pointer (some ⟨g, 0, none⟩), .func (.func 58) #[] #[]] w (Tells g v l i w (VL 46 4 cV) (rowR valueR (rem l i))) := by
 have hg0 := hP.g_lt
 have HO : Hid (rowR valueR (rem l i) = (none, q3)) := by
  unfold Hid
  simp only [rowR, bnd, opt, ret, e1, e2, e3]
 go_enter Tryz.func57, Tryz.ntmps57
 go_wp2_with (first
  | (go_at_call 34; refine (take_1 hE (by decide) _ (hP2.alloc _) (Bx.newB (by simp)) (by omega)).mono ?_; intro e w3 hT3; obtain ⟨j3, rfl, hk3, hj3, hP3, hr3⟩ := tells_no hT3 hr2 e3)
  | (go_at_call 102; refine (sqreadList_val_any hE ⟨#[44]⟩ (by decide) _ hP1).mono ?_; intro e w2 hT2; obtain ⟨u2, j2, rfl, hk2, hj2, hP2, hr2, hV2⟩ := tells_yes hT2 hr1 e2; obtain ⟨xs_o, xs_c, rfl, ho2⟩ := hV2; have oo2 := row_mono ho2 kk1.size; have kk2 := kk1.trans hk2; have hs2 := kk2.size)
  | (go_at_call 34; refine (take_1 hE (by decide) _ (hP.alloc _) (Bx.newB (by simp)) (by omega)).mono ?_; intro e w1 hT1; obtain ⟨_, j1, rfl, hk1, hj1, hP1, hr1, rfl⟩ := tells_yes hT1 rfl e1; have kk1 := (kp_alloc (gr w g) _).trans hk1; have hs1 := kk1.size))
 refine ⟨rfl, ?_⟩
 rw [HO.out]
 exact ⟨(kp_alloc kk2 _).trans hk3, j3, (by omega), hP3, hr3, rfl⟩
theorem sqreadRow_api_w3 {g : Nat} {v : Value} {l : List Tok} (hE : EndK l) {i : Nat}  {q1 : List TkC} {xs : List (Val)} {q2 q3 : List TkC} (e1 : takeR ⟨#[40]⟩ (rem l i) = (some (), q1)) (e2 : listR ⟨#[44]⟩ valueR q1 = (some xs, q2)) (e3 : takeR ⟨#[41]⟩ q2 = (some (), q3)) (w : World) (hP : PAt g v l i w) :
  Calls Tryz.prog 57 #[.pointer (some ⟨g, 0, none⟩), .func (.func 58) #[] #[]] w (Tells g v l i w (VL 46 4 cV) (rowR valueR (rem l i))) := by
 have hg0 := hP.g_lt
 have HO : Hid (rowR valueR (rem l i) = (some xs, q3)) := by
  unfold Hid
  simp only [rowR, bnd, opt, ret, e1, e2, e3]
 go_enter Tryz.func57, Tryz.ntmps57
 go_wp2_with (first
  | (go_at_call 34; refine (take_1 hE (by decide) _ (hP2.alloc _) (Bx.newB (by simp)) (by omega)).mono ?_; intro e w3 hT3; obtain ⟨_, j3, rfl, hk3, hj3, hP3, hr3, rfl⟩ := tells_yes hT3 hr2 e3; have kk3 := (kp_alloc kk2 _).trans hk3; have hs3 := kk3.size; have oxs3 := row_kp (oo2.alloc _) hk3 hg0)
  | (go_at_call 102; refine (sqreadList_val_any hE ⟨#[44]⟩ (by decide) _ hP1).mono ?_; intro e w2 hT2; obtain ⟨u2, j2, rfl, hk2, hj2, hP2, hr2, hV2⟩ := tells_yes hT2 hr1 e2; obtain ⟨xs_o, xs_c, rfl, ho2⟩ := hV2; have oo2 := row_mono ho2 kk1.size; have kk2 := kk1.trans hk2; have hs2 := kk2.size)
  | (go_at_call 34; refine (take_1 hE (by decide) _ (hP.alloc _) (Bx.newB (by simp)) (by omega)).mono ?_; intro e w1 hT1; obtain ⟨_, j1, rfl, hk1, hj1, hP1, hr1, rfl⟩ := tells_yes hT1 rfl e1; have kk1 := (kp_alloc (gr w g) _).trans hk1; have hs1 := kk1.size))
 go_ret
 rw [HO.out]
 exact ⟨kk3, j3, (by omega), hP3, hr3, _, rfl, ⟨xs_o, xs_c, rfl, oxs3⟩⟩
theorem sqreadRow_api_any {g : Nat} {v : Value} {l : List Tok} (hE : EndK l) {i : Nat}  (w : World) (hP : PAt g v l i w) :
  Calls Tryz.prog 57 #[.pointer (some ⟨g, 0, none⟩), .func (.func 58) #[] #[]] w (Tells g v l i w (VL 46 4 cV) (rowR valueR (rem l i))) := by
 rcases e1 : takeR ⟨#[40]⟩ (rem l i) with ⟨o1, q1⟩
 cases o1 with
 | none =>
  exact sqreadRow_api_w0 hE e1 w hP
 | some a1 =>
  cases a1
  rcases e2 : listR ⟨#[44]⟩ valueR q1 with ⟨o2, q2⟩
  cases o2 with
  | none =>
   exact sqreadRow_api_w1 hE e1 e2 w hP
  | some xs =>
   rcases e3 : takeR ⟨#[41]⟩ q2 with ⟨o3, q3⟩
   cases o3 with
   | none =>
    exact sqreadRow_api_w2 hE e1 e2 e3 w hP
   | some a3 =>
    cases a3
    exact sqreadRow_api_w3 hE e1 e2 e3 w hP
theorem sqreadWhere_w0 {g : Nat} {v : Value} {l : List Tok} (hE : EndK l) {i : Nat}  {q2 : List TkC} (hb1 : isT ⟨#[119, 104, 101, 114, 101]⟩ (rem l i) = true) (e2 : listR ⟨#[97, 110, 100]⟩ condR (rem l i).tail = (none, q2)) (w : World) (hP : PAt g v l i w) :
  Calls Tryz.prog 61 #[.pointer (some ⟨g, 0, none⟩)] w (Tells g v l i w (VL 67 6 cC) (whereR (rem l i))) := by
 have hg0 := hP.g_lt
 have HO : Hid (whereR (rem l i) = (none, q2)) := by
  unfold Hid
  simp only [whereR, bnd, opt, ret, hb1, if_true, e2]
 go_enter Tryz.func61, Tryz.ntmps61
 go_wp2_with (first
  | (go_at_call 103; refine (sqreadList_cnd_any hE ⟨#[97, 110, 100]⟩ (by decide) _ hP1).mono ?_; intro e w2 hT2; obtain ⟨j2, rfl, hk2, hj2, hP2, hr2⟩ := tells_no hT2 hr1 e2)
  | (go_at_call 27; refine (took_yes hE (by decide) hb1 _ hP rfl).mono ?_; rintro e w1 ⟨rfl, hk1, hP1, hr1⟩; have kk1 := (gr w g).trans hk1; have hs1 := kk1.size))
 refine ⟨rfl, ?_⟩
 rw [HO.out]
 exact ⟨kk1.trans hk2, j2, (by omega), hP2, hr2, rfl⟩
theorem sqreadWhere_w1 {g : Nat} {v : Value} {l : List Tok} (hE : EndK l) {i : Nat}  {xs : List (Cnd)} {q2 : List TkC} (hb1 : isT ⟨#[119, 104, 101, 114, 101]⟩ (rem l i) = true) (e2 : listR ⟨#[97, 110, 100]⟩ condR (rem l i).tail = (some xs, q2)) (w : World) (hP : PAt g v l i w) :
  Calls Tryz.prog 61 #[.pointer (some ⟨g, 0, none⟩)] w (Tells g v l i w (VL 67 6 cC) (whereR (rem l i))) := by
 have hg0 := hP.g_lt
 have HO : Hid (whereR (rem l i) = (some xs, q2)) := by
  unfold Hid
  simp only [whereR, bnd, opt, ret, hb1, if_true, e2]
 go_enter Tryz.func61, Tryz.ntmps61
 go_wp2_with (first
  | (go_at_call 103; refine (sqreadList_cnd_any hE ⟨#[97, 110, 100]⟩ (by decide) _ hP1).mono ?_; intro e w2 hT2; obtain ⟨u2, j2, rfl, hk2, hj2, hP2, hr2, hV2⟩ := tells_yes hT2 hr1 e2; obtain ⟨xs_o, xs_c, rfl, ho2⟩ := hV2; have oo2 := row_mono ho2 kk1.size; have kk2 := kk1.trans hk2; have hs2 := kk2.size)
  | (go_at_call 27; refine (took_yes hE (by decide) hb1 _ hP rfl).mono ?_; rintro e w1 ⟨rfl, hk1, hP1, hr1⟩; have kk1 := (gr w g).trans hk1; have hs1 := kk1.size))
 go_ret
 rw [HO.out]
 exact ⟨kk2, j2, (by omega), hP2, hr2, _, rfl, ⟨xs_o, xs_c, rfl, oo2⟩⟩
theorem sqreadWhere_w2 {g : Nat} {v : Value} {l : List Tok} (hE : EndK l) {i : Nat}  (hb1 : isT ⟨#[119, 104, 101, 114, 101]⟩ (rem l i) = false) (w : World) (hP : PAt g v l i w) :
  Calls Tryz.prog 61 #[.pointer (some ⟨g, 0, none⟩)] w (Tells g v l i w (VL 67 6 cC) (whereR (rem l i))) := by
 have hg0 := hP.g_lt
 have HO : Hid (whereR (rem l i) = (some [], (rem l i))) := by
  unfold Hid
  simp only [whereR, bnd, opt, ret, hb1, Bool.false_eq_true, if_false]
 go_enter Tryz.func61, Tryz.ntmps61
 go_wp2_with (first
  | (go_at_call 27; refine (took_no hb1 _ hP rfl).mono ?_; rintro e w1 ⟨rfl, hk1, hP1⟩; have kk1 := (gr w g).trans hk1; have hs1 := kk1.size))
 go_ret
 rw [HO.out]
 exact ⟨kk1, i, (Nat.le_refl i), hP1, rfl, _, rfl, ⟨none, 0, rfl, World.ownsRow_nil _ _ _ _⟩⟩
theorem sqreadWhere_any {g : Nat} {v : Value} {l : List Tok} (hE : EndK l) {i : Nat}  (w : World) (hP : PAt g v l i w) :
  Calls Tryz.prog 61 #[.pointer (some ⟨g, 0, none⟩)] w (Tells g v l i w (VL 67 6 cC) (whereR (rem l i))) := by
 rcases Bool.eq_false_or_eq_true (isT ⟨#[119, 104, 101, 114, 101]⟩ (rem l i)) with hb1 | hb1
 ·rcases e2 : listR ⟨#[97, 110, 100]⟩ condR (rem l i).tail with ⟨o2, q2⟩
  cases o2 with
  | none =>
   exact sqreadWhere_w0 hE hb1 e2 w hP
  | some xs =>
   exact sqreadWhere_w1 hE hb1 e2 w hP
 ·exact sqreadWhere_w2 hE hb1 w hP
end Go.Proofs.YtiajlhjjmlakmaaGreatDoor
