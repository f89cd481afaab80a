import Derived.Test.YtiajlhjjmlakmaaGreatDoorLxW
import Derived.Test.YtiajlhjjmlakmaaGreatDoorVWord
namespace Go.Proofs.YtiajlhjjmlakmaaGreatDoor
open Go.RowKit Num
set_option maxHeartbeats 1000000
set_option linter.unusedVariables false
set_option maxRecDepth 100000

theorem head_of (s : ByteArray) (h : 0 < s.size) : s.data.toList.head? = some s[0] := by
 have hd : s.data.toList.length = s.size := rfl
 cases hl : s.data.toList with
 | nil => rw [hl] at hd; simp at hd; omega
 | cons b r =>
  have : s.data.toList[0]'(by omega) = s[0] := rfl
  simp only [hl] at this
  rw [List.head?_cons, ← this]
  rfl
theorem quoted_any (s : ByteArray) (hs : s.size ≤ 1000000) (w : World) :
  Calls Tryz.prog 46 #[.string s] w fun e w' => e = .returned (.bool (decide (s.data.toList.head? = some 39))) ∧ w' = w := by
 by_cases h : 0 < s.size
 ·have h1 := head_of s h
  have h2 : ¬ s.toList = [] := by
   rw [Lib.toList_data]
   intro e
   have := congrArg List.length e
   have hd : s.data.toList.length = s.size := rfl
   rw [hd] at this
   simp only [List.length_nil] at this
   omega
  have h2b : s.toList.isEmpty = false := by simpa using h2
  have h3 : decide (s.data.toList.head? = some 39) = decide (s[0].toNat = 39) := by
   rw [h1]
   refine decide_eq_decide.2 ⟨fun e => ?_, fun e => ?_⟩
   ·have e := Option.some.inj e
    rw [e]
    rfl
   ·rw [show s[0] = 39 from UInt8.toNat_inj.1 e]
  have h4 := int_eq s[0] 39
  rw [h3]
  clear h1 h3
  rcases Bool.eq_false_or_eq_true (decide (s[0].toNat = 39)) with h5 | h5
  all_goals
   rw [h5] at h4 ⊢
   have h4 : (((s[0].toNat : Nat) : Int) == 39) = _ := h4
   clear h5
   go_enter Tryz.func46, Tryz.ntmps46
   go_wp2
   go_ret
   exact ⟨rfl, rfl⟩
 ·have hz : s.size = 0 := by omega
  obtain rfl : s = ⟨#[]⟩ := ByteArray.ext (Array.eq_empty_of_size_eq_zero hz)
  go_enter Tryz.func46, Tryz.ntmps46
  go_wp2
  go_ret
  exact ⟨rfl, rfl⟩
theorem run_let (s : ByteArray) (hs : s.size ≤ 1000000) (w : World) :
  Calls Tryz.prog 94 #[.string s, .func (.func 95) #[] #[]] w fun e w' => e = .returned (.int .i64 ((runL letB s.data.toList : Nat) : Int)) ∧ w' = w := by
 go_enter Tryz.func94, Tryz.ntmps94
 go_wp2
 go_loop [5, 8] (fun _ i => ∃ k : Nat, k ≤ s.size ∧ i = .int .i64 (k : Int) ∧ Hid (∀ j (hj : j < s.data.toList.length), j < k → letB s.data.toList[j] = true)) (fun _ i => s.size - (intOf i).toNat)
 case atStart => exact ⟨0, by omega, rfl, fun _ _ h => absurd h (Nat.not_lt_zero _)⟩
 case round =>
  obtain ⟨k, hk, rfl, HK⟩ := hrel
  by_cases hks : k < s.size
  ·have hc := nameByte_any s[k]
   rcases Bool.eq_false_or_eq_true (letB s[k]) with hp | hp
   ·have HK2 : Hid (∀ j (hj : j < s.data.toList.length), j < k + 1 → letB s.data.toList[j] = true) := by
     intro j hj hjk
     by_cases h : j = k
     ·subst h
      exact hp
     ·exact HK.out j hj (by omega)
    rw [hp] at hc
    clear HK hp
    go_wp2_with (go_at_call 95; refine (hc _).mono ?_; rintro e w1 ⟨rfl, rfl⟩)
    go_round
    case rel => exact ⟨k + 1, by omega, by go_num, HK2⟩
    case measure => simp [intOf]; omega
   ·have HR : Hid (runL letB s.data.toList = k) := runL_at _ _ k hks HK.out hp
    rw [hp] at hc
    clear HK hp
    go_wp2_with (go_at_call 95; refine (hc _).mono ?_; rintro e w1 ⟨rfl, rfl⟩)
    go_ret
    exact ⟨by rw [HR.out]; rfl, rfl⟩
  ·obtain rfl : k = s.size := by omega
   have HR : Hid (runL letB s.data.toList = s.size) := runL_all _ _ fun j hj => HK.out j hj hj
   clear HK
   go_wp2
   go_ret
   exact ⟨by rw [HR.out]; rfl, rfl⟩
theorem run_hex (s : ByteArray) (hs : s.size ≤ 1000000) (w : World) :
  Calls Tryz.prog 94 #[.string s, .func (.func 122) #[] #[]] w fun e w' => e = .returned (.int .i64 ((runL hexB s.data.toList : Nat) : Int)) ∧ w' = w := by
 go_enter Tryz.func94, Tryz.ntmps94
 go_wp2
 go_loop [5, 8] (fun _ i => ∃ k : Nat, k ≤ s.size ∧ i = .int .i64 (k : Int) ∧ Hid (∀ j (hj : j < s.data.toList.length), j < k → hexB s.data.toList[j] = true)) (fun _ i => s.size - (intOf i).toNat)
 case atStart => exact ⟨0, by omega, rfl, fun _ _ h => absurd h (Nat.not_lt_zero _)⟩
 case round =>
  obtain ⟨k, hk, rfl, HK⟩ := hrel
  by_cases hks : k < s.size
  ·have hc := hexDigit_any s[k]
   rcases Bool.eq_false_or_eq_true (hexB s[k]) with hp | hp
   ·have HK2 : Hid (∀ j (hj : j < s.data.toList.length), j < k + 1 → hexB s.data.toList[j] = true) := by
     intro j hj hjk
     by_cases h : j = k
     ·subst h
      exact hp
     ·exact HK.out j hj (by omega)
    rw [hp] at hc
    clear HK hp
    go_wp2_with (go_at_call 122; refine (hc _).mono ?_; rintro e w1 ⟨rfl, rfl⟩)
    go_round
    case rel => exact ⟨k + 1, by omega, by go_num, HK2⟩
    case measure => simp [intOf]; omega
   ·have HR : Hid (runL hexB s.data.toList = k) := runL_at _ _ k hks HK.out hp
    rw [hp] at hc
    clear HK hp
    go_wp2_with (go_at_call 122; refine (hc _).mono ?_; rintro e w1 ⟨rfl, rfl⟩)
    go_ret
    exact ⟨by rw [HR.out]; rfl, rfl⟩
  ·obtain rfl : k = s.size := by omega
   have HR : Hid (runL hexB s.data.toList = s.size) := runL_all _ _ fun j hj => HK.out j hj hj
   clear HK
   go_wp2
   go_ret
   exact ⟨by rw [HR.out]; rfl, rfl⟩
def tokV (k : Int) (t : ByteArray) (v : Val) (p : Int) : Value := .agg #[.int .i64 k, .string t, .int .i64 v.k, .int .i64 v.n, .int .u64 (v.f : Int), .string v.s, .int .i64 p]
theorem nib_lt {b : UInt8} (h : hexB b = true) : nib b < 16 := by
 unfold hexB at h
 unfold nib
 by_cases hd : digB b = true
 ·rw [if_pos hd]
  have := (digB_iff b).1 hd
  omega
 ·rw [if_neg hd]
  simp [hd] at h
  omega
theorem or_nib (N k : Nat) (hN : N < 1152921504606846976) (hk : k < 16) : bits .or .u64 ((N : Int) * 16) (k : Int) = ((N * 16 + k : Nat) : Int) := by
 obtain ⟨m, hm⟩ : ∃ m, N * 16 = m := ⟨_, rfl⟩
 have e := u64_or_nat m k (by omega) (by omega)
 have e2 : (N : Int) * 16 = (m : Int) := by omega
 rw [e2, e, nat_join 4 m k (by omega) (by omega), hm]
theorem hexNum_snoc (l : List UInt8) (c : UInt8) : hexNum (l ++ [c]) = hexNum l * 16 + nib c := by simp [hexNum]
theorem hexNum_take (s : ByteArray) (k : Nat) (hk : k < s.size) : hexNum (s.data.toList.take (k + 1)) = hexNum (s.data.toList.take k) * 16 + nib s[k] := by
 rw [take_snoc s k hk, hexNum_snoc]
theorem hexNum_lt : ∀ (l : List UInt8), (∀ c ∈ l, hexB c = true) → hexNum l < 16 ^ l.length := by
 have key : ∀ (l : List UInt8) (a m : Nat), a < m → (∀ c ∈ l, hexB c = true) → l.foldl (fun n c => n * 16 + nib c) a < m * 16 ^ l.length := by
  intro l
  induction l with
  | nil => intro a m h _; simpa using h
  | cons b r ih =>
   intro a m h hx
   have hb := nib_lt (hx b (by simp))
   have := ih (a * 16 + nib b) (m * 16) (by omega) (fun c hc => hx c (by simp [hc]))
   simp only [List.foldl_cons, List.length_cons]
   rw [Nat.pow_succ, Nat.mul_comm (16 ^ r.length) 16, ← Nat.mul_assoc]
   exact this
 intro l hl
 have h := key l 0 1 (by omega) hl
 rw [Nat.one_mul] at h
 exact h
theorem hexNum_lt60 {l : List UInt8} {k : Nat} (hk : k < 16) (hl : ∀ c ∈ l, hexB c = true) : hexNum (l.take k) < 1152921504606846976 := by
 refine Nat.lt_of_lt_of_le (hexNum_lt _ fun c hc => hl c (List.mem_of_mem_take hc)) ?_
 refine Nat.le_trans (Nat.pow_le_pow_right (by omega) (show (l.take k).length ≤ 15 by rw [List.length_take]; omega)) (by decide)
theorem number_any (s : ByteArray) (hs : s.size ≤ 16) (hx : ∀ c ∈ s.data.toList, hexB c = true) (w : World) :
  Calls Tryz.prog 91 #[.string s] w fun e w' => e = .returned (.int .u64 ((hexNum s.data.toList : Nat) : Int)) ∧ w' = w := by
 have hx2 : Hid (∀ c ∈ s.data.toList, hexB c = true) := hx
 clear hx
 go_enter Tryz.func91, Tryz.ntmps91
 go_wp2
 go_loop [3, 4, 5, 8] (fun n _ _ i => ∃ k : Nat, k ≤ s.size ∧ i = .int .i64 (k : Int) ∧ n = .int .u64 ((hexNum (s.data.toList.take k) : Nat) : Int)) (fun _ _ _ i => s.size - (intOf i).toNat)
 case atStart => exact ⟨0, by omega, rfl, rfl⟩
 case round =>
  obtain ⟨k, hk, rfl, rfl⟩ := hrel
  by_cases hks : k < s.size
  ·have hN := hexNum_lt60 (k := k) (by omega) hx2.out
   have hN' := hexNum_take s k hks
   have hc := hx2.out s[k] (List.getElem_mem (l := s.data.toList) hks)
   obtain ⟨N, hNe⟩ : ∃ N, hexNum (s.data.toList.take k) = N := ⟨_, rfl⟩
   obtain ⟨M, hMe⟩ : ∃ M, hexNum (s.data.toList.take (k + 1)) = M := ⟨_, rfl⟩
   rw [hNe] at hN hN' ⊢
   rw [hMe] at hN'
   have HM : Hid (hexNum (s.data.toList.take (k + 1)) = M) := hMe
   have hd := digit_any s[k]
   have ho := or_nib N (nib s[k]) hN (nib_lt hc)
   rw [← hN'] at ho
   by_cases hdg : digB s[k] = true
   ·have hb := (digB_iff _).1 hdg
    rw [show ((nib s[k] : Nat) : Int) = (s[k].toNat : Int) - 48 by unfold nib; rw [if_pos hdg]; omega] at ho
    rw [hdg] at hd
    clear hNe hMe hN' hdg hc
    go_wp2_with (go_at_call 51; refine (hd _).mono ?_; rintro e w1 ⟨rfl, rfl⟩)
    go_round
    case rel => exact ⟨k + 1, by omega, by go_num, by rw [HM.out]⟩
    case measure => simp [intOf]; omega
   ·have hdf : digB s[k] = false := by simpa using hdg
    have hb : 97 ≤ s[k].toNat ∧ s[k].toNat ≤ 102 := by simpa [hexB, hdf] using hc
    rw [show ((nib s[k] : Nat) : Int) = (s[k].toNat : Int) - 97 + 10 by unfold nib; rw [if_neg hdg]; omega] at ho
    rw [hdf] at hd
    clear hNe hMe hN' hdg hdf hc
    go_wp2_with (go_at_call 51; refine (hd _).mono ?_; rintro e w1 ⟨rfl, rfl⟩)
    go_round
    case rel => exact ⟨k + 1, by omega, by go_num, by rw [HM.out]⟩
    case measure => simp [intOf]; omega
  ·obtain rfl : k = s.size := by omega
   have hd : s.data.toList.length = s.size := rfl
   rw [List.take_of_length_le (by omega)]
   go_wp2
   go_ret
   exact ⟨rfl, rfl⟩
abbrev Num.zBox : Obj := .cells #[.int .i64 0, .string ⟨#[]⟩, .int .i64 0, .int .i64 0, .int .u64 0, .string ⟨#[]⟩, .int .i64 0] 48
theorem cells7 {W : World} {b : Nat} {c0 c1 c2 c3 c4 c5 c6 : Value} {t : TypeId} (h : W.heap[b]? = some (.cells #[c0, c1, c2, c3, c4, c5, c6] t (0, 0))) :
  W.cell? ⟨b, 0, none⟩ = some c0 ∧ W.cell? ⟨b, 1, none⟩ = some c1 ∧ W.cell? ⟨b, 2, none⟩ = some c2 ∧ W.cell? ⟨b, 3, none⟩ = some c3 ∧ W.cell? ⟨b, 4, none⟩ = some c4 ∧ W.cell? ⟨b, 5, none⟩ = some c5 ∧ W.cell? ⟨b, 6, none⟩ = some c6 := by
 refine ⟨?_, ?_, ?_, ?_, ?_, ?_, ?_⟩ <;> simp [World.cell?, h]
theorem free7 {W : World} {b : Nat} {c0 c1 c2 c3 c4 c5 c6 : Value} {t : TypeId} (h : W.heap[b]? = some (.cells #[c0, c1, c2, c3, c4, c5, c6] t (0, 0))) :
  W.frozen? ⟨b, 0, none⟩ = false ∧ W.frozen? ⟨b, 1, none⟩ = false ∧ W.frozen? ⟨b, 2, none⟩ = false ∧ W.frozen? ⟨b, 3, none⟩ = false ∧ W.frozen? ⟨b, 4, none⟩ = false ∧ W.frozen? ⟨b, 5, none⟩ = false ∧ W.frozen? ⟨b, 6, none⟩ = false := by
 refine ⟨?_, ?_, ?_, ?_, ?_, ?_, ?_⟩ <;> simp [World.frozen?, h]
theorem heap_next {W W' : World} {b : Nat} {o : Obj} (h : W.heap[b]? = some o) (hb : Below W.heap.size W W') : W'.heap[b]? = some o :=
 (hb.block b (Array.getElem?_eq_some_iff.1 h).1).trans h
theorem heap_alloc {W : World} {b : Nat} {o : Obj} (h : W.heap[b]? = some o) (x : Obj) : (W.alloc x).heap[b]? = some o := heap_next h ((Below.refl _ W).alloc (Nat.le_refl _) x)
theorem box_cells4 {W : World} {b : Nat} {c0 c1 c2 c3 : Value} {t : TypeId} (h : W.heap[b]? = some (.cells #[c0, c1, c2, c3] t (0, 0))) :
  W.cell? ⟨b, 0, none⟩ = some c0 ∧ W.cell? ⟨b, 1, none⟩ = some c1 ∧ W.cell? ⟨b, 2, none⟩ = some c2 ∧ W.cell? ⟨b, 3, none⟩ = some c3 := by
 refine ⟨?_, ?_, ?_, ?_⟩ <;> simp [World.cell?, h]
theorem heap_new1 (W : World) (o x : Obj) : ((W.alloc o).alloc x).heap[W.heap.size + 1]? = some x := by
 have := heap_alloc_new (W.alloc o) x
 rw [World.size_alloc] at this
 exact this
theorem below_box2 {w w' : World} {o x : Obj} (h : Below ((w.alloc o).alloc x).heap.size ((w.alloc o).alloc x) w') : Below w.heap.size w w' :=
 (((Below.refl _ w).alloc (Nat.le_refl _) o).alloc (by simp) x).trans (h.mono (by simp; omega))
theorem below_set7 {B b : Nat} {w wr : World} (h : Below B w wr) (hB : B ≤ b) (c0 c1 c2 c3 c4 c5 c6 : Value) :
  Below B w (((((((wr.setCell ⟨b, 0, none⟩ c0).setCell ⟨b, 1, none⟩ c1).setCell ⟨b, 2, none⟩ c2).setCell ⟨b, 3, none⟩ c3).setCell ⟨b, 4, none⟩ c4).setCell ⟨b, 5, none⟩ c5).setCell ⟨b, 6, none⟩ c6) :=
 ((((((h.setCell hB c0).setCell hB c1).setCell hB c2).setCell hB c3).setCell hB c4).setCell hB c5).setCell hB c6
theorem valued_yes (t : ByteArray) (v : Val) (hv : v.may = true) (w : World) :
  Calls Tryz.prog 92 #[.string t, v.v] w fun e w' => e = .returned (.tuple #[tokV 3 t v 0, .bool true]) ∧ Below w.heap.size w w' := by
 obtain ⟨k, n, f, s⟩ := v
 have hm := may_any k n f s
 rw [show may k n f s = true from hv] at hm
 clear hv
 unfold Val.v
 go_enter Tryz.func92, Tryz.ntmps92
 go_wp2_with (go_at_call 112; refine (hm _).mono ?_; rintro e w1 ⟨rfl, hb1⟩; obtain ⟨b0, b1, b2, b3⟩ := box_cells4 (heap_next (heap_alloc (heap_alloc_new _ _) _) hb1); obtain ⟨q0, q1, q2, q3, q4, q5, q6⟩ := cells7 (heap_next (heap_new1 _ _ _) hb1); obtain ⟨z0, z1, z2, z3, z4, z5, z6⟩ := free7 (heap_next (heap_new1 _ _ _) hb1))
 refine bodyPost_ret (v := .tuple #[tokV 3 t ⟨k, n, f, s⟩ 0, .bool true]) (by simp [results, Tryz.results92, go_sem, tokV, q0, q1, q2, q3, q4, q5, q6]) rfl ⟨rfl, ?_⟩
 exact below_set7 (below_box2 hb1) (by omega) _ _ _ _ _ _ _
theorem valued_no (t : ByteArray) (v : Val) (hv : v.may = false) (w : World) :
  Calls Tryz.prog 92 #[.string t, v.v] w fun e w' => e = .returned (.tuple #[tokV 0 ⟨#[]⟩ noV 0, .bool false]) ∧ Below w.heap.size w w' := by
 obtain ⟨k, n, f, s⟩ := v
 have hm := may_any k n f s
 rw [show may k n f s = false from hv] at hm
 clear hv
 unfold Val.v
 go_enter Tryz.func92, Tryz.ntmps92
 go_wp2_with (go_at_call 112; refine (hm _).mono ?_; rintro e w1 ⟨rfl, hb1⟩; obtain ⟨q0, q1, q2, q3, q4, q5, q6⟩ := cells7 (heap_next (heap_new1 _ _ _) hb1); obtain ⟨z0, z1, z2, z3, z4, z5, z6⟩ := free7 (heap_next (heap_new1 _ _ _) hb1))
 refine bodyPost_ret (v := .tuple #[tokV 0 ⟨#[]⟩ noV 0, .bool false]) (by simp [results, Tryz.results92, go_sem, tokV, noV, q0, q1, q2, q3, q4, q5, q6]) rfl ⟨rfl, ?_⟩
 exact below_set7 (below_box2 hb1) (by omega) _ _ _ _ _ _ _
end Go.Proofs.YtiajlhjjmlakmaaGreatDoor
