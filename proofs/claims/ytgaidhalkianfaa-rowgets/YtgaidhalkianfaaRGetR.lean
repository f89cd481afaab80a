/-
  Contracts: the cells of bytes, or that they are refused: of the document's own.
-/
import Derived.Test.YtgaidhalkianfaaRGet
namespace Go.Proofs.Ytgaidhalkianfaa
open Go.RowKit Num
set_option linter.unusedVariables false

theorem meas2 {S k c : Nat} (hk : k < S) : S - ((k : Int) + 2 + (c : Int)).toNat < S - k := by omega
theorem nb3 {α : Type} {k S m d : Nat} {q : List α} {y : α} (h1 : k ≤ S ∧ S - k ≤ m + 1 ∧ q.length + (m + 1) = S) (h2 : k + 2 + d ≤ S ∧ 1 ≤ d) : k + 2 + d ≤ S ∧ S - (k + 2 + d) ≤ m ∧ (q ++ [y]).length + m = S := by
  rw [List.length_append, List.length_singleton]
  omega
theorem wrap_one (k j : Nat) (h : k + 1 = j) (hf : j ≤ 900000) : IntKind.i64.wrap ((k : Int) + 1) = (j : Int) ∧ wrap64 ((k : Int) + 1) = (j : Int) := by
  constructor
  · rw [IntKind.wrap_i64]
    omega
  · unfold wrap64
    omega
theorem bnd2 {S k : Nat} (h : ¬ S - k < 3) : (k : Int) + 2 ≤ (S : Int) := by omega
theorem bnd3 {S k d : Nat} (hs : S ≤ 900000) (h : ¬ S - k < 3) (hd : (d : Int) ≤ ((S - (k + 2) : Nat) : Int)) : (k : Int) + 2 + (d : Int) ≤ 900000 := by omega
theorem bnd4 {S k d : Nat} (h : ¬ S - k < 3) (hd : 1 ≤ (d : Int) ∧ (d : Int) ≤ ((S - (k + 2) : Nat) : Int)) : k + 2 + d ≤ S ∧ 1 ≤ d := by omega
theorem bnd5 {S k m n : Nat} (hs : S ≤ 900000) (h : k ≤ S ∧ S - k ≤ m + 1 ∧ n + (m + 1) = S) : n ≤ 900000 := by omega
theorem ext_le (s : ByteArray) (k : Nat) (hs : s.size ≤ 900000) : (s.extract k s.size).size ≤ 900000 := by
  rw [ByteArray.size_extract]
  omega
theorem rest_three {s : ByteArray} {k : Nat} (h : 3 ≤ s.size - k) : s.data.toList.drop k = s[k]'(by omega) :: s[k + 1]'(by omega) :: s.data.toList.drop (k + 2) := by
  have hl : s.data.toList.length = s.size := rfl
  rw [List.drop_eq_getElem_cons (by omega), List.drop_eq_getElem_cons (by omega)]
  rfl
theorem rest_short {s : ByteArray} {k N : Nat} {z : Int} (hk : k < s.size) (h : s.size - k < 3) : rowN (N + 1) z (s.data.toList.drop k) = none := by
  have hl : s.data.toList.length = s.size := rfl
  match e : s.data.toList.drop k with
  | [] =>
    have := congrArg List.length e
    rw [List.length_drop] at this
    simp at this
    omega
  | [a] => rfl
  | [a, b] => exact rowN_bad (.inl (by decide))
  | a :: b :: c :: r =>
    have := congrArg List.length e
    rw [List.length_drop] at this
    simp at this
    omega

set_option maxHeartbeats 2000000 in
theorem refRowGet_any (s : ByteArray) (hs : s.size ≤ 900000) (w : World) :
    Calls Try.prog 15 #[.string s] w fun e w' => getPostC w.heap.size (rowL s.data.toList) e w' ∧ Below w.heap.size w w' := by
  obtain ⟨i0, hi, hz0, hz1, hz2⟩ := info_parts Try.infoCel
  have hlx : s.data.toList.length = s.size := rfl
  go_enter Try.func15, Try.ntmps15
  go_wp2
  go_loopw [4, 5, 6] (fun v la i wr => ∃ (q : List Cel) (k m z : Nat), la = .int .i64 (z : Int) ∧ i = .int .i64 (k : Int) ∧ Hid (k ≤ s.size ∧ s.size - k ≤ m ∧ q.length + m = s.size) ∧ Hid (rowL s.data.toList = (rowN m z (s.data.toList.drop k)).map (q ++ ·)) ∧ wr.ownsRow w.heap.size 41 5 v q.length (celCells q) ∧ Below w.heap.size w wr) (fun _ _ i _ => s.size - (intOf i).toNat)
  case atStart => exact ⟨[], 0, s.size, 0, rfl, rfl, ⟨by omega, by omega, by simp⟩, by unfold Hid rowL; simp, World.ownsRow_nil _ _ _ _, Below.refl _ _⟩
  case round =>
    obtain ⟨q, k, m, z, rfl, rfl, HB, HS, hrow, hbel⟩ := hrel
    obtain ⟨ao, cap, rfl⟩ := rowC_shape hrow
    have hsz := hbel.size
    by_cases hk : k < s.size
    · obtain ⟨m, rfl⟩ : ∃ p, m = p + 1 := ⟨m - 1, by have := HB.out; omega⟩
      by_cases h3 : s.size - k < 3
      · have hval : rowL s.data.toList = none := by rw [HS.out, rest_short hk h3]; rfl
        have hsh : (s.size : Int) - (k : Int) < 3 := by omega
        clear HS HB
        go_wp2
        go_ret2
        rw [hval]
        exact ⟨rfl, hbel⟩
      · have h3' : ¬ (s.size : Int) - (k : Int) < 3 := by omega
        obtain ⟨j, hj⟩ : ∃ j, k + 1 = j := ⟨_, rfl⟩
        have hjs : j < s.size := by omega
        have hji : (j : Int) < (s.size : Int) := by omega
        have hki : (k : Int) < (s.size : Int) := by omega
        obtain ⟨hjw, hjw2⟩ := wrap_one k j hj (Nat.le_of_lt (Nat.lt_of_lt_of_le hjs hs))
        have hk2 : (k : Int) + 2 ≤ (s.size : Int) := bnd2 h3
        have hg := refGet_any (s.extract (k + 2) s.size) (ext_le s (k + 2) hs)
        rw [drop_dataR] at hg
        have hrest : s.data.toList.drop k = s[k] :: s[j] :: s.data.toList.drop (k + 2) := by subst hj; exact rest_three (by omega)
        have hor := or_colW s[k] s[j]
        have hll : (s.data.toList.drop (k + 2)).length = s.size - (k + 2) := by rw [List.length_drop]; rfl
        obtain ⟨r, hr⟩ : ∃ r, getL (s.data.toList.drop (k + 2)) = r := ⟨_, rfl⟩
        rw [hr] at hg
        obtain ⟨c, hc⟩ : ∃ c, colN s[k] s[j] = c := ⟨_, rfl⟩
        rw [hc] at hor
        clear hj
        by_cases hgood : r.e = 0 ∧ (z : Int) < (c : Int)
        · obtain ⟨hge, hzc⟩ := hgood
          have HS2 : Hid (rowL s.data.toList = (rowN m c ((s.data.toList.drop (k + 2)).drop r.c.toNat)).map ((q ++ [⟨(c : Int), ⟨r.k, r.n, r.f, str r.s⟩⟩]) ++ ·)) := by
            have h := HS.out
            rw [hrest, rowN_go (by rw [hr]; exact hge) (by rw [hc]; exact hzc), map_cons, hr, celOf, hc] at h
            exact h
          have hcb := getL_c (s.data.toList.drop (k + 2)) (by rw [hr]; exact hge)
          rw [hr, hll] at hcb
          clear HS hr hrest hll
          obtain ⟨rk, rn, rf, rs, rc, re⟩ := r
          rw [resV_eq] at hg
          simp only at hge hcb hg HS2
          subst hge
          obtain ⟨d, rfl⟩ := Int.eq_ofNat_of_zero_le (show 0 ≤ rc by omega)
          have hcz : ¬ (c : Int) ≤ (z : Int) := by omega
          have hczn : ¬ c ≤ z := by omega
          have hql : q.length ≤ 900000 := bnd5 hs HB.out
          have hkd : (k : Int) + 2 + (d : Int) ≤ 900000 := bnd3 hs h3 hcb.2
          have HC : Hid (k + 2 + d ≤ s.size ∧ 1 ≤ d) := bnd4 h3 hcb
          clear hcb
          go_wp2
          go_region
          go_wp2_with (first
            | (go_at_call 28; refine (hg _).mono ?_; rintro e w1 ⟨rfl, hb1⟩; have hrow1 := own_below hrow.drew hb1; have hs1 : wr.heap.size ≤ w1.heap.size := hb1.size)
            | (at_builtin; refine wpList_append_own _ rfl _ _ 22 rfl w.heap.size 41 i0 _ 5 48 Try.underlying22 hi hz0 hz1 hz2 rfl (by decide) _ _ _ rfl ((hrow1.alloc _).alloc _) ⟨w1.heap.size + 1, 0, none⟩ 1 1 [.int .i64 (c : Int), .int .i64 rk, .int .i64 rn, .int .u64 (rf : Int), .string (str rs)] rfl rfl (five_new2 _ _ ⟨(c : Int), ⟨rk, rn, rf, str rs⟩⟩ _) (by simp [Value.oneCell']) (by unfold maxLen; omega) (by omega) (by simp; omega) ?_; intro v' w3 hown3 hgrow3 _))
          have hb3 : Below w.heap.size w w3 := by
            have h1 := below_next hbel.drew (Nat.le_refl _) hb1
            have h2 := (h1.alloc h1.size (.cells #[.int .i64 rk, .int .i64 rn, .int .u64 (rf : Int), .string (str rs)] 39))
            have h3 := (h2.alloc h2.size (.cells #[.int .i64 (c : Int), .int .i64 rk, .int .i64 rn, .int .u64 (rf : Int), .string (str rs)] 41))
            exact h3.grown hgrow3 h3.size (fun j e => (hrow.lt j e).1)
          go_roundw
          case rel =>
            refine ⟨q ++ [⟨(c : Int), ⟨rk, rn, rf, str rs⟩⟩], k + 2 + d, m, c, rfl, by go_num, ?_, ?_, ?_, hb3⟩
            · exact nb3 HB.out HC.out
            · have h := HS2.out
              rw [Int.toNat_natCast, List.drop_drop] at h
              exact h
            · rw [celCells_snoc, List.length_append]
              exact hown3
          case measure =>
            have hm := meas2 (c := d) hk
            simp only [intOf]
            simpa using hm
        · have hval : rowL s.data.toList = none := by
            have h := HS.out
            rw [hrest, rowN_bad (by rw [hr, hc]; exact not_both hgood)] at h
            exact h
          have hcase := bad_case hgood
          clear HS HB hr hrest hgood hll
          obtain ⟨rk, rn, rf, rs, rc, re⟩ := r
          rw [resV_eq] at hg
          simp only at hcase hg
          have hbad : ¬ re = 0 ∨ (re = 0 ∧ (c : Int) ≤ (z : Int) ∧ c ≤ z) := by
            by_cases h : re = 0
            · rcases hcase with h1 | h1
              · exact .inr ⟨h, h1⟩
              · exact absurd h h1.2
            · exact .inl h
          clear hcase
          rcases hbad with hne | ⟨rfl, hcz, hczn⟩
          all_goals
            go_wp2
            go_region
            go_wp2_with (first
              | (go_at_call 28; refine (hg _).mono ?_; rintro e w1 ⟨rfl, hb1⟩; have hs1 : wr.heap.size ≤ w1.heap.size := hb1.size))
            go_ret2
            rw [hval]
            exact ⟨rfl, (below_next hbel.drew (Nat.le_refl _) hb1).alloc (Nat.le_trans hsz hs1) _⟩
    · have hke : k = s.size := by have := HB.out; omega
      have hval : rowL s.data.toList = some q := by
        rw [HS.out, hke, List.drop_of_length_le (by rw [hlx]; exact Nat.le_refl _), row_nil]
        simp
      clear HS HB
      go_wp2
      go_ret2
      rw [hval]
      exact ⟨⟨_, rfl, hrow⟩, hbel⟩
end Go.Proofs.Ytgaidhalkianfaa
