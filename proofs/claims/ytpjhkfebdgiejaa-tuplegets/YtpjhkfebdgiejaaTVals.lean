/-
  Contracts: the values of bytes, or that they are refused: of the document's own.
-/
import Derived.Test.YtpjhkfebdgiejaaTGet
namespace Go.Proofs.Ytpjhkfebdgiejaa
open Go.RowKit Num
set_option linter.unusedVariables false

theorem seq_end {s : List UInt8} {q : List (Val × Int)} {m k : Nat} (h : seqN s.length s = q ++ seqN m (s.drop k)) (hk : s.length ≤ k) : seqN s.length s = q := by
  rw [h, List.drop_eq_nil_of_le hk]
  cases m <;> simp [seqN]

theorem meas {S k c : Nat} (hk : k < S) (hc : 1 ≤ (c : Int)) : S - ((k : Int) + (c : Int)).toNat < S - k := by omega
theorem sum_le {S k c : Nat} (hS : S ≤ 900000) (hk : k < S) (hc : (c : Int) ≤ ((S - k : Nat) : Int)) : (k : Int) + (c : Int) ≤ 900000 := by
  omega
theorem next_bounds {α : Type} {S k c m : Nat} {q : List α} {x : α} (hk : k < S) (hb : k ≤ S ∧ S - k ≤ m + 1 ∧ q.length + (m + 1) = S) (hc : (c : Int) ≤ ((S - k : Nat) : Int) ∧ 1 ≤ (c : Int)) : k + c ≤ S ∧ S - (k + c) ≤ m ∧ (q ++ [x]).length + m = S := by
  rw [List.length_append, List.length_singleton]
  omega
theorem four_new2 (w : World) (o : Obj) (x : Val) (t : TypeId) :
    ∀ j u, [Value.int .i64 x.k, .int .i64 x.n, .int .u64 (x.f : Int), .string x.s][j]? = some u → ((w.alloc o).alloc (.cells #[.int .i64 x.k, .int .i64 x.n, .int .u64 (x.f : Int), .string x.s] t)).cell? ((⟨w.heap.size + 1, 0, none⟩ : Addr).add j) = some u := by
  intro j u hj
  have h := four_new (w.alloc o) x t j u hj
  rw [World.size_alloc] at h
  exact h

theorem refVals_any (s : ByteArray) (hs : s.size ≤ 900000) (w : World) :
    Calls Try.prog 15 #[.string s] w fun e w' => getPost w.heap.size (valsL s.data.toList) e w' ∧ Below w.heap.size w w' := by
  obtain ⟨i0, hi, hz0, hz1, hz2⟩ := info_parts Try.infoVal
  have hlx : s.data.toList.length = s.size := rfl
  go_enter Try.func15, Try.ntmps15
  go_wp2
  go_loopw [4, 5] (fun v i wr => ∃ (q : List (Val × Int)) (k m : Nat), i = .int .i64 (k : Int) ∧ Hid (k ≤ s.size ∧ s.size - k ≤ m ∧ q.length + m = s.size) ∧ Hid (seqN s.size s.data.toList = q ++ seqN m (s.data.toList.drop k)) ∧ Hid (okAll q ∧ q.length ≤ 16) ∧ wr.ownsRow w.heap.size 38 4 v q.length (valCells (q.map Prod.fst)) ∧ Below w.heap.size w wr) (fun _ i _ => s.size - (intOf i).toNat)
  case atStart => exact ⟨[], 0, s.size, rfl, ⟨by omega, by omega, by simp⟩, rfl, ⟨by simp [okAll], by simp⟩, World.ownsRow_nil _ _ _ _, Below.refl _ _⟩
  case round =>
    obtain ⟨q, k, m, rfl, HB, HS, HQ, hrow, hbel⟩ := hrel
    obtain ⟨ao, cap, rfl⟩ := row_shape hrow
    have hsz := hbel.size
    by_cases hk : k < s.size
    · have hxe : ¬ s.data.toList.drop k = [] := fun h => by
        have := congrArg List.length h
        rw [List.length_drop] at this
        simp at this
        omega
      obtain ⟨m, rfl⟩ : ∃ p, m = p + 1 := ⟨m - 1, by have := HB.out; omega⟩
      have hg := refGet_any (s.extract k s.size) (by simp; omega)
      rw [drop_data] at hg
      obtain ⟨r, hr⟩ : ∃ r, getL (s.data.toList.drop k) = r := ⟨_, rfl⟩
      rw [hr] at hg
      by_cases he : r.e = 0
      · have HS2 : Hid (seqN s.size s.data.toList = (q ++ [item r]) ++ seqN m ((s.data.toList.drop k).drop r.c.toNat)) := by
          unfold Hid
          rw [HS.out, seqN_go hxe (by rw [hr]; exact he), hr]
          simp
        have hcb := getL_c (s.data.toList.drop k) (by rw [hr]; exact he)
        rw [hr, List.length_drop, hlx] at hcb
        clear HS hr
        obtain ⟨rk, rn, rf, rs, rc, re⟩ := r
        rw [resV_eq] at hg
        simp only at he hcb hg
        subst he
        obtain ⟨c, rfl⟩ := Int.eq_ofNat_of_zero_le (show 0 ≤ rc by omega)
        by_cases hfull : q.length = 16
        · have hval : valsL s.data.toList = none := vals_bad (q := q ++ [item ⟨rk, rn, rf, rs, (c : Int), 0⟩]) ⟨_, HS2.out.symm⟩ ⟨q, _, rfl, .inr hfull⟩
          have hfi : ((q.length : Nat) : Int) = 16 := by omega
          clear HS2 HB HQ hfull
          go_wp2_with (first
            | (go_at_call 23; refine (hg _).mono ?_; rintro e w1 ⟨rfl, hb1⟩))
          go_ret2
          rw [hval]
          exact ⟨rfl, (below_next hbel (Nat.le_refl _) hb1).alloc (Nat.le_trans hsz hb1.size) _⟩
        · have hfi : ¬ ((q.length : Nat) : Int) = 16 := by omega
          have hql : q.length ≤ 16 := HQ.out.2
          have HC : Hid ((c : Int) ≤ ((s.size - k : Nat) : Int) ∧ 1 ≤ (c : Int)) := ⟨hcb.2, hcb.1⟩
          have HA : Hid (okAll (q ++ [item ⟨rk, rn, rf, rs, (c : Int), 0⟩])) := by
            intro y hy
            rcases List.mem_append.1 hy with hy | hy
            · exact HQ.out.1 y hy
            · rw [List.mem_singleton.1 hy]
              rfl
          have hkc : (k : Int) + (c : Int) ≤ 900000 := sum_le hs hk HC.out.1
          clear HQ hcb hfull
          go_wp2_with (first
            | (go_at_call 23; refine (hg _).mono ?_; rintro e w1 ⟨rfl, hb1⟩)
            | (at_builtin; refine wpList_append_own _ rfl _ _ 22 rfl w.heap.size 38 i0 _ 4 40 Try.underlying22 hi hz0 hz1 hz2 rfl (by decide) _ _ _ rfl (((own_below hrow hb1).alloc _).alloc _) ⟨w1.heap.size + 1, 0, none⟩ 1 1 [.int .i64 rk, .int .i64 rn, .int .u64 (rf : Int), .string (str rs)] rfl rfl (four_new2 _ _ ⟨rk, rn, rf, str rs⟩ _) (by simp [Value.oneCell']) (by unfold maxLen; omega) (by omega) (by have := hb1.size; simp; omega) ?_; intro v3 w3 hown3 hgrow3 _))
          have hb3 : Below w.heap.size w w3 := by
            have h1 := below_next hbel (Nat.le_refl _) hb1
            have h2 := (h1.alloc h1.size (.cells #[.int .i64 rk, .int .i64 rn, .int .u64 (rf : Int), .string (str rs)] 38))
            have h3 := (h2.alloc h2.size (.cells #[.int .i64 rk, .int .i64 rn, .int .u64 (rf : Int), .string (str rs)] 38))
            exact h3.grown hgrow3 h3.size (fun j e => (hrow.lt j e).1)
          go_roundw
          case rel =>
            refine ⟨q ++ [item ⟨rk, rn, rf, rs, (c : Int), 0⟩], k + c, m, by go_num, ?_, ?_, ⟨HA.out, by simp; omega⟩, ?_, hb3⟩
            · exact next_bounds hk HB.out HC.out
            · unfold Hid
              rw [HS2.out, List.drop_drop]
              rfl
            · rw [List.map_append, List.map_cons, List.map_nil, List.length_append]
              show w3.ownsRow _ _ _ _ _ (valCells (q.map Prod.fst ++ [⟨rk, rn, rf, str rs⟩]))
              rw [valCells_snoc]
              exact hown3
          case measure =>
            have hm := meas hk HC.out.2
            simp only [intOf]
            simpa using hm
      · have hval : valsL s.data.toList = none := vals_bad (q := q ++ [item r]) ⟨[], by
            rw [List.append_nil]
            show _ = seqN s.size s.data.toList
            rw [HS.out, seqN_stop hxe (by rw [hr]; exact he), hr]⟩ ⟨q, _, rfl, .inl he⟩
        clear HS HB HQ hr
        obtain ⟨rk, rn, rf, rs, rc, re⟩ := r
        rw [resV_eq] at hg
        simp only at he hg
        go_wp2_with (first
          | (go_at_call 23; refine (hg _).mono ?_; rintro e w1 ⟨rfl, hb1⟩))
        go_ret2
        rw [hval]
        exact ⟨rfl, (below_next hbel (Nat.le_refl _) hb1).alloc (Nat.le_trans hsz hb1.size) _⟩
    · have hq : seqN s.size s.data.toList = q := seq_end HS.out (by rw [hlx]; omega)
      have hval : valsL s.data.toList = some (q.map Prod.fst) := by
        have h := vals_ok (s := s.data.toList) (by rw [hlx, hq]; exact HQ.out.1) (by rw [hlx, hq]; exact HQ.out.2)
        rw [hlx, hq] at h
        exact h
      clear HS HB HQ hq
      go_wp2
      go_ret2
      rw [hval]
      exact ⟨⟨_, rfl, by rw [List.length_map]; exact hrow⟩, hbel⟩
end Go.Proofs.Ytpjhkfebdgiejaa
