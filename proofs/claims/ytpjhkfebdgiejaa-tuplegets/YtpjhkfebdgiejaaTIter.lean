/-
  Contracts: the iterator over the values that bytes begin with.
-/
import Derived.Test.YtpjhkfebdgiejaaTPut
import Derived.Test.YtpjhkfebdgiejaaTSeqM
import Derived.Test.YtpjhkfebdgiejaaVGet5
import Derived.RangeFuncNested
import Derived.RangeFuncBound
import Derived.RangeFuncCalls
import Derived.RangeFuncLeaves
import Derived.Shelf.Abstract
import Derived.Shelf.RegionOpen
import Derived.OwnWalkIn
import Derived.TacticsInMore
import Derived.LoopNIn
import Derived.LoopIn
namespace Go.Proofs.Ytpjhkfebdgiejaa
open Go.RowKit Go.Shelf Num
set_option linter.unusedVariables false
attribute [local go_sem] Oper.semAt_some

/-- What is handed to a round. -/
abbrev Num.encs (x : Val × Int) : Array Value := #[.agg #[.int .i64 x.1.k, .int .i64 x.1.n, .int .u64 (x.1.f : Int), .string x.1.s], .int .i64 x.2]
/-- How long a text in a slot is. -/
def Num.lenOf : Value → Nat
  | .string s => s.size
  | _ => 0
theorem grown_of_below {w w' : World} (h : Below w.heap.size w w') : w.grownBy w' none := ⟨h.os, h.tape, h.output, h.size, fun k hk _ => h.block k hk⟩
theorem seqN_stop {x : List UInt8} {m : Nat} (hx : ¬ x = []) (he : ¬ (getL x).e = 0) : seqN (m + 1) x = [item (getL x)] := by
  rw [seqN, if_neg hx, if_neg he]
theorem seqN_go {x : List UInt8} {m : Nat} (hx : ¬ x = []) (he : (getL x).e = 0) : seqN (m + 1) x = item (getL x) :: seqN m (x.drop (getL x).c.toNat) := by
  rw [seqN, if_neg hx, if_pos he]
theorem drop_data (s : ByteArray) (k : Nat) : (s.extract k s.size).data.toList = s.data.toList.drop k := by
  rw [Go.Lib.extract_data]
  have : s.data.toList.length = s.size := rfl
  rw [List.take_of_length_le]
  rw [List.length_drop]
  omega

theorem values_stops (n : Nat) (hn : 1 ≤ n) (Bn : Nat) (s : ByteArray) (hs : s.size ≤ 900000) (w : World) (hBn : Bn < w.heap.size) (hc : w.cell? ⟨Bn, 0, none⟩ = some (.string s)) :
    SeqStopsK Fence.wide n Try.prog 32 #[.pointer (some ⟨Bn, 0, none⟩)] encs (fun _ _ => True) (fun ys => ys = seqN s.size s.data.toList) (fun pre => pre <+: seqN s.size s.data.toList) s.size w := fun l J Jx W hW hJ hJx hY h0 => by
  have hcW := (hW.cell (p := ⟨Bn, 0, none⟩) hBn).trans hc
  refine callsIn_of_wp Try.func32 rfl trivial ?_ rfl
  simp only [Try.ntmps32, List.size_toArray, List.length_cons, List.length_nil, Nat.reduceAdd, Nat.reduceSub, Array.replicate_succ, Array.replicate_zero, List.push_toArray, List.append_toArray, List.nil_append, List.cons_append]
  gi_wp2
  gi_loopw [3] (fun p wr => ∃ (pre : List (Val × Int)) (x : ByteArray) (m : Nat), p = .string x ∧ Hid (seqN s.size s.data.toList = pre ++ seqN m x.data.toList) ∧ Hid (x.size ≤ m ∧ pre.length + m = s.size) ∧ J pre wr)
    (fun p wr => lenOf p)
  case atStart => exact ⟨[], s, s.size, rfl, rfl, ⟨Nat.le_refl _, by simp⟩, h0⟩
  case round =>
    obtain ⟨pre, x, m, rfl, HS, HB, hJs⟩ := hrel
    by_cases hx : x.size = 0
    · have hem := empty_true hx
      have hxe : x.data.toList = [] := List.eq_nil_of_length_eq_zero hx
      gi_wp2
      go_end0
      refine ⟨⟨_, rfl⟩, .inl ⟨pre, ?_, hJs⟩⟩
      rw [HS.out, hxe]
      cases m <;> simp [seqN]
    · have hem := empty_false hx
      have hxe : ¬ x.data.toList = [] := fun h => hx (by
        have : x.data.toList.length = x.size := rfl
        rw [h] at this
        simpa using this.symm)
      have hlt : pre.length < s.size := by have := HB.out; omega
      obtain ⟨m, rfl⟩ : ∃ q, m = q + 1 := ⟨m - 1, by have := HB.out; omega⟩
      have hg := get_any x (by have := HB.out; omega)
      obtain ⟨r, hr⟩ : ∃ r, getL x.data.toList = r := ⟨_, rfl⟩
      by_cases he : r.e = 0
      · have HS2 : Hid (seqN s.size s.data.toList = (pre ++ [item r]) ++ seqN m (x.data.toList.drop r.c.toNat)) := by
          unfold Hid
          rw [HS.out, seqN_go hxe (by rw [hr]; exact he), hr]
          simp
        have hcb := getL_c x.data.toList (by rw [hr]; exact he)
        have hlx : x.data.toList.length = x.size := rfl
        rw [hr] at hcb hg
        clear HS hr
        obtain ⟨rk, rn, rf, rs, rc, re⟩ := r
        rw [resV_eq] at hg
        simp only at he hcb hg
        subst he
        obtain ⟨c, rfl⟩ := Int.eq_ofNat_of_zero_le (show 0 ≤ rc by omega)
        gi_wp2_with (first
          | (refine ⟨trivial, ?_⟩; gi_at_call 33; refine (callsIn_wide.2 (hg _)).mono ?_; rintro e w1 ⟨rfl, hb1⟩; obtain ⟨fn, tmps, asg, bdy, hy, hR⟩ := hY pre (⟨rk, rn, rf, str rs⟩, 0) (w1.alloc (.cells #[.int .i64 rk, .int .i64 rn, .int .u64 (rf : Int), .string (str rs)] 38)) (hJ _ _ _ none (hJ _ _ _ none hJs (grown_of_below hb1) (by simp)) (World.grownBy_alloc _ _ none) (by simp)) hlt; dsimp only [encs] at hy))
        refine hR.mono ?_
        rintro e W3 (⟨rfl, hJ3, _⟩ | ⟨rfl, hJx3⟩)
        · gi_wp2
          go_roundw
          case rel =>
            refine ⟨pre ++ [(⟨rk, rn, rf, str rs⟩, 0)], x.extract c x.size, m, rfl, ?_, ?_, hJ3⟩
            · unfold Hid
              rw [drop_data]
              exact HS2.out
            · have := HB.out
              unfold Hid
              simp
              omega
          case measure =>
            simp [lenOf]
            omega
        · gi_wp2
          refine bodyPost_ret (results_none rfl _ _ _) rfl ?_
          exact ⟨⟨_, rfl⟩, .inr ⟨_, ⟨seqN m (x.data.toList.drop c), HS2.out.symm⟩, hJx3⟩⟩
      · have HS2 : Hid (seqN s.size s.data.toList = pre ++ [item r]) := by
          unfold Hid
          rw [HS.out, seqN_stop hxe (by rw [hr]; exact he), hr]
        rw [hr] at hg
        clear HS hr
        obtain ⟨rk, rn, rf, rs, rc, re⟩ := r
        rw [resV_eq] at hg
        simp only at he hg
        gi_wp2_with (first
          | (refine ⟨trivial, ?_⟩; gi_at_call 33; refine (callsIn_wide.2 (hg _)).mono ?_; rintro e w1 ⟨rfl, hb1⟩; obtain ⟨fn, tmps, asg, bdy, hy, hR⟩ := hY pre (⟨rk, rn, rf, str rs⟩, re) (w1.alloc (.cells #[.int .i64 rk, .int .i64 rn, .int .u64 (rf : Int), .string (str rs)] 38)) (hJ _ _ _ none (hJ _ _ _ none hJs (grown_of_below hb1) (by simp)) (World.grownBy_alloc _ _ none) (by simp)) hlt; dsimp only [encs] at hy))
        refine hR.mono ?_
        rintro e W3 (⟨rfl, hJ3, _⟩ | ⟨rfl, hJx3⟩)
        · gi_wp2
          refine bodyPost_ret (results_none rfl _ _ _) rfl ?_
          exact ⟨⟨_, rfl⟩, .inl ⟨_, HS2.out.symm, hJ3⟩⟩
        · gi_wp2
          refine bodyPost_ret (results_none rfl _ _ _) rfl ?_
          exact ⟨⟨_, rfl⟩, .inr ⟨_, ⟨[], by rw [List.append_nil]; exact HS2.out.symm⟩, hJx3⟩⟩

/-- The iterator's value: the text in a box, captured. -/
theorem values_any (s : ByteArray) (w : World) :
    Calls Try.prog 22 #[.string s] w fun e w' => e = .returned (.func (.func 32) #[] #[.pointer (some ⟨w.heap.size, 0, none⟩)]) ∧ w' = w.alloc (.cells #[.string s] 9) := by
  go_enter Try.func22, Try.ntmps22
  go_wp2
  go_ret
  exact ⟨rfl, rfl⟩
end Go.Proofs.Ytpjhkfebdgiejaa
