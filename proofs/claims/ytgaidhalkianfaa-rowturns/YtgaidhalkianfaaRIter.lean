/-
  Contracts: slices.Backward over cells: each with its place, from behind.
-/
import Derived.Test.YtgaidhalkianfaaRCol
import Derived.RangeFuncNested
import Derived.RangeFuncBound
import Derived.RangeFuncCalls
import Derived.RangeFuncLeaves
import Derived.Shelf.Abstract
import Derived.Shelf.RegionOpen
import Derived.OwnWalkIn
import Derived.TacticsInMore
import Derived.LoopNIn
import Derived.LoopIn
namespace Go.Proofs.Ytgaidhalkianfaa
open Go.RowKit Go.Shelf Num
set_option linter.unusedVariables false
attribute [local go_sem] Oper.semAt_some

/-- A cell with its place. -/
def Num.ixC (l : List Cel) (x : Fin l.length) : Int × Cel := ((x.val : Int), l[x.val]'x.isLt)
abbrev Num.encF (l : List Cel) (x : Fin l.length) : Array Value := #[.int .i64 (x.val : Int), .agg #[.int .i64 (l[x.val]'x.isLt).c, .int .i64 (l[x.val]'x.isLt).x.k, .int .i64 (l[x.val]'x.isLt).x.n, .int .u64 ((l[x.val]'x.isLt).x.f : Int), .string (l[x.val]'x.isLt).x.s]]
/-- What lay there below N lies there still. -/
def Num.Stays (N : Nat) (W W' : World) : Prop := ∀ p v, p.block < N → W.cell? p = some v → W'.cell? p = some v
theorem Num.Stays.trans {N : Nat} {A B C : World} (h : Stays N A B) (k : Stays N B C) : Stays N A C := fun p v hp hv => k p v hp (h p v hp hv)
theorem celAt_stays {N : Nat} {W W' : World} {p : Addr} {y : Cel} (h : CelAt W p y) (hp : p.block < N) (hs : Stays N W W') : CelAt W' p y :=
  ⟨hs _ _ hp h.1, hs ⟨p.block, p.off + 1, none⟩ _ hp h.2.1, hs ⟨p.block, p.off + 2, none⟩ _ hp h.2.2.1, hs ⟨p.block, p.off + 3, none⟩ _ hp h.2.2.2.1, hs ⟨p.block, p.off + 4, none⟩ _ hp h.2.2.2.2⟩

set_option maxHeartbeats 1000000 in
theorem back_stops (n : Nat) (hn : 1 ≤ n) (Bn : Nat) (ao : Option Addr) (cap : Nat) (l : List Cel) (h500 : l.length ≤ 1000) (w : World) (hBn : Bn < w.heap.size) (hc : w.cell? ⟨Bn, 0, none⟩ = some (.slice ao l.length cap)) (hl : LiesC w w.heap.size ao l) :
    SeqStopsK Fence.wide n Try.prog 47 #[.pointer (some ⟨Bn, 0, none⟩)] (encF l) (Stays w.heap.size) (fun ys => ys.map (ixC l) = revIx 0 l) (fun _ => True) l.length w := fun L J Jx W hW hJ hJx hY h0 => by
  have hcW := (hW.cell (p := ⟨Bn, 0, none⟩) hBn).trans hc
  have hlW : LiesC W w.heap.size ao l := hl.below hW
  refine callsIn_of_wp Try.func47 rfl trivial ?_ rfl
  simp only [Try.ntmps47, List.size_toArray, List.length_cons, List.length_nil, Nat.reduceAdd, Nat.reduceSub, Array.replicate_succ, Array.replicate_zero, List.push_toArray, List.append_toArray, List.nil_append, List.cons_append]
  gi_wp2
  gi_loopw [3] (fun i wr => ∃ (m : Nat) (pre : List (Fin l.length)), i = .int .i64 ((m : Int) - 1) ∧ m ≤ l.length ∧ Stays w.heap.size W wr ∧ Hid (pre.map (ixC l) = revIx m (l.drop m)) ∧ J pre wr)
    (fun i wr => (intOf i + 1).toNat)
  case atStart => exact ⟨l.length, [], rfl, Nat.le_refl _, fun _ _ _ h => h, by unfold Hid; rw [List.drop_length]; rfl, h0⟩
  case round =>
    obtain ⟨m, pre, rfl, hm, hst, HP, hJm⟩ := hrel
    have hcB := hst _ _ (show (⟨Bn, 0, none⟩ : Addr).block < w.heap.size from hBn) hcW
    by_cases hm0 : m = 0
    · subst hm0
      gi_wp2
      go_end0
      exact ⟨⟨_, rfl⟩, .inl ⟨_, HP.out, hJm⟩⟩
    · obtain ⟨j, rfl⟩ : ∃ j, m = j + 1 := ⟨m - 1, by omega⟩
      have hjl : j < l.length := by omega
      have hej : (((j + 1 : Nat) : Int) - 1) = (j : Int) := by omega
      rw [hej]
      obtain ⟨a, rfl, hblk, hcel⟩ := hlW j l[j] (List.getElem?_eq_getElem hjl)
      obtain ⟨c0, c1, c2, c3, c4⟩ := celAt_stays hcel (by rw [Addr.block_add]; exact hblk) hst
      have hrx := revIx_drop l j hjl
      have hlt : pre.length < l.length := by
        have h := congrArg List.length HP.out
        rw [List.length_map, revIx_len, List.length_drop] at h
        omega
      obtain ⟨fn, tmps, asg, bdy, hy, hR⟩ := hY pre ⟨j, hjl⟩ wr hJm hlt
      dsimp only [encF] at hy
      clear hm0 hej
      gi_wp2
      refine hR.mono ?_
      rintro e W3 (⟨rfl, hJ3, hK3⟩ | ⟨rfl, hJx3⟩)
      · gi_wp2
        go_roundw
        case rel => exact ⟨j, pre ++ [⟨j, hjl⟩], by go_num, by omega, hst.trans hK3, by unfold Hid; rw [List.map_append, HP.out, hrx]; rfl, hJ3⟩
        case measure => simp [intOf]
      · gi_wp2
        refine bodyPost_ret (results_none rfl _ _ _) rfl ?_
        exact ⟨⟨_, rfl⟩, .inr ⟨_, trivial, hJx3⟩⟩
/-- The iterator's value: the slice in a box, captured. -/
theorem backward_any (ao : Option Addr) (n cap : Nat) (w : World) :
    Calls Try.prog 29 #[.slice ao n cap] w fun e w' => e = .returned (.func (.func 47) #[] #[.pointer (some ⟨w.heap.size, 0, none⟩)]) ∧ w' = w.alloc (.cells #[.slice ao n cap] 22) := by
  go_enter Try.func29, Try.ntmps29
  go_wp2
  go_ret
  exact ⟨rfl, rfl⟩
end Go.Proofs.Ytgaidhalkianfaa
