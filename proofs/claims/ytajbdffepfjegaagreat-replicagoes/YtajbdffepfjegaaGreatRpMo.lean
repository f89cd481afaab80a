/-
  Contracts: slices.Values, AppendSeq, Collect at numbers.
-/
import Derived.Test.YtajbdffepfjegaaGreatRpG3
import Derived.Maps.AppendAt
import Derived.RangeFuncNested
import Derived.RangeFuncBound
import Derived.RangeFuncCalls
import Derived.RangeFuncLeaves
import Derived.Shelf.Abstract
import Derived.Shelf.RegionOpen
import Derived.OwnWalkIn
import Derived.TacticsInMore
import Derived.LoopNIn
import Derived.LoopIn
namespace Go.Proofs.YtajbdffepfjegaaGreat
open Go.RowKit Go.Shelf Num
set_option linter.unusedVariables false
set_option maxRecDepth 100000
attribute [local go_sem] Oper.semAt_some

def Num.numF (l : List Int) (x : Fin l.length) : Int := l[x.val]'x.isLt
abbrev Num.encN (l : List Int) (x : Fin l.length) : Array Value := #[.int .i64 (numF l x)]
/-- What lay there below N lies there still. -/
def Num.Stays (N : Nat) (W W' : World) : Prop := ∀ p v, p.block < N → W.cell? p = some v → W'.cell? p = some v
theorem Num.Stays.trans {N : Nat} {A B C : World} (h : Stays N A B) (k : Stays N B C) : Stays N A C := fun p v hp hv => k p v hp (h p v hp hv)
theorem stays_below {N : Nat} {W W' : World} (h : Below N W W') : Stays N W W' := fun p v hp hv => (h.cell hp).trans hv
theorem stays_putObj {N : Nat} {W : World} {l : Nat} (o' : Obj) (h : N ≤ l) : Stays N W (W.putObj l o') := by
  intro p v hp hv
  have hb : (W.putObj l o').heap[p.block]? = W.heap[p.block]? := (grownBy_putObj' W l o').block p.block (by
    rcases Nat.lt_or_ge p.block W.heap.size with h' | h'
    · exact h'
    · simp [World.cell?, Array.getElem?_eq_none h'] at hv) (fun e => by cases e; omega)
  rw [World.cell?_of_block hb]
  exact hv
set_option maxHeartbeats 1000000 in
theorem ints_stops (n : Nat) (hn : 1 ≤ n) (Bn : Nat) (ao : Option Addr) (cap : Nat) (l : List Int) (h500 : l.length ≤ 1000) (w : World) (hBn : Bn < w.heap.size) (hc : w.cell? ⟨Bn, 0, none⟩ = some (.slice ao l.length cap)) (hl : LiesN w w.heap.size ao l) :
    SeqStopsK Fence.wide n Tryz.prog 103 #[.pointer (some ⟨Bn, 0, none⟩)] (encN l) (Stays w.heap.size) (fun ys => ys.map (numF l) = l) (fun _ => True) l.length w := fun L J Jx W hW hJ hJx hY h0 => by
  have hcW := (hW.cell (p := ⟨Bn, 0, none⟩) hBn).trans hc
  have hlW : LiesN W w.heap.size ao l := liesN_wide hl hW (Nat.le_refl _)
  refine callsIn_of_wp Tryz.func103 rfl trivial ?_ rfl
  simp only [Tryz.ntmps103, List.size_toArray, List.length_cons, List.length_nil, Nat.reduceAdd, Nat.reduceSub, Array.replicate_succ, Array.replicate_zero, List.push_toArray, List.append_toArray, List.nil_append, List.cons_append]
  gi_wp2
  gi_loopw [7] (fun i wr => ∃ (m : Nat) (pre : List (Fin l.length)), i = .int .i64 (m : Int) ∧ m ≤ l.length ∧ Stays w.heap.size W wr ∧ Hid (pre.map (numF l) = l.take m) ∧ J pre wr)
    (fun i wr => l.length - (intOf i).toNat)
  case atStart => exact ⟨0, [], rfl, Nat.zero_le _, fun _ _ _ h => h, rfl, h0⟩
  case round =>
    obtain ⟨m, pre, rfl, hm, hst, HP, hJm⟩ := hrel
    by_cases hml : m < l.length
    · obtain ⟨a, rfl, hblk, hcel⟩ := hlW m l[m] (List.getElem?_eq_getElem hml)
      unfold NumAt at hcel
      rw [Nat.mul_one] at hcel
      have hce := hst _ _ (by rw [Addr.block_add]; exact hblk) hcel
      have hlt : pre.length < l.length := by
        have h := congrArg List.length HP.out
        rw [List.length_map, List.length_take] at h
        omega
      have hsn : l.take (m + 1) = l.take m ++ [l[m]] := by rw [List.take_add_one, List.getElem?_eq_getElem hml]; rfl
      obtain ⟨fn, tmps, asg, bdy, hy, hR⟩ := hY pre ⟨m, hml⟩ wr hJm hlt
      dsimp only [encN, numF] at hy
      have i1 : (m : Int) < (l.length : Int) := by omega
      clear hcel
      gi_wp2
      refine hR.mono ?_
      rintro e W3 (⟨rfl, hJ3, hK3⟩ | ⟨rfl, hJx3⟩)
      · gi_wp2
        go_roundw
        case rel => exact ⟨m + 1, pre ++ [⟨m, hml⟩], by go_num, by omega, hst.trans hK3, by unfold Hid; rw [List.map_append, HP.out, hsn]; rfl, hJ3⟩
        case measure => simp [intOf]; omega
      · gi_wp2
        refine bodyPost_ret (results_none rfl _ _ _) rfl ?_
        exact ⟨⟨_, rfl⟩, .inr ⟨_, trivial, hJx3⟩⟩
    · have hme : m = l.length := by omega
      subst hme
      have HP2 := HP.out
      rw [List.take_length] at HP2
      gi_wp2
      go_end0
      exact ⟨⟨_, rfl⟩, .inl ⟨_, HP2, hJm⟩⟩
/-- The iterator's value: the slice in a box, captured. -/
theorem ints_any (ao : Option Addr) (n cap : Nat) (w : World) :
    Calls Tryz.prog 95 #[.slice ao n cap] w fun e w' => e = .returned (.func (.func 103) #[] #[.pointer (some ⟨w.heap.size, 0, none⟩)]) ∧ w' = w.alloc (.cells #[.slice ao n cap] 23) := by
  go_enter Tryz.func95, Tryz.ntmps95
  go_wp2
  go_ret
  exact ⟨rfl, rfl⟩
theorem int_new (w : World) (x : Int) (t : TypeId) :
    ∀ j u, [Value.int .i64 x][j]? = some u → (w.alloc (.cells #[.int .i64 x] t)).cell? ((⟨w.heap.size, 0, none⟩ : Addr).add j) = some u := by
  intro j u hj
  match j, hj with
  | 0, hj => simp at hj; subst hj; simp [Addr.add]
theorem inCells_snoc (l : List Int) (x : Int) : inCells (l ++ [x]) = inCells l ++ [.int .i64 x] := by simp [inCells]
set_option maxRecDepth 100000 in
set_option maxHeartbeats 1000000 in
theorem appendSeq_any (Bn : Nat) (ao : Option Addr) (cap : Nat) (l : List Int) (h500 : l.length ≤ 1000) (w : World) (hBn : Bn < w.heap.size) (hc : w.cell? ⟨Bn, 0, none⟩ = some (.slice ao l.length cap)) (hl : LiesN w w.heap.size ao l) :
    Calls Tryz.prog 109 #[.slice none 0 0, .func (.func 103) #[] #[.pointer (some ⟨Bn, 0, none⟩)]] w fun e w' => ∃ v, e = .returned v ∧ w'.ownsRow w.heap.size 3 1 v l.length (inCells l) ∧ Below w.heap.size w w' := by
  obtain ⟨i0, hi, hz0, hz1, hz2⟩ := info_parts Tryz.infoInt
  refine (callsIn_wide (n := 5)).1 ?_
  refine callsIn_of_wp_marks Tryz.func109 rfl trivial ?_ rfl
  simp only [Tryz.ntmps109, List.size_toArray, List.length_cons, List.length_nil, Nat.reduceAdd, Nat.reduceSub, Array.replicate_succ, Array.replicate_zero, List.push_toArray, List.append_toArray, List.nil_append, List.cons_append]
  gi_wp2
  have bA := Boxed.new w 23 (.slice none 0 0)
  have hB0 : Below w.heap.size w (w.alloc (.cells #[.slice none 0 0] 23)) := (Below.refl _ w).alloc (Nat.le_refl _) _
  refine wpIn_rangeFunc_ownH rfl (by omega) (gf := 103) (lb := #[.pointer (some ⟨Bn, 0, none⟩)]) rfl trivial (enters_of Tryz.func103 (by kernel_rfl) rfl)
    (ints_stops _ (by omega) Bn ao cap l h500 w hBn hc hl) (fun h k => h.trans k) (fun W L o o' hL _ _ _ => stays_putObj o' (by simp at hL; omega)) hB0 (fun _ => rfl)
    (fun (pre : List (Fin l.length)) W => (∃ v, Boxed W w.heap.size 23 v ∧ W.ownsRow w.heap.size 3 1 v pre.length (inCells (pre.map (numF l))) ∧ True) ∧ Below w.heap.size w W)
    (fun _ _ _ => False)
    (OwnFrom.and (Own.from (holdsRow_own w.heap.size w.heap.size 23 3 1 (fun (pre : List (Fin l.length)) => pre.length) (fun (pre : List (Fin l.length)) => inCells (pre.map (numF l))) (fun _ _ => True)) _) (ownFrom_below (Nat.le_refl _) (by simp)))
    (fun _ => fun _ _ _ _ h => h.elim)
    ⟨⟨_, bA, World.ownsRow_nil _ _ _ _, trivial⟩, hB0⟩
    (fun x a' W => a' = { tmps := #[.slice none 0 0, .func (.func 103) #[] #[.pointer (some ⟨Bn, 0, none⟩)], .pointer (some ⟨w.heap.size, 0, none⟩), undef, .slice none 0 0, .int .i64 (numF l x), .func (.func 103) #[] #[.pointer (some ⟨Bn, 0, none⟩)], .int .i64 (numF l x), undef, undef, undef, undef, undef], defers := [] })
    (fun x a' => ?ax) ?assign ?body ?done ?stop
  case ax =>
    rintro _ X Y row e hg hr
    exact e
  case assign =>
    rintro L pre x W K ⟨⟨v, hv, hrow, _⟩, hB⟩ hK
    gi_wp2
    exact hK _ _ ((KeepsOthers.refl _).from _) (fun _ _ _ h => h) ⟨⟨v, hv, hrow, trivial⟩, hB⟩ rfl
  case body =>
    rintro L pre x a' W hL ⟨r, hr⟩ ⟨⟨v, hv, hrow, _⟩, hB⟩ rfl hlt
    obtain ⟨bo, bc, rfl, _⟩ := ownN_lies (l := pre.map (numF l)) (by rw [List.length_map]; exact hrow)
    rw [List.length_map] at hv hrow
    have cv := hv.cell
    have hsz := hB.size
    gi_wp2_with (gi_at_builtin; refine wpListIn_append_own _ rfl _ _ 23 rfl w.heap.size 3 i0 _ 1 8 Tryz.underlying23 hi hz0 hz1 hz2 rfl (by decide) _ _ _ rfl (hrow.alloc _) ⟨W.heap.size, 0, none⟩ 1 1 [.int .i64 (numF l x)] rfl rfl (int_new _ _ _) (by simp [Value.oneCell']) (by unfold maxLen; omega) (by omega) (by simp; omega) ?_; intro v' w1 hown' hgrow _; obtain ⟨g', cap', rfl⟩ := ownsRow_succ hown'; obtain ⟨hv1, hv2, hr2, hk2, hb2⟩ := hv.appended (by decide) hrow hB.size (by omega) hown' hgrow; have hc1 := hv1.cell; have hf1 := hv1.frozen)
    refine ⟨hk2.from _, stays_below hb2, ⟨_, hv2, ?_, trivial⟩, hB.trans hb2⟩
    rw [List.map_append, List.map_cons, List.map_nil, inCells_snoc, List.length_append]
    exact hr2
  case done =>
    rintro D ys W hD hys ⟨⟨v, hv, hrow, _⟩, hB⟩ hK
    have hyl : ys.length = l.length := by
      have h := congrArg List.length hys
      rw [List.length_map] at h
      exact h
    rw [hys, hyl] at hrow
    have cv := hv.cell
    gi_wp2
    refine ⟨by simp, .inl ⟨_, _, rfl, run_takeDeferred hK, ?_⟩⟩
    refine ⟨_, results_tmp rfl _ _ _, v, rfl, ownsRow_putObj hrow _ hK rfl, ?_⟩
    exact hB.trans (belowK_b (w := w) (Nat.le_refl _) _ D _ _ (by simp at hD; omega) hK rfl rfl)
  case stop =>
    rintro D c pre W hD hpre h hK
    exact h.elim
theorem collect_any (Bn : Nat) (ao : Option Addr) (cap : Nat) (l : List Int) (h500 : l.length ≤ 1000) (w : World) (hBn : Bn < w.heap.size) (hc : w.cell? ⟨Bn, 0, none⟩ = some (.slice ao l.length cap)) (hl : LiesN w w.heap.size ao l) :
    Calls Tryz.prog 101 #[.func (.func 103) #[] #[.pointer (some ⟨Bn, 0, none⟩)]] w fun e w' => ∃ v, e = .returned v ∧ w'.ownsRow w.heap.size 3 1 v l.length (inCells l) ∧ Below w.heap.size w w' := by
  have h := appendSeq_any Bn ao cap l h500 w hBn hc hl
  go_enter Tryz.func101, Tryz.ntmps101
  go_wp2_with (go_at_call 109; refine h.mono ?_; rintro e w1 ⟨v, rfl, ho, hb⟩)
  go_ret
  exact ⟨v, rfl, ho, hb⟩
end Go.Proofs.YtajbdffepfjegaaGreat
