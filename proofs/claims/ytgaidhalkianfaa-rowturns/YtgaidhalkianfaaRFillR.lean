/-
  Contracts: the values of cells over columns: of the document's own. A value's box that is written.
-/
import Derived.Test.YtgaidhalkianfaaRCol
namespace Go.Proofs.Ytgaidhalkianfaa
open Go.RowKit Num
set_option linter.unusedVariables false

/-- A value's box. -/
def Num.BoxV (W : World) (B : Nat) (x : Val) : Prop := W.heap[B]? = some (.cells #[.int .i64 x.k, .int .i64 x.n, .int .u64 (x.f : Int), .string x.s] 39 (0, 0))
theorem Num.BoxV.lt {W : World} {B : Nat} {x : Val} (h : BoxV W B x) : B < W.heap.size := (Array.getElem?_eq_some_iff.1 h).1
theorem Num.BoxV.new (W : World) (x : Val) : BoxV (W.alloc (.cells #[.int .i64 x.k, .int .i64 x.n, .int .u64 (x.f : Int), .string x.s] 39)) W.heap.size x := World.alloc_heap_new W _
theorem Num.BoxV.cells {W : World} {B : Nat} {x : Val} (h : BoxV W B x) : W.cell? ⟨B, 0, none⟩ = some (.int .i64 x.k) ∧ W.cell? ⟨B, 1, none⟩ = some (.int .i64 x.n) ∧ W.cell? ⟨B, 2, none⟩ = some (.int .u64 (x.f : Int)) ∧ W.cell? ⟨B, 3, none⟩ = some (.string x.s) := by
  refine ⟨?_, ?_, ?_, ?_⟩ <;> simp [World.cell?, show W.heap[B]? = _ from h]
theorem Num.BoxV.free {W : World} {B : Nat} {x : Val} (h : BoxV W B x) (o : Nat) : W.frozen? ⟨B, o, none⟩ = false := by simp [World.frozen?, show W.heap[B]? = _ from h]
theorem Num.BoxV.kept {W W' : World} {row : Option Nat} {B : Nat} {x : Val} (h : BoxV W B x) (hg : W.grownBy W' row) (hne : some B ≠ row) : BoxV W' B x := (hg.block B h.lt hne).trans h
theorem Num.BoxV.alloc {W : World} {B : Nat} {x : Val} (h : BoxV W B x) (o : Obj) : BoxV (W.alloc o) B x := h.kept (World.grownBy_alloc W o none) (by simp)
theorem Num.BoxV.below {W W' : World} {B : Nat} {x : Val} (h : BoxV W B x) (hb : Below W.heap.size W W') : BoxV W' B x := (hb.block B h.lt).trans h
theorem heap_set {W : World} {B o : Nat} {cur : Array Value} {t : TypeId} (v : Value) (h : W.heap[B]? = some (.cells cur t (0, 0))) : (W.setCell ⟨B, o, none⟩ v).heap[B]? = some (.cells (cur.setIfInBounds o v) t (0, 0)) := by
  obtain ⟨hlt, hk⟩ := Array.getElem?_eq_some_iff.1 h
  show (W.heap.modify B _)[B]? = _
  rw [Array.getElem?_eq_getElem (by rw [Array.size_modify]; exact hlt), Array.getElem_modify_self, hk]
  rfl
/-- The four stores of a value. -/
def Num.put4 (W : World) (B : Nat) (y : Val) : World := (((W.setCell ⟨B, 0, none⟩ (.int .i64 y.k)).setCell ⟨B, 1, none⟩ (.int .i64 y.n)).setCell ⟨B, 2, none⟩ (.int .u64 (y.f : Int))).setCell ⟨B, 3, none⟩ (.string y.s)
theorem Num.BoxV.set {W : World} {B : Nat} {x : Val} (h : BoxV W B x) (y : Val) : BoxV (put4 W B y) B y :=
  heap_set _ (heap_set _ (heap_set _ (heap_set _ h)))
theorem below_put4 {N : Nat} {w W : World} (h : Below N w W) {B : Nat} (hB : N ≤ B) (y : Val) : Below N w (put4 W B y) :=
  (((h.setCell (p := ⟨B, 0, none⟩) hB _).setCell (p := ⟨B, 1, none⟩) hB _).setCell (p := ⟨B, 2, none⟩) hB _).setCell (p := ⟨B, 3, none⟩) hB _

set_option maxRecDepth 100000 in
set_option maxHeartbeats 2000000 in
theorem refFill_any (ao : Option Addr) (cap : Nat) (l : List Cel) (h500 : l.length ≤ 1000) (aok : Option Addr) (capk : Nat) (cols : List Colm) (h100 : cols.length ≤ 1000) (w : World) (hl : LiesC w w.heap.size ao l) (hk : LiesK w w.heap.size aok cols) :
    Calls Try.prog 19 #[.slice ao l.length cap, .slice aok cols.length capk] w fun e w' => ∃ ao' cap', e = .returned (.slice ao' cols.length cap') ∧ Lies w' w'.heap.size ao' (rowVals l cols) ∧ Below w.heap.size w w' := by
  obtain ⟨i0, hi, hz0, hz1, hz2⟩ := info_parts Try.infoValR
  go_enter Try.func19, Try.ntmps19
  go_wp2
  go_loopw [5, 6] (fun v i wr => ∃ k : Nat, k ≤ cols.length ∧ i = .int .i64 (k : Int) ∧ wr.ownsRow w.heap.size 39 4 v k (valCellsR (rowVals l (cols.take k))) ∧ Below w.heap.size w wr) (fun _ i _ => cols.length - (intOf i).toNat)
  case atStart => exact ⟨0, by omega, rfl, World.ownsRow_nil _ _ _ _, Below.refl _ _⟩
  case round =>
    obtain ⟨k, hkl, rfl, hown, hbel⟩ := hrel
    rename World => W0
    have hsz := hbel.size
    by_cases hkc : k < cols.length
    · obtain ⟨a, rfl, hblk, c0, c1, c2, c3, c4, c5, c6, c7, c8⟩ := (hk.below hbel) k cols[k] (List.getElem?_eq_getElem hkc)
      have hsn := rowVals_snoc l cols k hkc
      have hget : cols[k]? = some cols[k] := List.getElem?_eq_getElem hkc
      generalize cols[k] = c at *
      have hbx := BoxV.new W0 c.d
      have hbw := (Below.refl W0.heap.size W0).alloc (Nat.le_refl _) (.cells #[.int .i64 c.d.k, .int .i64 c.d.n, .int .u64 (c.d.f : Int), .string c.d.s] 39)
      go_wp2
      go_loopw [8] (fun i w2 => ∃ m : Nat, m ≤ l.length ∧ i = .int .i64 ((m : Int) - 1) ∧ BoxV w2 W0.heap.size (fillV (l.drop m) c.id c.d) ∧ Below W0.heap.size W0 w2) (fun i _ => (intOf i + 1).toNat)
      case atStart => exact ⟨l.length, by omega, rfl, by rw [List.drop_length]; exact hbx, hbw⟩
      case round =>
        obtain ⟨m, hml, rfl, hbv, hb2⟩ := hrel
        clear hbx hbw
        have hs2 := hb2.size
        by_cases hm0 : m = 0
        · subst hm0
          rw [List.drop_zero] at hbv
          obtain ⟨b0, b1, b2, b3⟩ := hbv.cells
          generalize fillV l c.id c.d = z at *
          go_wp2_with (first
            | (at_builtin; refine wpList_append_own _ rfl _ _ 44 rfl w.heap.size 39 i0 _ 4 40 Try.underlying44 hi hz0 hz1 hz2 rfl (by decide) _ _ _ rfl ((own_below hown hb2).alloc _) ⟨_, 0, none⟩ 1 1 [.int .i64 z.k, .int .i64 z.n, .int .u64 (z.f : Int), .string z.s] rfl rfl (four_newR _ z _) (one4 z) (by unfold maxLen; omega) (by omega) (by simp; omega) ?_; intro v3 w3 hown3 hgrow3 _))
          have hB3 := ((hbel.trans (hb2.mono hsz)).alloc (by omega) (.cells #[.int .i64 z.k, .int .i64 z.n, .int .u64 (z.f : Int), .string z.s] 39)).grown hgrow3 (by simp; omega) (fun j e => (hown.lt j e).1)
          go_roundw
          case rel => exact ⟨k + 1, by omega, by go_num, by rw [hsn, valCellsR_snoc]; exact hown3, hB3⟩
          case measure => simp [intOf]; omega
        · obtain ⟨j, rfl⟩ : ∃ j, m = j + 1 := ⟨m - 1, by omega⟩
          have hjl : j < l.length := by omega
          have hej : (((j + 1 : Nat) : Int) - 1) = (j : Int) := by omega
          rw [hej]
          have hb3 := hbel.trans (hb2.mono hsz)
          obtain ⟨al, rfl, _, e0, e1, e2, e3, e4⟩ := (hl.below hb3) j l[j] (List.getElem?_eq_getElem hjl)
          obtain ⟨ak, hak, _, k0, _⟩ := (hk.below hb3) k c hget
          cases hak
          obtain ⟨b0, b1, b2, b3⟩ := hbv.cells
          have f0 := hbv.free 0
          have f1 := hbv.free 1
          have f2 := hbv.free 2
          have f3 := hbv.free 3
          have hfs := fill_step l j hjl c.id c.d
          clear hm0 hej
          generalize fillV (l.drop (j + 1)) c.id c.d = z at *
          by_cases hc : (l[j]).c = c.id
          · rw [if_pos hc] at hfs
            go_wp2
            go_region
            go_wp2
            go_roundw
            case rel => exact ⟨j, by omega, by go_num, by rw [hfs]; exact hbv.set _, (below_put4 hb2 (Nat.le_refl _) _).drew⟩
            case measure => simp [intOf]
          · rw [if_neg hc] at hfs
            go_wp2
            go_region
            go_wp2
            go_roundw
            case rel => exact ⟨j, by omega, by go_num, by rw [hfs]; exact hbv, hb2.drew⟩
            case measure => simp [intOf]
    · have hke : k = cols.length := by omega
      subst hke
      rw [List.take_length] at hown
      obtain ⟨ao', cap', rfl, hl'⟩ := lies_of_rowR (by unfold rowVals; rw [List.length_map]) hown
      go_wp2
      go_ret
      exact ⟨_, _, rfl, hl', hbel⟩
end Go.Proofs.Ytgaidhalkianfaa
