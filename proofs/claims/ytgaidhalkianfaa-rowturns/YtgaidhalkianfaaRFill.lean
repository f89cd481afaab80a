/-
  Contracts: the values of cells over columns: of the program.
-/
import Derived.Test.YtgaidhalkianfaaRIter
import Derived.Test.YtgaidhalkianfaaRFillR
import Derived.Maps.OwnIn
namespace Go.Proofs.Ytgaidhalkianfaa
open Go.RowKit Go.Shelf Go.Maps Num
set_option linter.unusedVariables false
attribute [local go_sem] Oper.semAt_some

theorem lawInt : Keyed Try.prog 3 := int_keyed Try.underlying3
theorem zeroInt (w : World) : (zeroValue 3).run Try.prog w = .ok (.int .i64 0) w := by kernel_rfl
theorem ownsMap_from {β : Type} {B b : Nat} (n : β → Nat) (D : β → DataW Unit) (hb : b < B) : OwnFrom B (fun s W => World.ownsMap W Try.prog 3 (plainElem Try.prog 3) b (n s) (D s)) :=
  fun s X Y row hs hg hr => World.ownsMap.kept hs hg (fun e => by have := (hr b e.symm).1; omega)
theorem stays_putObj {N : Nat} {W : World} {l : Nat} (o' : Obj) (h : N ≤ l) : Stays N W (W.putObj l o') := by
  intro p v hp hv
  have hb : (W.putObj l o').heap[p.block]? = W.heap[p.block]? := (grownBy_putObj' W l o').block p.block (by
    rcases Nat.lt_or_ge p.block W.heap.size with h' | h'
    · exact h'
    · simp [World.cell?, Array.getElem?_eq_none h'] at hv) (fun e => by cases e; omega)
  rw [World.cell?_of_block hb]
  exact hv
theorem stays_grown {N : Nat} {W W' : World} {b : Nat} {es : Array MapEntry} {clock : Nat} (hg : W.grownBy W' (some b)) (hm : W.heap[b]? = some (.map es clock)) : Stays N W W' := by
  intro p v hp hv
  have hb : W'.heap[p.block]? = W.heap[p.block]? := hg.block p.block (by
    rcases Nat.lt_or_ge p.block W.heap.size with h' | h'
    · exact h'
    · simp [World.cell?, Array.getElem?_eq_none h'] at hv) (fun e => by
      cases e
      simp [World.cell?, hm] at hv)
  rw [World.cell?_of_block hb]
  exact hv

theorem stays_alloc {N : Nat} {W : World} (o : Obj) : Stays N W (W.alloc o) := by
  intro p v hp hv
  rw [World.cell?_of_block ((World.grownBy_alloc W o none).block p.block (by
    rcases Nat.lt_or_ge p.block W.heap.size with h' | h'
    · exact h'
    · simp [World.cell?, Array.getElem?_eq_none h'] at hv) (by simp))]
  exact hv
theorem four_newN (w : World) (n : Nat) (hn : w.heap.size = n) (x : Val) (t : TypeId) :
    ∀ j u, [Value.int .i64 x.k, .int .i64 x.n, .int .u64 (x.f : Int), .string x.s][j]? = some u → (w.alloc (.cells #[.int .i64 x.k, .int .i64 x.n, .int .u64 (x.f : Int), .string x.s] t)).cell? ((⟨n, 0, none⟩ : Addr).add j) = some u := by
  subst hn
  exact four_newR w x t
/-- A column's look-up in the map. -/
theorem wpListIn_look {F : Fence} {nF : Nat} {ops : Array Oper} {rest : List Oper} {o : Oper} {a : Act} {Q : Exit → Act → World → Prop} (w : World) (hg : o.guard = none) (m x : Operand) (hop : o.op = Op.lookup 61 m x true)
    (M n : Nat) (l : List Cel) (hm : a.eval m = .map (some M)) (hown : w.ownsMap Try.prog 3 (plainElem Try.prog 3) M n (mapD (revIx 0 l))) (id : Int) (hid : -9223372036854775808 ≤ id ∧ id ≤ 9223372036854775807) (hx : a.eval x = .int .i64 id)
    (i : Nat) (b : Bool) (hi : (lookC 0 l id).getD 0 = i) (hb : (lookC 0 l id).isSome = b)
    (hK : wpListIn F nF Try.prog ops Q rest (a.put o.dst (.tuple #[.int .i64 (i : Int), .bool b])) w) : wpListIn F nF Try.prog ops Q (o :: rest) a w := by
  refine wpListIn_lookup_own_ok_int w hg m x 61 hop 3 3 .i64 lawInt Try.underlying61 Try.underlying3 (zeroInt w) M n _ hm hown _ _ hx (keyOf_int_mk Try.underlying3 (wf_int hid)) ?_
  intro c hat _
  rw [has_mapD, hb]
  have hc : c = (i : Int) := by
    cases hlk : lookC 0 l id with
    | none =>
      rw [atKey_of_not_has (by rw [has_mapD, hlk]; rfl)] at hat
      rw [hlk] at hi
      cases hat
      rw [← hi]
      rfl
    | some j =>
      rw [at_mapD l 0 id j _ hlk] at hat
      rw [hlk] at hi
      cases hat
      rw [← hi]
      rfl
  rw [hc]
  exact hK
theorem run_makeMap_room (n : Nat) (w : World) : (Instr.makeMap 61 (some (.int .i64 (n : Int)))).run Try.prog w = .ok (.map (some w.heap.size)) (w.alloc (.map #[] 0)) := by
  simp [Instr.makeMap, asInt, asIntOf, run_underlying Try.underlying61]

set_option maxRecDepth 100000 in
set_option maxHeartbeats 2000000 in
theorem fill_any (ao : Option Addr) (cap : Nat) (l : List Cel) (h500 : l.length ≤ 1000) (hok : ∀ y ∈ l, y.ok) (aok : Option Addr) (capk : Nat) (cols : List Colm) (h100 : cols.length ≤ 1000) (hokk : ∀ c ∈ cols, c.ok) (w : World) (hl : LiesC w w.heap.size ao l) (hk : LiesK w w.heap.size aok cols) :
    Calls Try.prog 18 #[.slice ao l.length cap, .slice aok cols.length capk] w fun e w' => ∃ ao' cap', e = .returned (.slice ao' cols.length cap') ∧ Lies w' w'.heap.size ao' (rowVals l cols) ∧ Below w.heap.size w w' := by
  obtain ⟨i0, hi, hz0, hz1, hz2⟩ := info_parts Try.infoValR
  have hmm := run_makeMap_room l.length
  refine (callsIn_wide (n := 5)).1 ?_
  refine callsIn_of_wp_marks Try.func18 rfl trivial ?_ rfl
  simp only [Try.ntmps18, List.size_toArray, List.length_cons, List.length_nil, Nat.reduceAdd, Nat.reduceSub, Array.replicate_succ, Array.replicate_zero, List.push_toArray, List.append_toArray, List.nil_append, List.cons_append]
  gi_wp2_with (refine ⟨trivial, ?_⟩; gi_at_call 29; refine (callsIn_wide.2 (backward_any ao l.length cap _)).mono ?_; rintro e w' ⟨rfl, rfl⟩)
  have hmp := World.ownsMap_made (H := Unit) w Try.prog 3 (plainElem Try.prog 3)
  have bA := Boxed.new (w.alloc (.map #[] 0)) 61 (.map (some w.heap.size))
  have bB := Boxed.new ((w.alloc (.map #[] 0)).alloc (.cells #[.map (some w.heap.size)] 61)) 22 (.slice ao l.length cap)
  simp only [World.size_alloc] at bA bB
  have hB0 : Below w.heap.size w (((w.alloc (.map #[] 0)).alloc (.cells #[.map (some w.heap.size)] 61)).alloc (.cells #[.slice ao l.length cap] 22)) := (((Below.refl _ w).alloc (Nat.le_refl _) _).alloc (by simp) _).alloc (by simp; omega) _
  have hl2 := liesC_next hl hB0
  refine wpIn_rangeFunc_ownH rfl (by omega) (gf := 47) (lb := #[.pointer (some ⟨w.heap.size + 1 + 1, 0, none⟩)]) rfl trivial (enters_of Try.func47 (by kernel_rfl) rfl)
    (back_stops _ (by omega) (w.heap.size + 1 + 1) ao cap l h500 _ (by simp) bB.cell hl2) (fun h k => h.trans k) (fun W L o o' hL _ _ _ => stays_putObj o' hL) (Below.refl _ _) (fun _ => rfl)
    (fun pre W => W.ownsMap Try.prog 3 (plainElem Try.prog 3) w.heap.size pre.length (mapD (pre.map (ixC l))) ∧ Boxed W (w.heap.size + 1) 61 (.map (some w.heap.size)) ∧ Below w.heap.size w W)
    (fun _ _ _ => False)
    (OwnFrom.and (ownsMap_from _ _ (by simp; omega)) (OwnFrom.and (Own.from (boxed_own _ _ _) _) (ownFrom_below (Nat.le_refl _) (by simp; omega))))
    (fun _ => fun _ _ _ _ h => h.elim)
    ⟨(hmp.alloc _).alloc _, bA.alloc _, hB0⟩
    (fun x a' W => ∃ Bx, Boxed5 W Bx (l[x.val]'x.isLt) ∧ a' = { tmps := #[.slice ao l.length cap, .slice aok cols.length capk, undef, undef, .slice none 0 0, .pointer (some ⟨w.heap.size + 1, 0, none⟩), .int .i64 (x.val : Int), .pointer (some ⟨Bx, 0, none⟩), undef, undef, undef, undef, undef, undef, .slice ao l.length cap, .int .i64 (l.length : Int), .map (some w.heap.size), .slice ao l.length cap, .func (.func 47) #[] #[.pointer (some ⟨w.heap.size + 1 + 1, 0, none⟩)], .int .i64 (x.val : Int), .agg #[.int .i64 (l[x.val]'x.isLt).c, .int .i64 (l[x.val]'x.isLt).x.k, .int .i64 (l[x.val]'x.isLt).x.n, .int .u64 ((l[x.val]'x.isLt).x.f : Int), .string (l[x.val]'x.isLt).x.s], undef, undef, undef, undef, undef, undef, undef, undef, undef, undef, undef, undef, undef, undef, undef, undef, undef, undef, undef, undef, undef, undef, undef, undef, undef, undef, undef, undef, undef, undef, undef, undef, undef, undef], defers := [] })
    (fun x a' => ?ax) ?assign ?body ?done ?stop
  case ax =>
    rintro _ X Y row ⟨Bx, hb, e⟩ hg hr
    exact ⟨Bx, hb.kept hg (fun e' => by obtain ⟨_, o, ho, hc⟩ := hr Bx e'.symm; rw [show X.heap[Bx]? = _ from hb] at ho; cases ho; cases hc), e⟩
  case assign =>
    rintro L pre x W K ⟨hmap, hbox, hB⟩ hK
    gi_wp2
    exact hK _ _ ((KeepsOthers.alloc _ _).from _) (stays_alloc _) ⟨hmap.alloc _, hbox.alloc _, hB.alloc hB.size _⟩ ⟨W.heap.size, Boxed5.new W _, rfl⟩
  case body =>
    rintro L pre x a' W hL ⟨r, hr⟩ ⟨hmap, hbox, hB⟩ ⟨Bx, bX, rfl⟩ hlt
    have cb := hbox.cell
    obtain ⟨x0, _⟩ := bX.cells
    have hkey := keyOf_int_mk (P := Try.prog) Try.underlying3 (wf_int (hok _ (List.getElem_mem x.isLt)).1)
    have hval := plainElem_int (H := Unit) (P := Try.prog) Try.underlying3 (a := (x.val : Int)) (wf_int ⟨by omega, by omega⟩)
    gi_wp2_with (gi_at_mapUpdate; refine wpListIn_mapUpdate_own _ rfl _ _ _ 61 rfl 3 3 lawInt Try.underlying61 _ w.heap.size pre.length _ rfl hmap (by unfold maxLen; omega) _ _ _ rfl rfl hkey _ [] hval ?_; intro w1 hown1 hgrow1)
    obtain ⟨es, clock, hhb, _⟩ := id hmap
    refine ⟨KeepsFrom.of_grownBy hgrow1 (fun j e => by cases e; simp; omega), stays_grown hgrow1 hhb, ?_, hbox.kept hgrow1 (by simp), hB.grown hgrow1 hB.size (fun k e => by cases e; exact Nat.le_refl _)⟩
    rw [List.length_append, List.map_append, List.map_cons, List.map_nil, mapD_snoc]
    exact hown1
  case done =>
    rintro D ys W hD hys ⟨hmap, hbox, hB⟩ hK
    rw [hys] at hmap
    obtain ⟨nm, hnm⟩ : ∃ nm, ys.length = nm := ⟨_, rfl⟩
    rw [hnm] at hmap
    clear hmm hmp bA bB hB0 hl2 hys hnm
    have hDW : D < W.heap.size := (Array.getElem?_eq_some_iff.1 hK).1
    have hsW := hB.size
    gi_wp2_with (gi_at_make; refine wpListIn_make_own _ rfl _ _ 44 rfl W.heap.size 39 i0 _ 4 Try.underlying44 hi hz0 hz1 _ _ _ cols.length rfl rfl (by omega) (by rw [hz2]; omega) (by unfold maxLen; omega) (Nat.le_refl _) ?_; intro w1 hown1 hgrow1)
    have hb1 : Below W.heap.size W w1 := (Below.refl _ _).grown hgrow1 (Nat.le_refl _) (by simp)
    clear hgrow1
    gi_loopw [8, 30] (fun v i wr => ∃ k : Nat, k ≤ cols.length ∧ i = .int .i64 (k : Int) ∧ v = .slice (some ⟨W.heap.size, 0, none⟩) k cols.length ∧ wr.ownsRow W.heap.size 39 4 (.slice (some ⟨W.heap.size, 0, none⟩) k cols.length) k (valCellsR (rowVals l (cols.take k))) ∧ Below W.heap.size W wr) (fun _ i _ => cols.length - (intOf i).toNat)
    case atStart => exact ⟨0, by omega, rfl, rfl, hown1, hb1⟩
    case round =>
      obtain ⟨k, hkl, rfl, rfl, hown, hbel⟩ := hrel
      clear hown1 hb1
      have hsz := hbel.size
      have hBw := hB.trans (hbel.mono hsW)
      by_cases hkc : k < cols.length
      · obtain ⟨a, rfl, hblk, c0, c1, c2, c3, c4, c5, c6, c7, c8⟩ := (hk.below hBw) k cols[k] (List.getElem?_eq_getElem hkc)
        have hsn := rowVals_snoc l cols k hkc
        have hcid := hokk cols[k] (List.getElem_mem hkc)
        generalize cols[k] = c at *
        have hboxr : Boxed wr (w.heap.size + 1) 61 (.map (some w.heap.size)) := (hbel.block _ hbox.lt).trans hbox
        have hmapr := World.ownsMap.kept (row := none) hmap ⟨hbel.os, hbel.tape, hbel.output, hbel.size, fun k hk _ => hbel.block k hk⟩ (by simp)
        have cbx := ((hboxr.alloc (.cells #[.int .i64 c.id, .string c.name, .int .i64 c.kind, .int .i64 c.state, .int .i64 c.null, .int .i64 c.d.k, .int .i64 c.d.n, .int .u64 (c.d.f : Int), .string c.d.s] 51)).alloc (.cells #[.int .i64 c.d.k, .int .i64 c.d.n, .int .u64 (c.d.f : Int), .string c.d.s] 39)).cell
        cases hlk : lookC 0 l c.id with
        | none =>
          have hfv := look_none l 0 c.id c.d hlk
          gi_wp2_with (first
            | (gi_at_lookup; refine wpListIn_look _ rfl _ _ rfl w.heap.size nm l rfl ((hmapr.alloc _).alloc _) c.id hcid rfl 0 false (by rw [hlk]; rfl) (by rw [hlk]; rfl) ?_)
            | (gi_at_builtin; refine wpListIn_append_fits _ rfl _ _ 44 rfl W.heap.size 39 i0 4 Try.underlying44 hi hz1 W.heap.size k cols.length _ rfl (((hown.alloc _).alloc _).alloc _) ⟨wr.heap.size + 1 + 1, 0, none⟩ 1 1 [.int .i64 c.d.k, .int .i64 c.d.n, .int .u64 (c.d.f : Int), .string c.d.s] rfl rfl (four_newN _ _ (by simp) c.d _) (one4 c.d) (by omega) ?_; intro w3 hown3 hgrow3))
          have hb3 := (((hbel.alloc hsz (.cells #[.int .i64 c.id, .string c.name, .int .i64 c.kind, .int .i64 c.state, .int .i64 c.null, .int .i64 c.d.k, .int .i64 c.d.n, .int .u64 (c.d.f : Int), .string c.d.s] 51)).alloc (by simp; omega) (.cells #[.int .i64 c.d.k, .int .i64 c.d.n, .int .u64 (c.d.f : Int), .string c.d.s] 39)).alloc (by simp; omega) (.cells #[.int .i64 c.d.k, .int .i64 c.d.n, .int .u64 (c.d.f : Int), .string c.d.s] 39)).grown hgrow3 (by simp; omega) (fun j e => by cases e; exact Nat.le_refl _)
          go_roundw
          case rel => exact ⟨k + 1, by omega, by go_num, rfl, by rw [hsn, hfv, valCellsR_snoc]; exact hown3, hb3⟩
          case measure => simp [intOf]; omega
        | some i =>
          obtain ⟨y, hy, _, hfv⟩ := look_some l 0 c.id c.d i hlk
          rw [Nat.sub_zero] at hy
          have hil : i < l.length := (List.getElem?_eq_some_iff.1 hy).1
          have hB2 := (hBw.alloc hBw.size (.cells #[.int .i64 c.id, .string c.name, .int .i64 c.kind, .int .i64 c.state, .int .i64 c.null, .int .i64 c.d.k, .int .i64 c.d.n, .int .u64 (c.d.f : Int), .string c.d.s] 51)).alloc (by simp; omega) (.cells #[.int .i64 c.d.k, .int .i64 c.d.n, .int .u64 (c.d.f : Int), .string c.d.s] 39)
          obtain ⟨al, rfl, _, e0, e1, e2, e3, e4⟩ := (hl.below hB2) i y hy
          have hbv := BoxV.new (wr.alloc (.cells #[.int .i64 c.id, .string c.name, .int .i64 c.kind, .int .i64 c.state, .int .i64 c.null, .int .i64 c.d.k, .int .i64 c.d.n, .int .u64 (c.d.f : Int), .string c.d.s] 51)) c.d
          rw [World.size_alloc] at hbv
          obtain ⟨b0, b1, b2, b3⟩ := hbv.cells
          have f0 := hbv.free 0
          have f1 := hbv.free 1
          have f2 := hbv.free 2
          have f3 := hbv.free 3
          gi_wp2_with (first
            | (gi_at_lookup; refine wpListIn_look _ rfl _ _ rfl w.heap.size nm l rfl ((hmapr.alloc _).alloc _) c.id hcid rfl i true (by rw [hlk]; rfl) (by rw [hlk]; rfl) ?_)
            | (gi_at_builtin; refine wpListIn_append_fits _ rfl _ _ 44 rfl W.heap.size 39 i0 4 Try.underlying44 hi hz1 W.heap.size k cols.length _ rfl (((hown.alloc _).alloc _).alloc _) ⟨wr.heap.size + 1 + 1, 0, none⟩ 1 1 [.int .i64 y.x.k, .int .i64 y.x.n, .int .u64 (y.x.f : Int), .string y.x.s] rfl rfl (four_newN _ _ (by simp) y.x _) (one4 y.x) (by omega) ?_; intro w3 hown3 hgrow3))
          have hb3 := (((hbel.alloc hsz (.cells #[.int .i64 c.id, .string c.name, .int .i64 c.kind, .int .i64 c.state, .int .i64 c.null, .int .i64 c.d.k, .int .i64 c.d.n, .int .u64 (c.d.f : Int), .string c.d.s] 51)).alloc (by simp; omega) (.cells #[.int .i64 y.x.k, .int .i64 y.x.n, .int .u64 (y.x.f : Int), .string y.x.s] 39)).alloc (by simp; omega) (.cells #[.int .i64 y.x.k, .int .i64 y.x.n, .int .u64 (y.x.f : Int), .string y.x.s] 39)).grown hgrow3 (by simp; omega) (fun j e => by cases e; exact Nat.le_refl _)
          go_roundw
          case rel => exact ⟨k + 1, by omega, by go_num, rfl, by rw [hsn, hfv, valCellsR_snoc]; exact hown3, hb3⟩
          case measure => simp [intOf]; omega
      · have hke : k = cols.length := by omega
        subst hke
        rw [List.take_length] at hown
        have hK2 : wr.heap[D]? = some (.deferred (some [])) := (hbel.block D hDW).trans hK
        gi_wp2
        refine ⟨by simp, .inl ⟨_, _, rfl, run_takeDeferred hK2, ?_⟩⟩
        refine ⟨.slice (some ⟨W.heap.size, 0, none⟩) cols.length cols.length, by simp [results, Try.f18, go_sem], _, _, rfl, ?_, ?_⟩
        · have h := ownsRow_putObj hown (.deferred none) hK2 rfl
          obtain ⟨ao', cap', e, hl'⟩ := lies_of_rowR (by unfold rowVals; rw [List.length_map]) h
          cases e
          exact hl'
        · exact hBw.trans (belowK_b (w := w) (Nat.le_refl _) _ D _ _ (by simp at hD; omega) hK2 rfl rfl)
  case stop =>
    rintro D c pre W hD hpre hF hK
    exact hF.elim
end Go.Proofs.Ytgaidhalkianfaa
