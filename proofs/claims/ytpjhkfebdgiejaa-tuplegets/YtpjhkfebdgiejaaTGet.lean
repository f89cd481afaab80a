/-
  Contracts: the values of bytes, or that they are refused: of the program.
-/
import Derived.Test.YtpjhkfebdgiejaaTIter
import Derived.Maps.AppendAt
namespace Go.Proofs.Ytpjhkfebdgiejaa
open Go.RowKit Go.Shelf Num
set_option linter.unusedVariables false
attribute [local go_sem] Oper.semAt_some

theorem Try.infoVal : (Try.prog.info? 38).map (fun i => (i.zero, i.size, i.bytes)) = some (some (.agg #[.int .i64 0, .int .i64 0, .int .u64 0, .string ⟨#[]⟩]), 4, 40) := by kernel_rfl

/-- The cells of values, one behind the other. -/
def Num.valCells (l : List Val) : List Value := l.flatMap (fun x => [.int .i64 x.k, .int .i64 x.n, .int .u64 (x.f : Int), .string x.s])
/-- A value's box. -/
def Num.Boxed4 (W : World) (B : Nat) (x : Val) : Prop := W.heap[B]? = some (.cells #[.int .i64 x.k, .int .i64 x.n, .int .u64 (x.f : Int), .string x.s] 38 (0, 0))

theorem Num.Boxed4.lt {W : World} {B : Nat} {x : Val} (h : Boxed4 W B x) : B < W.heap.size := (Array.getElem?_eq_some_iff.1 h).1
theorem Num.Boxed4.new (W : World) (x : Val) : Boxed4 (W.alloc (.cells #[.int .i64 x.k, .int .i64 x.n, .int .u64 (x.f : Int), .string x.s] 38)) W.heap.size x := World.alloc_heap_new W _
theorem Num.Boxed4.cells {W : World} {B : Nat} {x : Val} (h : Boxed4 W B x) : W.cell? ⟨B, 0, none⟩ = some (.int .i64 x.k) ∧ W.cell? ⟨B, 1, none⟩ = some (.int .i64 x.n) ∧ W.cell? ⟨B, 2, none⟩ = some (.int .u64 (x.f : Int)) ∧ W.cell? ⟨B, 3, none⟩ = some (.string x.s) := by
  refine ⟨?_, ?_, ?_, ?_⟩ <;> simp [World.cell?, show W.heap[B]? = _ from h]
theorem boxed4_own {β : Type} (B : Nat) (f : β → Val) : Own (fun s W => Boxed4 W B (f s)) := fun s X Y row hs hg hrow =>
  (hg.block B hs.lt (fun e' => by obtain ⟨o, ho, hc⟩ := hrow B e'.symm; rw [show X.heap[B]? = _ from hs] at ho; cases ho; cases hc)).trans hs
theorem valCells_snoc (l : List Val) (x : Val) : valCells (l ++ [x]) = valCells l ++ [.int .i64 x.k, .int .i64 x.n, .int .u64 (x.f : Int), .string x.s] := by
  simp [valCells]
/-- What lies in a new block of one value. -/
theorem four_new (w : World) (x : Val) (t : TypeId) :
    ∀ j u, [Value.int .i64 x.k, .int .i64 x.n, .int .u64 (x.f : Int), .string x.s][j]? = some u → (w.alloc (.cells #[.int .i64 x.k, .int .i64 x.n, .int .u64 (x.f : Int), .string x.s] t)).cell? ((⟨w.heap.size, 0, none⟩ : Addr).add j) = some u := by
  intro j u hj
  match j, hj with
  | 0, hj => simp at hj; subst hj; simp [Addr.add]
  | 1, hj => simp at hj; subst hj; simp [Addr.add]
  | 2, hj => simp at hj; subst hj; simp [Addr.add]
  | 3, hj => simp at hj; subst hj; simp [Addr.add]

theorem row_shape {w : World} {base : Nat} {v : Value} {n : Nat} {xs : List Value} (h : w.ownsRow base 38 4 v n xs) : ∃ ao cap, v = .slice ao n cap := by
  rcases h.2 with ⟨rfl, rfl⟩ | ⟨g, cap, _, rfl, _⟩
  · exact ⟨none, 0, rfl⟩
  · exact ⟨_, cap, rfl⟩
/-- What Get tells: the values in new memory, or that the bytes are refused. -/
def Num.getPost (base : Nat) (o : Option (List Val)) (e : Ending) (w' : World) : Prop :=
  match o with
  | some l => ∃ v, e = .returned (.tuple #[v, .int .i64 0]) ∧ w'.ownsRow base 38 4 v l.length (valCells l)
  | none => e = .returned (.tuple #[.slice none 0 0, .int .i64 3])

def Num.okAll (q : List (Val × Int)) : Prop := ∀ x ∈ q, x.2 = 0
def Num.badEnd (q : List (Val × Int)) : Prop := ∃ p x, q = p ++ [x] ∧ (¬ x.2 = 0 ∨ p.length = 16)
theorem vals_ok {s : List UInt8} (h : okAll (seqN s.length s)) (hl : (seqN s.length s).length ≤ 16) : valsL s = some ((seqN s.length s).map Prod.fst) := by
  have hg : good (seqN s.length s) = true := by
    unfold good
    rw [Bool.and_eq_true, List.all_eq_true]
    exact ⟨fun x hx => decide_eq_true (h x hx), decide_eq_true hl⟩
  unfold valsL
  rw [if_pos hg]
theorem vals_bad {s : List UInt8} {q : List (Val × Int)} (hq : q <+: seqN s.length s) (hb : badEnd q) : valsL s = none := by
  obtain ⟨p, x, rfl, hb⟩ := hb
  have hg : ¬ good (seqN s.length s) = true := by
    unfold good
    rw [Bool.and_eq_true, List.all_eq_true]
    rintro ⟨h1, h2⟩
    have hx := h1 x (hq.subset (by simp))
    have hl := hq.length_le
    have h2' := of_decide_eq_true h2
    have hx' := of_decide_eq_true hx
    simp at hl
    rcases hb with hb | hb
    · exact hb hx'
    · omega
  unfold valsL
  rw [if_neg hg]

set_option maxRecDepth 100000 in
set_option maxHeartbeats 1000000 in
theorem tupGet_any (s : ByteArray) (hs : s.size ≤ 900000) (w : World) :
    Calls Try.prog 14 #[.string s] w fun e w' => getPost w.heap.size (valsL s.data.toList) e w' ∧ Below w.heap.size w w' := by
  obtain ⟨i0, hi, hz0, hz1, hz2⟩ := info_parts Try.infoVal
  refine (callsIn_wide (n := 5)).1 ?_
  refine callsIn_of_wp_marks Try.func14 rfl trivial ?_ rfl
  simp only [Try.ntmps14, List.size_toArray, List.length_cons, List.length_nil, Nat.reduceAdd, Nat.reduceSub, Array.replicate_succ, Array.replicate_zero, List.push_toArray, List.append_toArray, List.nil_append, List.cons_append]
  gi_wp2_with (refine ⟨trivial, ?_⟩; gi_at_call 22; refine (callsIn_wide.2 (values_any s _)).mono ?_; rintro e w' ⟨rfl, rfl⟩)
  have bA := Boxed.new w 22 (.slice none 0 0)
  have bB := Boxed.new (w.alloc (.cells #[.slice none 0 0] 22)) 25 (.int .i64 0)
  have bC := Boxed.new ((w.alloc (.cells #[.slice none 0 0] 22)).alloc (.cells #[.int .i64 0] 25)) 22 (.slice none 0 0)
  have bD := Boxed.new (((w.alloc (.cells #[.slice none 0 0] 22)).alloc (.cells #[.int .i64 0] 25)).alloc (.cells #[.slice none 0 0] 22)) 9 (.string s)
  simp only [World.size_alloc] at bB bC bD
  have hB0 : Below w.heap.size w ((((w.alloc (.cells #[.slice none 0 0] 22)).alloc (.cells #[.int .i64 0] 25)).alloc (.cells #[.slice none 0 0] 22)).alloc (.cells #[.string s] 9)) :=
    ((((Below.refl _ w).alloc (Nat.le_refl _) _).alloc (by simp) _).alloc (by simp; omega) _).alloc (by simp; omega) _
  refine wpIn_rangeFunc_ownH rfl (by omega) (gf := 32) (lb := #[.pointer (some ⟨w.heap.size + 1 + 1 + 1, 0, none⟩)]) rfl trivial (enters_of Try.func32 (by kernel_rfl) rfl)
    (values_stops _ (by omega) (w.heap.size + 1 + 1 + 1) s hs _ (by simp) bD.cell) (fun _ _ => trivial) (fun _ _ _ _ _ _ _ _ => trivial) (Below.refl _ _) (fun _ => rfl)
    (fun pre W => (∃ v, Boxed W (w.heap.size + 1 + 1) 22 v ∧ W.ownsRow w.heap.size 38 4 v pre.length (valCells (pre.map Prod.fst)) ∧ (okAll pre ∧ pre.length ≤ 16)) ∧ (Boxed W w.heap.size 22 (.slice none 0 0) ∧ Boxed W (w.heap.size + 1) 25 (.int .i64 0)) ∧ Below w.heap.size w W)
    (fun c pre W => (c = .ret ∧ badEnd pre) ∧ (Boxed W w.heap.size 22 (.slice none 0 0) ∧ Boxed W (w.heap.size + 1) 25 (.int .i64 3)) ∧ Below w.heap.size w W)
    (OwnFrom.and (Own.from (holdsRow_own w.heap.size (w.heap.size + 1 + 1) 22 38 4 (fun pre => pre.length) (fun pre => valCells (pre.map Prod.fst)) (fun pre _ => okAll pre ∧ pre.length ≤ 16)) _) (OwnFrom.and (OwnFrom.and (Own.from (boxed_own _ _ _) _) (Own.from (boxed_own _ _ _) _)) (ownFrom_below (Nat.le_refl _) (by simp; omega))))
    (fun c => OwnFrom.and (ownFrom_pure _ _) (OwnFrom.and (OwnFrom.and (Own.from (boxed_own _ _ _) _) (Own.from (boxed_own _ _ _) _)) (ownFrom_below (Nat.le_refl _) (by simp; omega))))
    ⟨⟨_, bC.alloc _, World.ownsRow_nil _ _ _ _, by simp [okAll]⟩, ⟨((bA.alloc _).alloc _).alloc _, (bB.alloc _).alloc _⟩, hB0⟩
    (fun x a' W => ∃ Bx, Boxed4 W Bx x.1 ∧ a' = { tmps := #[.string s, undef, .pointer (some ⟨w.heap.size, 0, none⟩), .pointer (some ⟨w.heap.size + 1, 0, none⟩), .pointer (some ⟨w.heap.size + 1 + 1, 0, none⟩), .pointer (some ⟨Bx, 0, none⟩), .int .i64 x.2, .string s, .func (.func 32) #[] #[.pointer (some ⟨w.heap.size + 1 + 1 + 1, 0, none⟩)], .agg #[.int .i64 x.1.k, .int .i64 x.1.n, .int .u64 (x.1.f : Int), .string x.1.s], .int .i64 x.2, undef, undef, undef, undef, undef, undef, undef, undef, undef, undef, undef, undef], defers := [] })
    (fun x a' => ?ax) ?assign ?body ?done ?stop
  case ax =>
    rintro _ X Y row ⟨Bx, hb, e⟩ hg hr
    exact ⟨Bx, Own.from (boxed4_own Bx (fun _ : Unit => x.1)) _ () X Y row hb hg hr, e⟩
  case assign =>
    rintro l pre x W K ⟨⟨v, hv, hrow, hq⟩, ⟨b0, b1⟩, hB⟩ hK
    gi_wp2
    exact hK _ _ ((KeepsOthers.alloc _ _).from _) trivial ⟨⟨v, hv.alloc _, hrow.alloc _, hq⟩, ⟨b0.alloc _, b1.alloc _⟩, hB.alloc hB.size _⟩ ⟨W.heap.size, Boxed4.new W x.1, rfl⟩
  case body =>
    rintro l pre x a' W hl ⟨r, hr⟩ ⟨⟨v, hv, hrow, hok, h16⟩, ⟨b0, b1⟩, hB⟩ ⟨Bx, bX, rfl⟩ hlt
    obtain ⟨x0, x1, x2, x3⟩ := bX.cells
    obtain ⟨ao, cap, rfl⟩ := row_shape hrow
    have cv := hv.cell
    have c0 := b0.cell
    have f0 := b0.frozen
    have c1 := b1.cell
    have f1 := b1.frozen
    have hsz := hB.size
    by_cases he : x.2 = 0
    · by_cases hfull : pre.length = 16
      · have hbad : badEnd (pre ++ [x]) := ⟨pre, x, rfl, .inr hfull⟩
        have hfi : ((pre.length : Nat) : Int) = 16 := by omega
        clear hfull hok h16 hlt
        gi_wp2
        exact ⟨((KeepsOthers.setCell _ _ _).trans (KeepsOthers.setCell _ _ _)).from _, ⟨rfl, hbad⟩, ⟨(b0.set _).other (by omega) _, (b1.other (by omega) _).set _⟩, (hB.setCell (p := ⟨w.heap.size, 0, none⟩) (Nat.le_refl _) _).setCell (p := ⟨w.heap.size + 1, 0, none⟩) (by simp) _⟩
      · have hfi : ¬ ((pre.length : Nat) : Int) = 16 := by omega
        gi_wp2_with (gi_at_builtin; refine wpListIn_append_own _ rfl _ _ 22 rfl w.heap.size 38 i0 _ 4 40 Try.underlying22 hi hz0 hz1 hz2 rfl (by decide) _ _ _ rfl (hrow.alloc _) ⟨W.heap.size, 0, none⟩ 1 1 [.int .i64 x.1.k, .int .i64 x.1.n, .int .u64 (x.1.f : Int), .string x.1.s] rfl rfl (four_new _ _ _) (by simp [Value.oneCell']) (by unfold maxLen; omega) (by omega) (by simp; omega) ?_; intro v' w1 hown' hgrow _; obtain ⟨g', cap', rfl⟩ := ownsRow_succ hown'; obtain ⟨hv1, hv2, hr2, hk2, hb2⟩ := hv.appended (by decide) hrow hB.size (by omega) hown' hgrow; have b02 := ((b0.alloc _).kept hgrow (b0.not_row (by decide) hrow)); have b12 := ((b1.alloc _).kept hgrow (b1.not_row (by decide) hrow)); have hc1 := hv1.cell; have hf1 := hv1.frozen)
        refine ⟨hk2.from _, trivial, ⟨_, hv2, ?_, ?_, by simp; omega⟩, ⟨b02.other (by omega) _, b12.other (by omega) _⟩, hB.trans hb2⟩
        · rw [List.map_append, List.map_cons, List.map_nil, valCells_snoc, List.length_append]
          exact hr2
        · intro y hy
          rcases List.mem_append.1 hy with hy | hy
          · exact hok y hy
          · rw [List.mem_singleton.1 hy]
            exact he
    · have hbad : badEnd (pre ++ [x]) := ⟨pre, x, rfl, .inl he⟩
      gi_wp2
      exact ⟨((KeepsOthers.setCell _ _ _).trans (KeepsOthers.setCell _ _ _)).from _, ⟨rfl, hbad⟩, ⟨(b0.set _).other (by omega) _, (b1.other (by omega) _).set _⟩, (hB.setCell (p := ⟨w.heap.size, 0, none⟩) (Nat.le_refl _) _).setCell (p := ⟨w.heap.size + 1, 0, none⟩) (by simp) _⟩
  case done =>
    rintro D ys W hD rfl ⟨⟨v, hv, hrow, hok, h16⟩, ⟨b0, b1⟩, hB⟩ hK
    obtain ⟨ao, cap, rfl⟩ := row_shape hrow
    have cv := hv.cell
    have c0 := b0.cell
    have f0 := b0.frozen
    have c1 := b1.cell
    have f1 := b1.frozen
    have hval := vals_ok hok h16
    gi_wp2
    have hK2 := ((KeepsOthers.setCell W ⟨w.heap.size, 0, none⟩ (.slice ao (seqN s.size s.data.toList).length cap)).trans (KeepsOthers.setCell _ ⟨w.heap.size + 1, 0, none⟩ (.int .i64 0))).same D _ hK rfl
    refine ⟨by simp, .inl ⟨_, _, rfl, run_takeDeferred hK2, ?_⟩⟩
    have b0' := (b0.set (.slice ao (seqN s.size s.data.toList).length cap)).other (B' := w.heap.size + 1) (by omega) (.int .i64 0)
    have b1' := (b1.other (B' := w.heap.size) (by omega) (.slice ao (seqN s.size s.data.toList).length cap)).set (.int .i64 0)
    have hc5 := cell_kept b0'.cell (grownBy_putObj' _ D (.deferred none)) (fun r e => by cases e; exact ⟨_, hK2, rfl⟩)
    have hc6 := cell_kept b1'.cell (grownBy_putObj' _ D (.deferred none)) (fun r e => by cases e; exact ⟨_, hK2, rfl⟩)
    refine ⟨.tuple #[.slice ao (seqN s.size s.data.toList).length cap, .int .i64 0], by simp [results, Try.f14, go_sem, hc5, hc6], ?_, ?_⟩
    · rw [hval]
      refine ⟨_, rfl, ?_⟩
      rw [List.length_map]
      have r1 := hrow.kept (grownBy_setCell' W w.heap.size (.slice ao (seqN s.size s.data.toList).length cap)) (.inr (b0.not_row (by decide) hrow).symm)
      have r2 := r1.kept (grownBy_setCell' _ (w.heap.size + 1) (.int .i64 0)) (.inr (b1.not_row (by decide) hrow).symm)
      exact ownsRow_putObj r2 _ hK2 rfl
    · exact ((hB.setCell (p := ⟨w.heap.size, 0, none⟩) (Nat.le_refl _) _).setCell (p := ⟨w.heap.size + 1, 0, none⟩) (by simp) _).trans (belowK_b (w := w) (Nat.le_refl _) _ D _ _ (by simp at hD; omega) hK2 rfl rfl)
  case stop =>
    rintro D c pre W hD hpre ⟨⟨rfl, hbad⟩, ⟨b0, b1⟩, hB⟩ hK
    have hval := vals_bad hpre hbad
    gi_wp2
    refine ⟨by simp, .inl ⟨_, _, rfl, run_takeDeferred hK, ?_⟩⟩
    have hc5 := cell_kept b0.cell (grownBy_putObj' _ D (.deferred none)) (fun r e => by cases e; exact ⟨_, hK, rfl⟩)
    have hc6 := cell_kept b1.cell (grownBy_putObj' _ D (.deferred none)) (fun r e => by cases e; exact ⟨_, hK, rfl⟩)
    refine ⟨.tuple #[.slice none 0 0, .int .i64 3], by simp [results, Try.f14, go_sem, hc5, hc6], ?_, ?_⟩
    · rw [hval]
      rfl
    · exact hB.trans (belowK_b (w := w) (Nat.le_refl _) _ D _ _ (by simp at hD; omega) hK rfl rfl)
end Go.Proofs.Ytpjhkfebdgiejaa
