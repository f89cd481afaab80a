/-
  Acts on clocks in memory, opened; what each act says, of the program's clocks and of the document's own.
-/
import Derived.Test.YtfplkpgmpnhbdaaCkAwk
import Derived.Test.YtfplkpgmpnhbdaaCkRef
import Derived.Deep.RegionHeldLaw
namespace Go.Proofs.Ytfplkpgmpnhbdaa
open Go.RowKit Go.ChangeShapes Go.WideShapes Go.Joins Num
open scoped Classical
set_option linter.unusedVariables false

/-- An act. -/
structure Num.A10 where
  op : Int
  i : Int
  n : Int
def Num.A10At (w : World) (p : Addr) (x : A10) : Prop := w.cell? p = some (.int .i64 x.op) ∧ w.cell? ⟨p.block, p.off + 1, none⟩ = some (.int .i64 x.i) ∧ w.cell? ⟨p.block, p.off + 2, none⟩ = some (.int .i64 x.n)
abbrev Num.LiesA10 (w : World) (B : Nat) (ao : Option Addr) (l : List A10) : Prop := LiesG A10At 3 w B ao l
theorem Num.A10At.fast {B : Nat} : Fast B A10At := fun w w' p x hp h hb => ⟨(hb.cell hp).trans h.1, (hb.cell (p := ⟨p.block, p.off + 1, none⟩) hp).trans h.2.1, (hb.cell (p := ⟨p.block, p.off + 2, none⟩) hp).trans h.2.2⟩
theorem Try.cellsA10 : Try.prog.cellsOf 32 = 3 := by kernel_rfl
theorem Try.cellsInt10 : Try.prog.cellsOf 3 = 1 := by kernel_rfl
set_option maxRecDepth 100000 in
theorem open_a10 {H : Type} {enc : TypeId × Value → H} {w : World} {base : Nat} {spare : Nat → Bool} {held : Bool} (a : Addr) (n : Nat) (cs : List Value) (x : DataW H × List MemPlace)
    (h1 : w.cells? base a 3 = some cs) (h2 : DataW.trod enc Try.prog w base spare held n 32 cs = some x) :
    ∃ c : A10, True ∧ A10At w a c := by
  obtain ⟨_, hlen, hcell⟩ := World.cells?_some h1
  obtain ⟨xs, m, _, _, _, hxl, hf⟩ := DataW.trod_struct Try.underlying32 h2
  match cs, hlen, xs, hxl with
  | [v0, v1, v2], _, [x0, x1, x2], _ =>
    have g0 := hf 0 _ rfl
    have g1 := hf 1 _ rfl
    have g2 := hf 2 _ rfl
    simp [Try.cellsInt10] at g0 g1 g2
    have e0 := hcell 0 (by omega)
    have e1 := hcell 1 (by omega)
    have e2 := hcell 2 (by omega)
    simp [Addr.add] at e0 e1 e2
    obtain ⟨k0, q0, _, _⟩ := DataW.trod_int Try.underlying3 g0
    obtain ⟨k1, q1, _, _⟩ := DataW.trod_int Try.underlying3 g1
    obtain ⟨k2, q2, _, _⟩ := DataW.trod_int Try.underlying3 g2
    simp at q0 q1 q2
    subst q0 q1 q2
    exact ⟨⟨k0, k1, k2⟩, trivial, e0, e1, e2⟩
/-- Acts that came in. -/
theorem open_acts10 {H : Type} {enc : TypeId × Value → H} {w : World} {base b0 : Nat} {r : Reach} {spare : Nat → Bool} {held : Bool} {v : Value} {d : DataW H} {p : List MemPlace}
    (hv : Value.okWide Try.prog w r b0 22 v) (h : DataW.Trod enc Try.prog w base spare held 22 v d p) :
    ∃ (ao : Option Addr) (cap : Nat) (l : List A10), v = .slice ao l.length cap ∧ LiesA10 w w.heap.size ao l := by
  obtain ⟨ao, len, cap, rfl⟩ := okWide_slice Try.underlying22 hv
  obtain ⟨fuel, hf⟩ := h
  have inh : Inhabited A10 := ⟨⟨0, 0, 0⟩⟩
  obtain ⟨ao', cap', l, q, _, hl, _⟩ := open_list A10At (fun _ => True) 3 Try.cellsA10 Try.underlying22 (fun p x h => cell_lt h.1) open_a10 (by simpa [Value.cells] using hf)
  exact ⟨ao', cap', l, q, hl⟩
/-! What is said, and what is there behind it. -/
def Num.tickR (c : Ck) (x : Int) : Int × Ck := if 0 ≤ x ∧ x ≤ 10000 ∧ c.time + x < 1099511627776 then (0, tickC c x) else (1, c)
def Num.setR (c : Ck) (i x : Int) : Int × Ck := if 0 ≤ i ∧ i < (c.n : Int) then (if -100000 ≤ x ∧ x ≤ 100000 then (0, setC c i.toNat x) else (1, c)) else (20, c)
def Num.nowR (c : Ck) (i : Int) : Int × Ck := if 0 ≤ i ∧ i < (c.n : Int) then (tellC c i.toNat, nowC c i.toNat) else (0, c)
theorem tick_any (g : Nat) (c : Ck) (x : Int) (w : World) (h : HoldC w g c) : Calls Try.prog 10 #[.pointer (some ⟨g, 0, none⟩), .int .i64 x] w fun e w' => e = .returned (.int .i64 (tickR c x).1) ∧ HoldC w' g (tickR c x).2 ∧ But [g] w w' := by
  by_cases hx : 0 ≤ x ∧ x ≤ 10000 ∧ c.time + x < 1099511627776
  · rw [tickR, if_pos hx]
    exact tick_yes g c x hx w h
  · rw [tickR, if_neg hx]
    refine (tick_no g c x hx w h).mono ?_
    rintro e w' ⟨rfl, rfl⟩
    exact ⟨rfl, h, But.refl _ _⟩
theorem rtick_any (r ro rl : Nat) (c : Ck) (x : Int) (w : World) (h : HoldD w r ro rl c) : Calls Try.prog 11 #[.pointer (some ⟨r, 0, none⟩), .int .i64 x] w fun e w' => e = .returned (.int .i64 (tickR c x).1) ∧ HoldD w' r ro rl (tickR c x).2 ∧ But [r, ro, rl] w w' := by
  by_cases hx : 0 ≤ x ∧ x ≤ 10000 ∧ c.time + x < 1099511627776
  · rw [tickR, if_pos hx]
    exact rtick_yes r ro rl c x hx w h
  · rw [tickR, if_neg hx]
    refine (rtick_no r ro rl c x hx w h).mono ?_
    rintro e w' ⟨rfl, rfl⟩
    exact ⟨rfl, h, But.refl _ _⟩
theorem set_any (g : Nat) (c : Ck) (i x : Int) (w : World) (h : HoldC w g c) : Calls Try.prog 12 #[.pointer (some ⟨g, 0, none⟩), .int .i64 i, .int .i64 x] w fun e w' => e = .returned (.int .i64 (setR c i x).1) ∧ HoldC w' g (setR c i x).2 ∧ But [g] w w' := by
  by_cases hi : 0 ≤ i ∧ i < (c.n : Int)
  · obtain ⟨k, rfl⟩ := Int.eq_ofNat_of_zero_le hi.1
    by_cases hx : -100000 ≤ x ∧ x ≤ 100000
    · rw [setR, if_pos hi, if_pos hx]
      exact set_yes g c k x (by omega) hx w h
    · rw [setR, if_pos hi, if_neg hx]
      refine (set_arg g c k x (by omega) hx w h).mono ?_
      rintro e w' ⟨rfl, rfl⟩
      exact ⟨rfl, h, But.refl _ _⟩
  · rw [setR, if_neg hi]
    refine (set_none g c i x hi w h).mono ?_
    rintro e w' ⟨rfl, rfl⟩
    exact ⟨rfl, h, But.refl _ _⟩
theorem rset_any (r ro rl : Nat) (c : Ck) (i x : Int) (w : World) (h : HoldD w r ro rl c) : Calls Try.prog 13 #[.pointer (some ⟨r, 0, none⟩), .int .i64 i, .int .i64 x] w fun e w' => e = .returned (.int .i64 (setR c i x).1) ∧ HoldD w' r ro rl (setR c i x).2 ∧ But [r, ro, rl] w w' := by
  by_cases hi : 0 ≤ i ∧ i < (c.n : Int)
  · obtain ⟨k, rfl⟩ := Int.eq_ofNat_of_zero_le hi.1
    by_cases hx : -100000 ≤ x ∧ x ≤ 100000
    · rw [setR, if_pos hi, if_pos hx]
      exact rset_yes r ro rl c k x (by omega) hx w h
    · rw [setR, if_pos hi, if_neg hx]
      refine (rset_arg r ro rl c k x (by omega) hx w h).mono ?_
      rintro e w' ⟨rfl, rfl⟩
      exact ⟨rfl, h, But.refl _ _⟩
  · rw [setR, if_neg hi]
    refine (rset_none r ro rl c i x hi w h).mono ?_
    rintro e w' ⟨rfl, rfl⟩
    exact ⟨rfl, h, But.refl _ _⟩
theorem now_any (g : Nat) (c : Ck) (i : Int) (w : World) (h : HoldC w g c) : Calls Try.prog 14 #[.pointer (some ⟨g, 0, none⟩), .int .i64 i] w fun e w' => e = .returned (.int .i64 (nowR c i).1) ∧ HoldC w' g (nowR c i).2 ∧ But [g] w w' := by
  by_cases hi : 0 ≤ i ∧ i < (c.n : Int)
  · obtain ⟨k, rfl⟩ := Int.eq_ofNat_of_zero_le hi.1
    rw [nowR, if_pos hi]
    exact now_yes g c k (by omega) w h
  · rw [nowR, if_neg hi]
    refine (now_no g c i hi w h).mono ?_
    rintro e w' ⟨rfl, rfl⟩
    exact ⟨rfl, h, But.refl _ _⟩
theorem rnow_any (r ro rl : Nat) (c : Ck) (i : Int) (w : World) (h : HoldD w r ro rl c) : Calls Try.prog 15 #[.pointer (some ⟨r, 0, none⟩), .int .i64 i] w fun e w' => e = .returned (.int .i64 (nowR c i).1) ∧ HoldD w' r ro rl (nowR c i).2 ∧ But [r, ro, rl] w w' := by
  by_cases hi : 0 ≤ i ∧ i < (c.n : Int)
  · obtain ⟨k, rfl⟩ := Int.eq_ofNat_of_zero_le hi.1
    rw [nowR, if_pos hi]
    exact rnow_yes r ro rl c k (by omega) w h
  · rw [nowR, if_neg hi]
    refine (rnow_no r ro rl c i hi w h).mono ?_
    rintro e w' ⟨rfl, rfl⟩
    exact ⟨rfl, h, But.refl _ _⟩
/-! What an act leaves. -/
theorem tickR_n (c : Ck) (x : Int) : (tickR c x).2.n = c.n := by unfold tickR; split <;> rfl
theorem tickR_told (c : Ck) (x : Int) : (tickR c x).2.told = c.told := by unfold tickR; split <;> rfl
theorem setR_n (c : Ck) (i x : Int) : (setR c i x).2.n = c.n := by
  unfold setR
  split
  · split <;> rfl
  · rfl
theorem setR_told (c : Ck) (i x : Int) : (setR c i x).2.told = c.told := by
  unfold setR
  split
  · split <;> rfl
  · rfl
/-- As long as none was ever too far off, each is near. -/
def Num.Close (c : Ck) : Prop := c.odd = false → ∀ j, -10 ≤ c.off j ∧ c.off j ≤ 10 ∧ c.told j ≤ c.time + 10
theorem close_new (n : Nat) : Close (newC n) := fun _ j => by simp [newC]
theorem close_tick {c : Ck} (h : Close c) (x : Int) : Close (tickR c x).2 := by
  unfold tickR
  split
  · rename_i hx
    intro ho j
    have := h ho j
    simp only [tickC]
    omega
  · exact h
theorem close_set {c : Ck} (h : Close c) (i : Nat) (x : Int) : Close (setC c i x) := by
  intro ho j
  have ho' : (c.odd || isFar x) = false := ho
  rw [Bool.or_eq_false_iff] at ho'
  have h1 := h ho'.1 j
  have h2 := of_decide_eq_false ho'.2
  by_cases hj : j = i
  · subst hj
    simp only [setC, upd_same]
    omega
  · simp only [setC, upd_other _ _ hj]
    exact h1
theorem close_tell {c : Ck} (h : Close c) (ho : c.odd = false) (h1 : 1000 ≤ c.time) (h2 : c.time ≤ 2000000) (i : Nat) : tellC c i ≤ c.time + 10 ∧ c.time - 10 ≤ tellC c i := by
  have := h ho i
  unfold tellC
  omega
theorem close_now {c : Ck} (h : Close c) (h1 : 1000 ≤ c.time) (h2 : c.time ≤ 2000000) (i : Nat) : Close (nowC c i) := by
  intro ho j
  have ho' : c.odd = false := ho
  have h3 := h ho' j
  have h4 := close_tell h ho' h1 h2 i
  by_cases hj : j = i
  · subst hj
    simp only [nowC, upd_same]
    omega
  · simp only [nowC, upd_other _ _ hj]
    exact h3
theorem tickR_odd (c : Ck) (x : Int) : (tickR c x).2.odd = c.odd := by unfold tickR; split <;> rfl
theorem tickR_time (c : Ck) (x : Int) : (tickR c x).2.time ≤ c.time + 10000 := by
  unfold tickR
  split
  · rename_i hx
    simp only [tickC]
    omega
  · show c.time ≤ c.time + 10000
    omega
/-- The place of a number among so many. -/
theorem place_mod (a : Int) (m : Nat) (hm : 0 < m) : ∃ u k : Nat, IntKind.u64.wrap a = (u : Int) ∧ (u : Int) % (m : Int) = (k : Int) ∧ k < m := by
  obtain ⟨u, hu⟩ : ∃ u : Nat, IntKind.u64.wrap a = (u : Int) := ⟨(IntKind.u64.wrap a).toNat, by rw [IntKind.wrap_u64]; omega⟩
  exact ⟨u, u % m, hu, by omega, Nat.mod_lt _ hm⟩
/-! Both in one memory. -/
/-- The program's clocks in block g, the document's own in r, ro, rl: other blocks, all from block B on. -/
structure Num.Duo (B : Nat) (w : World) (g r ro rl : Nat) (c : Ck) : Prop where
  p : HoldC w g c
  d : HoldD w r ro rl c
  a1 : g ≠ r
  a2 : g ≠ ro
  a3 : g ≠ rl
  b0 : B ≤ g
  b1 : B ≤ r
  b2 : B ≤ ro
  b3 : B ≤ rl
theorem Num.Duo.below {B : Nat} {w w' : World} {g r ro rl : Nat} {c : Ck} (h : Duo B w g r ro rl c) (hb : Below w.heap.size w w') : Duo B w' g r ro rl c :=
  ⟨h.p.below hb, h.d.below hb, h.a1, h.a2, h.a3, h.b0, h.b1, h.b2, h.b3⟩
/-- Behind the program's own step the document's clocks are as they were. -/
theorem Num.Duo.left {B : Nat} {w w' : World} {g r ro rl : Nat} {c : Ck} (h : Duo B w g r ro rl c) (hb : But [g] w w') : HoldD w' r ro rl c :=
  h.d.kept (hb.keep _ (by simpa using h.a1.symm)) (hb.keep _ (by simpa using h.a2.symm)) (hb.keep _ (by simpa using h.a3.symm))
theorem Num.Duo.step {B : Nat} {w w1 w2 : World} {g r ro rl : Nat} {c c' : Ck} (h : Duo B w g r ro rl c) (h1 : HoldC w1 g c') (h2 : HoldD w2 r ro rl c') (hb : But [r, ro, rl] w1 w2) : Duo B w2 g r ro rl c' :=
  ⟨h1.kept (hb.keep _ (by simp [h.a1, h.a2, h.a3])), h2, h.a1, h.a2, h.a3, h.b0, h.b1, h.b2, h.b3⟩
theorem Num.Duo.frame {B : Nat} {w w1 w2 : World} {g r ro rl : Nat} {c : Ck} (h : Duo B w g r ro rl c) (hb1 : But [g] w w1) (hb2 : But [r, ro, rl] w1 w2) : Below B w w2 :=
  (hb1.below (fun k hk => by simp at hk; rw [hk]; exact h.b0)).trans (hb2.below (fun k hk => by
    simp at hk
    rcases hk with rfl | rfl | rfl
    · exact h.b1
    · exact h.b2
    · exact h.b3))
end Go.Proofs.Ytfplkpgmpnhbdaa
