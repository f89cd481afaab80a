/-
  Contracts: the cells of bytes, or that they are refused: of the program.
-/
import Derived.Test.YtgaidhalkianfaaRBox
import Derived.Test.YtgaidhalkianfaaVGet5
import Derived.Defers
import Derived.Recover
import Derived.Lib.BoundsPanic
import Derived.RegionDies
import Derived.RangeFuncNested
namespace Go.Proofs.Ytgaidhalkianfaa
open Go.RowKit Num
set_option linter.unusedVariables false

/-- The deferred function of a frame that panics: it recovers, and tells that the bytes are refused. -/
theorem catch_panicking (p q : Addr) (u : TypeId) (pv v0 v1 : Value) (older : List PanicEntry) (w : World) (hne : p ≠ q) (hc : w.cell? p = some v0) (hz : w.frozen? p = false) (hc' : w.cell? q = some v1) (hz' : w.frozen? q = false) :
    CallsD Try.prog 26 #[.pointer (some p), .pointer (some q)] (.panicking ({ v := .iface u pv, recovered := false } :: older)) w fun e u' w' =>
      e = .returned (.tuple #[]) ∧ u' = .panicking ({ v := .iface u pv, recovered := true } :: older) ∧ w' = (w.setCell p (.slice none 0 0)).setCell q (.int .i64 3) := by
  have hc2 : (w.setCell p (.slice none 0 0)).cell? q = some v1 := by rw [World.cell?_setCell_other _ _ _ _ hne]; exact hc'
  refine callsD_of_wpS Try.func26 rfl fun c₀ cs hu => ?_
  apply wpS_seq
  apply wpS_region
  simp [wpOpsS, go_sem, recoverD, hu, Try.ntmps26, Exit.thenS]
  refine wpS_cond (t := true) (by simp [Act.eval, Array.replicate]) ?_
  simp only [if_true]
  apply wpS_region
  simp [wpOpsS, go_sem, hc, hz, hc2, hz', bodyPostS, results, Try.results26]
/-- Of a frame that returns. -/
theorem catch_idle (p q : Addr) (w : World) :
    CallsD Try.prog 26 #[.pointer (some p), .pointer (some q)] .returning w fun e u' w' => e = .returned (.tuple #[]) ∧ u' = .returning ∧ w' = w := by
  refine callsD_of_wpS Try.func26 rfl fun c₀ cs hu => ?_
  apply wpS_seq
  apply wpS_region
  simp [wpOpsS, go_sem, recoverD, hu, Try.ntmps26, Exit.thenS]
  refine wpS_cond (t := false) (by simp [Act.eval, Array.replicate]) ?_
  simp only [Bool.false_eq_true, if_false]
  refine wpS_of_wp (wp_skip ?_)
  cases c₀
  simp_all [bodyPostS, results, Try.results26]

def Num.lenS : Value → Nat
  | .string s => s.size
  | _ => 0
/-- What Get tells: the cells in new memory, or that the bytes are refused. -/
def Num.getPostC (base : Nat) (o : Option (List Cel)) (e : Ending) (w' : World) : Prop :=
  match o with
  | some l => ∃ v, e = .returned (.tuple #[v, .int .i64 0]) ∧ w'.ownsRow base 41 5 v l.length (celCells l)
  | none => e = .returned (.tuple #[.slice none 0 0, .int .i64 3])

theorem or_col (a b : UInt8) : bits .or .i64 ((a.toNat : Int) * 256) (b.toNat : Int) = (colN a b : Int) := by
  have ha : a.toNat < 256 := a.toNat_lt
  have hb : b.toNat < 256 := b.toNat_lt
  obtain ⟨m, hm⟩ : ∃ m, a.toNat * 256 = m := ⟨_, rfl⟩
  have e2 : (a.toNat : Int) * 256 = (m : Int) := by omega
  rw [e2]
  show IntKind.i64.wrap ((BitVec.ofInt 64 (m : Int) ||| BitVec.ofInt 64 (b.toNat : Int)).toNat : Int) = _
  rw [BitVec.toNat_or, ofInt_u64 m (by omega), ofInt_u64 b.toNat (by omega), nat_join 8 m b.toNat (by omega) hb, IntKind.wrap_i64]
  unfold colN
  omega
theorem or_colW (a b : UInt8) : bits .or .i64 (wrap64 (wrap64 (a.toNat : Int) * 256)) (wrap64 (b.toNat : Int)) = (colN a b : Int) := by
  have ha : a.toNat < 256 := a.toNat_lt
  have hb : b.toNat < 256 := b.toNat_lt
  have e1 : wrap64 (a.toNat : Int) = (a.toNat : Int) := by unfold wrap64; omega
  have e2 : wrap64 ((a.toNat : Int) * 256) = (a.toNat : Int) * 256 := by unfold wrap64; omega
  have e3 : wrap64 (b.toNat : Int) = (b.toNat : Int) := by unfold wrap64; omega
  rw [e1, e2, e3, or_col]
theorem drop_dataR (s : ByteArray) (k : Nat) : (s.extract k s.size).data.toList = s.data.toList.drop k := by
  rw [Go.Lib.extract_data]
  have : s.data.toList.length = s.size := rfl
  rw [List.take_of_length_le]
  rw [List.length_drop]
  omega
theorem wrap_two (d f : Nat) (h : 2 + d = f) (hf : f ≤ 900000) : IntKind.i64.wrap (2 + (d : Int)) = (f : Int) ∧ wrap64 (2 + (d : Int)) = (f : Int) := by
  constructor
  · rw [IntKind.wrap_i64]
    omega
  · unfold wrap64
    omega
theorem nb2 {α : Type} {X S m f d : Nat} {q : List α} {y : α} (h1 : X ≤ m + 1 ∧ q.length + (m + 1) = S) (h2 : 2 + d = f) : X - f ≤ m ∧ (q ++ [y]).length + m = S := by
  rw [List.length_append, List.length_singleton]
  omega
theorem meas3 {X f d : Nat} (h2 : 2 + d = f) (h : 0 < X) : X - f < X := by omega
theorem not_both {p q : Prop} (h : ¬ (p ∧ q)) : ¬ p ∨ ¬ q := by
  by_cases hp : p
  · exact .inr fun hq => h ⟨hp, hq⟩
  · exact .inl hp
theorem bad_case {c z : Nat} {e : Int} (h : ¬ (e = 0 ∧ (z : Int) < (c : Int))) : (c : Int) ≤ (z : Int) ∧ c ≤ z ∨ ((¬ (c : Int) ≤ (z : Int) ∧ ¬ c ≤ z) ∧ ¬ e = 0) := by
  by_cases h' : (c : Int) ≤ (z : Int)
  · exact .inl ⟨h', by omega⟩
  · exact .inr ⟨⟨h', by omega⟩, fun he => h ⟨he, by omega⟩⟩
theorem two_head {x : ByteArray} (h : 2 ≤ x.size) : x.data.toList = x[0] :: x[1] :: x.data.toList.drop 2 := by
  have h0 : 0 < x.data.toList.length := by show 0 < x.size; omega
  have h1 : 1 < x.data.toList.length := by show 1 < x.size; omega
  have e0 := List.drop_eq_getElem_cons h0
  have e1 := List.drop_eq_getElem_cons h1
  rw [List.drop_zero] at e0
  rw [e0, e1]
  rfl
theorem one_head {x : ByteArray} (h : x.size = 1) : ∃ a, x.data.toList = [a] := by
  match e : x.data.toList with
  | [] => have : x.data.toList.length = x.size := rfl; rw [e] at this; simp at this; omega
  | [a] => exact ⟨a, rfl⟩
  | a :: b :: r => have : x.data.toList.length = x.size := rfl; rw [e] at this; simp at this; omega

/-- Behind the deferred call of a frame that returns. -/
theorem door_ret {R : Ending → World → Prop} (p q : Addr) (tmps : Array Value) (h2 : tmps[2]? = some (.pointer (some p))) (h3 : tmps[3]? = some (.pointer (some q))) (W : World) (ao : Option Addr) (n c : Nat) (E : Int)
    (hv : W.cell? p = some (.slice ao n c)) (hE : W.cell? q = some (.int .i64 E)) (h : R (.returned (.tuple #[.slice ao n c, .int .i64 E])) W) :
    bodyPostD Try.prog Try.f14 R Exit.ret { tmps := tmps, defers := [{ target := Target.fn (Fn.func 26) #[.pointer (some p), .pointer (some q)], args := #[] }] } W := by
  refine leaves_cons (f := 26) (args := #[.pointer (some p), .pointer (some q)]) (by simp) (by simp [go_sem]) ?_
  refine (catch_idle p q _).mono ?_
  rintro e u' w'' ⟨rfl, rfl, rfl⟩
  exact ⟨_, by simp [results, Try.f14, h2, h3, hv, hE, go_sem], h⟩
/-- Behind the deferred call of a frame that panics. -/
theorem door_panic {R : Ending → World → Prop} (p q : Addr) (hne : p ≠ q) (tmps : Array Value) (h2 : tmps[2]? = some (.pointer (some p))) (h3 : tmps[3]? = some (.pointer (some q))) (W : World) (u : TypeId) (pv v0 v1 : Value)
    (hv : W.cell? p = some v0) (hz : W.frozen? p = false) (hE : W.cell? q = some v1) (hz' : W.frozen? q = false)
    (h : R (.returned (.tuple #[.slice none 0 0, .int .i64 3])) ((W.setCell p (.slice none 0 0)).setCell q (.int .i64 3))) :
    bodyPostD Try.prog Try.f14 R (Exit.panic [{ v := .iface u pv, recovered := false }]) { tmps := tmps, defers := [{ target := Target.fn (Fn.func 26) #[.pointer (some p), .pointer (some q)], args := #[] }] } W := by
  refine leaves_cons (f := 26) (args := #[.pointer (some p), .pointer (some q)]) (by simp) (by simp [go_sem]) ?_
  refine (catch_panicking p q u pv v0 v1 [] _ hne hv hz hE hz').mono ?_
  rintro e u' w'' ⟨rfl, rfl, rfl⟩
  have c1 : ((W.setCell p (.slice none 0 0)).setCell q (.int .i64 3)).cell? p = some (.slice none 0 0) := by
    rw [World.cell?_setCell_other _ _ _ _ (Ne.symm hne)]
    exact World.cell?_setCell_same _ _ _ hv
  have c2 : ((W.setCell p (.slice none 0 0)).setCell q (.int .i64 3)).cell? q = some (.int .i64 3) := World.cell?_setCell_same _ _ _ (by rw [World.cell?_setCell_other _ _ _ _ hne]; exact hE)
  exact ⟨_, by simp [results, Try.f14, h2, h3, c1, c2, go_sem], h⟩

set_option maxRecDepth 100000 in
set_option maxHeartbeats 2000000 in
theorem rowGet_any (s : ByteArray) (hs : s.size ≤ 900000) (w : World) :
    Calls Try.prog 14 #[.string s] w fun e w' => getPostC w.heap.size (rowL s.data.toList) e w' ∧ Below w.heap.size w w' := by
  have hmf : ∀ (fn : Fn) (first cap : Array Value) (w : World), (Instr.makeFunc fn first cap).run Try.prog w = .ok (.func fn first cap) w := fun _ _ _ _ => rfl
  obtain ⟨i0, hi, hz0, hz1, hz2⟩ := info_parts Try.infoCel
  have bA := Boxed.new w 22 (.slice none 0 0)
  have bB := Boxed.new (w.alloc (.cells #[.slice none 0 0] 22)) 25 (.int .i64 0)
  simp only [World.size_alloc] at bB
  have hB0 : Below w.heap.size w ((w.alloc (.cells #[.slice none 0 0] 22)).alloc (.cells #[.int .i64 0] 25)) := ((Below.refl _ w).alloc (Nat.le_refl _) _).alloc (by simp) _
  go_enter_defers Try.func14, Try.ntmps14
  go_wp2
  go_loopw [4, 5] (fun la le wr => ∃ (q : List Cel) (x : ByteArray) (z m : Nat) (v : Value), la = .int .i64 (z : Int) ∧ le = .string x ∧ Hid (x.size ≤ m ∧ q.length + m = s.size) ∧ Hid (rowL s.data.toList = (rowN m z x.data.toList).map (q ++ ·)) ∧ Boxed wr w.heap.size 22 v ∧ wr.ownsRow w.heap.size 41 5 v q.length (celCells q) ∧ Boxed wr (w.heap.size + 1) 25 (.int .i64 0) ∧ Below w.heap.size w wr) (fun _ le _ => lenS le)
  case atStart => exact ⟨[], s, 0, s.size, _, rfl, rfl, ⟨Nat.le_refl _, by simp⟩, by unfold Hid rowL; simp, bA.alloc _, World.ownsRow_nil _ _ _ _, bB, hB0⟩
  case round =>
    obtain ⟨q, x, z, m, v, rfl, rfl, HB, HS, hv, hrow, he, hB⟩ := hrel
    clear bA bB hB0
    by_cases hx : x.size = 0
    · have hem := empty_true hx
      have hxe : x.data.toList = [] := List.eq_nil_of_length_eq_zero hx
      have hval : rowL s.data.toList = some q := by
        rw [HS.out, hxe, row_nil]
        simp
      clear HS HB
      obtain ⟨ao, cap, rfl⟩ := rowC_shape hrow
      have cv := hv.cell
      have fv := hv.frozen
      have ce := he.cell
      have fe := he.frozen
      go_wp2
      have b0' := (hv.set (.slice ao q.length cap)).other (B' := w.heap.size + 1) (by omega) (.int .i64 0)
      have b1' := (he.other (B' := w.heap.size) (by omega) (.slice ao q.length cap)).set (.int .i64 0)
      refine door_ret _ _ _ rfl rfl _ ao q.length cap 0 b0'.cell b1'.cell ⟨?_, (hB.setCell (p := ⟨w.heap.size, 0, none⟩) (Nat.le_refl _) _).setCell (p := ⟨w.heap.size + 1, 0, none⟩) (by simp) _⟩
      rw [hval]
      have r1 := hrow.kept (grownBy_setCell' wr w.heap.size (.slice ao q.length cap)) (.inr (hv.not_row (by decide) hrow).symm)
      exact ⟨_, rfl, r1.kept (grownBy_setCell' _ (w.heap.size + 1) (.int .i64 0)) (.inr (he.not_row (by decide) hrow).symm)⟩
    · have hem := empty_false hx
      have hsz := hB.size
      obtain ⟨m, rfl⟩ : ∃ p, m = p + 1 := ⟨m - 1, by have := HB.out; omega⟩
      by_cases hx1 : x.size = 1
      · have hbp : ∀ (m : Int) (W : World), (boundsPanic (α := Value) .i64 1 m .index).run Try.prog W = _ := fun m W => Lib.run_boundsPanic_index Try.prog 1 m W (by decide) (by decide)
        have hval : rowL s.data.toList = none := by
          obtain ⟨a, ha⟩ := one_head hx1
          rw [HS.out, ha]
          rfl
        clear HS HB
        obtain ⟨ao, cap, rfl⟩ := rowC_shape hrow
        have cv := hv.cell
        have fv := hv.frozen
        have ce := he.cell
        have fe := he.frozen
        go_wp2
        have hdoor : ∀ (tmps : Array Value) (pv : Value), tmps[2]? = some (.pointer (some ⟨w.heap.size, 0, none⟩)) → tmps[3]? = some (.pointer (some ⟨w.heap.size + 1, 0, none⟩)) →
            bodyPostD Try.prog Try.f14 (fun e w' => getPostC w.heap.size (rowL s.data.toList) e w' ∧ Below w.heap.size w w') (Exit.panic [{ v := .iface 8 pv, recovered := false }]) { tmps := tmps, defers := [{ target := Target.fn (Fn.func 26) #[.pointer (some ⟨w.heap.size, 0, none⟩), .pointer (some ⟨w.heap.size + 1, 0, none⟩)], args := #[] }] } wr.drew.drew := by
          intro tmps pv h2 h3
          refine door_panic _ _ (by simp) tmps h2 h3 _ _ _ _ _ cv fv ce fe ⟨?_, (hB.drew.drew.setCell (p := ⟨w.heap.size, 0, none⟩) (Nat.le_refl _) _).setCell (p := ⟨w.heap.size + 1, 0, none⟩) (by simp) _⟩
          rw [hval]
          rfl
        refine wp_region_any (by kernel_rfl) ?_
        change wpAny _ _ _ _ _ _ _ (World.drew _)
        refine wpAny_ready (rs := [0, 4]) (by kernel_rfl) (by simp) ?_
        refine AllReady.cons rfl (fun K hK => ?_) ?_
        · go_simp
          refine hK _ _ ?_
          clear hK K
          refine wpAny_ready (rs := [1, 4]) (by kernel_rfl) (by simp) ?_
          refine AllReady.cons rfl (fun K hK => ?_) ?_
          · go_simp
            refine hK _ _ ?_
            clear hK K
            refine wpAny_ready (rs := [2, 4]) (by kernel_rfl) (by simp) ?_
            refine AllReady.cons rfl (fun K hK => ?_) ?_
            · go_simp
              refine hK _ _ ?_
              clear hK K
              refine wpAny_ready (rs := [3, 4]) (by kernel_rfl) (by simp) ?_
              refine AllReady.cons rfl (fun K hK => ?_) ?_
              · go_simp
                refine hK _ _ ?_
                clear hK K
                refine wpAny_ready (rs := [4]) (by kernel_rfl) (by simp) ?_
                refine AllReady.cons rfl (fun K hK => ?_) ?_
                · go_simp
                  refine hK _ _ ?_
                  clear hK K
                  refine wpAny_ready (rs := [5]) (by kernel_rfl) (by simp) ?_
                  refine AllReady.cons rfl (fun K hK => ?_) ?_
                  · go_simp
                    exact hdoor _ _ rfl rfl
                  exact AllReady.nil
                exact AllReady.nil
              refine AllReady.cons rfl (fun K hK => ?_) ?_
              · go_simp
                refine hK _ _ ?_
                clear hK K
                refine wpAny_ready (rs := [3, 5]) (by kernel_rfl) (by simp) ?_
                refine AllReady.cons rfl (fun K hK => ?_) ?_
                · go_simp
                  refine hK _ _ ?_
                  clear hK K
                  refine wpAny_ready (rs := [5]) (by kernel_rfl) (by simp) ?_
                  refine AllReady.cons rfl (fun K hK => ?_) ?_
                  · go_simp
                    exact hdoor _ _ rfl rfl
                  exact AllReady.nil
                refine AllReady.cons rfl (fun K hK => ?_) ?_
                · go_simp
                  exact hdoor _ _ rfl rfl
                exact AllReady.nil
              exact AllReady.nil
            refine AllReady.cons rfl (fun K hK => ?_) ?_
            · go_simp
              refine hK _ _ ?_
              clear hK K
              refine wpAny_ready (rs := [2, 5]) (by kernel_rfl) (by simp) ?_
              refine AllReady.cons rfl (fun K hK => ?_) ?_
              · go_simp
                refine hK _ _ ?_
                clear hK K
                refine wpAny_ready (rs := [3, 5]) (by kernel_rfl) (by simp) ?_
                refine AllReady.cons rfl (fun K hK => ?_) ?_
                · go_simp
                  refine hK _ _ ?_
                  clear hK K
                  refine wpAny_ready (rs := [5]) (by kernel_rfl) (by simp) ?_
                  refine AllReady.cons rfl (fun K hK => ?_) ?_
                  · go_simp
                    exact hdoor _ _ rfl rfl
                  exact AllReady.nil
                refine AllReady.cons rfl (fun K hK => ?_) ?_
                · go_simp
                  exact hdoor _ _ rfl rfl
                exact AllReady.nil
              refine AllReady.cons rfl (fun K hK => ?_) ?_
              · go_simp
                exact hdoor _ _ rfl rfl
              exact AllReady.nil
            exact AllReady.nil
          refine AllReady.cons rfl (fun K hK => ?_) ?_
          · go_simp
            refine hK _ _ ?_
            clear hK K
            refine wpAny_ready (rs := [1, 5]) (by kernel_rfl) (by simp) ?_
            refine AllReady.cons rfl (fun K hK => ?_) ?_
            · go_simp
              refine hK _ _ ?_
              clear hK K
              refine wpAny_ready (rs := [2, 5]) (by kernel_rfl) (by simp) ?_
              refine AllReady.cons rfl (fun K hK => ?_) ?_
              · go_simp
                refine hK _ _ ?_
                clear hK K
                refine wpAny_ready (rs := [3, 5]) (by kernel_rfl) (by simp) ?_
                refine AllReady.cons rfl (fun K hK => ?_) ?_
                · go_simp
                  refine hK _ _ ?_
                  clear hK K
                  refine wpAny_ready (rs := [5]) (by kernel_rfl) (by simp) ?_
                  refine AllReady.cons rfl (fun K hK => ?_) ?_
                  · go_simp
                    exact hdoor _ _ rfl rfl
                  exact AllReady.nil
                refine AllReady.cons rfl (fun K hK => ?_) ?_
                · go_simp
                  exact hdoor _ _ rfl rfl
                exact AllReady.nil
              refine AllReady.cons rfl (fun K hK => ?_) ?_
              · go_simp
                exact hdoor _ _ rfl rfl
              exact AllReady.nil
            refine AllReady.cons rfl (fun K hK => ?_) ?_
            · go_simp
              exact hdoor _ _ rfl rfl
            exact AllReady.nil
          exact AllReady.nil
        refine AllReady.cons rfl (fun K hK => ?_) ?_
        · go_simp
          refine hK _ _ ?_
          clear hK K
          refine wpAny_ready (rs := [0, 5]) (by kernel_rfl) (by simp) ?_
          refine AllReady.cons rfl (fun K hK => ?_) ?_
          · go_simp
            refine hK _ _ ?_
            clear hK K
            refine wpAny_ready (rs := [1, 5]) (by kernel_rfl) (by simp) ?_
            refine AllReady.cons rfl (fun K hK => ?_) ?_
            · go_simp
              refine hK _ _ ?_
              clear hK K
              refine wpAny_ready (rs := [2, 5]) (by kernel_rfl) (by simp) ?_
              refine AllReady.cons rfl (fun K hK => ?_) ?_
              · go_simp
                refine hK _ _ ?_
                clear hK K
                refine wpAny_ready (rs := [3, 5]) (by kernel_rfl) (by simp) ?_
                refine AllReady.cons rfl (fun K hK => ?_) ?_
                · go_simp
                  refine hK _ _ ?_
                  clear hK K
                  refine wpAny_ready (rs := [5]) (by kernel_rfl) (by simp) ?_
                  refine AllReady.cons rfl (fun K hK => ?_) ?_
                  · go_simp
                    exact hdoor _ _ rfl rfl
                  exact AllReady.nil
                refine AllReady.cons rfl (fun K hK => ?_) ?_
                · go_simp
                  exact hdoor _ _ rfl rfl
                exact AllReady.nil
              refine AllReady.cons rfl (fun K hK => ?_) ?_
              · go_simp
                exact hdoor _ _ rfl rfl
              exact AllReady.nil
            refine AllReady.cons rfl (fun K hK => ?_) ?_
            · go_simp
              exact hdoor _ _ rfl rfl
            exact AllReady.nil
          refine AllReady.cons rfl (fun K hK => ?_) ?_
          · go_simp
            exact hdoor _ _ rfl rfl
          exact AllReady.nil
        exact AllReady.nil
      · have h2 : 2 ≤ x.size := by omega
        have h0 : 0 < x.size := by omega
        have h1 : 1 < x.size := by omega
        have h1i : (1 : Int) < (x.size : Int) := by omega
        have h2i : (2 : Int) ≤ (x.size : Int) := by omega
        have hd := two_head h2
        have hg := get_any (x.extract 2 x.size) (by have := HB.out; simp; omega)
        rw [drop_dataR] at hg
        have hor := or_colW x[0] x[1]
        have hlx : (x.data.toList.drop 2).length = x.size - 2 := by rw [List.length_drop]; rfl
        obtain ⟨r, hr⟩ : ∃ r, getL (x.data.toList.drop 2) = r := ⟨_, rfl⟩
        rw [hr] at hg
        obtain ⟨c, hc⟩ : ∃ c, colN x[0] x[1] = c := ⟨_, rfl⟩
        rw [hc] at hor
        by_cases hgood : r.e = 0 ∧ (z : Int) < (c : Int)
        · obtain ⟨hge, hzc⟩ := hgood
          have HS2 : Hid (rowL s.data.toList = (rowN m c ((x.data.toList.drop 2).drop r.c.toNat)).map ((q ++ [⟨(c : Int), ⟨r.k, r.n, r.f, str r.s⟩⟩]) ++ ·)) := by
            have h := HS.out
            rw [hd, rowN_go (by rw [hr]; exact hge) (by rw [hc]; exact hzc), map_cons, hr, celOf, hc] at h
            exact h
          have hcb := getL_c (x.data.toList.drop 2) (by rw [hr]; exact hge)
          rw [hr, hlx] at hcb
          clear HS hr hd hlx
          obtain ⟨rk, rn, rf, rs, rc, re⟩ := r
          rw [resV_eq] at hg
          simp only at hge hcb hg HS2
          subst hge
          obtain ⟨d, rfl⟩ := Int.eq_ofNat_of_zero_le (show 0 ≤ rc by omega)
          have hcz : ¬ (c : Int) ≤ (z : Int) := by omega
          obtain ⟨f, hf⟩ : ∃ f, 2 + d = f := ⟨_, rfl⟩
          have hfx : f ≤ x.size := by omega
          have hfi : (f : Int) ≤ (x.size : Int) := by omega
          have hxs : x.size ≤ 900000 := by have := HB.out; omega
          obtain ⟨hfw, hfw2⟩ := wrap_two d f hf (by omega)
          have HF : Hid (2 + d = f) := hf
          clear hf
          obtain ⟨ao, cap, rfl⟩ := rowC_shape hrow
          have hql : q.length ≤ 900000 := by have := HB.out; omega
          go_wp2
          go_region
          go_wp2_with (first
            | (go_at_call 27; refine (hg _).mono ?_; rintro e w1 ⟨rfl, hb1⟩; have hv1 : Boxed w1 w.heap.size 22 (.slice ao q.length cap) := (hb1.block _ hv.lt).trans hv; have he1 : Boxed w1 (w.heap.size + 1) 25 (.int .i64 0) := (hb1.block _ he.lt).trans he; have hrow1 := own_below hrow.drew hb1; have cv1 := (hv1.alloc (.cells #[.int .i64 rk, .int .i64 rn, .int .u64 (rf : Int), .string (str rs)] 39)).cell; have hs1 : wr.heap.size ≤ w1.heap.size := hb1.size)
            | (at_builtin; (refine wpList_append_own _ rfl _ _ 22 rfl w.heap.size 41 i0 _ 5 48 Try.underlying22 hi hz0 hz1 hz2 rfl (by decide) _ _ _ rfl ((hrow1.alloc _).alloc _) ⟨w1.heap.size + 1, 0, none⟩ 1 1 [.int .i64 (c : Int), .int .i64 rk, .int .i64 rn, .int .u64 (rf : Int), .string (str rs)] rfl rfl (five_new2 _ _ ⟨(c : Int), ⟨rk, rn, rf, str rs⟩⟩ _) (by simp [Value.oneCell']) (by unfold maxLen; omega) (by omega) (by simp; omega) ?_); intro v' w3 hown3 hgrow3 _; obtain ⟨g', cap', rfl⟩ := ownsRow_succ hown3; (obtain ⟨hv3, hv4, hr4, _, hb4⟩ := (hv1.alloc (.cells #[.int .i64 rk, .int .i64 rn, .int .u64 (rf : Int), .string (str rs)] 39)).appended (by decide) (hrow1.alloc _) (by simp; omega) (Nat.le_refl _) hown3 hgrow3); have cv3 := hv3.cell; have fv3 := hv3.frozen))
          go_region
          have he3 := ((he1.alloc (.cells #[.int .i64 rk, .int .i64 rn, .int .u64 (rf : Int), .string (str rs)] 39)).alloc (.cells #[.int .i64 (c : Int), .int .i64 rk, .int .i64 rn, .int .u64 (rf : Int), .string (str rs)] 41)).kept hgrow3 (((he1.alloc (.cells #[.int .i64 rk, .int .i64 rn, .int .u64 (rf : Int), .string (str rs)] 39)).alloc (.cells #[.int .i64 (c : Int), .int .i64 rk, .int .i64 rn, .int .u64 (rf : Int), .string (str rs)] 41)).not_row (by decide) ((hrow1.alloc _).alloc _))
          go_wp2
          go_roundw
          case rel =>
            have hB3 := (((below_next hB.drew (Nat.le_refl _) hb1).alloc (Nat.le_trans hsz hs1) (.cells #[.int .i64 rk, .int .i64 rn, .int .u64 (rf : Int), .string (str rs)] 39)).trans hb4).drew
            have he4 := he3.other (B' := w.heap.size) (by omega) (.slice (some ⟨g', 0, none⟩) (q.length + 1) cap')
            refine ⟨q ++ [⟨(c : Int), ⟨rk, rn, rf, str rs⟩⟩], x.extract f x.size, c, m, _, rfl, rfl, ?_, ?_, hv4, ?_, he4, hB3⟩
            · unfold Hid
              rw [ByteArray.size_extract, Nat.min_self]
              exact nb2 HB.out HF.out
            · have h := HS2.out
              have h2 := HF.out
              unfold Hid
              rw [drop_dataR, ← h2]
              rw [Int.toNat_natCast, List.drop_drop] at h
              exact h
            · rw [celCells_snoc, List.length_append]
              exact hr4
          case measure =>
            show (x.extract f x.size).size < x.size
            rw [ByteArray.size_extract, Nat.min_self]
            exact meas3 HF.out h0
        · have hval : rowL s.data.toList = none := by
            have h := HS.out
            rw [hd, rowN_bad (by rw [hr, hc]; exact not_both hgood)] at h
            exact h
          have hcase := bad_case hgood
          clear HS HB hr hd hgood hlx
          obtain ⟨rk, rn, rf, rs, rc, re⟩ := r
          rw [resV_eq] at hg
          simp only at hcase hg
          obtain ⟨ao, cap, rfl⟩ := rowC_shape hrow
          rcases hcase with ⟨hcz, hczn⟩ | ⟨⟨hcz, hczn⟩, hne⟩
          all_goals
            go_wp2
            go_region
            go_wp2_with (first
              | (go_at_call 27; refine (hg _).mono ?_; rintro e w1 ⟨rfl, hb1⟩; have hv1 : Boxed (w1.alloc (.cells #[.int .i64 rk, .int .i64 rn, .int .u64 (rf : Int), .string (str rs)] 39)) w.heap.size 22 (.slice ao q.length cap) := Boxed.alloc ((hb1.block _ hv.lt).trans hv) _; have he1 : Boxed (w1.alloc (.cells #[.int .i64 rk, .int .i64 rn, .int .u64 (rf : Int), .string (str rs)] 39)) (w.heap.size + 1) 25 (.int .i64 0) := Boxed.alloc ((hb1.block _ he.lt).trans he) _; have cv1 := hv1.cell; have fv1 := hv1.frozen; have ce1 := he1.cell; have fe1 := he1.frozen; have hs1 : wr.heap.size ≤ w1.heap.size := hb1.size))
            have b0' := (hv1.set (.slice none 0 0)).other (B' := w.heap.size + 1) (by omega) (.int .i64 3)
            have b1' := (he1.other (B' := w.heap.size) (by omega) (.slice none 0 0)).set (.int .i64 3)
            have hB1 := (below_next hB.drew (Nat.le_refl _) hb1).alloc (Nat.le_trans hsz hs1) (.cells #[.int .i64 rk, .int .i64 rn, .int .u64 (rf : Int), .string (str rs)] 39)
            refine door_ret _ _ _ rfl rfl _ none 0 0 3 b0'.cell b1'.cell ⟨?_, (hB1.setCell (p := ⟨w.heap.size, 0, none⟩) (Nat.le_refl _) _).setCell (p := ⟨w.heap.size + 1, 0, none⟩) (by simp) _⟩
            rw [hval]
            rfl
end Go.Proofs.Ytgaidhalkianfaa
