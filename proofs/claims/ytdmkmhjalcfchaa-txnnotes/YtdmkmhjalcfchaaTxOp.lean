/-
  Acts on a transaction, and pairs, in memory, opened; are they more than is played?
-/
import Derived.Test.YtdmkmhjalcfchaaTxMem
namespace Go.Proofs.Ytdmkmhjalcfchaa
open Go.RowKit Go.ChangeShapes Go.WideShapes Go.Joins Num
open scoped Classical
set_option linter.unusedVariables false
set_option maxRecDepth 100000

/-- An act. -/
structure Num.A15 where
  op : Int
  n : Int
  key : ByteArray
  val : ByteArray
def Num.A15At (w : World) (p : Addr) (x : A15) : Prop := w.cell? p = some (.int .i64 x.op) ∧ w.cell? ⟨p.block, p.off + 1, none⟩ = some (.int .i64 x.n) ∧ w.cell? ⟨p.block, p.off + 2, none⟩ = some (.string x.key) ∧ w.cell? ⟨p.block, p.off + 3, none⟩ = some (.string x.val)
abbrev Num.LiesA15 (w : World) (B : Nat) (ao : Option Addr) (l : List A15) : Prop := LiesG A15At 4 w B ao l
theorem Num.A15At.fast {B : Nat} : Fast B A15At := fun w w' p x hp h hb => ⟨(hb.cell hp).trans h.1, (hb.cell (p := ⟨p.block, p.off + 1, none⟩) hp).trans h.2.1, (hb.cell (p := ⟨p.block, p.off + 2, none⟩) hp).trans h.2.2.1, (hb.cell (p := ⟨p.block, p.off + 3, none⟩) hp).trans h.2.2.2⟩
theorem Try.cellsA15 : Try.prog.cellsOf 35 = 4 := by kernel_rfl
theorem Try.cellsInt15 : Try.prog.cellsOf 3 = 1 := by kernel_rfl
set_option maxRecDepth 100000 in
theorem open_a15 {H : Type} {enc : TypeId × Value → H} {w : World} {base : Nat} {spare : Nat → Bool} {held : Bool} (a : Addr) (n : Nat) (cs : List Value) (x : DataW H × List MemPlace)
    (h1 : w.cells? base a 4 = some cs) (h2 : DataW.trod enc Try.prog w base spare held n 35 cs = some x) :
    ∃ c : A15, True ∧ A15At w a c := by
  obtain ⟨_, hlen, hcell⟩ := World.cells?_some h1
  obtain ⟨xs, m, _, _, _, hxl, hf⟩ := DataW.trod_struct Try.underlying35 h2
  match cs, hlen, xs, hxl with
  | [v0, v1, v2, v3], _, [x0, x1, x2, x3], _ =>
    have g0 := hf 0 _ rfl
    have g1 := hf 1 _ rfl
    have g2 := hf 2 _ rfl
    have g3 := hf 3 _ rfl
    simp [Try.cellsStr, Try.cellsInt15] at g0 g1 g2 g3
    have e0 := hcell 0 (by omega)
    have e1 := hcell 1 (by omega)
    have e2 := hcell 2 (by omega)
    have e3 := hcell 3 (by omega)
    simp [Addr.add] at e0 e1 e2 e3
    obtain ⟨k0, q0, _, _⟩ := DataW.trod_int Try.underlying3 g0
    obtain ⟨k1, q1, _, _⟩ := DataW.trod_int Try.underlying3 g1
    obtain ⟨s2, q2, _, _⟩ := DataW.trod_string Try.underlying9 g2
    obtain ⟨s3, q3, _, _⟩ := DataW.trod_string Try.underlying9 g3
    simp at q0 q1 q2 q3
    subst q0 q1 q2 q3
    exact ⟨⟨k0, k1, s2, s3⟩, trivial, e0, e1, e2, e3⟩
/-- Acts that came in. -/
theorem open_acts15 {H : Type} {enc : TypeId × Value → H} {w : World} {base b0 : Nat} {r : Reach} {spare : Nat → Bool} {held : Bool} {v : Value} {d : DataW H} {p : List MemPlace}
    (hv : Value.okWide Try.prog w r b0 23 v) (h : DataW.Trod enc Try.prog w base spare held 23 v d p) :
    ∃ (ao : Option Addr) (cap : Nat) (l : List A15), v = .slice ao l.length cap ∧ LiesA15 w w.heap.size ao l := by
  obtain ⟨ao, len, cap, rfl⟩ := okWide_slice Try.underlying23 hv
  obtain ⟨fuel, hf⟩ := h
  have inh : Inhabited A15 := ⟨⟨0, 0, ByteArray.empty, ByteArray.empty⟩⟩
  obtain ⟨ao', cap', l, q, _, hl, _⟩ := open_list A15At (fun _ => True) 4 Try.cellsA15 Try.underlying23 (fun p x h => cell_lt h.1) open_a15 (by simpa [Value.cells] using hf)
  exact ⟨ao', cap', l, q, hl⟩
/-- Acts that are played. -/
def Num.Light15 (l : List A15) : Prop := l.length ≤ 60 ∧ ∀ x ∈ l, x.key.size ≤ 500 ∧ x.val.size ≤ 500
set_option maxRecDepth 100000 in
set_option maxHeartbeats 2000000 in
theorem heavy15_any (l : List A15) (ao : Option Addr) (cap : Nat) (w : World) (hl : LiesA15 w w.heap.size ao l) :
    Calls Try.prog 8 #[.slice ao l.length cap] w fun e w' => w' = w ∧ ((e = .returned (.bool true) ∧ ¬ Light15 l) ∨ (e = .returned (.bool false) ∧ Light15 l)) := by
  go_enter Try.func8, Try.ntmps8
  go_wp2
  go_loop [3] (fun i => ∃ c : Nat, c ≤ l.length ∧ c ≤ 60 ∧ i = .int .i64 (c : Int) ∧ Hid (∀ (j : Nat) x, j < c → l[j]? = some x → x.key.size ≤ 500 ∧ x.val.size ≤ 500)) (fun i => 60 - (intOf i).toNat)
  case atStart => exact ⟨0, by omega, by omega, rfl, fun j x hj => absurd hj (Nat.not_lt_zero _)⟩
  case round =>
    obtain ⟨c, hc, hc60, rfl, HF⟩ := hrel
    by_cases hcl : (c : Int) < (l.length : Int)
    · by_cases hc8 : (c : Int) < 60
      · have HX : Hid (l[c]? = some (l[c]'(by omega))) := List.getElem?_eq_getElem _
        obtain ⟨a, rfl, hblk, e0, e1, e2, e3⟩ := hl c _ HX.out
        generalize (l[c]'(by omega)) = x at *
        by_cases hk : (500 : Int) < (x.key.size : Int)
        · have HN : Hid (¬ Light15 l) := fun h => by
            have := (h.2 x (List.mem_of_getElem? HX.out)).1
            omega
          clear HX HF
          go_wp2
          go_ret
          exact ⟨rfl, .inl ⟨rfl, HN.out⟩⟩
        · by_cases hv : (500 : Int) < (x.val.size : Int)
          · have HN : Hid (¬ Light15 l) := fun h => by
              have := (h.2 x (List.mem_of_getElem? HX.out)).2
              omega
            clear HX HF
            have hk2 : decide ((500 : Int) < (x.key.size : Int)) = false := decide_eq_false hk
            go_wp2
            go_ret
            exact ⟨rfl, .inl ⟨rfl, HN.out⟩⟩
          · have HF2 : Hid (∀ (j : Nat) y, j < c + 1 → l[j]? = some y → y.key.size ≤ 500 ∧ y.val.size ≤ 500) := fun j y hj hy => by
              rcases Nat.lt_or_ge j c with h | h
              · exact HF.out j y h hy
              · obtain rfl : j = c := by omega
                rw [HX.out] at hy
                cases hy
                omega
            clear HX HF
            have hk2 : decide ((500 : Int) < (x.key.size : Int)) = false := decide_eq_false hk
            have hv2 : decide ((500 : Int) < (x.val.size : Int)) = false := decide_eq_false hv
            go_wp2
            go_round
            case rel => exact ⟨c + 1, by omega, by omega, by go_num, HF2.out⟩
            case measure => simp [intOf]; omega
      · have hc8' : decide ((c : Int) < 60) = false := decide_eq_false hc8
        by_cases hl8 : (60 : Int) < (l.length : Int)
        · have HN : Hid (¬ Light15 l) := fun h => by
            have := h.1
            omega
          clear HF
          go_wp2
          go_ret
          exact ⟨rfl, .inl ⟨rfl, HN.out⟩⟩
        · exfalso
          omega
    · have hcl' : decide ((c : Int) < (l.length : Int)) = false := decide_eq_false hcl
      have hl8 : decide ((60 : Int) < (l.length : Int)) = false := decide_eq_false (by omega)
      have hlight : Light15 l := ⟨by omega, fun x hx => by
        obtain ⟨j, hj⟩ := List.mem_iff_getElem?.1 hx
        exact HF.out j x (by have := (List.getElem?_eq_some_iff.1 hj).1; omega) hj⟩
      have HL : Hid (Light15 l) := hlight
      clear HF hlight
      go_wp2
      go_ret
      exact ⟨rfl, .inr ⟨rfl, HL.out⟩⟩
theorem heavy15_yes (l : List A15) (h : ¬ Light15 l) (ao : Option Addr) (cap : Nat) (w : World) (hl : LiesA15 w w.heap.size ao l) : Calls Try.prog 8 #[.slice ao l.length cap] w fun e w' => e = .returned (.bool true) ∧ w' = w := by
  refine (heavy15_any l ao cap w hl).mono ?_
  rintro e w' ⟨rfl, ⟨rfl, _⟩ | ⟨_, h2⟩⟩
  · exact ⟨rfl, rfl⟩
  · exact absurd h2 h
theorem heavy15_no (l : List A15) (h : Light15 l) (ao : Option Addr) (cap : Nat) (w : World) (hl : LiesA15 w w.heap.size ao l) : Calls Try.prog 8 #[.slice ao l.length cap] w fun e w' => e = .returned (.bool false) ∧ w' = w := by
  refine (heavy15_any l ao cap w hl).mono ?_
  rintro e w' ⟨rfl, ⟨_, h2⟩ | ⟨rfl, _⟩⟩
  · exact absurd h h2
  · exact ⟨rfl, rfl⟩
/-- Pairs that came in. -/
theorem open_prs {H : Type} {enc : TypeId × Value → H} {w : World} {base b0 : Nat} {r : Reach} {spare : Nat → Bool} {held : Bool} {v : Value} {d : DataW H} {p : List MemPlace}
    (hv : Value.okWide Try.prog w r b0 22 v) (h : DataW.Trod enc Try.prog w base spare held 22 v d p) :
    ∃ (ao : Option Addr) (cap : Nat) (l : List Pr), v = .slice ao l.length cap ∧ LiesPr w w.heap.size ao l := by
  obtain ⟨ao, len, cap, rfl⟩ := okWide_slice Try.underlying22 hv
  obtain ⟨fuel, hf⟩ := h
  have inh : Inhabited Pr := ⟨⟨ByteArray.empty, ByteArray.empty⟩⟩
  obtain ⟨ao', cap', l, q, _, hl, _⟩ := open_list PrAt (fun _ => True) 2 Try.cellsPr Try.underlying22 (fun p x h => cell_lt h.1) open_pr (by simpa [Value.cells] using hf)
  exact ⟨ao', cap', l, q, hl⟩
end Go.Proofs.Ytdmkmhjalcfchaa
