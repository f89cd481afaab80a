/-
  Acts on a store in memory, opened; are they more than is played?
-/
import Derived.Test.YtgldgedbinbigaaSNew
namespace Go.Proofs.Ytgldgedbinbigaa
open Go.RowKit Go.ChangeShapes Go.WideShapes Go.Joins Num
open scoped Classical
set_option linter.unusedVariables false

/-- An act. -/
structure Num.A8 where
  op : Int
  time : Int
  n : Int
  key : ByteArray
  val : ByteArray
def Num.A8At (w : World) (p : Addr) (x : A8) : Prop := w.cell? p = some (.int .i64 x.op) ∧ w.cell? ⟨p.block, p.off + 1, none⟩ = some (.int .i64 x.time) ∧ w.cell? ⟨p.block, p.off + 2, none⟩ = some (.int .i64 x.n) ∧ w.cell? ⟨p.block, p.off + 3, none⟩ = some (.string x.key) ∧ w.cell? ⟨p.block, p.off + 4, none⟩ = some (.string x.val)
abbrev Num.LiesA8 (w : World) (B : Nat) (ao : Option Addr) (l : List A8) : Prop := LiesG A8At 5 w B ao l
theorem Num.A8At.fast {B : Nat} : Fast B A8At := fun w w' p x hp h hb => ⟨(hb.cell hp).trans h.1, (hb.cell (p := ⟨p.block, p.off + 1, none⟩) hp).trans h.2.1, (hb.cell (p := ⟨p.block, p.off + 2, none⟩) hp).trans h.2.2.1, (hb.cell (p := ⟨p.block, p.off + 3, none⟩) hp).trans h.2.2.2.1, (hb.cell (p := ⟨p.block, p.off + 4, none⟩) hp).trans h.2.2.2.2⟩
theorem Try.cellsA8 : Try.prog.cellsOf 35 = 5 := by kernel_rfl
theorem Try.cellsInt8 : Try.prog.cellsOf 3 = 1 := by kernel_rfl
set_option maxRecDepth 100000 in
theorem open_a8 {H : Type} {enc : TypeId × Value → H} {w : World} {base : Nat} {spare : Nat → Bool} {held : Bool} (a : Addr) (n : Nat) (cs : List Value) (x : DataW H × List MemPlace)
    (h1 : w.cells? base a 5 = some cs) (h2 : DataW.trod enc Try.prog w base spare held n 35 cs = some x) :
    ∃ c : A8, True ∧ A8At w a c := by
  obtain ⟨_, hlen, hcell⟩ := World.cells?_some h1
  obtain ⟨xs, m, _, _, _, hxl, hf⟩ := DataW.trod_struct Try.underlying35 h2
  match cs, hlen, xs, hxl with
  | [v0, v1, v2, v3, v4], _, [x0, x1, x2, x3, x4], _ =>
    have g0 := hf 0 _ rfl
    have g1 := hf 1 _ rfl
    have g2 := hf 2 _ rfl
    have g3 := hf 3 _ rfl
    have g4 := hf 4 _ rfl
    simp [Try.cellsStr, Try.cellsInt8] at g0 g1 g2 g3 g4
    have e0 := hcell 0 (by omega)
    have e1 := hcell 1 (by omega)
    have e2 := hcell 2 (by omega)
    have e3 := hcell 3 (by omega)
    have e4 := hcell 4 (by omega)
    simp [Addr.add] at e0 e1 e2 e3 e4
    obtain ⟨k0, q0, _, _⟩ := DataW.trod_int Try.underlying3 g0
    obtain ⟨k1, q1, _, _⟩ := DataW.trod_int Try.underlying3 g1
    obtain ⟨k2, q2, _, _⟩ := DataW.trod_int Try.underlying3 g2
    obtain ⟨s3, q3, _, _⟩ := DataW.trod_string Try.underlying9 g3
    obtain ⟨s4, q4, _, _⟩ := DataW.trod_string Try.underlying9 g4
    simp at q0 q1 q2 q3 q4
    subst q0 q1 q2 q3 q4
    exact ⟨⟨k0, k1, k2, s3, s4⟩, trivial, e0, e1, e2, e3, e4⟩
/-- Acts that came in. -/
theorem open_acts8 {H : Type} {enc : TypeId × Value → H} {w : World} {base b0 : Nat} {r : Reach} {spare : Nat → Bool} {held : Bool} {v : Value} {d : DataW H} {p : List MemPlace}
    (hv : Value.okWide Try.prog w r b0 22 v) (h : DataW.Trod enc Try.prog w base spare held 22 v d p) :
    ∃ (ao : Option Addr) (cap : Nat) (l : List A8), v = .slice ao l.length cap ∧ LiesA8 w w.heap.size ao l := by
  obtain ⟨ao, len, cap, rfl⟩ := okWide_slice Try.underlying22 hv
  obtain ⟨fuel, hf⟩ := h
  have inh : Inhabited A8 := ⟨⟨0, 0, 0, ByteArray.empty, ByteArray.empty⟩⟩
  obtain ⟨ao', cap', l, q, _, hl, _⟩ := open_list A8At (fun _ => True) 5 Try.cellsA8 Try.underlying22 (fun p x h => cell_lt h.1) open_a8 (by simpa [Value.cells] using hf)
  exact ⟨ao', cap', l, q, hl⟩
/-- Acts that are played. -/
def Num.Light (l : List A8) : Prop := l.length ≤ 80 ∧ ∀ x ∈ l, x.key.size ≤ 500 ∧ x.val.size ≤ 500
set_option maxRecDepth 100000 in
set_option maxHeartbeats 2000000 in
theorem heavy_any (l : List A8) (ao : Option Addr) (cap : Nat) (w : World) (hl : LiesA8 w w.heap.size ao l) :
    Calls Try.prog 9 #[.slice ao l.length cap] w fun e w' => w' = w ∧ ((e = .returned (.bool true) ∧ ¬ Light l) ∨ (e = .returned (.bool false) ∧ Light l)) := by
  go_enter Try.func9, Try.ntmps9
  go_wp2
  go_loop [3] (fun i => ∃ c : Nat, c ≤ l.length ∧ c ≤ 80 ∧ i = .int .i64 (c : Int) ∧ Hid (∀ (j : Nat) x, j < c → l[j]? = some x → x.key.size ≤ 500 ∧ x.val.size ≤ 500)) (fun i => 80 - (intOf i).toNat)
  case atStart => exact ⟨0, by omega, by omega, rfl, fun j x hj => absurd hj (Nat.not_lt_zero _)⟩
  case round =>
    obtain ⟨c, hc, hc80, rfl, HF⟩ := hrel
    by_cases hcl : (c : Int) < (l.length : Int)
    · by_cases hc8 : (c : Int) < 80
      · have HX : Hid (l[c]? = some (l[c]'(by omega))) := List.getElem?_eq_getElem _
        obtain ⟨a, rfl, hblk, e0, e1, e2, e3, e4⟩ := hl c _ HX.out
        generalize (l[c]'(by omega)) = x at *
        by_cases hk : (500 : Int) < (x.key.size : Int)
        · have HN : Hid (¬ Light l) := fun h => by
            have := (h.2 x (List.mem_of_getElem? HX.out)).1
            omega
          clear HX HF
          go_wp2
          go_ret
          exact ⟨rfl, .inl ⟨rfl, HN.out⟩⟩
        · by_cases hv : (500 : Int) < (x.val.size : Int)
          · have HN : Hid (¬ Light l) := fun h => by
              have := (h.2 x (List.mem_of_getElem? HX.out)).2
              omega
            clear HX HF
            have hk2 : decide ((500 : Int) < (x.key.size : Int)) = false := decide_eq_false hk
            go_wp2
            go_ret
            exact ⟨rfl, .inl ⟨rfl, HN.out⟩⟩
          · have HF2 : Hid (∀ (j : Nat) y, j < c + 1 → l[j]? = some y → y.key.size ≤ 500 ∧ y.val.size ≤ 500) := fun j y hj hy => by
              rcases Nat.lt_or_ge j c with h | h
              · exact HF.out j y h hy
              · obtain rfl : j = c := by omega
                rw [HX.out] at hy
                cases hy
                omega
            clear HX HF
            have hk2 : decide ((500 : Int) < (x.key.size : Int)) = false := decide_eq_false hk
            have hv2 : decide ((500 : Int) < (x.val.size : Int)) = false := decide_eq_false hv
            go_wp2
            go_round
            case rel => exact ⟨c + 1, by omega, by omega, by go_num, HF2.out⟩
            case measure => simp [intOf]; omega
      · have hc8' : decide ((c : Int) < 80) = false := decide_eq_false hc8
        by_cases hl8 : (80 : Int) < (l.length : Int)
        · have HN : Hid (¬ Light l) := fun h => by
            have := h.1
            omega
          clear HF
          go_wp2
          go_ret
          exact ⟨rfl, .inl ⟨rfl, HN.out⟩⟩
        · exfalso
          omega
    · have hcl' : decide ((c : Int) < (l.length : Int)) = false := decide_eq_false hcl
      have hl8 : decide ((80 : Int) < (l.length : Int)) = false := decide_eq_false (by omega)
      have hlight : Light l := ⟨by omega, fun x hx => by
        obtain ⟨j, hj⟩ := List.mem_iff_getElem?.1 hx
        exact HF.out j x (by have := (List.getElem?_eq_some_iff.1 hj).1; omega) hj⟩
      have HL : Hid (Light l) := hlight
      clear HF hlight
      go_wp2
      go_ret
      exact ⟨rfl, .inr ⟨rfl, HL.out⟩⟩
theorem heavy_yes (l : List A8) (h : ¬ Light l) (ao : Option Addr) (cap : Nat) (w : World) (hl : LiesA8 w w.heap.size ao l) : Calls Try.prog 9 #[.slice ao l.length cap] w fun e w' => e = .returned (.bool true) ∧ w' = w := by
  refine (heavy_any l ao cap w hl).mono ?_
  rintro e w' ⟨rfl, ⟨rfl, _⟩ | ⟨_, h2⟩⟩
  · exact ⟨rfl, rfl⟩
  · exact absurd h2 h
theorem heavy_no (l : List A8) (h : Light l) (ao : Option Addr) (cap : Nat) (w : World) (hl : LiesA8 w w.heap.size ao l) : Calls Try.prog 9 #[.slice ao l.length cap] w fun e w' => e = .returned (.bool false) ∧ w' = w := by
  refine (heavy_any l ao cap w hl).mono ?_
  rintro e w' ⟨rfl, ⟨_, h2⟩ | ⟨rfl, _⟩⟩
  · exact absurd h h2
  · exact ⟨rfl, rfl⟩
theorem put_len (s : Sto) (v : Ver) : (putS s v).2.vs.length ≤ s.vs.length + 1 := by
  unfold putS
  split
  · exact Nat.le_succ _
  · split
    · exact Nat.le_succ _
    · split
      · show (turnV s.vs v.key v).length ≤ _
        rw [turnV_len]
        exact Nat.le_succ _
      · split
        · exact Nat.le_succ _
        · show (s.vs ++ [v]).length ≤ _
          simp
/-- An act's block, as it was. -/
abbrev Num.boxA (x : A8) : Obj := .cells #[.int .i64 x.op, .int .i64 x.time, .int .i64 x.n, .string x.key, .string x.val] 35
theorem key_small {n : Nat} (h : n ≤ 500) : n ≤ maxLen := by
  unfold maxLen
  omega
theorem scan_exists {B g : Nat} {w : World} {st : Sto} (h : HoldP B w g st) (t : Int) (lo hi : ByteArray) : ∃ r, ScanIs st.vs t lo hi r := by
  obtain ⟨gm, D, blk, capf, ao, cap, ps, h⟩ := h
  exact ⟨_, scan_is h.keys t lo hi⟩
theorem scan_few {l : List Ver} {t : Int} {lo hi : ByteArray} {r : List Pr} (h : ScanIs l t lo hi r) : r.length ≤ l.length := by
  refine few_keys r l h.1 (fun x hx => ?_)
  have hne := getV_key ((h.2 x).1 hx).2
  obtain ⟨v, hv⟩ := List.exists_mem_of_ne_nil _ hne
  obtain ⟨h1, h2⟩ := keyV_mem.1 hv
  exact ⟨v, h1, h2⟩
end Go.Proofs.Ytgldgedbinbigaa
