/-
  A replica that came in, and how long its lists are.
-/
import Derived.Test.YtajbdffepfjegaaGreatRpRMc
namespace Go.Proofs.YtajbdffepfjegaaGreat
open Go.RowKit Num
open Go.ChangeShapes Go.WideShapes Go.Joins
set_option linter.unusedVariables false
set_option maxRecDepth 100000
theorem slice_len {H : Type} {enc : TypeId × Value → H} {w : World} {base fuel : Nat} {spare : Nat → Bool} {held : Bool} {v : Value} {x : DataW H × List MemPlace} {t e : TypeId} (ht : Tryz.prog.underlying t = some (.slice e)) {ao : Option Addr} {n cap : Nat} (hv : v = .slice ao n cap) (h : DataW.trod enc Tryz.prog w base spare held fuel t [v] = some x) : n ≤ 9223372036854775807 := by
  subst hv
  rcases Go.Deep.open_slice ht h with ⟨h0, _⟩ | ⟨a, len', cap', m, k, D, Pl, h0, _, hlc, hcm, hm, _, hx⟩
  · simp at h0
    omega
  · simp at h0
    have hmx : maxLen = 9223372036854775807 := by unfold maxLen; rfl
    omega
theorem open_repB {H : Type} {enc : TypeId × Value → H} {w : World} {base b0 : Nat} {r : Reach} {spare : Nat → Bool} {held : Bool} {v : Value} {d : DataW H} {p : List MemPlace}
    (hv : Value.okWide Tryz.prog w r b0 25 v) (h : DataW.Trod enc Tryz.prog w base spare held 25 v d p) :
    ∃ (q : Rep) (s : Sl), v = repV q s ∧ q.ok ∧ WideM0 q ∧ LiesR w w.heap.size s q := by
  obtain ⟨cs, rfl, hsz⟩ := okWide_struct Tryz.underlying25 hv
  obtain ⟨v0, v1, v2, v3, v4, v5, v6, v7, v8, v9, v10, v11, v12, rfl⟩ := array13 (hsz.trans Tryz.cellsRp)
  obtain ⟨fuel, hf0⟩ := h
  have h : DataW.trod enc Tryz.prog w base spare held fuel 25 [v0, v1, v2, v3, v4, v5, v6, v7, v8, v9, v10, v11, v12] = some (d, p) := by simpa [Value.cells] using hf0
  clear hf0
  obtain ⟨xs, m, _, _, _, hxl, hf⟩ := DataW.trod_struct Tryz.underlying25 h
  have inh : Inhabited Ent := ⟨⟨0, ByteArray.empty⟩⟩
  match xs, hxl with
  | [x0, x1, x2, x3, x4, x5, x6, x7, x8, x9, x10, x11, x12], _ =>
    have g0 := hf 0 _ rfl
    have g1 := hf 1 _ rfl
    have g2 := hf 2 _ rfl
    have g3 := hf 3 _ rfl
    have g4 := hf 4 _ rfl
    have g5 := hf 5 _ rfl
    have g6 := hf 6 _ rfl
    have g7 := hf 7 _ rfl
    have g8 := hf 8 _ rfl
    have g9 := hf 9 _ rfl
    have g10 := hf 10 _ rfl
    have g11 := hf 11 _ rfl
    have g12 := hf 12 _ rfl
    clear hf
    simp [Tryz.cellsInt] at g0
    simp [Tryz.cellsInt] at g1
    simp [Tryz.cellsInt] at g2
    simp [Tryz.cellsInt] at g3
    simp [Tryz.cellsInt] at g4
    simp [Tryz.cellsLog] at g5
    simp [Tryz.cellsInt] at g6
    simp [Tryz.cellsInts] at g7
    simp [Tryz.cellsInts] at g8
    simp [Tryz.cellsInts] at g9
    simp [Tryz.cellsLog] at g10
    simp [Tryz.cellsInt] at g11
    simp [Tryz.cellsInt] at g12
    obtain ⟨k0, q0, _, w0⟩ := DataW.trod_int Tryz.underlying3 g0
    obtain ⟨k1, q1, _, w1⟩ := DataW.trod_int Tryz.underlying3 g1
    obtain ⟨k2, q2, _, w2⟩ := DataW.trod_int Tryz.underlying3 g2
    obtain ⟨k3, q3, _, w3⟩ := DataW.trod_int Tryz.underlying3 g3
    obtain ⟨k4, q4, _, w4⟩ := DataW.trod_int Tryz.underlying3 g4
    obtain ⟨k6, q6, _, w6⟩ := DataW.trod_int Tryz.underlying3 g6
    obtain ⟨k11, q11, _, w11⟩ := DataW.trod_int Tryz.underlying3 g11
    obtain ⟨k12, q12, _, w12⟩ := DataW.trod_int Tryz.underlying3 g12
    obtain ⟨lo, lc, l5, q5, _, hl5, _⟩ := open_list EnAt (fun _ => True) 2 Tryz.cellsEn Tryz.underlying22 (fun p x h => cell_lt h.1) open_en g5
    obtain ⟨bo, bc, l10, q10, _, hl10, _⟩ := open_list EnAt (fun _ => True) 2 Tryz.cellsEn Tryz.underlying22 (fun p x h => cell_lt h.1) open_en g10
    obtain ⟨ao, ac, l7, q7, _, hl7, _⟩ := open_list NumAt (fun _ => True) 1 Tryz.cellsInt Tryz.underlying23 (fun p x h => cell_lt h) open_num g7
    obtain ⟨vo, vc, l8, q8, _, hl8, _⟩ := open_list NumAt (fun _ => True) 1 Tryz.cellsInt Tryz.underlying23 (fun p x h => cell_lt h) open_num g8
    obtain ⟨wo, wc, l9, q9, _, hl9, _⟩ := open_list NumAt (fun _ => True) 1 Tryz.cellsInt Tryz.underlying23 (fun p x h => cell_lt h) open_num g9
    have n7 := slice_len Tryz.underlying23 q7 g7
    have n8 := slice_len Tryz.underlying23 q8 g8
    have n9 := slice_len Tryz.underlying23 q9 g9
    have n10 := slice_len Tryz.underlying22 q10 g10
    simp only [List.cons.injEq, and_true] at q0 q1 q2 q3 q4 q6 q11 q12
    subst q0 q1 q2 q3 q4 q5 q6 q7 q8 q9 q10 q11 q12
    exact ⟨⟨k0, k1, k2, k3, k4, l5, k6, l7, l8, l9, l10, k11, k12⟩, ⟨lo, lc, ao, ac, vo, vc, wo, wc, bo, bc⟩, rfl, ⟨by have := bounds_i64 w0; unfold Fit; simp only; omega, by have := bounds_i64 w1; unfold Fit; simp only; omega, by have := bounds_i64 w2; unfold Fit; simp only; omega, by have := bounds_i64 w3; unfold Fit; simp only; omega, by have := bounds_i64 w4; unfold Fit; simp only; omega, by have := bounds_i64 w6; unfold Fit; simp only; omega, by have := bounds_i64 w11; unfold Fit; simp only; omega, by have := bounds_i64 w12; unfold Fit; simp only; omega⟩, ⟨n7, n10, n8, n9⟩, ⟨hl5, hl7, hl8, hl9, hl10⟩⟩
set_option maxRecDepth 100000 in
theorem open_fieldsB {H : Type} {enc : TypeId × Value → H} {w : World} {base n : Nat} {spare : Nat → Bool} {held : Bool} {v0 v1 v2 v3 v4 v5 v6 v7 : Value} {x : DataW H × List MemPlace}
    (h : DataW.trod enc Tryz.prog w base spare held n 27 [v0, v1, v2, v3, v4, v5, v6, v7] = some x) :
    ∃ (m : Msg) (bo : Option Addr) (c : Nat), m.ok ∧ v0 = .int .i64 m.a0 ∧ v1 = .int .i64 m.a1 ∧ v2 = .int .i64 m.a2 ∧ v3 = .int .i64 m.a3 ∧ v4 = .int .i64 m.a4 ∧ v5 = .int .i64 m.a5 ∧ v6 = .int .i64 m.a6 ∧ v7 = .slice bo m.log.length c ∧ LiesE w w.heap.size bo m.log ∧ m.log.length ≤ c := by
  obtain ⟨xs, m, _, _, _, hxl, hf⟩ := DataW.trod_struct Tryz.underlying27 h
  have inh : Inhabited Ent := ⟨⟨0, ByteArray.empty⟩⟩
  match xs, hxl with
  | [x0, x1, x2, x3, x4, x5, x6, x7], _ =>
    have g0 := hf 0 _ rfl
    have g1 := hf 1 _ rfl
    have g2 := hf 2 _ rfl
    have g3 := hf 3 _ rfl
    have g4 := hf 4 _ rfl
    have g5 := hf 5 _ rfl
    have g6 := hf 6 _ rfl
    have g7 := hf 7 _ rfl
    clear hf
    simp [Tryz.cellsInt] at g0
    simp [Tryz.cellsInt] at g1
    simp [Tryz.cellsInt] at g2
    simp [Tryz.cellsInt] at g3
    simp [Tryz.cellsInt] at g4
    simp [Tryz.cellsInt] at g5
    simp [Tryz.cellsInt] at g6
    simp [Tryz.cellsLog] at g7
    obtain ⟨k0, q0, _, w0⟩ := DataW.trod_int Tryz.underlying3 g0
    obtain ⟨k1, q1, _, w1⟩ := DataW.trod_int Tryz.underlying3 g1
    obtain ⟨k2, q2, _, w2⟩ := DataW.trod_int Tryz.underlying3 g2
    obtain ⟨k3, q3, _, w3⟩ := DataW.trod_int Tryz.underlying3 g3
    obtain ⟨k4, q4, _, w4⟩ := DataW.trod_int Tryz.underlying3 g4
    obtain ⟨k5, q5, _, w5⟩ := DataW.trod_int Tryz.underlying3 g5
    obtain ⟨k6, q6, _, w6⟩ := DataW.trod_int Tryz.underlying3 g6
    obtain ⟨bo, c, l, q7, _, hl, hcc⟩ := open_list EnAt (fun _ => True) 2 Tryz.cellsEn Tryz.underlying22 (fun p x h => cell_lt h.1) open_en g7
    simp only [List.cons.injEq, and_true] at q0 q1 q2 q3 q4 q5 q6
    exact ⟨⟨k0, k1, k2, k3, k4, k5, k6, l⟩, bo, c, ⟨by have := bounds_i64 w0; omega, by have := bounds_i64 w1; omega, by have := bounds_i64 w2; omega, by have := bounds_i64 w3; omega, by have := bounds_i64 w4; omega, by have := bounds_i64 w5; omega, by have := bounds_i64 w6; omega⟩, q0, q1, q2, q3, q4, q5, q6, q7, hl, hcc⟩
theorem open_msgB {H : Type} {enc : TypeId × Value → H} {w : World} {base b0 : Nat} {r : Reach} {spare : Nat → Bool} {held : Bool} {v : Value} {d : DataW H} {p : List MemPlace}
    (hv : Value.okWide Tryz.prog w r b0 27 v) (h : DataW.Trod enc Tryz.prog w base spare held 27 v d p) :
    ∃ (m : Msg) (bo : Option Addr) (c : Nat), v = .agg #[.int .i64 m.a0, .int .i64 m.a1, .int .i64 m.a2, .int .i64 m.a3, .int .i64 m.a4, .int .i64 m.a5, .int .i64 m.a6, .slice bo m.log.length c] ∧ m.ok ∧ m.log.length ≤ c ∧ LiesE w w.heap.size bo m.log := by
  obtain ⟨cs, rfl, hsz⟩ := okWide_struct Tryz.underlying27 hv
  obtain ⟨v0, v1, v2, v3, v4, v5, v6, v7, rfl⟩ := array8 (hsz.trans Tryz.cellsMs)
  obtain ⟨fuel, hf⟩ := h
  obtain ⟨m, bo, c, hok, q0, q1, q2, q3, q4, q5, q6, q7, hl, hcc⟩ := open_fieldsB (by simpa [Value.cells] using hf)
  exact ⟨m, bo, c, by rw [q0, q1, q2, q3, q4, q5, q6, q7], hok, hcc, hl⟩
end Go.Proofs.YtajbdffepfjegaaGreat
