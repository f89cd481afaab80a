/-
  Messages that came in, each log no longer than its room.
-/
import Derived.Test.YtajbdffepfjegaaGreatRpOpn
namespace Go.Proofs.YtajbdffepfjegaaGreat
open Go.RowKit Go.ChangeShapes Go.WideShapes Go.Joins Num
set_option linter.unusedVariables false
set_option maxRecDepth 100000

/-- A message in memory, its log not longer than its room. -/
def Num.MsAtB (B : Nat) (w : World) (p : Addr) (m : Msg) : Prop := w.cell? p = some (.int .i64 m.a0) ∧ w.cell? ⟨p.block, p.off + 1, none⟩ = some (.int .i64 m.a1) ∧ w.cell? ⟨p.block, p.off + 2, none⟩ = some (.int .i64 m.a2) ∧ w.cell? ⟨p.block, p.off + 3, none⟩ = some (.int .i64 m.a3) ∧ w.cell? ⟨p.block, p.off + 4, none⟩ = some (.int .i64 m.a4) ∧ w.cell? ⟨p.block, p.off + 5, none⟩ = some (.int .i64 m.a5) ∧ w.cell? ⟨p.block, p.off + 6, none⟩ = some (.int .i64 m.a6) ∧ ∃ bo c, w.cell? ⟨p.block, p.off + 7, none⟩ = some (.slice bo m.log.length c) ∧ LiesE w B bo m.log ∧ m.log.length ≤ c
abbrev Num.LiesMB (w : World) (B : Nat) (ao : Option Addr) (l : Msgs) : Prop := LiesG (MsAtB B) 8 w B ao l
theorem Num.MsAtB.fast {B : Nat} : Fast B (MsAtB B) := fun w w' p m hp h hb => by
  obtain ⟨h0, h1, h2, h3, h4, h5, h6, bo, c, h7, h8, h9⟩ := h
  exact ⟨(hb.cell hp).trans h0, (hb.cell (p := ⟨p.block, p.off + 1, none⟩) hp).trans h1, (hb.cell (p := ⟨p.block, p.off + 2, none⟩) hp).trans h2, (hb.cell (p := ⟨p.block, p.off + 3, none⟩) hp).trans h3, (hb.cell (p := ⟨p.block, p.off + 4, none⟩) hp).trans h4, (hb.cell (p := ⟨p.block, p.off + 5, none⟩) hp).trans h5, (hb.cell (p := ⟨p.block, p.off + 6, none⟩) hp).trans h6, bo, c, (hb.cell (p := ⟨p.block, p.off + 7, none⟩) hp).trans h7, liesE_next h8 hb (Nat.le_refl _), h9⟩
theorem open_msB {H : Type} {enc : TypeId × Value → H} {w : World} {base : Nat} {spare : Nat → Bool} {held : Bool} (a : Addr) (n : Nat) (cs : List Value) (x : DataW H × List MemPlace)
    (h1 : w.cells? base a 8 = some cs) (h2 : DataW.trod enc Tryz.prog w base spare held n 27 cs = some x) :
    ∃ m : Msg, m.ok ∧ MsAtB w.heap.size w a m := by
  obtain ⟨_, hlen, hcell⟩ := World.cells?_some h1
  match cs, hlen with
  | [v0, v1, v2, v3, v4, v5, v6, v7], _ =>
    have e0 := hcell 0 (by omega)
    have e1 := hcell 1 (by omega)
    have e2 := hcell 2 (by omega)
    have e3 := hcell 3 (by omega)
    have e4 := hcell 4 (by omega)
    have e5 := hcell 5 (by omega)
    have e6 := hcell 6 (by omega)
    have e7 := hcell 7 (by omega)
    clear hcell
    simp [Addr.add] at e0
    simp [Addr.add] at e1
    simp [Addr.add] at e2
    simp [Addr.add] at e3
    simp [Addr.add] at e4
    simp [Addr.add] at e5
    simp [Addr.add] at e6
    simp [Addr.add] at e7
    obtain ⟨m, bo, c, hok, q0, q1, q2, q3, q4, q5, q6, q7, hl, hcc⟩ := open_fieldsB h2
    rw [q0] at e0
    rw [q1] at e1
    rw [q2] at e2
    rw [q3] at e3
    rw [q4] at e4
    rw [q5] at e5
    rw [q6] at e6
    rw [q7] at e7
    exact ⟨m, hok, e0, e1, e2, e3, e4, e5, e6, bo, c, e7, hl, hcc⟩
theorem open_msgsB {H : Type} {enc : TypeId × Value → H} {w : World} {base b0 : Nat} {r : Reach} {spare : Nat → Bool} {held : Bool} {v : Value} {d : DataW H} {p : List MemPlace}
    (hv : Value.okWide Tryz.prog w r b0 30 v) (h : DataW.Trod enc Tryz.prog w base spare held 30 v d p) :
    ∃ (ao : Option Addr) (cap : Nat) (l : Msgs), v = .slice ao l.length cap ∧ LiesMB w w.heap.size ao l := by
  obtain ⟨ao, len, cap, rfl⟩ := okWide_slice Tryz.underlying30 hv
  have inh : Inhabited Msg := ⟨⟨0, 0, 0, 0, 0, 0, 0, []⟩⟩
  obtain ⟨fuel, hf⟩ := h
  obtain ⟨ao', cap', l, q, hok, hl, hc⟩ := open_list (MsAtB w.heap.size) Msg.ok 8 Tryz.cellsMs Tryz.underlying30 (fun p x h => cell_lt h.1) open_msB (by simpa [Value.cells] using hf)
  exact ⟨ao', cap', l, q, hl⟩
end Go.Proofs.YtajbdffepfjegaaGreat
