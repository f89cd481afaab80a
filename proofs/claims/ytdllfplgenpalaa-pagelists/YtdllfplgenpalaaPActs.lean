/-
  Acts in memory, opened; a list that is put into and let go, by its places (7.5).
-/
import Derived.Test.YtdllfplgenpalaaPDelB
import Derived.Test.YtdllfplgenpalaaPGtM
namespace Go.Proofs.Ytdllfplgenpalaa
open Go.RowKit Go.ChangeShapes Go.WideShapes Go.Joins Num
open scoped Classical
set_option linter.unusedVariables false

/-- An act. -/
structure Num.Ac where
  key : ByteArray
  val : ByteArray
  del : Bool
def Num.AcAt (w : World) (p : Addr) (x : Ac) : Prop := w.cell? p = some (.string x.key) ∧ w.cell? ⟨p.block, p.off + 1, none⟩ = some (.string x.val) ∧ w.cell? ⟨p.block, p.off + 2, none⟩ = some (.bool x.del)
abbrev Num.LiesAc (w : World) (B : Nat) (ao : Option Addr) (l : List Ac) : Prop := LiesG AcAt 3 w B ao l
theorem Num.AcAt.fast {B : Nat} : Fast B AcAt := fun w w' p x hp h hb => ⟨(hb.cell hp).trans h.1, (hb.cell (p := ⟨p.block, p.off + 1, none⟩) hp).trans h.2.1, (hb.cell (p := ⟨p.block, p.off + 2, none⟩) hp).trans h.2.2⟩
theorem Try.cellsAc : Try.prog.cellsOf 39 = 3 := by kernel_rfl
theorem Try.cellsBool : Try.prog.cellsOf 4 = 1 := by kernel_rfl
set_option maxRecDepth 100000 in
theorem open_ac {H : Type} {enc : TypeId × Value → H} {w : World} {base : Nat} {spare : Nat → Bool} {held : Bool} (a : Addr) (n : Nat) (cs : List Value) (x : DataW H × List MemPlace)
    (h1 : w.cells? base a 3 = some cs) (h2 : DataW.trod enc Try.prog w base spare held n 39 cs = some x) :
    ∃ c : Ac, True ∧ AcAt w a c := by
  obtain ⟨_, hlen, hcell⟩ := World.cells?_some h1
  obtain ⟨xs, m, _, _, _, hxl, hf⟩ := DataW.trod_struct Try.underlying39 h2
  match cs, hlen, xs, hxl with
  | [v0, v1, v2], _, [x0, x1, x2], _ =>
    have g0 := hf 0 _ rfl
    have g1 := hf 1 _ rfl
    have g2 := hf 2 _ rfl
    simp [Try.cellsStr, Try.cellsBool] at g0 g1 g2
    have e0 := hcell 0 (by omega)
    have e1 := hcell 1 (by omega)
    have e2 := hcell 2 (by omega)
    simp [Addr.add] at e0 e1 e2
    obtain ⟨s0, q0, _, _⟩ := DataW.trod_string Try.underlying9 g0
    obtain ⟨s1, q1, _, _⟩ := DataW.trod_string Try.underlying9 g1
    obtain ⟨k2, q2, _⟩ := DataW.trod_bool Try.underlying4 g2
    simp at q0 q1 q2
    subst q0 q1 q2
    exact ⟨⟨s0, s1, k2⟩, trivial, e0, e1, e2⟩
/-- Acts that came in. -/
theorem open_acts {H : Type} {enc : TypeId × Value → H} {w : World} {base b0 : Nat} {r : Reach} {spare : Nat → Bool} {held : Bool} {v : Value} {d : DataW H} {p : List MemPlace}
    (hv : Value.okWide Try.prog w r b0 37 v) (h : DataW.Trod enc Try.prog w base spare held 37 v d p) :
    ∃ (ao : Option Addr) (cap : Nat) (l : List Ac), v = .slice ao l.length cap ∧ LiesAc w w.heap.size ao l := by
  obtain ⟨ao, len, cap, rfl⟩ := okWide_slice Try.underlying37 hv
  obtain ⟨fuel, hf⟩ := h
  have inh : Inhabited Ac := ⟨⟨ByteArray.empty, ByteArray.empty, false⟩⟩
  obtain ⟨ao', cap', l, q, _, hl, _⟩ := open_list AcAt (fun _ => True) 3 Try.cellsAc Try.underlying37 (fun p x h => cell_lt h.1) open_ac (by simpa [Value.cells] using hf)
  exact ⟨ao', cap', l, q, hl⟩
/-! The list. -/
theorem list_put_has {L : List Pr} {k v : ByteArray} {y : Pr} (hy : L[cntK L k]? = some y) (hk : y.key = k) : L.take (cntK L k) ++ [⟨k, v⟩] ++ L.drop (cntK L k + 1) = insL L k v := by
  rw [ins_has hy hk, set_at hy, hk]
  simp
theorem list_put_new {L : List Pr} (hr : Rises L) {k v : ByteArray} (h : hasK L k = false) : L.take (cntK L k) ++ [⟨k, v⟩] ++ L.drop (cntK L k) = insL L k v := (ins_new hr h).symm
theorem list_del_has {L : List Pr} (hr : Rises L) {k : ByteArray} {y : Pr} (hy : L[cntK L k]? = some y) (hk : y.key = k) : L.take (cntK L k) ++ L.drop (cntK L k + 1) = delL L k := (delL_at hr hy hk).symm
theorem list_del_new {L : List Pr} (hr : Rises L) {k : ByteArray} (h : hasK L k = false) : L.take (cntK L k) ++ L.drop (cntK L k) = delL L k := by
  rw [delL_none hr h, List.take_append_drop]
theorem has_end {L : List Pr} {k : ByteArray} (h : cntK L k = L.length) : hasK L k = false := by
  unfold hasK
  rw [List.getElem?_eq_none (by omega)]
theorem has_ne {L : List Pr} {k : ByteArray} {y : Pr} (hy : L[cntK L k]? = some y) (h : ¬ y.key = k) : hasK L k = false := by
  unfold hasK
  rw [hy]
  exact key_ne h
theorem lies_drop' {w : World} {B : Nat} {a : Addr} {l : List Pr} (h : LiesPr w B (some a) l) (k : Nat) : LiesPr w B (some (a.add (k * 2))) (l.drop k) := by
  intro i x hx
  rw [List.getElem?_drop] at hx
  obtain ⟨a', e, hb, h1⟩ := h (k + i) x hx
  cases e
  refine ⟨_, rfl, by rw [Addr.block_add]; exact hb, ?_⟩
  have e2 : (a.add (k * 2)).add (i * 2) = a.add ((k + i) * 2) := by
    unfold Addr.add
    by_cases hk : k * 2 = 0
    · rw [if_pos hk]
      have : k = 0 := by omega
      subst this
      simp
    · rw [if_neg hk]
      by_cases hi : i * 2 = 0
      · rw [if_pos hi, if_neg (by omega)]
        congr 1
        omega
      · rw [if_neg hi, if_neg (by omega)]
        congr 1
        simp only
        omega
  rw [e2]
  exact h1
theorem len_flat {ps : Pages} (h : ∀ p ∈ ps, 1 ≤ p.length) : ps.length ≤ ps.flatten.length := by
  induction ps with
  | nil => simp
  | cons p ps ih =>
    have h1 := h p (by simp)
    have h2 := ih fun q hq => h q (by simp [hq])
    rw [List.flatten_cons, List.length_append, List.length_cons]
    omega
end Go.Proofs.Ytdllfplgenpalaa
