/-
  What is there ahead of the ways of the document's own Del (7.3).
-/
import Derived.Test.YtdllfplgenpalaaPRefD
namespace Go.Proofs.Ytdllfplgenpalaa
open Go.RowKit Num
open scoped Classical
set_option linter.unusedVariables false

theorem ownPs_read {B gl n C j : Nat} {w : World} {L : Pages} {y : List Pr} (h : OwnPs B w (.slice (some ⟨gl, 0, none⟩) n C) L) (hn : n = L.length) (hy : L[j]? = some y) : ∃ bo cc, w.cell? ⟨gl, j, none⟩ = some (.slice bo y.length cc) ∧ w.ownsRow B 41 2 (.slice bo y.length cc) y.length (prCells y) := by
  subst hn
  obtain ⟨cs, hl, hrow, hV⟩ := ownPs_open h
  have hj := (List.getElem?_eq_some_iff.1 hy).1
  have hc : cs[j]? = some (cs[j]'(by omega)) := List.getElem?_eq_getElem _
  have ho := hV j _ y hc hy
  have hcell := row_cell hrow hc
  obtain ⟨bo, cc, e, _⟩ := own_lies ho
  rw [e] at hcell ho
  exact ⟨bo, cc, hcell, ho⟩
structure Num.DelStart (ps : Pages) (ao : Option Addr) (cap : Nat) (k : ByteArray) (M : Nat) (p p' : List Pr) (w : World) : Prop where
  right : Calls Try.prog 10 #[.slice ao ps.length cap] w (fun e w' => e = .returned (.bool true) ∧ w' = w)
  get : ∃ s : ByteArray, Calls Try.prog 19 #[.slice ao ps.length cap, .string k] w fun e w' => e = .returned (.tuple #[.string s, .bool true]) ∧ w' = w
  cop : Calls Try.prog 32 #[.slice ao ps.length cap] w fun e w' => ∃ gl Cl g C, e = .returned (.slice (some ⟨gl, 0, none⟩) ps.length Cl) ∧ OwnPs w.heap.size w' (.slice (some ⟨gl, 0, none⟩) ps.length Cl) ps ∧ Below w.heap.size w w' ∧ w'.cell? ⟨gl, M, none⟩ = some (.slice (some ⟨g, 0, none⟩) p.length C) ∧ w'.ownsRow w.heap.size 41 2 (.slice (some ⟨g, 0, none⟩) p.length C) p.length (prCells p)
  of : ∀ w1, Below w.heap.size w w1 → Calls Try.prog 27 #[.slice ao ps.length cap, .string k] w1 fun e w' => e = .returned (.int .i64 (M : Int)) ∧ w' = w1
  wo : ∀ (w1 : World) g C, w1.ownsRow w.heap.size 41 2 (.slice (some ⟨g, 0, none⟩) p.length C) p.length (prCells p) → Calls Try.prog 33 #[.slice (some ⟨g, 0, none⟩) p.length C, .string k] w1 fun e w' => ∃ ao2 cap2, e = .returned (.slice ao2 p'.length cap2) ∧ w'.ownsRow w1.heap.size 41 2 (.slice ao2 p'.length cap2) p'.length (prCells p') ∧ Below w1.heap.size w1 w'
  put : ∀ (w1 w2 : World) gl Cl g C ao2 cap2, OwnPs w.heap.size w1 (.slice (some ⟨gl, 0, none⟩) ps.length Cl) ps → Below w.heap.size w w1 → Below w1.heap.size w1 w2 → w2.ownsRow w1.heap.size 41 2 (.slice ao2 p'.length cap2) p'.length (prCells p') → w1.cell? ⟨gl, M, none⟩ = some (.slice (some ⟨g, 0, none⟩) p.length C) →
      w2.cell? ⟨gl, M, none⟩ = some (.slice (some ⟨g, 0, none⟩) p.length C) ∧ w2.frozen? ⟨gl, M, none⟩ = false ∧ OwnPs w.heap.size (w2.setCell ⟨gl, M, none⟩ (.slice ao2 p'.length cap2)) (.slice (some ⟨gl, 0, none⟩) ps.length Cl) (ps.set M p') ∧ Below w.heap.size w (w2.setCell ⟨gl, M, none⟩ (.slice ao2 p'.length cap2))
theorem refDel_start (ps : Pages) (hr : RightP ps) (hne : ps ≠ []) (ao : Option Addr) (cap : Nat) (k : ByteArray) (h900 : ps.length ≤ 900) (p : List Pr) (hp : ps[ofP ps k]? = some p) (hh : hasK p k = true) (w : World) (hl : LiesPg w w.heap.size ao ps) : DelStart ps ao cap k (ofP ps k) p (delL p k) w := by
  have hp4 : ∀ q ∈ ps, q.length ≤ 1000 := fun q hq => by have := hr.1 q hq; omega
  have hp8 := hr.1 p (List.mem_of_getElem? hp)
  have hol := (List.getElem?_eq_some_iff.1 hp).1
  obtain ⟨x, hx, hxk⟩ := hasK_yes hh
  refine ⟨refRight_yes ps ao cap h900 hp4 hr w hl, ⟨x.val, ?_⟩, ?_, fun w1 hb1 => refOf_any ps hr ao cap k h900 w1 (liesPg_next hl hb1 hb1.size), fun w1 g C ho => ?_, ?_⟩
  · have h := refGet_any ps ao cap k h900 hp4 w hl
    rw [lookA_yes hr, look_yes hr hp hx hxk] at h
    exact h
  · refine (refCopied_any ps ao cap (by omega) hp4 w hl).mono ?_
    rintro e w1 ⟨v, rfl, ho, hb⟩
    obtain ⟨cs, hcl, hrow, hV⟩ := ownPs_open ho
    obtain ⟨gl, Cl, rfl⟩ := own_some hrow (by omega)
    have hc : cs[ofP ps k]? = some (cs[ofP ps k]'(by omega)) := List.getElem?_eq_getElem _
    have hpo := hV _ _ p hc hp
    have hcell := row_cell hrow hc
    obtain ⟨g, C, e⟩ := own_some hpo (by omega)
    rw [e] at hcell hpo
    exact ⟨gl, Cl, g, C, rfl, ho, hb, hcell, hpo⟩
  · obtain ⟨ao', cap', e, hl', _⟩ := own_lies ho
    cases e
    exact refWithout_any p _ _ k (by omega) w1 hl'
  · intro w1 w2 gl Cl g C ao2 cap2 ho hb1 hb2 ho2 hk
    have s1 := hb1.size
    have s2 := hb2.size
    have hk2 := (hb2.cell (cell_lt hk)).trans hk
    obtain ⟨h1, h2, h3⟩ := ownPs_set (ownPs_below ho hb2) hol (by omega) (own_mono ho2 s1)
    rw [List.length_set] at h1
    exact ⟨hk2, h2, h1, (hb1.trans (hb2.mono s1)).trans h3⟩
end Go.Proofs.Ytdllfplgenpalaa
