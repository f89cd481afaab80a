/-
  Contracts of the document's own replica: it is normal.
-/
import Derived.Test.YtgdehjdajjhjpaaRpRd
namespace Go.Proofs.Ytgdehjdajjhjpaa
open Go.RowKit Num
set_option linter.unusedVariables false

theorem turnR_log {B : Nat} {w : World} {g : Nat} {r : Rep} (h : TurnR B w g r) {w1 : World} (hb1 : Below w.heap.size w w1) (log : List Ent) (hl : log.length ≤ 1000) {ao : Option Addr} {cap : Nat} {b : Nat} (hb : w.heap.size = b) (hown : w1.ownsRow b 63 2 (.slice ao log.length cap) log.length (enCells log)) :
    TurnR B (w1.setCell ⟨g, 5, none⟩ (.slice ao log.length cap)) g { r with log := log } ∧ Keep B w (w1.setCell ⟨g, 5, none⟩ (.slice ao log.length cap)) := by
  subst hb
  obtain ⟨⟨vl, va, vv, vw, vb, h⟩, hB, h1, hl0, hb, ha⟩ := h
  have h' := h.below hb1
  have hk := (Keep.of_below hb1 hB).trans (sets_keep h'.base h'.box (by decide) [(5, .slice ao log.length cap)])
  exact ⟨⟨⟨_, _, _, _, _, hold_sets h' (by omega) (by decide) (by decide) [(5, .slice ao log.length cap)] (r' := { r with log := log }) (x' := undef) ⟨own_mono hown hB, h'.rows.best, h'.rows.ack, h'.rows.vot, h'.rows.vor, (apart_new h.rows.best hown).symm, h'.rows.a2, h'.rows.a3, h'.rows.a4⟩ (fun f f' e e' => by subst e e'; exact ⟨rfl, rfl, rfl, rfl, rfl, rfl, rfl, rfl, rfl, rfl, rfl, rfl, rfl, rfl⟩)⟩, Nat.le_trans hB hk.low.size, h1, hl, hb, ha⟩, hk⟩
set_option maxRecDepth 100000 in
set_option maxHeartbeats 1000000 in
theorem rnormal_many (B g : Nat) (r : Rep) (log : List Ent) (bo : Option Addr) (c : Nat) (view com : Int) (w : World) (h : TurnR B w g r) (hs : SrcE B w bo c log) (hlog : log.length ≤ 1000) (hn : ¬ r.n = 1) :
    Calls Try.prog 44 #[.pointer (some ⟨g, 0, none⟩), .slice bo log.length c, .int .i64 view, .int .i64 com] w fun e w' => e = .returned (.tuple #[]) ∧ TurnR B w' g (normalR r log view com) ∧ Keep B w w' := by
  have hB := h.base
  obtain ⟨s, ⟨k0, k1, k2, k3, k4, k5, k6, _⟩, z, _⟩ := h.cells
  obtain ⟨hT0, hK0⟩ := turnR_sets h [(2, .int .i64 view), (3, .int .i64 view), (4, .int .i64 0)] { r with view := view, normal := view, how := 0 } (fun _ _ _ _ _ f f' e e' => by subst e e'; exact ⟨rfl, rfl, rfl, rfl, rfl, rfl, rfl, rfl, rfl, rfl, rfl, rfl, rfl, rfl⟩) rfl rfl rfl rfl rfl rfl rfl
  simp only [sets] at hT0 hK0
  have hsz : (((w.setCell ⟨g, 2, none⟩ (.int .i64 view)).setCell ⟨g, 3, none⟩ (.int .i64 view)).setCell ⟨g, 4, none⟩ (.int .i64 0)).heap.size = w.heap.size := by simp [World.setCell]
  have hheld := fun ob : Obj => src_next (liesE_src ((hs.keep hK0).lies hT0.base)) ((Below.refl _ (((w.setCell ⟨g, 2, none⟩ (.int .i64 view)).setCell ⟨g, 3, none⟩ (.int .i64 view)).setCell ⟨g, 4, none⟩ (.int .i64 0))).alloc (Nat.le_refl _) ob)
  have hmade := own_made0 (((w.setCell ⟨g, 2, none⟩ (.int .i64 view)).setCell ⟨g, 3, none⟩ (.int .i64 view)).setCell ⟨g, 4, none⟩ (.int .i64 0)) 63 2
  rw [hsz] at hmade
  have HW : Hid (∀ (w2 : World) (ao1 : Option Addr) (cap1 : Nat), ((((w.setCell ⟨g, 2, none⟩ (.int .i64 view)).setCell ⟨g, 3, none⟩ (.int .i64 view)).setCell ⟨g, 4, none⟩ (.int .i64 0)).alloc (.cells #[] 63)).grownBy w2 (some w.heap.size) → w2.ownsRow w.heap.size 63 2 (.slice ao1 log.length cap1) log.length (enCells log) →
      TurnR B (w2.setCell ⟨g, 5, none⟩ (.slice ao1 log.length cap1)) g { r with view := view, normal := view, how := 0, log := log } ∧ Keep B (((w.setCell ⟨g, 2, none⟩ (.int .i64 view)).setCell ⟨g, 3, none⟩ (.int .i64 view)).setCell ⟨g, 4, none⟩ (.int .i64 0)) (w2.setCell ⟨g, 5, none⟩ (.slice ao1 log.length cap1)) ∧ (w2.setCell ⟨g, 5, none⟩ (.slice ao1 log.length cap1)).cell? ⟨g, 5, none⟩ = some (.slice ao1 log.length cap1) ∧ ∃ v5, w2.cell? ⟨g, 5, none⟩ = some v5 ∧ w2.frozen? ⟨g, 5, none⟩ = false) := by
    intro w2 ao1 cap1 hgr hown
    have hW12 : Below w.heap.size (((w.setCell ⟨g, 2, none⟩ (.int .i64 view)).setCell ⟨g, 3, none⟩ (.int .i64 view)).setCell ⟨g, 4, none⟩ (.int .i64 0)) w2 := ((Below.refl _ (((w.setCell ⟨g, 2, none⟩ (.int .i64 view)).setCell ⟨g, 3, none⟩ (.int .i64 view)).setCell ⟨g, 4, none⟩ (.int .i64 0))).alloc (Nat.le_of_eq hsz.symm) _).grown hgr (by simp [World.setCell]) (fun j hj => by cases hj; exact Nat.le_refl _)
    have hW12' : Below (((w.setCell ⟨g, 2, none⟩ (.int .i64 view)).setCell ⟨g, 3, none⟩ (.int .i64 view)).setCell ⟨g, 4, none⟩ (.int .i64 0)).heap.size (((w.setCell ⟨g, 2, none⟩ (.int .i64 view)).setCell ⟨g, 3, none⟩ (.int .i64 view)).setCell ⟨g, 4, none⟩ (.int .i64 0)) w2 := by rw [hsz]; exact hW12
    obtain ⟨hT2, hK2⟩ := turnR_log hT0 hW12' log hlog hsz hown
    obtain ⟨s2, ⟨_, _, _, _, _, q5, _⟩, qz, _⟩ := (hT0.below hW12').cells
    refine ⟨hT2, hK2, ?_, _, q5, qz 5⟩
    obtain ⟨⟨vl, va, vv, vw, vb, hh⟩, _⟩ := hT0.below hW12'
    have := (hh.box.set 5 (.slice ao1 log.length cap1)).cell 5 (by omega)
    simpa using this
  clear h k0 k1 k5 k6
  have hn2 : (r.n == 1) = false := by simp [hn]
  have hn3 : decide (r.n = 1) = false := decide_eq_false hn
  have fin : ∀ w4, TurnR B w4 g { r with view := view, normal := view, how := 0, log := log } → TurnR B (sets w4 g [(6, .int .i64 (min (max r.commit com) (log.length : Int)))]).drew g { r with view := view, normal := view, how := 0, log := log, commit := comR r log com } ∧ Keep B w4 (sets w4 g [(6, .int .i64 (min (max r.commit com) (log.length : Int)))]).drew := fun w4 h4 => by
    obtain ⟨a, b⟩ := turnR_sets h4 [(6, .int .i64 (min (max r.commit com) (log.length : Int)))] { r with view := view, normal := view, how := 0, log := log, commit := comR r log com } (fun _ _ _ _ _ f f' e e' => by subst e e'; exact ⟨rfl, rfl, rfl, rfl, rfl, rfl, by show Value.int .i64 _ = .int .i64 (comR r log com); unfold comR; rw [if_neg hn], rfl, rfl, rfl, rfl, rfl, rfl, rfl⟩) rfl rfl rfl rfl rfl rfl rfl
    exact ⟨a.drew, b.drew⟩
  go_enter Try.func44, Try.ntmps44
  go_wp2_with (first
    | (at_builtin; refine wpList_app_g Try.underlying22 Try.infoEn (by decide) _ rfl _ _ rfl w.heap.size (.slice (some ⟨w.heap.size, 0, none⟩) 0 0) 0 [] rfl hmade bo log.length c (enCells log) rfl (hheld _) (by omega) (by simp [World.setCell]) ?_; intro v1 w2 hown1 hgrow1 hnear1; obtain ⟨ao1, cap1, rfl⟩ := own_form hown1
       rw [List.nil_append] at hown1
       simp only [Nat.zero_add] at hown1
       obtain ⟨hT2, hK2, c5, v5, q5, y5⟩ := HW.out w2 ao1 cap1 hgrow1 hown1))
  obtain ⟨s2, ⟨_, d1, _, _, _, _, d6, _⟩, dz, _⟩ := hT2.cells
  have d1' : (w2.setCell ⟨g, 5, none⟩ (.slice ao1 log.length cap1)).cell? ⟨g, 1, none⟩ = some (.int .i64 r.n) := d1
  have d6' : (w2.setCell ⟨g, 5, none⟩ (.slice ao1 log.length cap1)).cell? ⟨g, 6, none⟩ = some (.int .i64 r.commit) := d6
  clear d1 d6
  have d5 : (w2.setCell ⟨g, 5, none⟩ (.slice ao1 log.length cap1)).cell? ⟨g, 5, none⟩ = some (.slice ao1 log.length cap1) := c5
  have hf := fin _ hT2
  simp only [sets] at hf
  generalize w2.setCell ⟨g, 5, none⟩ (.slice ao1 log.length cap1) = V at *
  go_region
  obtain ⟨hT4, hK4⟩ := hf
  have hcl := rclear_any B g _ _ hT4
  obtain ⟨s4, ⟨_, f1, _⟩, fz, _⟩ := hT4.cells
  have f1' : (V.setCell ⟨g, 6, none⟩ (.int .i64 (min (max r.commit com) (log.length : Int)))).drew.cell? ⟨g, 1, none⟩ = some (.int .i64 r.n) := f1
  clear f1
  generalize (V.setCell ⟨g, 6, none⟩ (.int .i64 (min (max r.commit com) (log.length : Int)))).drew = V4 at *
  go_wp2_with (first
    | (go_at_call 46; refine hcl.mono ?_; rintro e w5 ⟨rfl, hT5, hK5⟩
       have hfr := rfresh_any B g _ _ hT5)
    | (go_at_call 47; refine hfr.mono ?_; rintro e w6 ⟨rfl, hT6, hK6⟩))
  go_end0
  exact ⟨rfl, hT6, (((hK0.trans hK2).trans hK4).trans hK5).trans hK6⟩
end Go.Proofs.Ytgdehjdajjhjpaa
