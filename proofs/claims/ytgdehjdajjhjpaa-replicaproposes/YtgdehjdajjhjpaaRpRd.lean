/-
  Contracts of the document's own replica: it changes.
-/
import Derived.Test.YtgdehjdajjhjpaaRpRc
namespace Go.Proofs.Ytgdehjdajjhjpaa
open Go.RowKit Num
set_option linter.unusedVariables false

theorem turnR_sets {B : Nat} {w : World} {g : Nat} {r : Rep} (h : TurnR B w g r) (l : List (Nat × Value)) (r' : Rep)
    (e : ∀ (vl va vv vw vb : Value) (f f' : Nat → Value), f = upds (repF r vl va vv vw vb undef) l → f' = repF r' vl va vv vw vb undef → f 0 = f' 0 ∧ f 1 = f' 1 ∧ f 2 = f' 2 ∧ f 3 = f' 3 ∧ f 4 = f' 4 ∧ f 5 = f' 5 ∧ f 6 = f' 6 ∧ f 7 = f' 7 ∧ f 8 = f' 8 ∧ f 9 = f' 9 ∧ f 10 = f' 10 ∧ f 11 = f' 11 ∧ f 12 = f' 12 ∧ f 13 = f' 13)
    (e1 : r'.log = r.log) (e2 : r'.best = r.best) (e3 : r'.acked = r.acked) (e4 : r'.votes = r.votes) (e5 : r'.voters = r.voters) (e6 : r'.id = r.id) (e7 : r'.n = r.n) : TurnR B (sets w g l) g r' ∧ Keep B w (sets w g l) := by
  obtain ⟨⟨vl, va, vv, vw, vb, h⟩, hB, h1, hl, hb, ha⟩ := h
  have hk := sets_keep h.base h.box (by decide) l
  exact ⟨⟨⟨vl, va, vv, vw, vb, hold_sets h (by omega) (by decide) (by decide) l (by rw [e1, e2, e3, e4, e5]; exact h.rows) (e vl va vv vw vb)⟩, Nat.le_trans hB hk.low.size, by rw [e6, e7]; exact h1, by rw [e1]; exact hl, by rw [e2]; exact hb, by rw [e3, e7]; exact ha⟩, hk⟩
theorem turnR_votes1 {B : Nat} {w : World} {g : Nat} {r : Rep} (h : TurnR B w g r) :
    TurnR B ((w.alloc (.cells #[.int .i64 r.id] 3)).setCell ⟨g, 8, none⟩ (.slice (some ⟨w.heap.size, 0, none⟩) 1 1)) g { r with votes := [r.id] } ∧ Keep B w ((w.alloc (.cells #[.int .i64 r.id] 3)).setCell ⟨g, 8, none⟩ (.slice (some ⟨w.heap.size, 0, none⟩) 1 1)) := by
  obtain ⟨⟨vl, va, vv, vw, vb, h⟩, hB, h1, hl0, hb, ha⟩ := h
  have hb1 : Below w.heap.size w (w.alloc (.cells #[.int .i64 r.id] 3)) := (Below.refl _ w).alloc (Nat.le_refl _) _
  have hown : (w.alloc (.cells #[.int .i64 r.id] 3)).ownsRow w.heap.size 3 1 (.slice (some ⟨w.heap.size, 0, none⟩) 1 1) 1 (inCells [r.id]) := ⟨rfl, .inr ⟨w.heap.size, 1, _, rfl, Nat.le_refl _, heap_new w _, Nat.le_refl _, by unfold maxLen; omega, rfl, rfl⟩⟩
  have h' := h.below hb1
  have hk := (Keep.of_below hb1 hB).trans (sets_keep h'.base h'.box (by decide) [(8, .slice (some ⟨w.heap.size, 0, none⟩) 1 1)])
  exact ⟨⟨⟨_, _, _, _, _, hold_sets h' (by omega) (by decide) (by decide) [(8, .slice (some ⟨w.heap.size, 0, none⟩) 1 1)] (r' := { r with votes := [r.id] }) (x' := undef) ⟨h'.rows.log, h'.rows.best, h'.rows.ack, own_mono hown hB, h'.rows.vor, h'.rows.a1, apart_new h.rows.ack hown, h'.rows.a3, (apart_new h.rows.vor hown).symm⟩ (fun f f' e e' => by subst e e'; exact ⟨rfl, rfl, rfl, rfl, rfl, rfl, rfl, rfl, rfl, rfl, rfl, rfl, rfl, rfl⟩)⟩, Nat.le_trans hB hk.low.size, h1, hl0, hb, ha⟩, hk⟩
set_option maxHeartbeats 1000000 in
theorem rchanges_any (B g : Nat) (r : Rep) (view : Int) (w : World) (h : TurnR B w g r) :
    Calls Try.prog 43 #[.pointer (some ⟨g, 0, none⟩), .int .i64 view] w fun e w' => ∃ v, e = .returned v ∧ OwnO B w' v (allM (changeR r view) (msg 4 0 0 0 [])) ∧ TurnR B w' g (changeR r view) ∧ Keep B w w' := by
  have hC := rclear_any B g r w h
  clear h
  go_enter Try.func43, Try.ntmps43
  go_wp2_with (first
    | (go_at_call 46; refine hC.mono ?_; rintro e w1 ⟨rfl, hT1, hK1⟩
       obtain ⟨hT2, hK2⟩ := turnR_sets hT1 [(2, .int .i64 view), (4, .int .i64 1)] { clearR r with view := view, how := 1 } (fun _ _ _ _ _ f f' e e' => by subst e e'; exact ⟨rfl, rfl, rfl, rfl, rfl, rfl, rfl, rfl, rfl, rfl, rfl, rfl, rfl, rfl⟩) rfl rfl rfl rfl rfl rfl rfl
       simp only [sets] at hT2 hK2
       obtain ⟨s1, ⟨_, _, a2, _, a4, _⟩, az, _⟩ := hT1.cells
       obtain ⟨s2, ⟨b0, _, _, _, _, _, _, _, b8, _⟩, bz, _⟩ := hT2.cells
       have b0' : ((w1.setCell ⟨g, 2, none⟩ (.int .i64 view)).setCell ⟨g, 4, none⟩ (.int .i64 1)).cell? ⟨g, 0, none⟩ = some (.int .i64 r.id) := b0
       have hsz : ((w1.setCell ⟨g, 2, none⟩ (.int .i64 view)).setCell ⟨g, 4, none⟩ (.int .i64 1)).heap.size = w1.heap.size := by simp [World.setCell]
       obtain ⟨hT3, hK3⟩ := turnR_votes1 hT2
       rw [hsz] at hT3 hK3
       have hT3' : TurnR B ((((w1.setCell ⟨g, 2, none⟩ (.int .i64 view)).setCell ⟨g, 4, none⟩ (.int .i64 1)).alloc (.cells #[.int .i64 r.id] 3)).setCell ⟨g, 8, none⟩ (.slice (some ⟨w1.heap.size, 0, none⟩) 1 1)) g (changeR r view) := hT3
       have e8 := alloc_cell (.cells #[.int .i64 r.id] 3) b8
       have ez := ((hT2.below ((Below.refl _ _).alloc (Nat.le_refl _) (.cells #[.int .i64 r.id] 3))).cells).choose_spec.2.1 8
       have hall := rall_any B g (changeR r view) (msg 4 0 0 0 []) none 0 _ hT3' (srcE_nil _ _) (by simp)
       clear hC b0 b8)
    | (go_at_call 41; refine hall.mono ?_; rintro e w4 ⟨v4, rfl, hO4, hT4, hK4⟩))
  go_ret
  exact ⟨_, rfl, hO4, hT4, ((hK1.trans hK2).trans hK3).trans hK4⟩
end Go.Proofs.Ytgdehjdajjhjpaa
