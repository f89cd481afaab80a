/-
  Contracts: the pairs between two keys (7.4), of whatever pages.
-/
import Derived.Test.YtgldgedbinbigaaPScan
namespace Go.Proofs.Ytgldgedbinbigaa
open Go.RowKit Num
open scoped Classical
set_option linter.unusedVariables false

set_option maxRecDepth 100000 in
set_option maxHeartbeats 1000000 in
theorem scan_any (ps : Pages) (ao : Option Addr) (cap : Nat) (lo hi : ByteArray) (n : Int) (h900 : ps.length ≤ 900) (hp4 : ∀ p ∈ ps, p.length ≤ 1000) (hflat : RightP ps → ps.flatten.length ≤ 900) (w : World) (hl : LiesPg w w.heap.size ao ps) :
    Calls Try.prog 44 #[.slice ao ps.length cap, .string lo, .string hi, .int .i64 n] w fun e w' => ∃ ao' cap', e = .returned (.slice ao' (scanA ps lo hi n).length cap') ∧ LiesPr w' w'.heap.size ao' (scanA ps lo hi n) ∧ Below w.heap.size w w' := by
  by_cases hr : RightP ps
  · rw [scanA_yes hr]
    by_cases hne : ps = []
    · subst hne
      have hright := right_calls [] ao cap (by simp) (by simp) hr w hl
      rw [show scanL (List.flatten []) lo hi n = [] by simp [scanL]]
      clear hr hflat
      go_enter Try.func44, Try.ntmps44
      go_wp2
      go_step3
      go_wp2_with (first
        | (go_at_call 49; refine hright.mono ?_; rintro e w1 ⟨rfl, hb1⟩)
        | (go_at_call 51; refine (find_none ao cap lo w1).mono ?_; rintro e w3 ⟨rfl, hb3⟩))
      go_step3
      go_wp2
      go_loopw [9, 10, 11] (fun v i j wr => v = .slice none 0 0 ∧ i = .int .i64 0 ∧ j = .int .i64 0 ∧ wr = w3) (fun _ i _ _ => 0)
      case atStart => exact ⟨rfl, rfl, rfl, rfl⟩
      case round =>
        obtain ⟨rfl, rfl, rfl, rfl⟩ := hrel
        go_wp2
        try rw [Exit.noGoto_ret]
        go_ret
        exact ⟨none, 0, rfl, fun i x hx => by simp at hx, below_next hb1 (Nat.le_refl _) hb3⟩
    · exact scan_go ps hr hne ao cap lo hi n h900 (hflat hr) w hl
  · have hright := right_any ps ao cap (by omega) hp4 w hl
    rw [tru_no hr] at hright
    rw [scanA_no hr]
    clear hr hflat
    go_enter Try.func44, Try.ntmps44
    go_wp2
    go_step3
    go_wp2_with (first
      | (go_at_call 49; refine hright.mono ?_; rintro e w1 ⟨rfl, hb1⟩))
    try rw [Exit.noGoto_ret]
    go_ret
    exact ⟨none, 0, rfl, fun i x hx => by simp at hx, hb1⟩
end Go.Proofs.Ytgldgedbinbigaa
