/-
  Contracts: a command of which there are too many bytes, at a time.
-/
import Derived.Test.YtclliljkmmpglaaGreatApY
import Derived.Test.YtclliljkmmpglaaGreatApU
namespace Go.Proofs.YtclliljkmmpglaaGreat
open Go.RowKit Go.Maps Num
open scoped Classical
set_option linter.unusedVariables false
set_option maxRecDepth 100000
set_option maxRecDepth 100000 in
set_option maxHeartbeats 1000000 in
theorem entry_long (t : Int) (s : Cs) (c : Cmd) (hok : CmdOk c) (hin : CmdIn c) (hlen : ¬ (cmdB c).length ≤ 19996) (hlen2 : (cmdB c).length ≤ 800000) (w : World) (hl : LiesC w w.heap.size s c) :
    Calls Tryz.prog 28 #[.int .i64 t, cmV s c] w fun e w' => e = .returned (enV t ⟨#[]⟩) ∧ Below w.heap.size w w' := by
  have hbW : Below w.heap.size w ((w.alloc (cmCells s c)).alloc (.cells #[.int .i64 0, .string ⟨#[]⟩] 34)) := ((Below.refl _ w).alloc (Nat.le_refl _) _).alloc (by simp) _
  have hput := refPut_yes c hok hin hlen2 s _ (liesC_next hl hbW)
  rw [show putR c = .tuple #[.string ⟨#[]⟩, .int .i64 2] from if_neg hlen] at hput
  obtain ⟨k0, k1, k2, k3, k4, k5, k6, k7, k8, k9, k10, k11, k12⟩ := cm_cells (alloc_box (.cells #[.int .i64 0, .string ⟨#[]⟩] 34) (heap_new w (cmCells s c)))
  have HE : Hid (∀ w1, Below ((w.alloc (cmCells s c)).alloc (.cells #[.int .i64 0, .string ⟨#[]⟩] 34)).heap.size ((w.alloc (cmCells s c)).alloc (.cells #[.int .i64 0, .string ⟨#[]⟩] 34)) w1 → _) := fun w1 hb => ent_box rfl hb t ⟨#[]⟩
  clear hl hbW
  go_enter Tryz.func28, Tryz.ntmps28
  go_wp2_with (first | (go_at_call 29; refine hput.mono ?_; rintro e w1 ⟨rfl, hb1⟩; obtain ⟨z0, z1, g0, g1, y0, y1, hy⟩ := HE.out w1 hb1))
  exact bodyPost_ret (v := enV t ⟨#[]⟩) (by simp [results, Tryz.results28, go_sem, y0, y1]) rfl ⟨rfl, hy⟩
theorem puts_snoc {ws : List Wrt} {i : Nat} {x : Wrt} (h : ws[i]? = some x) : (putsW (ws.take (i + 1))).length = (putsW (ws.take i)).length + (if x.del = true then 0 else 1) := by
  unfold putsW
  rw [List.take_add_one, h, List.filter_append, List.length_append]
  congr 1
  show ([x].filter _).length = _
  cases h0 : x.del <;> simp [h0]
theorem puts_le (ws : List Wrt) : (putsW ws).length ≤ ws.length := List.length_filter_le _ _
end Go.Proofs.YtclliljkmmpglaaGreat
