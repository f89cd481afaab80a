/-
  Joined:
  Contracts: the command of bytes, or that they are refused (13.3): of the program: its deferred function.
  Contracts: the command of bytes, or that they are refused (13.3): of the program, whole.
-/
import Derived.Test.YtclliljkmmpglaaGreatCRd4
import Derived.Test.YtclliljkmmpglaaGreatSGet
import Derived.Defers
import Derived.Recover
import Derived.Test.YtclliljkmmpglaaGreatBase
namespace Go.Proofs.YtclliljkmmpglaaGreat
open Go.RowKit Num
set_option maxRecDepth 100000
set_option linter.unusedVariables false
set_option maxRecDepth 100000

/-- Thirteen stores. -/
abbrev Num.st13 (w : World) (b : Nat) (v0 v1 v2 v3 v4 v5 v6 v7 v8 v9 v10 v11 v12 : Value) : World := (((((((((((((w.setCell ⟨b, 0, none⟩ v0).setCell ⟨b, 1, none⟩ v1).setCell ⟨b, 2, none⟩ v2).setCell ⟨b, 3, none⟩ v3).setCell ⟨b, 4, none⟩ v4).setCell ⟨b, 5, none⟩ v5).setCell ⟨b, 6, none⟩ v6).setCell ⟨b, 7, none⟩ v7).setCell ⟨b, 8, none⟩ v8).setCell ⟨b, 9, none⟩ v9).setCell ⟨b, 10, none⟩ v10).setCell ⟨b, 11, none⟩ v11).setCell ⟨b, 12, none⟩ v12)
/-- The results' boxes as they are told when bytes are refused. -/
abbrev Num.zeroed (w : World) (b c : Nat) : World := (st13 w b (.int .i64 0) (.int .i64 0) (.int .i64 0) (.int .i64 0) (.slice none 0 0) (.slice none 0 0) (.slice none 0 0) (.int .i64 0) (.int .i64 0) (.int .i64 0) (.string ⟨#[]⟩) (.int .i64 0) (.slice none 0 0)).setCell ⟨c, 0, none⟩ (.int .i64 3)
theorem set13 {w : World} {b : Nat} {x0 x1 x2 x3 x4 x5 x6 x7 x8 x9 x10 x11 x12 : Value} (h : w.heap[b]? = some (.cells #[x0, x1, x2, x3, x4, x5, x6, x7, x8, x9, x10, x11, x12] 41 (0, 0))) (v0 v1 v2 v3 v4 v5 v6 v7 v8 v9 v10 v11 v12 : Value) :
    (w.setCell ⟨b, 0, none⟩ v0).heap[b]? = some (.cells #[v0, x1, x2, x3, x4, x5, x6, x7, x8, x9, x10, x11, x12] 41 (0, 0)) ∧ ((w.setCell ⟨b, 0, none⟩ v0).setCell ⟨b, 1, none⟩ v1).heap[b]? = some (.cells #[v0, v1, x2, x3, x4, x5, x6, x7, x8, x9, x10, x11, x12] 41 (0, 0)) ∧ (((w.setCell ⟨b, 0, none⟩ v0).setCell ⟨b, 1, none⟩ v1).setCell ⟨b, 2, none⟩ v2).heap[b]? = some (.cells #[v0, v1, v2, x3, x4, x5, x6, x7, x8, x9, x10, x11, x12] 41 (0, 0)) ∧ ((((w.setCell ⟨b, 0, none⟩ v0).setCell ⟨b, 1, none⟩ v1).setCell ⟨b, 2, none⟩ v2).setCell ⟨b, 3, none⟩ v3).heap[b]? = some (.cells #[v0, v1, v2, v3, x4, x5, x6, x7, x8, x9, x10, x11, x12] 41 (0, 0)) ∧ (((((w.setCell ⟨b, 0, none⟩ v0).setCell ⟨b, 1, none⟩ v1).setCell ⟨b, 2, none⟩ v2).setCell ⟨b, 3, none⟩ v3).setCell ⟨b, 4, none⟩ v4).heap[b]? = some (.cells #[v0, v1, v2, v3, v4, x5, x6, x7, x8, x9, x10, x11, x12] 41 (0, 0)) ∧ ((((((w.setCell ⟨b, 0, none⟩ v0).setCell ⟨b, 1, none⟩ v1).setCell ⟨b, 2, none⟩ v2).setCell ⟨b, 3, none⟩ v3).setCell ⟨b, 4, none⟩ v4).setCell ⟨b, 5, none⟩ v5).heap[b]? = some (.cells #[v0, v1, v2, v3, v4, v5, x6, x7, x8, x9, x10, x11, x12] 41 (0, 0)) ∧ (((((((w.setCell ⟨b, 0, none⟩ v0).setCell ⟨b, 1, none⟩ v1).setCell ⟨b, 2, none⟩ v2).setCell ⟨b, 3, none⟩ v3).setCell ⟨b, 4, none⟩ v4).setCell ⟨b, 5, none⟩ v5).setCell ⟨b, 6, none⟩ v6).heap[b]? = some (.cells #[v0, v1, v2, v3, v4, v5, v6, x7, x8, x9, x10, x11, x12] 41 (0, 0)) ∧ ((((((((w.setCell ⟨b, 0, none⟩ v0).setCell ⟨b, 1, none⟩ v1).setCell ⟨b, 2, none⟩ v2).setCell ⟨b, 3, none⟩ v3).setCell ⟨b, 4, none⟩ v4).setCell ⟨b, 5, none⟩ v5).setCell ⟨b, 6, none⟩ v6).setCell ⟨b, 7, none⟩ v7).heap[b]? = some (.cells #[v0, v1, v2, v3, v4, v5, v6, v7, x8, x9, x10, x11, x12] 41 (0, 0)) ∧ (((((((((w.setCell ⟨b, 0, none⟩ v0).setCell ⟨b, 1, none⟩ v1).setCell ⟨b, 2, none⟩ v2).setCell ⟨b, 3, none⟩ v3).setCell ⟨b, 4, none⟩ v4).setCell ⟨b, 5, none⟩ v5).setCell ⟨b, 6, none⟩ v6).setCell ⟨b, 7, none⟩ v7).setCell ⟨b, 8, none⟩ v8).heap[b]? = some (.cells #[v0, v1, v2, v3, v4, v5, v6, v7, v8, x9, x10, x11, x12] 41 (0, 0)) ∧ ((((((((((w.setCell ⟨b, 0, none⟩ v0).setCell ⟨b, 1, none⟩ v1).setCell ⟨b, 2, none⟩ v2).setCell ⟨b, 3, none⟩ v3).setCell ⟨b, 4, none⟩ v4).setCell ⟨b, 5, none⟩ v5).setCell ⟨b, 6, none⟩ v6).setCell ⟨b, 7, none⟩ v7).setCell ⟨b, 8, none⟩ v8).setCell ⟨b, 9, none⟩ v9).heap[b]? = some (.cells #[v0, v1, v2, v3, v4, v5, v6, v7, v8, v9, x10, x11, x12] 41 (0, 0)) ∧ (((((((((((w.setCell ⟨b, 0, none⟩ v0).setCell ⟨b, 1, none⟩ v1).setCell ⟨b, 2, none⟩ v2).setCell ⟨b, 3, none⟩ v3).setCell ⟨b, 4, none⟩ v4).setCell ⟨b, 5, none⟩ v5).setCell ⟨b, 6, none⟩ v6).setCell ⟨b, 7, none⟩ v7).setCell ⟨b, 8, none⟩ v8).setCell ⟨b, 9, none⟩ v9).setCell ⟨b, 10, none⟩ v10).heap[b]? = some (.cells #[v0, v1, v2, v3, v4, v5, v6, v7, v8, v9, v10, x11, x12] 41 (0, 0)) ∧ ((((((((((((w.setCell ⟨b, 0, none⟩ v0).setCell ⟨b, 1, none⟩ v1).setCell ⟨b, 2, none⟩ v2).setCell ⟨b, 3, none⟩ v3).setCell ⟨b, 4, none⟩ v4).setCell ⟨b, 5, none⟩ v5).setCell ⟨b, 6, none⟩ v6).setCell ⟨b, 7, none⟩ v7).setCell ⟨b, 8, none⟩ v8).setCell ⟨b, 9, none⟩ v9).setCell ⟨b, 10, none⟩ v10).setCell ⟨b, 11, none⟩ v11).heap[b]? = some (.cells #[v0, v1, v2, v3, v4, v5, v6, v7, v8, v9, v10, v11, x12] 41 (0, 0)) ∧ (((((((((((((w.setCell ⟨b, 0, none⟩ v0).setCell ⟨b, 1, none⟩ v1).setCell ⟨b, 2, none⟩ v2).setCell ⟨b, 3, none⟩ v3).setCell ⟨b, 4, none⟩ v4).setCell ⟨b, 5, none⟩ v5).setCell ⟨b, 6, none⟩ v6).setCell ⟨b, 7, none⟩ v7).setCell ⟨b, 8, none⟩ v8).setCell ⟨b, 9, none⟩ v9).setCell ⟨b, 10, none⟩ v10).setCell ⟨b, 11, none⟩ v11).setCell ⟨b, 12, none⟩ v12).heap[b]? = some (.cells #[v0, v1, v2, v3, v4, v5, v6, v7, v8, v9, v10, v11, v12] 41 (0, 0)) := by
  have s1 : (w.setCell ⟨b, 0, none⟩ v0).heap[b]? = some (.cells #[v0, x1, x2, x3, x4, x5, x6, x7, x8, x9, x10, x11, x12] 41 (0, 0)) := (heap_setCell_same _ b 0 _ _ _ h).trans (by simp)
  have s2 : ((w.setCell ⟨b, 0, none⟩ v0).setCell ⟨b, 1, none⟩ v1).heap[b]? = some (.cells #[v0, v1, x2, x3, x4, x5, x6, x7, x8, x9, x10, x11, x12] 41 (0, 0)) := (heap_setCell_same _ b 1 _ _ _ s1).trans (by simp)
  have s3 : (((w.setCell ⟨b, 0, none⟩ v0).setCell ⟨b, 1, none⟩ v1).setCell ⟨b, 2, none⟩ v2).heap[b]? = some (.cells #[v0, v1, v2, x3, x4, x5, x6, x7, x8, x9, x10, x11, x12] 41 (0, 0)) := (heap_setCell_same _ b 2 _ _ _ s2).trans (by simp)
  have s4 : ((((w.setCell ⟨b, 0, none⟩ v0).setCell ⟨b, 1, none⟩ v1).setCell ⟨b, 2, none⟩ v2).setCell ⟨b, 3, none⟩ v3).heap[b]? = some (.cells #[v0, v1, v2, v3, x4, x5, x6, x7, x8, x9, x10, x11, x12] 41 (0, 0)) := (heap_setCell_same _ b 3 _ _ _ s3).trans (by simp)
  have s5 : (((((w.setCell ⟨b, 0, none⟩ v0).setCell ⟨b, 1, none⟩ v1).setCell ⟨b, 2, none⟩ v2).setCell ⟨b, 3, none⟩ v3).setCell ⟨b, 4, none⟩ v4).heap[b]? = some (.cells #[v0, v1, v2, v3, v4, x5, x6, x7, x8, x9, x10, x11, x12] 41 (0, 0)) := (heap_setCell_same _ b 4 _ _ _ s4).trans (by simp)
  have s6 : ((((((w.setCell ⟨b, 0, none⟩ v0).setCell ⟨b, 1, none⟩ v1).setCell ⟨b, 2, none⟩ v2).setCell ⟨b, 3, none⟩ v3).setCell ⟨b, 4, none⟩ v4).setCell ⟨b, 5, none⟩ v5).heap[b]? = some (.cells #[v0, v1, v2, v3, v4, v5, x6, x7, x8, x9, x10, x11, x12] 41 (0, 0)) := (heap_setCell_same _ b 5 _ _ _ s5).trans (by simp)
  have s7 : (((((((w.setCell ⟨b, 0, none⟩ v0).setCell ⟨b, 1, none⟩ v1).setCell ⟨b, 2, none⟩ v2).setCell ⟨b, 3, none⟩ v3).setCell ⟨b, 4, none⟩ v4).setCell ⟨b, 5, none⟩ v5).setCell ⟨b, 6, none⟩ v6).heap[b]? = some (.cells #[v0, v1, v2, v3, v4, v5, v6, x7, x8, x9, x10, x11, x12] 41 (0, 0)) := (heap_setCell_same _ b 6 _ _ _ s6).trans (by simp)
  have s8 : ((((((((w.setCell ⟨b, 0, none⟩ v0).setCell ⟨b, 1, none⟩ v1).setCell ⟨b, 2, none⟩ v2).setCell ⟨b, 3, none⟩ v3).setCell ⟨b, 4, none⟩ v4).setCell ⟨b, 5, none⟩ v5).setCell ⟨b, 6, none⟩ v6).setCell ⟨b, 7, none⟩ v7).heap[b]? = some (.cells #[v0, v1, v2, v3, v4, v5, v6, v7, x8, x9, x10, x11, x12] 41 (0, 0)) := (heap_setCell_same _ b 7 _ _ _ s7).trans (by simp)
  have s9 : (((((((((w.setCell ⟨b, 0, none⟩ v0).setCell ⟨b, 1, none⟩ v1).setCell ⟨b, 2, none⟩ v2).setCell ⟨b, 3, none⟩ v3).setCell ⟨b, 4, none⟩ v4).setCell ⟨b, 5, none⟩ v5).setCell ⟨b, 6, none⟩ v6).setCell ⟨b, 7, none⟩ v7).setCell ⟨b, 8, none⟩ v8).heap[b]? = some (.cells #[v0, v1, v2, v3, v4, v5, v6, v7, v8, x9, x10, x11, x12] 41 (0, 0)) := (heap_setCell_same _ b 8 _ _ _ s8).trans (by simp)
  have s10 : ((((((((((w.setCell ⟨b, 0, none⟩ v0).setCell ⟨b, 1, none⟩ v1).setCell ⟨b, 2, none⟩ v2).setCell ⟨b, 3, none⟩ v3).setCell ⟨b, 4, none⟩ v4).setCell ⟨b, 5, none⟩ v5).setCell ⟨b, 6, none⟩ v6).setCell ⟨b, 7, none⟩ v7).setCell ⟨b, 8, none⟩ v8).setCell ⟨b, 9, none⟩ v9).heap[b]? = some (.cells #[v0, v1, v2, v3, v4, v5, v6, v7, v8, v9, x10, x11, x12] 41 (0, 0)) := (heap_setCell_same _ b 9 _ _ _ s9).trans (by simp)
  have s11 : (((((((((((w.setCell ⟨b, 0, none⟩ v0).setCell ⟨b, 1, none⟩ v1).setCell ⟨b, 2, none⟩ v2).setCell ⟨b, 3, none⟩ v3).setCell ⟨b, 4, none⟩ v4).setCell ⟨b, 5, none⟩ v5).setCell ⟨b, 6, none⟩ v6).setCell ⟨b, 7, none⟩ v7).setCell ⟨b, 8, none⟩ v8).setCell ⟨b, 9, none⟩ v9).setCell ⟨b, 10, none⟩ v10).heap[b]? = some (.cells #[v0, v1, v2, v3, v4, v5, v6, v7, v8, v9, v10, x11, x12] 41 (0, 0)) := (heap_setCell_same _ b 10 _ _ _ s10).trans (by simp)
  have s12 : ((((((((((((w.setCell ⟨b, 0, none⟩ v0).setCell ⟨b, 1, none⟩ v1).setCell ⟨b, 2, none⟩ v2).setCell ⟨b, 3, none⟩ v3).setCell ⟨b, 4, none⟩ v4).setCell ⟨b, 5, none⟩ v5).setCell ⟨b, 6, none⟩ v6).setCell ⟨b, 7, none⟩ v7).setCell ⟨b, 8, none⟩ v8).setCell ⟨b, 9, none⟩ v9).setCell ⟨b, 10, none⟩ v10).setCell ⟨b, 11, none⟩ v11).heap[b]? = some (.cells #[v0, v1, v2, v3, v4, v5, v6, v7, v8, v9, v10, v11, x12] 41 (0, 0)) := (heap_setCell_same _ b 11 _ _ _ s11).trans (by simp)
  have s13 : (((((((((((((w.setCell ⟨b, 0, none⟩ v0).setCell ⟨b, 1, none⟩ v1).setCell ⟨b, 2, none⟩ v2).setCell ⟨b, 3, none⟩ v3).setCell ⟨b, 4, none⟩ v4).setCell ⟨b, 5, none⟩ v5).setCell ⟨b, 6, none⟩ v6).setCell ⟨b, 7, none⟩ v7).setCell ⟨b, 8, none⟩ v8).setCell ⟨b, 9, none⟩ v9).setCell ⟨b, 10, none⟩ v10).setCell ⟨b, 11, none⟩ v11).setCell ⟨b, 12, none⟩ v12).heap[b]? = some (.cells #[v0, v1, v2, v3, v4, v5, v6, v7, v8, v9, v10, v11, v12] 41 (0, 0)) := (heap_setCell_same _ b 12 _ _ _ s12).trans (by simp)
  exact ⟨s1, s2, s3, s4, s5, s6, s7, s8, s9, s10, s11, s12, s13⟩
theorem set_far {w : World} {b c i : Nat} {o : Obj} (hne : c ≠ b) (h : w.heap[c]? = some o) (v : Value) : (w.setCell ⟨b, i, none⟩ v).heap[c]? = some o := by
  rw [Below.heap_setCell _ _ _ _ hne]
  exact h
theorem far13 {w : World} {b c : Nat} {o : Obj} (hne : c ≠ b) (h : w.heap[c]? = some o) (v0 v1 v2 v3 v4 v5 v6 v7 v8 v9 v10 v11 v12 : Value) : (st13 w b v0 v1 v2 v3 v4 v5 v6 v7 v8 v9 v10 v11 v12).heap[c]? = some o := (set_far (i := 12) hne (set_far (i := 11) hne (set_far (i := 10) hne (set_far (i := 9) hne (set_far (i := 8) hne (set_far (i := 7) hne (set_far (i := 6) hne (set_far (i := 5) hne (set_far (i := 4) hne (set_far (i := 3) hne (set_far (i := 2) hne (set_far (i := 1) hne (set_far (i := 0) hne h v0) v1) v2) v3) v4) v5) v6) v7) v8) v9) v10) v11) v12)
set_option maxHeartbeats 4000000 in
/-- The deferred function of a frame that panics: it recovers, and tells that the bytes are refused. -/
theorem catchD_panicking (b c : Nat) (hne : c ≠ b) (u : TypeId) (pv x0 x1 x2 x3 x4 x5 x6 x7 x8 x9 x10 x11 x12 y0 : Value) (older : List PanicEntry) (w : World) (hb : w.heap[b]? = some (.cells #[x0, x1, x2, x3, x4, x5, x6, x7, x8, x9, x10, x11, x12] 41 (0, 0))) (hc : w.heap[c]? = some (.cells #[y0] 26 (0, 0))) :
    CallsD Tryz.prog 66 #[.pointer (some ⟨b, 0, none⟩), .pointer (some ⟨c, 0, none⟩)] (.panicking ({ v := .iface u pv, recovered := false } :: older)) w fun e u' w' =>
      e = .returned (.tuple #[]) ∧ u' = .panicking ({ v := .iface u pv, recovered := true } :: older) ∧ w' = zeroed w b c := by
  obtain ⟨s1, s2, s3, s4, s5, s6, s7, s8, s9, s10, s11, s12, s13⟩ := set13 hb (.int .i64 0) (.int .i64 0) (.int .i64 0) (.int .i64 0) (.slice none 0 0) (.slice none 0 0) (.slice none 0 0) (.int .i64 0) (.int .i64 0) (.int .i64 0) (.string ⟨#[]⟩) (.int .i64 0) (.slice none 0 0)
  have c0 := box_cell hb 0 _ rfl
  have f0 := box_open hb 0
  have c1 := box_cell s1 1 _ rfl
  have f1 := box_open s1 1
  have c2 := box_cell s2 2 _ rfl
  have f2 := box_open s2 2
  have c3 := box_cell s3 3 _ rfl
  have f3 := box_open s3 3
  have c4 := box_cell s4 4 _ rfl
  have f4 := box_open s4 4
  have c5 := box_cell s5 5 _ rfl
  have f5 := box_open s5 5
  have c6 := box_cell s6 6 _ rfl
  have f6 := box_open s6 6
  have c7 := box_cell s7 7 _ rfl
  have f7 := box_open s7 7
  have c8 := box_cell s8 8 _ rfl
  have f8 := box_open s8 8
  have c9 := box_cell s9 9 _ rfl
  have f9 := box_open s9 9
  have c10 := box_cell s10 10 _ rfl
  have f10 := box_open s10 10
  have c11 := box_cell s11 11 _ rfl
  have f11 := box_open s11 11
  have c12 := box_cell s12 12 _ rfl
  have f12 := box_open s12 12
  have t13 := far13 hne hc (.int .i64 0) (.int .i64 0) (.int .i64 0) (.int .i64 0) (.slice none 0 0) (.slice none 0 0) (.slice none 0 0) (.int .i64 0) (.int .i64 0) (.int .i64 0) (.string ⟨#[]⟩) (.int .i64 0) (.slice none 0 0)
  have c13 := box_cell t13 0 _ rfl
  have f13 := box_open t13 0
  simp only [st13] at c13 f13
  refine callsD_of_wpS Tryz.func66 rfl fun c₀ cs hu => ?_
  apply wpS_seq
  apply wpS_region
  simp [wpOpsS, go_sem, recoverD, hu, Tryz.ntmps66, Exit.thenS]
  refine wpS_cond (t := true) (by simp [Act.eval, Array.replicate]) ?_
  simp only [if_true]
  apply wpS_region
  simp [wpOpsS, go_sem, c0, f0, c1, f1, c2, f2, c3, f3, c4, f4, c5, f5, c6, f6, c7, f7, c8, f8, c9, f9, c10, f10, c11, f11, c12, f12, c13, f13, bodyPostS, results, Tryz.results66, zeroed, st13]
/-- Of a frame that returns. -/
theorem catchD_idle (p q : Addr) (w : World) :
    CallsD Tryz.prog 66 #[.pointer (some p), .pointer (some q)] .returning w fun e u' w' => e = .returned (.tuple #[]) ∧ u' = .returning ∧ w' = w := by
  refine callsD_of_wpS Tryz.func66 rfl fun c₀ cs hu => ?_
  apply wpS_seq
  apply wpS_region
  simp [wpOpsS, go_sem, recoverD, hu, Tryz.ntmps66, Exit.thenS]
  refine wpS_cond (t := false) (by simp [Act.eval, Array.replicate]) ?_
  simp only [Bool.false_eq_true, if_false]
  refine wpS_of_wp (wp_skip ?_)
  cases c₀
  simp_all [bodyPostS, results, Tryz.results66]
/-- Behind the deferred call of a frame that returns. -/
theorem doorD_ret {R : Ending → World → Prop} (b c : Nat) (tmps : Array Value) (h2 : tmps[2]? = some (.pointer (some ⟨b, 0, none⟩))) (h3 : tmps[3]? = some (.pointer (some ⟨c, 0, none⟩))) (W : World) (v0 v1 v2 v3 v4 v5 v6 v7 v8 v9 v10 v11 v12 E : Value)
    (hb : W.heap[b]? = some (.cells #[v0, v1, v2, v3, v4, v5, v6, v7, v8, v9, v10, v11, v12] 41 (0, 0))) (hc : W.heap[c]? = some (.cells #[E] 26 (0, 0))) (h : R (.returned (.tuple #[.agg #[v0, v1, v2, v3, v4, v5, v6, v7, v8, v9, v10, v11, v12], E])) W) :
    bodyPostD Tryz.prog Tryz.f35 R Exit.ret { tmps := tmps, defers := [{ target := Target.fn (Fn.func 66) #[.pointer (some ⟨b, 0, none⟩), .pointer (some ⟨c, 0, none⟩)], args := #[] }] } W := by
  have c0 := box_cell hb 0 _ rfl
  have c1 := box_cell hb 1 _ rfl
  have c2 := box_cell hb 2 _ rfl
  have c3 := box_cell hb 3 _ rfl
  have c4 := box_cell hb 4 _ rfl
  have c5 := box_cell hb 5 _ rfl
  have c6 := box_cell hb 6 _ rfl
  have c7 := box_cell hb 7 _ rfl
  have c8 := box_cell hb 8 _ rfl
  have c9 := box_cell hb 9 _ rfl
  have c10 := box_cell hb 10 _ rfl
  have c11 := box_cell hb 11 _ rfl
  have c12 := box_cell hb 12 _ rfl
  have c13 := box_cell hc 0 _ rfl
  refine leaves_cons (f := 66) (args := #[.pointer (some ⟨b, 0, none⟩), .pointer (some ⟨c, 0, none⟩)]) (by simp) (by simp [go_sem]) ?_
  refine (catchD_idle _ _ _).mono ?_
  rintro e u' w'' ⟨rfl, rfl, rfl⟩
  exact ⟨_, by simp [results, Tryz.f35, h2, h3, c0, c1, c2, c3, c4, c5, c6, c7, c8, c9, c10, c11, c12, c13, go_sem], h⟩
/-- What is stored is told. -/
theorem told13 {W : World} {b c : Nat} (hne : c ≠ b) {x0 x1 x2 x3 x4 x5 x6 x7 x8 x9 x10 x11 x12 y0 : Value} (hb : W.heap[b]? = some (.cells #[x0, x1, x2, x3, x4, x5, x6, x7, x8, x9, x10, x11, x12] 41 (0, 0))) (hc : W.heap[c]? = some (.cells #[y0] 26 (0, 0))) (v0 v1 v2 v3 v4 v5 v6 v7 v8 v9 v10 v11 v12 E : Value) :
    ((st13 W b v0 v1 v2 v3 v4 v5 v6 v7 v8 v9 v10 v11 v12).setCell ⟨c, 0, none⟩ E).heap[b]? = some (.cells #[v0, v1, v2, v3, v4, v5, v6, v7, v8, v9, v10, v11, v12] 41 (0, 0)) ∧ ((st13 W b v0 v1 v2 v3 v4 v5 v6 v7 v8 v9 v10 v11 v12).setCell ⟨c, 0, none⟩ E).heap[c]? = some (.cells #[E] 26 (0, 0)) := by
  obtain ⟨_, _, _, _, _, _, _, _, _, _, _, _, s13⟩ := set13 hb v0 v1 v2 v3 v4 v5 v6 v7 v8 v9 v10 v11 v12
  have t3 := far13 hne hc v0 v1 v2 v3 v4 v5 v6 v7 v8 v9 v10 v11 v12
  exact ⟨set_far (fun e => hne e.symm) s13 _, (heap_setCell_same _ c 0 _ _ _ t3).trans (by simp)⟩
/-- Behind the deferred call of a frame that panics. -/
theorem doorD_panic {R : Ending → World → Prop} (b c : Nat) (hne : c ≠ b) (tmps : Array Value) (h2 : tmps[2]? = some (.pointer (some ⟨b, 0, none⟩))) (h3 : tmps[3]? = some (.pointer (some ⟨c, 0, none⟩))) (W : World) (u : TypeId) (pv x0 x1 x2 x3 x4 x5 x6 x7 x8 x9 x10 x11 x12 y0 : Value)
    (hb : W.heap[b]? = some (.cells #[x0, x1, x2, x3, x4, x5, x6, x7, x8, x9, x10, x11, x12] 41 (0, 0))) (hc : W.heap[c]? = some (.cells #[y0] 26 (0, 0)))
    (h : R (.returned (.tuple #[.agg #[.int .i64 0, .int .i64 0, .int .i64 0, .int .i64 0, .slice none 0 0, .slice none 0 0, .slice none 0 0, .int .i64 0, .int .i64 0, .int .i64 0, .string ⟨#[]⟩, .int .i64 0, .slice none 0 0], .int .i64 3])) (zeroed W b c)) :
    bodyPostD Tryz.prog Tryz.f35 R (Exit.panic [{ v := .iface u pv, recovered := false }]) { tmps := tmps, defers := [{ target := Target.fn (Fn.func 66) #[.pointer (some ⟨b, 0, none⟩), .pointer (some ⟨c, 0, none⟩)], args := #[] }] } W := by
  obtain ⟨e30, e40⟩ := told13 hne hb hc (.int .i64 0) (.int .i64 0) (.int .i64 0) (.int .i64 0) (.slice none 0 0) (.slice none 0 0) (.slice none 0 0) (.int .i64 0) (.int .i64 0) (.int .i64 0) (.string ⟨#[]⟩) (.int .i64 0) (.slice none 0 0) (.int .i64 3)
  have e3 : (zeroed W b c).heap[b]? = some (.cells #[.int .i64 0, .int .i64 0, .int .i64 0, .int .i64 0, .slice none 0 0, .slice none 0 0, .slice none 0 0, .int .i64 0, .int .i64 0, .int .i64 0, .string ⟨#[]⟩, .int .i64 0, .slice none 0 0] 41 (0, 0)) := e30
  have e4 : (zeroed W b c).heap[c]? = some (.cells #[.int .i64 3] 26 (0, 0)) := e40
  clear e30 e40
  have c0 := box_cell e3 0 _ rfl
  have c1 := box_cell e3 1 _ rfl
  have c2 := box_cell e3 2 _ rfl
  have c3 := box_cell e3 3 _ rfl
  have c4 := box_cell e3 4 _ rfl
  have c5 := box_cell e3 5 _ rfl
  have c6 := box_cell e3 6 _ rfl
  have c7 := box_cell e3 7 _ rfl
  have c8 := box_cell e3 8 _ rfl
  have c9 := box_cell e3 9 _ rfl
  have c10 := box_cell e3 10 _ rfl
  have c11 := box_cell e3 11 _ rfl
  have c12 := box_cell e3 12 _ rfl
  have c13 := box_cell e4 0 _ rfl
  refine leaves_cons (f := 66) (args := #[.pointer (some ⟨b, 0, none⟩), .pointer (some ⟨c, 0, none⟩)]) (by simp) (by simp [go_sem]) ?_
  refine (catchD_panicking b c hne u pv x0 x1 x2 x3 x4 x5 x6 x7 x8 x9 x10 x11 x12 y0 [] _ hb hc).mono ?_
  rintro e u' w'' ⟨rfl, rfl, rfl⟩
  generalize zeroed W b c = WZ at *
  exact ⟨_, by simp [results, Tryz.f35, h2, h3, c0, c1, c2, c3, c4, c5, c6, c7, c8, c9, c10, c11, c12, c13, go_sem], h⟩
theorem below13 {w W : World} {b c : Nat} (h : Below w.heap.size w W) (hb : w.heap.size ≤ b) (hc : w.heap.size ≤ c) (v0 v1 v2 v3 v4 v5 v6 v7 v8 v9 v10 v11 v12 E : Value) : Below w.heap.size w ((st13 W b v0 v1 v2 v3 v4 v5 v6 v7 v8 v9 v10 v11 v12).setCell ⟨c, 0, none⟩ E) :=
  (((((((((((((h.setCell (p := ⟨b, 0, none⟩) hb _).setCell (p := ⟨b, 1, none⟩) hb _).setCell (p := ⟨b, 2, none⟩) hb _).setCell (p := ⟨b, 3, none⟩) hb _).setCell (p := ⟨b, 4, none⟩) hb _).setCell (p := ⟨b, 5, none⟩) hb _).setCell (p := ⟨b, 6, none⟩) hb _).setCell (p := ⟨b, 7, none⟩) hb _).setCell (p := ⟨b, 8, none⟩) hb _).setCell (p := ⟨b, 9, none⟩) hb _).setCell (p := ⟨b, 10, none⟩) hb _).setCell (p := ⟨b, 11, none⟩) hb _).setCell (p := ⟨b, 12, none⟩) hb _).setCell (p := ⟨c, 0, none⟩) hc _
theorem below_grownP {w W W' : World} {p : Nat} (h : Below w.heap.size w W) (k : W.grownBy W' (some p)) (hp : w.heap.size ≤ p) : Below w.heap.size w W' :=
  h.grown k h.size (fun j hj => by cases hj; exact hp)
theorem grown13 (W : World) (b : Nat) (v0 v1 v2 v3 v4 v5 v6 v7 v8 v9 v10 v11 v12 : Value) : W.grownBy (st13 W b v0 v1 v2 v3 v4 v5 v6 v7 v8 v9 v10 v11 v12) (some b) := (((((((((((((grown_set _ b 0 _).trans (grown_set _ b 1 _)).trans (grown_set _ b 2 _)).trans (grown_set _ b 3 _)).trans (grown_set _ b 4 _)).trans (grown_set _ b 5 _)).trans (grown_set _ b 6 _)).trans (grown_set _ b 7 _)).trans (grown_set _ b 8 _)).trans (grown_set _ b 9 _)).trans (grown_set _ b 10 _)).trans (grown_set _ b 11 _)).trans (grown_set _ b 12 _))
end Go.Proofs.YtclliljkmmpglaaGreat
namespace Go.Proofs.YtclliljkmmpglaaGreat
open Go.RowKit Num
set_option maxRecDepth 100000
set_option linter.unusedVariables false
set_option maxRecDepth 100000

set_option maxHeartbeats 1000000 in
theorem dget_long (s : ByteArray) (hs : 20000 < (s.size : Int)) (w : World) :
    Calls Tryz.prog 35 #[.string s] w fun e w' => e = .returned (.tuple #[.agg #[.int .i64 0, .int .i64 0, .int .i64 0, .int .i64 0, .slice none 0 0, .slice none 0 0, .slice none 0 0, .int .i64 0, .int .i64 0, .int .i64 0, .string ⟨#[]⟩, .int .i64 0, .slice none 0 0], .int .i64 3]) ∧ Below w.heap.size w w' := by
  have hmf : ∀ (fn : Fn) (first cap : Array Value) (w : World), (Instr.makeFunc fn first cap).run Tryz.prog w = .ok (.func fn first cap) w := fun _ _ _ _ => rfl
  have bx0 : ((w.alloc (.cells #[.int .i64 0, .int .i64 0, .int .i64 0, .int .i64 0, .slice none 0 0, .slice none 0 0, .slice none 0 0, .int .i64 0, .int .i64 0, .int .i64 0, .string ⟨#[]⟩, .int .i64 0, .slice none 0 0] 41)).alloc (.cells #[.int .i64 3] 26)).heap[w.heap.size]? = some (.cells #[.int .i64 0, .int .i64 0, .int .i64 0, .int .i64 0, .slice none 0 0, .slice none 0 0, .slice none 0 0, .int .i64 0, .int .i64 0, .int .i64 0, .string ⟨#[]⟩, .int .i64 0, .slice none 0 0] 41 (0, 0)) := alloc_box _ (heap_new w _)
  have be0 : ((w.alloc (.cells #[.int .i64 0, .int .i64 0, .int .i64 0, .int .i64 0, .slice none 0 0, .slice none 0 0, .slice none 0 0, .int .i64 0, .int .i64 0, .int .i64 0, .string ⟨#[]⟩, .int .i64 0, .slice none 0 0] 41)).alloc (.cells #[.int .i64 3] 26)).heap[w.heap.size + 1]? = some (.cells #[.int .i64 3] 26 (0, 0)) := heap_newB _ _ _ (by simp)
  have hB0 : Below w.heap.size w ((w.alloc (.cells #[.int .i64 0, .int .i64 0, .int .i64 0, .int .i64 0, .slice none 0 0, .slice none 0 0, .slice none 0 0, .int .i64 0, .int .i64 0, .int .i64 0, .string ⟨#[]⟩, .int .i64 0, .slice none 0 0] 41)).alloc (.cells #[.int .i64 3] 26)) := ((Below.refl _ w).alloc (Nat.le_refl _) _).alloc (by simp) _
  go_enter_defers Tryz.func35, Tryz.ntmps35
  go_wp2
  exact doorD_ret _ _ _ rfl rfl _ _ _ _ _ _ _ _ _ _ _ _ _ _ _ bx0 be0 ⟨rfl, hB0⟩
set_option maxHeartbeats 4000000 in
theorem dget_none (s : ByteArray) (hs : ¬ 20000 < (s.size : Int)) (ho : openL s.data.toList = none) (w : World) :
    Calls Tryz.prog 35 #[.string s] w fun e w' => e = .returned (.tuple #[.agg #[.int .i64 0, .int .i64 0, .int .i64 0, .int .i64 0, .slice none 0 0, .slice none 0 0, .slice none 0 0, .int .i64 0, .int .i64 0, .int .i64 0, .string ⟨#[]⟩, .int .i64 0, .slice none 0 0], .int .i64 3]) ∧ Below w.heap.size w w' := by
  have hmf : ∀ (fn : Fn) (first cap : Array Value) (w : World), (Instr.makeFunc fn first cap).run Tryz.prog w = .ok (.func fn first cap) w := fun _ _ _ _ => rfl
  have bx0 : ((w.alloc (.cells #[.int .i64 0, .int .i64 0, .int .i64 0, .int .i64 0, .slice none 0 0, .slice none 0 0, .slice none 0 0, .int .i64 0, .int .i64 0, .int .i64 0, .string ⟨#[]⟩, .int .i64 0, .slice none 0 0] 41)).alloc (.cells #[.int .i64 0] 26)).heap[w.heap.size]? = some (.cells #[.int .i64 0, .int .i64 0, .int .i64 0, .int .i64 0, .slice none 0 0, .slice none 0 0, .slice none 0 0, .int .i64 0, .int .i64 0, .int .i64 0, .string ⟨#[]⟩, .int .i64 0, .slice none 0 0] 41 (0, 0)) := alloc_box _ (heap_new w _)
  have be0 : ((w.alloc (.cells #[.int .i64 0, .int .i64 0, .int .i64 0, .int .i64 0, .slice none 0 0, .slice none 0 0, .slice none 0 0, .int .i64 0, .int .i64 0, .int .i64 0, .string ⟨#[]⟩, .int .i64 0, .slice none 0 0] 41)).alloc (.cells #[.int .i64 0] 26)).heap[w.heap.size + 1]? = some (.cells #[.int .i64 0] 26 (0, 0)) := heap_newB _ _ _ (by simp)
  have hB0 : Below w.heap.size w ((w.alloc (.cells #[.int .i64 0, .int .i64 0, .int .i64 0, .int .i64 0, .slice none 0 0, .slice none 0 0, .slice none 0 0, .int .i64 0, .int .i64 0, .int .i64 0, .string ⟨#[]⟩, .int .i64 0, .slice none 0 0] 41)).alloc (.cells #[.int .i64 0] 26)) := ((Below.refl _ w).alloc (Nat.le_refl _) _).alloc (by simp) _
  have hg := sealget_any s (by omega)
  rw [ho, show openV none = .tuple #[.string ⟨#[]⟩, .int .i64 3] from rfl] at hg
  clear ho
  go_enter_defers Tryz.func35, Tryz.ntmps35
  go_wp2_with (first
    | (go_at_call 67; refine (hg _).mono ?_; rintro e w1 ⟨rfl, hb1⟩; have bx1 := below_box hb1 bx0; have be1 := below_box hb1 be0; have hb1' := below_next hB0 (Nat.le_refl _) hb1; have hsz1 : w.heap.size + 2 ≤ w1.heap.size := by { have := hb1.size; simp at this; omega }; have cx0 := box_cell bx1 0 _ rfl; have fx0 := box_open bx1 0; have cx1 := box_cell bx1 1 _ rfl; have fx1 := box_open bx1 1; have cx2 := box_cell bx1 2 _ rfl; have fx2 := box_open bx1 2; have cx3 := box_cell bx1 3 _ rfl; have fx3 := box_open bx1 3; have cx4 := box_cell bx1 4 _ rfl; have fx4 := box_open bx1 4; have cx5 := box_cell bx1 5 _ rfl; have fx5 := box_open bx1 5; have cx6 := box_cell bx1 6 _ rfl; have fx6 := box_open bx1 6; have cx7 := box_cell bx1 7 _ rfl; have fx7 := box_open bx1 7; have cx8 := box_cell bx1 8 _ rfl; have fx8 := box_open bx1 8; have cx9 := box_cell bx1 9 _ rfl; have fx9 := box_open bx1 9; have cx10 := box_cell bx1 10 _ rfl; have fx10 := box_open bx1 10; have cx11 := box_cell bx1 11 _ rfl; have fx11 := box_open bx1 11; have cx12 := box_cell bx1 12 _ rfl; have fx12 := box_open bx1 12; have ce0 := box_cell be1 0 _ rfl; have fe0 := box_open be1 0))
  obtain ⟨t1, t2⟩ := told13 (by omega) bx1 be1 (.int .i64 0) (.int .i64 0) (.int .i64 0) (.int .i64 0) (.slice none 0 0) (.slice none 0 0) (.slice none 0 0) (.int .i64 0) (.int .i64 0) (.int .i64 0) (.string ⟨#[]⟩) (.int .i64 0) (.slice none 0 0) (.int .i64 3)
  exact doorD_ret _ _ _ rfl rfl _ _ _ _ _ _ _ _ _ _ _ _ _ _ _ t1 t2 ⟨rfl, below13 hb1' (Nat.le_refl _) (by omega) _ _ _ _ _ _ _ _ _ _ _ _ _ _⟩
set_option maxHeartbeats 4000000 in
theorem dget_panic (s : ByteArray) (hs : ¬ 20000 < (s.size : Int)) (plain : List UInt8) (ho : openL s.data.toList = some plain) (hp : plain.length ≤ 100000) (hr : rdCmd plain = none) (w : World) :
    Calls Tryz.prog 35 #[.string s] w fun e w' => e = .returned (.tuple #[.agg #[.int .i64 0, .int .i64 0, .int .i64 0, .int .i64 0, .slice none 0 0, .slice none 0 0, .slice none 0 0, .int .i64 0, .int .i64 0, .int .i64 0, .string ⟨#[]⟩, .int .i64 0, .slice none 0 0], .int .i64 3]) ∧ Below w.heap.size w w' := by
  have hmf : ∀ (fn : Fn) (first cap : Array Value) (w : World), (Instr.makeFunc fn first cap).run Tryz.prog w = .ok (.func fn first cap) w := fun _ _ _ _ => rfl
  have bx0 : ((w.alloc (.cells #[.int .i64 0, .int .i64 0, .int .i64 0, .int .i64 0, .slice none 0 0, .slice none 0 0, .slice none 0 0, .int .i64 0, .int .i64 0, .int .i64 0, .string ⟨#[]⟩, .int .i64 0, .slice none 0 0] 41)).alloc (.cells #[.int .i64 0] 26)).heap[w.heap.size]? = some (.cells #[.int .i64 0, .int .i64 0, .int .i64 0, .int .i64 0, .slice none 0 0, .slice none 0 0, .slice none 0 0, .int .i64 0, .int .i64 0, .int .i64 0, .string ⟨#[]⟩, .int .i64 0, .slice none 0 0] 41 (0, 0)) := alloc_box _ (heap_new w _)
  have be0 : ((w.alloc (.cells #[.int .i64 0, .int .i64 0, .int .i64 0, .int .i64 0, .slice none 0 0, .slice none 0 0, .slice none 0 0, .int .i64 0, .int .i64 0, .int .i64 0, .string ⟨#[]⟩, .int .i64 0, .slice none 0 0] 41)).alloc (.cells #[.int .i64 0] 26)).heap[w.heap.size + 1]? = some (.cells #[.int .i64 0] 26 (0, 0)) := heap_newB _ _ _ (by simp)
  have hB0 : Below w.heap.size w ((w.alloc (.cells #[.int .i64 0, .int .i64 0, .int .i64 0, .int .i64 0, .slice none 0 0, .slice none 0 0, .slice none 0 0, .int .i64 0, .int .i64 0, .int .i64 0, .string ⟨#[]⟩, .int .i64 0, .slice none 0 0] 41)).alloc (.cells #[.int .i64 0] 26)) := ((Below.refl _ w).alloc (Nat.le_refl _) _).alloc (by simp) _
  have hg := sealget_any s (by omega)
  rw [ho, show openV (some plain) = .tuple #[.string (str plain), .int .i64 0] from rfl] at hg
  have hsch : ∀ w1 : World, Calls Tryz.prog 68 #[.pointer (some ⟨w1.heap.size, 0, none⟩)] (w1.alloc (.cells #[.string (str plain)] 152)) fun e w' => (w1.alloc (.cells #[.string (str plain)] 152)).grownBy w' (some w1.heap.size) ∧ e = .panicked boom := fun w1 => by
    have h := gCmd_any (heap_new w1 (.cells #[.string (str plain)] 152)) (by rw [str_size]; omega)
    rw [str_data, hr] at h
    exact h
  clear ho hr
  go_enter_defers Tryz.func35, Tryz.ntmps35
  go_wp2_with (first
    | (go_at_call 67; refine (hg _).mono ?_; rintro e w1 ⟨rfl, hb1⟩; have bx1 := below_box hb1 bx0; have be1 := below_box hb1 be0; have hb1' := below_next hB0 (Nat.le_refl _) hb1; have hsz1 : w.heap.size + 2 ≤ w1.heap.size := by { have := hb1.size; simp at this; omega }; have cx0 := box_cell bx1 0 _ rfl; have fx0 := box_open bx1 0; have cx1 := box_cell bx1 1 _ rfl; have fx1 := box_open bx1 1; have cx2 := box_cell bx1 2 _ rfl; have fx2 := box_open bx1 2; have cx3 := box_cell bx1 3 _ rfl; have fx3 := box_open bx1 3; have cx4 := box_cell bx1 4 _ rfl; have fx4 := box_open bx1 4; have cx5 := box_cell bx1 5 _ rfl; have fx5 := box_open bx1 5; have cx6 := box_cell bx1 6 _ rfl; have fx6 := box_open bx1 6; have cx7 := box_cell bx1 7 _ rfl; have fx7 := box_open bx1 7; have cx8 := box_cell bx1 8 _ rfl; have fx8 := box_open bx1 8; have cx9 := box_cell bx1 9 _ rfl; have fx9 := box_open bx1 9; have cx10 := box_cell bx1 10 _ rfl; have fx10 := box_open bx1 10; have cx11 := box_cell bx1 11 _ rfl; have fx11 := box_open bx1 11; have cx12 := box_cell bx1 12 _ rfl; have fx12 := box_open bx1 12; have ce0 := box_cell be1 0 _ rfl; have fe0 := box_open be1 0)
    | (go_at_call 68; refine (hsch _).mono ?_; rintro e w2 ⟨hg2, rfl⟩; have bx2 := grown_box hg2 (alloc_box _ bx1) (by omega); have be2 := grown_box hg2 (alloc_box _ be1) (by omega)))
  exact doorD_panic _ _ (by omega) _ rfl rfl _ _ _ _ _ _ _ _ _ _ _ _ _ _ _ _ _ bx2 be2 ⟨rfl, below13 (below_grownP (hb1'.alloc (by omega) _) hg2 (by omega)) (Nat.le_refl _) (by omega) _ _ _ _ _ _ _ _ _ _ _ _ _ _⟩
set_option maxHeartbeats 4000000 in
theorem dget_bad (s : ByteArray) (hs : ¬ 20000 < (s.size : Int)) (plain : List UInt8) (ho : openL s.data.toList = some plain) (hp : plain.length ≤ 100000) (y : Cmd) (r : List UInt8) (hr : rdCmd plain = some (y, r)) (T : ByteArray) (E : Int)
    (hput : ∀ t w, LiesC w w.heap.size t y → Calls Tryz.prog 69 #[.agg #[.int .i64 y.kind, .int .i64 y.client, .int .i64 y.seq, .int .i64 y.snap, .slice t.ko y.keys.length t.kc, .slice t.ro y.rngs.length t.rc, .slice t.wo y.wrts.length t.wc, .int .i64 y.dead, .int .i64 y.aft, .int .i64 y.held, .string y.text, .int .i64 y.code, .slice t.xo y.rows.length t.xc]] w fun e w' => e = .returned (.tuple #[.string T, .int .i64 E]) ∧ Below w.heap.size w w')
    (hT : T ≠ s) (w : World) :
    Calls Tryz.prog 35 #[.string s] w fun e w' => e = .returned (.tuple #[.agg #[.int .i64 0, .int .i64 0, .int .i64 0, .int .i64 0, .slice none 0 0, .slice none 0 0, .slice none 0 0, .int .i64 0, .int .i64 0, .int .i64 0, .string ⟨#[]⟩, .int .i64 0, .slice none 0 0], .int .i64 3]) ∧ Below w.heap.size w w' := by
  have hmf : ∀ (fn : Fn) (first cap : Array Value) (w : World), (Instr.makeFunc fn first cap).run Tryz.prog w = .ok (.func fn first cap) w := fun _ _ _ _ => rfl
  have bx0 : ((w.alloc (.cells #[.int .i64 0, .int .i64 0, .int .i64 0, .int .i64 0, .slice none 0 0, .slice none 0 0, .slice none 0 0, .int .i64 0, .int .i64 0, .int .i64 0, .string ⟨#[]⟩, .int .i64 0, .slice none 0 0] 41)).alloc (.cells #[.int .i64 0] 26)).heap[w.heap.size]? = some (.cells #[.int .i64 0, .int .i64 0, .int .i64 0, .int .i64 0, .slice none 0 0, .slice none 0 0, .slice none 0 0, .int .i64 0, .int .i64 0, .int .i64 0, .string ⟨#[]⟩, .int .i64 0, .slice none 0 0] 41 (0, 0)) := alloc_box _ (heap_new w _)
  have be0 : ((w.alloc (.cells #[.int .i64 0, .int .i64 0, .int .i64 0, .int .i64 0, .slice none 0 0, .slice none 0 0, .slice none 0 0, .int .i64 0, .int .i64 0, .int .i64 0, .string ⟨#[]⟩, .int .i64 0, .slice none 0 0] 41)).alloc (.cells #[.int .i64 0] 26)).heap[w.heap.size + 1]? = some (.cells #[.int .i64 0] 26 (0, 0)) := heap_newB _ _ _ (by simp)
  have hB0 : Below w.heap.size w ((w.alloc (.cells #[.int .i64 0, .int .i64 0, .int .i64 0, .int .i64 0, .slice none 0 0, .slice none 0 0, .slice none 0 0, .int .i64 0, .int .i64 0, .int .i64 0, .string ⟨#[]⟩, .int .i64 0, .slice none 0 0] 41)).alloc (.cells #[.int .i64 0] 26)) := ((Below.refl _ w).alloc (Nat.le_refl _) _).alloc (by simp) _
  have hg := sealget_any s (by omega)
  rw [ho, show openV (some plain) = .tuple #[.string (str plain), .int .i64 0] from rfl] at hg
  have hsch : ∀ w1 : World, Calls Tryz.prog 68 #[.pointer (some ⟨w1.heap.size, 0, none⟩)] (w1.alloc (.cells #[.string (str plain)] 152)) fun e w' => (w1.alloc (.cells #[.string (str plain)] 152)).grownBy w' (some w1.heap.size) ∧ ∃ v x, e = .returned v ∧ (∃ t : Cs, v = .agg #[.int .i64 y.kind, .int .i64 y.client, .int .i64 y.seq, .int .i64 y.snap, .slice t.ko y.keys.length t.kc, .slice t.ro y.rngs.length t.rc, .slice t.wo y.wrts.length t.wc, .int .i64 y.dead, .int .i64 y.aft, .int .i64 y.held, .string y.text, .int .i64 y.code, .slice t.xo y.rows.length t.xc] ∧ OwnC (w1.alloc (.cells #[.string (str plain)] 152)).heap.size w' t y) ∧ RdAt w1.heap.size w' x ∧ x.data.toList = r := fun w1 => by
    have h := gCmd_any (heap_new w1 (.cells #[.string (str plain)] 152)) (by rw [str_size]; omega)
    rw [str_data, hr] at h
    exact h
  have hT2 := list_ne hT
  clear ho hr hT
  go_enter_defers Tryz.func35, Tryz.ntmps35
  go_wp2_with (first
    | (go_at_call 67; refine (hg _).mono ?_; rintro e w1 ⟨rfl, hb1⟩; have bx1 := below_box hb1 bx0; have be1 := below_box hb1 be0; have hb1' := below_next hB0 (Nat.le_refl _) hb1; have hsz1 : w.heap.size + 2 ≤ w1.heap.size := by { have := hb1.size; simp at this; omega }; have cx0 := box_cell bx1 0 _ rfl; have fx0 := box_open bx1 0; have cx1 := box_cell bx1 1 _ rfl; have fx1 := box_open bx1 1; have cx2 := box_cell bx1 2 _ rfl; have fx2 := box_open bx1 2; have cx3 := box_cell bx1 3 _ rfl; have fx3 := box_open bx1 3; have cx4 := box_cell bx1 4 _ rfl; have fx4 := box_open bx1 4; have cx5 := box_cell bx1 5 _ rfl; have fx5 := box_open bx1 5; have cx6 := box_cell bx1 6 _ rfl; have fx6 := box_open bx1 6; have cx7 := box_cell bx1 7 _ rfl; have fx7 := box_open bx1 7; have cx8 := box_cell bx1 8 _ rfl; have fx8 := box_open bx1 8; have cx9 := box_cell bx1 9 _ rfl; have fx9 := box_open bx1 9; have cx10 := box_cell bx1 10 _ rfl; have fx10 := box_open bx1 10; have cx11 := box_cell bx1 11 _ rfl; have fx11 := box_open bx1 11; have cx12 := box_cell bx1 12 _ rfl; have fx12 := box_open bx1 12; have ce0 := box_cell be1 0 _ rfl; have fe0 := box_open be1 0)
    | (go_at_call 68; refine (hsch _).mono ?_; rintro e w2 ⟨hg2, v2, x2, rfl, ⟨t, rfl, hO2⟩, hat2, hx2⟩; have bx2 := grown_box hg2 (alloc_box _ bx1) (by omega); have be2 := grown_box hg2 (alloc_box _ be1) (by omega); have hl2 := hO2.lies; have hsz2 := hg2.size; simp at hsz2)
    | (go_at_call 69; refine (hput t _ (liesC_alloc hl2 (.cells #[.int .i64 y.kind, .int .i64 y.client, .int .i64 y.seq, .int .i64 y.snap, .slice t.ko y.keys.length t.kc, .slice t.ro y.rngs.length t.rc, .slice t.wo y.wrts.length t.wc, .int .i64 y.dead, .int .i64 y.aft, .int .i64 y.held, .string y.text, .int .i64 y.code, .slice t.xo y.rows.length t.xc] 41))).mono ?_; rintro e w4 ⟨rfl, hb4⟩; have bx4 := below_box hb4 (alloc_box _ bx2); have be4 := below_box hb4 (alloc_box _ be2); have cx0 := box_cell bx4 0 _ rfl; have fx0 := box_open bx4 0; have cx1 := box_cell bx4 1 _ rfl; have fx1 := box_open bx4 1; have cx2 := box_cell bx4 2 _ rfl; have fx2 := box_open bx4 2; have cx3 := box_cell bx4 3 _ rfl; have fx3 := box_open bx4 3; have cx4 := box_cell bx4 4 _ rfl; have fx4 := box_open bx4 4; have cx5 := box_cell bx4 5 _ rfl; have fx5 := box_open bx4 5; have cx6 := box_cell bx4 6 _ rfl; have fx6 := box_open bx4 6; have cx7 := box_cell bx4 7 _ rfl; have fx7 := box_open bx4 7; have cx8 := box_cell bx4 8 _ rfl; have fx8 := box_open bx4 8; have cx9 := box_cell bx4 9 _ rfl; have fx9 := box_open bx4 9; have cx10 := box_cell bx4 10 _ rfl; have fx10 := box_open bx4 10; have cx11 := box_cell bx4 11 _ rfl; have fx11 := box_open bx4 11; have cx12 := box_cell bx4 12 _ rfl; have fx12 := box_open bx4 12; have ce0 := box_cell be4 0 _ rfl; have fe0 := box_open be4 0))
  obtain ⟨t1, t2⟩ := told13 (by omega) bx4 be4 (.int .i64 0) (.int .i64 0) (.int .i64 0) (.int .i64 0) (.slice none 0 0) (.slice none 0 0) (.slice none 0 0) (.int .i64 0) (.int .i64 0) (.int .i64 0) (.string ⟨#[]⟩) (.int .i64 0) (.slice none 0 0) (.int .i64 3)
  have hbz := below_grownP (hb1'.alloc (by omega) (.cells #[.string (str plain)] 152)) hg2 (by omega)
  exact doorD_ret _ _ _ rfl rfl _ _ _ _ _ _ _ _ _ _ _ _ _ _ _ t1 t2 ⟨rfl, below13 (hbz.trans (below_box0 hb4 |>.mono (by omega))) (Nat.le_refl _) (by omega) _ _ _ _ _ _ _ _ _ _ _ _ _ _⟩
set_option maxHeartbeats 4000000 in
theorem dget_yes (s : ByteArray) (hs : ¬ 20000 < (s.size : Int)) (plain : List UInt8) (ho : openL s.data.toList = some plain) (hp : plain.length ≤ 100000) (y : Cmd) (r : List UInt8) (hr : rdCmd plain = some (y, r))
    (hput : ∀ t w, LiesC w w.heap.size t y → Calls Tryz.prog 69 #[.agg #[.int .i64 y.kind, .int .i64 y.client, .int .i64 y.seq, .int .i64 y.snap, .slice t.ko y.keys.length t.kc, .slice t.ro y.rngs.length t.rc, .slice t.wo y.wrts.length t.wc, .int .i64 y.dead, .int .i64 y.aft, .int .i64 y.held, .string y.text, .int .i64 y.code, .slice t.xo y.rows.length t.xc]] w fun e w' => e = .returned (.tuple #[.string s, .int .i64 0]) ∧ Below w.heap.size w w') (w : World) :
    Calls Tryz.prog 35 #[.string s] w fun e w' => ∃ t : Cs, e = .returned (.tuple #[.agg #[.int .i64 y.kind, .int .i64 y.client, .int .i64 y.seq, .int .i64 y.snap, .slice t.ko y.keys.length t.kc, .slice t.ro y.rngs.length t.rc, .slice t.wo y.wrts.length t.wc, .int .i64 y.dead, .int .i64 y.aft, .int .i64 y.held, .string y.text, .int .i64 y.code, .slice t.xo y.rows.length t.xc], .int .i64 0]) ∧ OwnC w.heap.size w' t y ∧ Below w.heap.size w w' := by
  have hmf : ∀ (fn : Fn) (first cap : Array Value) (w : World), (Instr.makeFunc fn first cap).run Tryz.prog w = .ok (.func fn first cap) w := fun _ _ _ _ => rfl
  have bx0 : ((w.alloc (.cells #[.int .i64 0, .int .i64 0, .int .i64 0, .int .i64 0, .slice none 0 0, .slice none 0 0, .slice none 0 0, .int .i64 0, .int .i64 0, .int .i64 0, .string ⟨#[]⟩, .int .i64 0, .slice none 0 0] 41)).alloc (.cells #[.int .i64 0] 26)).heap[w.heap.size]? = some (.cells #[.int .i64 0, .int .i64 0, .int .i64 0, .int .i64 0, .slice none 0 0, .slice none 0 0, .slice none 0 0, .int .i64 0, .int .i64 0, .int .i64 0, .string ⟨#[]⟩, .int .i64 0, .slice none 0 0] 41 (0, 0)) := alloc_box _ (heap_new w _)
  have be0 : ((w.alloc (.cells #[.int .i64 0, .int .i64 0, .int .i64 0, .int .i64 0, .slice none 0 0, .slice none 0 0, .slice none 0 0, .int .i64 0, .int .i64 0, .int .i64 0, .string ⟨#[]⟩, .int .i64 0, .slice none 0 0] 41)).alloc (.cells #[.int .i64 0] 26)).heap[w.heap.size + 1]? = some (.cells #[.int .i64 0] 26 (0, 0)) := heap_newB _ _ _ (by simp)
  have hB0 : Below w.heap.size w ((w.alloc (.cells #[.int .i64 0, .int .i64 0, .int .i64 0, .int .i64 0, .slice none 0 0, .slice none 0 0, .slice none 0 0, .int .i64 0, .int .i64 0, .int .i64 0, .string ⟨#[]⟩, .int .i64 0, .slice none 0 0] 41)).alloc (.cells #[.int .i64 0] 26)) := ((Below.refl _ w).alloc (Nat.le_refl _) _).alloc (by simp) _
  have hg := sealget_any s (by omega)
  rw [ho, show openV (some plain) = .tuple #[.string (str plain), .int .i64 0] from rfl] at hg
  have hsch : ∀ w1 : World, Calls Tryz.prog 68 #[.pointer (some ⟨w1.heap.size, 0, none⟩)] (w1.alloc (.cells #[.string (str plain)] 152)) fun e w' => (w1.alloc (.cells #[.string (str plain)] 152)).grownBy w' (some w1.heap.size) ∧ ∃ v x, e = .returned v ∧ (∃ t : Cs, v = .agg #[.int .i64 y.kind, .int .i64 y.client, .int .i64 y.seq, .int .i64 y.snap, .slice t.ko y.keys.length t.kc, .slice t.ro y.rngs.length t.rc, .slice t.wo y.wrts.length t.wc, .int .i64 y.dead, .int .i64 y.aft, .int .i64 y.held, .string y.text, .int .i64 y.code, .slice t.xo y.rows.length t.xc] ∧ OwnC (w1.alloc (.cells #[.string (str plain)] 152)).heap.size w' t y) ∧ RdAt w1.heap.size w' x ∧ x.data.toList = r := fun w1 => by
    have h := gCmd_any (heap_new w1 (.cells #[.string (str plain)] 152)) (by rw [str_size]; omega)
    rw [str_data, hr] at h
    exact h
  clear ho hr
  go_enter_defers Tryz.func35, Tryz.ntmps35
  go_wp2_with (first
    | (go_at_call 67; refine (hg _).mono ?_; rintro e w1 ⟨rfl, hb1⟩; have bx1 := below_box hb1 bx0; have be1 := below_box hb1 be0; have hb1' := below_next hB0 (Nat.le_refl _) hb1; have hsz1 : w.heap.size + 2 ≤ w1.heap.size := by { have := hb1.size; simp at this; omega }; have cx0 := box_cell bx1 0 _ rfl; have fx0 := box_open bx1 0; have cx1 := box_cell bx1 1 _ rfl; have fx1 := box_open bx1 1; have cx2 := box_cell bx1 2 _ rfl; have fx2 := box_open bx1 2; have cx3 := box_cell bx1 3 _ rfl; have fx3 := box_open bx1 3; have cx4 := box_cell bx1 4 _ rfl; have fx4 := box_open bx1 4; have cx5 := box_cell bx1 5 _ rfl; have fx5 := box_open bx1 5; have cx6 := box_cell bx1 6 _ rfl; have fx6 := box_open bx1 6; have cx7 := box_cell bx1 7 _ rfl; have fx7 := box_open bx1 7; have cx8 := box_cell bx1 8 _ rfl; have fx8 := box_open bx1 8; have cx9 := box_cell bx1 9 _ rfl; have fx9 := box_open bx1 9; have cx10 := box_cell bx1 10 _ rfl; have fx10 := box_open bx1 10; have cx11 := box_cell bx1 11 _ rfl; have fx11 := box_open bx1 11; have cx12 := box_cell bx1 12 _ rfl; have fx12 := box_open bx1 12; have ce0 := box_cell be1 0 _ rfl; have fe0 := box_open be1 0)
    | (go_at_call 68; refine (hsch _).mono ?_; rintro e w2 ⟨hg2, v2, x2, rfl, ⟨t, rfl, hO2⟩, hat2, hx2⟩; have bx2 := grown_box hg2 (alloc_box _ bx1) (by omega); have be2 := grown_box hg2 (alloc_box _ be1) (by omega); have hl2 := hO2.lies; have hsz2 := hg2.size; simp at hsz2)
    | (go_at_call 69; refine (hput t _ (liesC_alloc hl2 (.cells #[.int .i64 y.kind, .int .i64 y.client, .int .i64 y.seq, .int .i64 y.snap, .slice t.ko y.keys.length t.kc, .slice t.ro y.rngs.length t.rc, .slice t.wo y.wrts.length t.wc, .int .i64 y.dead, .int .i64 y.aft, .int .i64 y.held, .string y.text, .int .i64 y.code, .slice t.xo y.rows.length t.xc] 41))).mono ?_; rintro e w4 ⟨rfl, hb4⟩; have bx4 := below_box hb4 (alloc_box _ bx2); have be4 := below_box hb4 (alloc_box _ be2); have cx0 := box_cell bx4 0 _ rfl; have fx0 := box_open bx4 0; have cx1 := box_cell bx4 1 _ rfl; have fx1 := box_open bx4 1; have cx2 := box_cell bx4 2 _ rfl; have fx2 := box_open bx4 2; have cx3 := box_cell bx4 3 _ rfl; have fx3 := box_open bx4 3; have cx4 := box_cell bx4 4 _ rfl; have fx4 := box_open bx4 4; have cx5 := box_cell bx4 5 _ rfl; have fx5 := box_open bx4 5; have cx6 := box_cell bx4 6 _ rfl; have fx6 := box_open bx4 6; have cx7 := box_cell bx4 7 _ rfl; have fx7 := box_open bx4 7; have cx8 := box_cell bx4 8 _ rfl; have fx8 := box_open bx4 8; have cx9 := box_cell bx4 9 _ rfl; have fx9 := box_open bx4 9; have cx10 := box_cell bx4 10 _ rfl; have fx10 := box_open bx4 10; have cx11 := box_cell bx4 11 _ rfl; have fx11 := box_open bx4 11; have cx12 := box_cell bx4 12 _ rfl; have fx12 := box_open bx4 12; have ce0 := box_cell be4 0 _ rfl; have fe0 := box_open be4 0; have br4 := below_box hb4 (heap_new w2 _); have r0 := box_cell br4 0 _ rfl; have r1 := box_cell br4 1 _ rfl; have r2 := box_cell br4 2 _ rfl; have r3 := box_cell br4 3 _ rfl; have r4 := box_cell br4 4 _ rfl; have r5 := box_cell br4 5 _ rfl; have r6 := box_cell br4 6 _ rfl; have r7 := box_cell br4 7 _ rfl; have r8 := box_cell br4 8 _ rfl; have r9 := box_cell br4 9 _ rfl; have r10 := box_cell br4 10 _ rfl; have r11 := box_cell br4 11 _ rfl; have r12 := box_cell br4 12 _ rfl))
  obtain ⟨t1, t2⟩ := told13 (by omega) bx4 be4 (.int .i64 y.kind) (.int .i64 y.client) (.int .i64 y.seq) (.int .i64 y.snap) (.slice t.ko y.keys.length t.kc) (.slice t.ro y.rngs.length t.rc) (.slice t.wo y.wrts.length t.wc) (.int .i64 y.dead) (.int .i64 y.aft) (.int .i64 y.held) (.string y.text) (.int .i64 y.code) (.slice t.xo y.rows.length t.xc) (.int .i64 0)
  have hbz := below_grownP (hb1'.alloc (by omega) (.cells #[.string (str plain)] 152)) hg2 (by omega)
  have hbF := hbz.trans (below_box0 hb4 |>.mono (by omega))
  have hbS := below13 hbF (Nat.le_refl _) (show w.heap.size ≤ w.heap.size + 1 by omega) (.int .i64 y.kind) (.int .i64 y.client) (.int .i64 y.seq) (.int .i64 y.snap) (.slice t.ko y.keys.length t.kc) (.slice t.ro y.rngs.length t.rc) (.slice t.wo y.wrts.length t.wc) (.int .i64 y.dead) (.int .i64 y.aft) (.int .i64 y.held) (.string y.text) (.int .i64 y.code) (.slice t.xo y.rows.length t.xc) (.int .i64 0)
  have hB1 : w.heap.size + 1 < (w1.alloc (.cells #[.string (str plain)] 152)).heap.size := by simp; omega
  have hH : HoldX (w1.alloc (.cells #[.string (str plain)] 152)).heap.size 152 w2 ((st13 w4 w.heap.size (.int .i64 y.kind) (.int .i64 y.client) (.int .i64 y.seq) (.int .i64 y.snap) (.slice t.ko y.keys.length t.kc) (.slice t.ro y.rngs.length t.rc) (.slice t.wo y.wrts.length t.wc) (.int .i64 y.dead) (.int .i64 y.aft) (.int .i64 y.held) (.string y.text) (.int .i64 y.code) (.slice t.xo y.rows.length t.xc)).setCell ⟨w.heap.size + 1, 0, none⟩ (.int .i64 0)) :=
    (((HoldX.of_below ((Below.refl _ w2).alloc (Nat.le_refl _) (.cells #[.int .i64 y.kind, .int .i64 y.client, .int .i64 y.seq, .int .i64 y.snap, .slice t.ko y.keys.length t.kc, .slice t.ro y.rngs.length t.rc, .slice t.wo y.wrts.length t.wc, .int .i64 y.dead, .int .i64 y.aft, .int .i64 y.held, .string y.text, .int .i64 y.code, .slice t.xo y.rows.length t.xc] 41))).trans (HoldX.of_below hb4)).trans (HoldX.of_grown (grown13 w4 w.heap.size (.int .i64 y.kind) (.int .i64 y.client) (.int .i64 y.seq) (.int .i64 y.snap) (.slice t.ko y.keys.length t.kc) (.slice t.ro y.rngs.length t.rc) (.slice t.wo y.wrts.length t.wc) (.int .i64 y.dead) (.int .i64 y.aft) (.int .i64 y.held) (.string y.text) (.int .i64 y.code) (.slice t.xo y.rows.length t.xc)) (by omega))).trans (HoldX.of_grown (grown_set _ _ _ _) (by omega))
  have hle : w.heap.size ≤ (w1.alloc (.cells #[.string (str plain)] 152)).heap.size := by omega
  have hO : OwnC w.heap.size ((st13 w4 w.heap.size (.int .i64 y.kind) (.int .i64 y.client) (.int .i64 y.seq) (.int .i64 y.snap) (.slice t.ko y.keys.length t.kc) (.slice t.ro y.rngs.length t.rc) (.slice t.wo y.wrts.length t.wc) (.int .i64 y.dead) (.int .i64 y.aft) (.int .i64 y.held) (.string y.text) (.int .i64 y.code) (.slice t.xo y.rows.length t.xc)).setCell ⟨w.heap.size + 1, 0, none⟩ (.int .i64 0)) t y := ⟨rowS_mono (rowS_hold hO2.keys hH (by decide)) hle, ownQ_mono (ownQ_hold hO2.rngs hH (by decide)) hle, ownW_mono (ownW_hold hO2.wrts hH (by decide)) hle, ownX_mono (ownX_hold hO2.rows hH (by decide) (by decide)) hle⟩
  exact doorD_ret _ _ _ rfl rfl _ _ _ _ _ _ _ _ _ _ _ _ _ _ _ t1 t2 ⟨_, rfl, hO, hbS⟩
end Go.Proofs.YtclliljkmmpglaaGreat
