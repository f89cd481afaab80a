/-
  Contracts of the statements: so of a new entry.
-/
import Derived.Test.YtgdehjdajjhjpaaGreatRpLo
import Derived.Deep.CutRange
import Derived.Deep.RegionHeldLaw
import Derived.BigQuiet
import Derived.WalkSmall
import Derived.Deep.RegionWith
namespace Go.Proofs.YtgdehjdajjhjpaaGreat
open Go.RowKit Num
open scoped Classical
set_option linter.unusedVariables false
set_option maxRecDepth 100000
theorem lies_take {w : World} {B : Nat} {bo : Option Addr} {l : List Ent} (h : LiesE w B bo l) (k : Nat) : LiesE w B bo (l.take k) := fun i x hx => by
  have hi : i < k := by
    have := (List.getElem?_eq_some_iff.1 hx).1
    rw [List.length_take] at this
    omega
  rw [List.getElem?_take_of_lt hi] at hx
  exact h i x hx
set_option maxRecDepth 100000 in
set_option maxHeartbeats 4000000 in
theorem of_one_a (r : Rep) (s : Sl) (m : Msg) (bo : Option Addr) (c : Nat) (hw : WideM0 r) (hn : ¬ 1 < m.log.length) (hT : ∀ (m' : Msg) (W : World), m'.a0 = 1 → m'.log = m.log → LiesR W W.heap.size s r → LiesE W W.heap.size bo m'.log → Calls Tryz.prog 5 #[repV r s, msV m' bo c] W fun e w' => e = .returned (.bool true) ∧ Below W.heap.size W w')
    (w : World) (hl : LiesR w w.heap.size s r) (hm : LiesE w w.heap.size bo m.log) :
    Calls Tryz.prog 7 #[repV r s, msV m bo c, .int .i64 1] w fun e w' => e = .returned (.bool true) ∧ Below w.heap.size w w' := by
  have hb0 : Below w.heap.size w ((w.alloc (repO r (.slice s.lo r.log.length s.lc) (.slice s.ao r.acked.length s.ac) (.slice s.vo r.votes.length s.vc) (.slice s.wo r.voters.length s.wc) (.slice s.bo r.best.length s.bc) 25)).alloc (.cells #[.int .i64 1, .int .i64 m.a1, .int .i64 m.a2, .int .i64 m.a3, .int .i64 m.a4, .int .i64 m.a5, .int .i64 m.a6, .slice bo m.log.length c] 27)) := ((Below.refl _ w).alloc (Nat.le_refl _) _).alloc (by simp) _
  have bx0 := (box_rep w r (.slice s.lo r.log.length s.lc) (.slice s.ao r.acked.length s.ac) (.slice s.vo r.votes.length s.vc) (.slice s.wo r.voters.length s.wc) (.slice s.bo r.best.length s.bc) undef 25 w.heap.size rfl).alloc (.cells #[.int .i64 1, .int .i64 m.a1, .int .i64 m.a2, .int .i64 m.a3, .int .i64 m.a4, .int .i64 m.a5, .int .i64 m.a6, .slice bo m.log.length c] 27)
  have hm0 : ((w.alloc (repO r (.slice s.lo r.log.length s.lc) (.slice s.ao r.acked.length s.ac) (.slice s.vo r.votes.length s.vc) (.slice s.wo r.voters.length s.wc) (.slice s.bo r.best.length s.bc) 25)).alloc (.cells #[.int .i64 1, .int .i64 m.a1, .int .i64 m.a2, .int .i64 m.a3, .int .i64 m.a4, .int .i64 m.a5, .int .i64 m.a6, .slice bo m.log.length c] 27)).heap[w.heap.size + 1]? = some (.cells #[.int .i64 1, .int .i64 m.a1, .int .i64 m.a2, .int .i64 m.a3, .int .i64 m.a4, .int .i64 m.a5, .int .i64 m.a6, .slice bo m.log.length c] 27 (0, 0)) := heap_newB _ _ _ (by simp)
  have hlm : LiesE w w.heap.size bo (m.log) := hm
  have hxl : (m.log).length = m.log.length := rfl
  obtain ⟨x, hx⟩ : ∃ x : Msg, x = ⟨1, m.a1, m.a2, m.a3, m.a4, m.a5, m.a6, m.log⟩ := ⟨_, rfl⟩
  have hfi := fitted_yes r s x bo c hw ((w.alloc (repO r (.slice s.lo r.log.length s.lc) (.slice s.ao r.acked.length s.ac) (.slice s.vo r.votes.length s.vc) (.slice s.wo r.voters.length s.wc) (.slice s.bo r.best.length s.bc) 25)).alloc (.cells #[.int .i64 1, .int .i64 m.a1, .int .i64 m.a2, .int .i64 m.a3, .int .i64 m.a4, .int .i64 m.a5, .int .i64 m.a6, .slice bo m.log.length c] 27)).drew (liesR_next (liesR_next hl hb0 hb0.size) (Below.refl _ _).drew (Nat.le_refl _))
  have hfe : msV x bo c = msV ⟨1, m.a1, m.a2, m.a3, m.a4, m.a5, m.a6, m.log⟩ bo c := by rw [hx]
  have hfe2 : (msV ⟨1, m.a1, m.a2, m.a3, m.a4, m.a5, m.a6, m.log⟩ bo c) = .agg #[.int .i64 1, .int .i64 m.a1, .int .i64 m.a2, .int .i64 m.a3, .int .i64 m.a4, .int .i64 m.a5, .int .i64 m.a6, .slice bo m.log.length c] := by
    show Value.agg _ = _
    rw [hxl]
  rw [hfe, hfe2] at hfi
  have hxlog : x.log = m.log := by rw [hx]
  have hx0 : x.a0 = 1 := by rw [hx]
  have HX : Hid (x.log = m.log ∧ x.a0 = 1) := ⟨hxlog, hx0⟩
  have HT : Hid (∀ (m' : Msg) (W : World), m'.a0 = 1 → m'.log = m.log → LiesR W W.heap.size s r → LiesE W W.heap.size bo m'.log → Calls Tryz.prog 5 #[repV r s, msV m' bo c] W fun e w' => e = .returned (.bool true) ∧ Below W.heap.size W w') := hT
  have HM : Hid (LiesE w w.heap.size bo (m.log)) := hlm
  clear hfe hfe2 hxlog hx0 hx hT hlm hxl hm
  have d3 : decide (1 < (m.log.length : Int)) = false := decide_eq_false (by omega)
  have d4 : ¬ 1 < (m.log.length : Int) := by omega
  obtain ⟨a0, a1, a2, a3, a4, a5, a6, a7, a8, a9, a10, a11, a12⟩ := bx0.rep (by omega)
  obtain ⟨c0, c1, c2, c3, c4, c5, c6, c7⟩ := box8 hm0
  have cz := box_open hm0
  have HK : Hid (∀ w1, Below ((w.alloc (repO r (.slice s.lo r.log.length s.lc) (.slice s.ao r.acked.length s.ac) (.slice s.vo r.votes.length s.vc) (.slice s.wo r.voters.length s.wc) (.slice s.bo r.best.length s.bc) 25)).alloc (.cells #[.int .i64 1, .int .i64 m.a1, .int .i64 m.a2, .int .i64 m.a3, .int .i64 m.a4, .int .i64 m.a5, .int .i64 m.a6, .slice bo m.log.length c] 27)).drew.heap.size ((w.alloc (repO r (.slice s.lo r.log.length s.lc) (.slice s.ao r.acked.length s.ac) (.slice s.vo r.votes.length s.vc) (.slice s.wo r.voters.length s.wc) (.slice s.bo r.best.length s.bc) 25)).alloc (.cells #[.int .i64 1, .int .i64 m.a1, .int .i64 m.a2, .int .i64 m.a3, .int .i64 m.a4, .int .i64 m.a5, .int .i64 m.a6, .slice bo m.log.length c] 27)).drew w1 → BoxF w1 w.heap.size 25 13 (repF r (.slice s.lo r.log.length s.lc) (.slice s.ao r.acked.length s.ac) (.slice s.vo r.votes.length s.vc) (.slice s.wo r.voters.length s.wc) (.slice s.bo r.best.length s.bc) undef) ∧ LiesR w1 w1.heap.size s r ∧ LiesE w1 w1.heap.size bo (m.log) ∧ Below w.heap.size w w1) := fun w1 hb1 => by
    have h1 := below_next hb0.drew (Nat.le_refl _) hb1
    exact ⟨(bx0.drew).below hb1, liesR_next hl h1 h1.size, liesE_next HM.out h1 h1.size, h1⟩
  clear bx0 hl hm0 HM hb0
  go_enter Tryz.func7, Tryz.ntmps7
  go_wp2_with fail
  go_region_with (first
    | (go_at_call 6; refine hfi.mono ?_; rintro e w1 ⟨m', rfl, hml, hma, hb1⟩
       obtain ⟨bx1, hl1, hm1, hw1⟩ := HK.out w1 hb1
       obtain ⟨b0, b1, b2, b3, b4, b5, b6, b7, b8, b9, b10, b11, b12⟩ := bx1.rep (by omega)
       have htk := HT.out m' w1 (hma.trans HX.out.2) (hml.trans HX.out.1) hl1 (by rw [hml, HX.out.1]; exact hm1)
       clear bx1 hml hma)
    | (go_at_call 5; refine htk.mono ?_; rintro e w2 ⟨rfl, hb2⟩))
  all_goals
    go_wp2
    go_ret
    exact ⟨rfl, below_next hw1 (Nat.le_refl _) hb2⟩
set_option maxRecDepth 100000 in
set_option maxHeartbeats 4000000 in
theorem of_one_b (r : Rep) (s : Sl) (m : Msg) (bo : Option Addr) (c : Nat) (hw : WideM0 r) (hn : 1 < m.log.length) (hnc : m.log.length ≤ c) (hT : ∀ (m' : Msg) (W : World), m'.a0 = 1 → m'.log = m.log.take 1 → LiesR W W.heap.size s r → LiesE W W.heap.size bo m'.log → Calls Tryz.prog 5 #[repV r s, msV m' bo c] W fun e w' => e = .returned (.bool true) ∧ Below W.heap.size W w')
    (w : World) (hl : LiesR w w.heap.size s r) (hm : LiesE w w.heap.size bo m.log) :
    Calls Tryz.prog 7 #[repV r s, msV m bo c, .int .i64 1] w fun e w' => e = .returned (.bool true) ∧ Below w.heap.size w w' := by
  have hb0 : Below w.heap.size w ((w.alloc (repO r (.slice s.lo r.log.length s.lc) (.slice s.ao r.acked.length s.ac) (.slice s.vo r.votes.length s.vc) (.slice s.wo r.voters.length s.wc) (.slice s.bo r.best.length s.bc) 25)).alloc (.cells #[.int .i64 1, .int .i64 m.a1, .int .i64 m.a2, .int .i64 m.a3, .int .i64 m.a4, .int .i64 m.a5, .int .i64 m.a6, .slice bo 1 c] 27)) := ((Below.refl _ w).alloc (Nat.le_refl _) _).alloc (by simp) _
  have bx0 := (box_rep w r (.slice s.lo r.log.length s.lc) (.slice s.ao r.acked.length s.ac) (.slice s.vo r.votes.length s.vc) (.slice s.wo r.voters.length s.wc) (.slice s.bo r.best.length s.bc) undef 25 w.heap.size rfl).alloc (.cells #[.int .i64 1, .int .i64 m.a1, .int .i64 m.a2, .int .i64 m.a3, .int .i64 m.a4, .int .i64 m.a5, .int .i64 m.a6, .slice bo 1 c] 27)
  have hm0 : ((w.alloc (repO r (.slice s.lo r.log.length s.lc) (.slice s.ao r.acked.length s.ac) (.slice s.vo r.votes.length s.vc) (.slice s.wo r.voters.length s.wc) (.slice s.bo r.best.length s.bc) 25)).alloc (.cells #[.int .i64 1, .int .i64 m.a1, .int .i64 m.a2, .int .i64 m.a3, .int .i64 m.a4, .int .i64 m.a5, .int .i64 m.a6, .slice bo 1 c] 27)).heap[w.heap.size + 1]? = some (.cells #[.int .i64 1, .int .i64 m.a1, .int .i64 m.a2, .int .i64 m.a3, .int .i64 m.a4, .int .i64 m.a5, .int .i64 m.a6, .slice bo 1 c] 27 (0, 0)) := heap_newB _ _ _ (by simp)
  have hlm : LiesE w w.heap.size bo (m.log.take 1) := lies_take hm 1
  have hxl : (m.log.take 1).length = 1 := by rw [List.length_take]; omega
  obtain ⟨x, hx⟩ : ∃ x : Msg, x = ⟨1, m.a1, m.a2, m.a3, m.a4, m.a5, m.a6, m.log.take 1⟩ := ⟨_, rfl⟩
  have hfi := fitted_yes r s x bo c hw ((w.alloc (repO r (.slice s.lo r.log.length s.lc) (.slice s.ao r.acked.length s.ac) (.slice s.vo r.votes.length s.vc) (.slice s.wo r.voters.length s.wc) (.slice s.bo r.best.length s.bc) 25)).alloc (.cells #[.int .i64 1, .int .i64 m.a1, .int .i64 m.a2, .int .i64 m.a3, .int .i64 m.a4, .int .i64 m.a5, .int .i64 m.a6, .slice bo 1 c] 27)).drew (liesR_next (liesR_next hl hb0 hb0.size) (Below.refl _ _).drew (Nat.le_refl _))
  have hfe : msV x bo c = msV ⟨1, m.a1, m.a2, m.a3, m.a4, m.a5, m.a6, m.log.take 1⟩ bo c := by rw [hx]
  have hfe2 : (msV ⟨1, m.a1, m.a2, m.a3, m.a4, m.a5, m.a6, m.log.take 1⟩ bo c) = .agg #[.int .i64 1, .int .i64 m.a1, .int .i64 m.a2, .int .i64 m.a3, .int .i64 m.a4, .int .i64 m.a5, .int .i64 m.a6, .slice bo 1 c] := by
    show Value.agg _ = _
    rw [hxl]
  rw [hfe, hfe2] at hfi
  have hxlog : x.log = m.log.take 1 := by rw [hx]
  have hx0 : x.a0 = 1 := by rw [hx]
  have HX : Hid (x.log = m.log.take 1 ∧ x.a0 = 1) := ⟨hxlog, hx0⟩
  have HT : Hid (∀ (m' : Msg) (W : World), m'.a0 = 1 → m'.log = m.log.take 1 → LiesR W W.heap.size s r → LiesE W W.heap.size bo m'.log → Calls Tryz.prog 5 #[repV r s, msV m' bo c] W fun e w' => e = .returned (.bool true) ∧ Below W.heap.size W w') := hT
  have HM : Hid (LiesE w w.heap.size bo (m.log.take 1)) := hlm
  clear hfe hfe2 hxlog hx0 hx hT hlm hxl hm
  have d3 : decide (1 < (m.log.length : Int)) = true := decide_eq_true (by omega)
  have d4 : 1 < (m.log.length : Int) := by omega
  obtain ⟨a0, a1, a2, a3, a4, a5, a6, a7, a8, a9, a10, a11, a12⟩ := bx0.rep (by omega)
  obtain ⟨c0, c1, c2, c3, c4, c5, c6, c7⟩ := box8 hm0
  have cz := box_open hm0
  have HK : Hid (∀ w1, Below ((w.alloc (repO r (.slice s.lo r.log.length s.lc) (.slice s.ao r.acked.length s.ac) (.slice s.vo r.votes.length s.vc) (.slice s.wo r.voters.length s.wc) (.slice s.bo r.best.length s.bc) 25)).alloc (.cells #[.int .i64 1, .int .i64 m.a1, .int .i64 m.a2, .int .i64 m.a3, .int .i64 m.a4, .int .i64 m.a5, .int .i64 m.a6, .slice bo 1 c] 27)).drew.heap.size ((w.alloc (repO r (.slice s.lo r.log.length s.lc) (.slice s.ao r.acked.length s.ac) (.slice s.vo r.votes.length s.vc) (.slice s.wo r.voters.length s.wc) (.slice s.bo r.best.length s.bc) 25)).alloc (.cells #[.int .i64 1, .int .i64 m.a1, .int .i64 m.a2, .int .i64 m.a3, .int .i64 m.a4, .int .i64 m.a5, .int .i64 m.a6, .slice bo 1 c] 27)).drew w1 → BoxF w1 w.heap.size 25 13 (repF r (.slice s.lo r.log.length s.lc) (.slice s.ao r.acked.length s.ac) (.slice s.vo r.votes.length s.vc) (.slice s.wo r.voters.length s.wc) (.slice s.bo r.best.length s.bc) undef) ∧ LiesR w1 w1.heap.size s r ∧ LiesE w1 w1.heap.size bo (m.log.take 1) ∧ Below w.heap.size w w1) := fun w1 hb1 => by
    have h1 := below_next hb0.drew (Nat.le_refl _) hb1
    exact ⟨(bx0.drew).below hb1, liesR_next hl h1 h1.size, liesE_next HM.out h1 h1.size, h1⟩
  clear bx0 hl hm0 HM hb0
  go_enter Tryz.func7, Tryz.ntmps7
  go_wp2_with fail
  go_region_with (first
    | (go_at_call 6; refine hfi.mono ?_; rintro e w1 ⟨m', rfl, hml, hma, hb1⟩
       obtain ⟨bx1, hl1, hm1, hw1⟩ := HK.out w1 hb1
       obtain ⟨b0, b1, b2, b3, b4, b5, b6, b7, b8, b9, b10, b11, b12⟩ := bx1.rep (by omega)
       have htk := HT.out m' w1 (hma.trans HX.out.2) (hml.trans HX.out.1) hl1 (by rw [hml, HX.out.1]; exact hm1)
       clear bx1 hml hma)
    | (go_at_call 5; refine htk.mono ?_; rintro e w2 ⟨rfl, hb2⟩))
  all_goals
    go_wp2
    go_ret
    exact ⟨rfl, below_next hw1 (Nat.le_refl _) hb2⟩
end Go.Proofs.YtgdehjdajjhjpaaGreat
