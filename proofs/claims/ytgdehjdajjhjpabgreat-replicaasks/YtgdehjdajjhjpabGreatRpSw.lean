/-
  Contracts of the document's own replica: Take: who asks is told.
-/
import Derived.Test.YtgdehjdajjhjpabGreatRpSt
import Derived.Deep.CutRange
import Derived.Deep.RegionHeldLaw
import Derived.BigQuiet
import Derived.WalkSmall
import Derived.Deep.RegionWith
namespace Go.Proofs.YtgdehjdajjhjpabGreat
open Go.RowKit Num
open scoped Classical
set_option linter.unusedVariables false
set_option maxRecDepth 100000
theorem addr_zeroS (a : Addr) : a.add 0 = a := by simp [Addr.add]
theorem add_addS (a : Addr) (x y : Nat) : (a.add x).add y = a.add (x + y) := by
  by_cases hy : y = 0
  · subst hy
    exact addr_zeroS _
  · rw [add_off a x y (by omega)]
    unfold Addr.add
    rw [if_neg hy]
/-- What lies from a place of a list on. -/
theorem lies_subS {α : Type} {At : World → Addr → α → Prop} {sz : Nat} {w : World} {B : Nat} {a : Addr} {l : List α} (h : LiesG At sz w B (some a) l) (i : Nat) : LiesG At sz w B (some (a.add (i * sz))) (l.drop i) := by
  intro j x hx
  rw [List.getElem?_drop] at hx
  obtain ⟨a', e, hb, hA⟩ := h (i + j) x hx
  cases e
  refine ⟨_, rfl, by rw [Addr.block_add]; exact hb, ?_⟩
  rw [add_addS, ← Nat.add_mul]
  exact hA
set_option maxRecDepth 100000 in
set_option maxHeartbeats 4000000 in
theorem rask_y (r : Rep) (s : Sl) (m : Msg) (bo : Option Addr) (c : Nat) (hsm : SmallR r) (hyes : May r) (hok : MsgD r m) (hk : m.a0 = 7) (h1 : m.a3 = r.view) (h2 : r.how = 0) (h3 : m.a4 ≤ (r.log.length : Int)) (h4 : 0 ≤ m.a4) (w : World) (hl : LiesR w w.heap.size s r) (hm : LiesE w w.heap.size bo m.log) :
    Calls Tryz.prog 17 #[repV r s, msV m bo c] w fun x w' => ∃ s' xo xc, x = .returned (.tuple #[repV r s', .slice xo (oneM r (msg 8 m.a4 r.commit 0 (r.log.drop m.a4.toNat)) m.a1).length xc, .int .i64 0]) ∧ LiesR w' w'.heap.size s' r ∧ LiesM w' w'.heap.size xo (oneM r (msg 8 m.a4 r.commit 0 (r.log.drop m.a4.toNat)) m.a1) ∧ Below w.heap.size w w' := by
  have hB : Below w.heap.size w (((w.alloc (repO r (.slice s.lo r.log.length s.lc) (.slice s.ao r.acked.length s.ac) (.slice s.vo r.votes.length s.vc) (.slice s.wo r.voters.length s.wc) (.slice s.bo r.best.length s.bc) 25)).alloc (.cells #[.int .i64 m.a0, .int .i64 m.a1, .int .i64 m.a2, .int .i64 m.a3, .int .i64 m.a4, .int .i64 m.a5, .int .i64 m.a6, .slice bo m.log.length c] 27)).alloc (repO0 25)) := (((Below.refl _ w).alloc (Nat.le_refl _) _).alloc (by simp) _).alloc (by simp; omega) _
  have hsz : (((w.alloc (repO r (.slice s.lo r.log.length s.lc) (.slice s.ao r.acked.length s.ac) (.slice s.vo r.votes.length s.vc) (.slice s.wo r.voters.length s.wc) (.slice s.bo r.best.length s.bc) 25)).alloc (.cells #[.int .i64 m.a0, .int .i64 m.a1, .int .i64 m.a2, .int .i64 m.a3, .int .i64 m.a4, .int .i64 m.a5, .int .i64 m.a6, .slice bo m.log.length c] 27)).alloc (repO0 25)).heap.size = w.heap.size + 3 := by simp
  have bx0 := ((box_rep w r (.slice s.lo r.log.length s.lc) (.slice s.ao r.acked.length s.ac) (.slice s.vo r.votes.length s.vc) (.slice s.wo r.voters.length s.wc) (.slice s.bo r.best.length s.bc) undef 25 w.heap.size rfl).alloc (.cells #[.int .i64 m.a0, .int .i64 m.a1, .int .i64 m.a2, .int .i64 m.a3, .int .i64 m.a4, .int .i64 m.a5, .int .i64 m.a6, .slice bo m.log.length c] 27)).alloc (repO0 25)
  have hm0 : (((w.alloc (repO r (.slice s.lo r.log.length s.lc) (.slice s.ao r.acked.length s.ac) (.slice s.vo r.votes.length s.vc) (.slice s.wo r.voters.length s.wc) (.slice s.bo r.best.length s.bc) 25)).alloc (.cells #[.int .i64 m.a0, .int .i64 m.a1, .int .i64 m.a2, .int .i64 m.a3, .int .i64 m.a4, .int .i64 m.a5, .int .i64 m.a6, .slice bo m.log.length c] 27)).alloc (repO0 25)).heap[w.heap.size + 1]? = some (.cells #[.int .i64 m.a0, .int .i64 m.a1, .int .i64 m.a2, .int .i64 m.a3, .int .i64 m.a4, .int .i64 m.a5, .int .i64 m.a6, .slice bo m.log.length c] 27 (0, 0)) := ((Below.refl _ ((w.alloc (repO r (.slice s.lo r.log.length s.lc) (.slice s.ao r.acked.length s.ac) (.slice s.vo r.votes.length s.vc) (.slice s.wo r.voters.length s.wc) (.slice s.bo r.best.length s.bc) 25)).alloc (.cells #[.int .i64 m.a0, .int .i64 m.a1, .int .i64 m.a2, .int .i64 m.a3, .int .i64 m.a4, .int .i64 m.a5, .int .i64 m.a6, .slice bo m.log.length c] 27))).alloc (Nat.le_refl _) _).block (w.heap.size + 1) (by simp) |>.trans (heap_newB _ _ _ (by simp))
  have by0 := box_rep0 ((w.alloc (repO r (.slice s.lo r.log.length s.lc) (.slice s.ao r.acked.length s.ac) (.slice s.vo r.votes.length s.vc) (.slice s.wo r.voters.length s.wc) (.slice s.bo r.best.length s.bc) 25)).alloc (.cells #[.int .i64 m.a0, .int .i64 m.a1, .int .i64 m.a2, .int .i64 m.a3, .int .i64 m.a4, .int .i64 m.a5, .int .i64 m.a6, .slice bo m.log.length c] 27)) undef 25 (w.heap.size + 2) (by simp)
  have hmay := rmay_any r s (small_m0 hsm) (((w.alloc (repO r (.slice s.lo r.log.length s.lc) (.slice s.ao r.acked.length s.ac) (.slice s.vo r.votes.length s.vc) (.slice s.wo r.voters.length s.wc) (.slice s.bo r.best.length s.bc) 25)).alloc (.cells #[.int .i64 m.a0, .int .i64 m.a1, .int .i64 m.a2, .int .i64 m.a3, .int .i64 m.a4, .int .i64 m.a5, .int .i64 m.a6, .slice bo m.log.length c] 27)).alloc (repO0 25)) (liesR_next hl hB hB.size)
  rw [tru_yes hyes] at hmay
  have HY : Hid (May r) := hyes
  have HOK : Hid (MsgD r m) := hok
  clear hok hyes
  have f4 : (m.a0 == 4) = false := by simp [hk]
  have d4 : decide (m.a0 = 4) = false := by simp [hk]
  have f5 : (m.a0 == 5) = false := by simp [hk]
  have d5 : decide (m.a0 = 5) = false := by simp [hk]
  have f6 : (m.a0 == 6) = false := by simp [hk]
  have d6 : decide (m.a0 = 6) = false := by simp [hk]
  have f1 : (m.a0 == 1) = false := by simp [hk]
  have d1 : decide (m.a0 = 1) = false := by simp [hk]
  have f3 : (m.a0 == 3) = false := by simp [hk]
  have d3 : decide (m.a0 = 3) = false := by simp [hk]
  have f2 : (m.a0 == 2) = false := by simp [hk]
  have d2 : decide (m.a0 = 2) = false := by simp [hk]
  have f7 : (m.a0 == 7) = true := by simp [hk]
  have d7 : decide (m.a0 = 7) = true := by simp [hk]
  clear hk
  have u1 : (m.a3 == r.view) = true := by simp [h1]
  have u2 : decide (m.a3 = r.view) = true := decide_eq_true h1
  have u3 : (r.how == 0) = true := by simp [h2]
  have u4 : decide (r.how = 0) = true := decide_eq_true h2
  have u5 : decide (m.a4 ≤ (r.log.length : Int)) = true := decide_eq_true h3
  clear h1 h2
  have HA4 : Hid (m.a4 ≤ (r.log.length : Int) ∧ 0 ≤ m.a4 ∧ r.log.length ≤ 1000) := ⟨h3, h4, HY.out.log.1⟩
  clear h3 h4
  go_enter Tryz.func17, Tryz.ntmps17
  go_wp2_with (first
    | (go_at_call 21; refine hmay.mono ?_; rintro e w1 ⟨rfl, hb1⟩
       have bx1 := bx0.below hb1
       have by1 := by0.below hb1
       have hm1 := (hb1.block (w.heap.size + 1) (by rw [hsz]; omega)).trans hm0
       have hw1 := hB.trans (hb1.mono hB.size)
       have hs1 := hb1.size
       rw [hsz] at hs1
       obtain ⟨a0, a1, a2, a3, a4, a5, a6, a7, a8, a9, a10, a11, a12⟩ := bx1.rep (by omega)
       obtain ⟨c0, c1, c2, c3, c4, c5, c6, c7⟩ := msg_cellsS hm1
       have hmes := rmessage_any r s m bo c w1 (liesE_next hm hw1 hw1.size)
       rw [tru_yes HOK.out] at hmes
       clear hmay bx0 by0 hm0)
    | (go_at_call 27; refine hmes.mono ?_; rintro e w2 ⟨rfl, hb2⟩
       have bx2 := bx1.below hb2
       have by2 := by1.below hb2
       have hm2 := (hb2.block (w.heap.size + 1) (by omega)).trans hm1
       have hw2 := below_next hw1 (Nat.le_refl _) hb2
       have hs2 := Nat.le_trans hs1 hb2.size
       clear a0 a1 a2 a3 a4 a5 a6 a7 a8 a9 a10 a11 a12 c0 c1 c2 c3 c4 c5 c6 c7
       obtain ⟨a0, a1, a2, a3, a4, a5, a6, a7, a8, a9, a10, a11, a12⟩ := bx2.rep (by omega)
       have hcop := rcopy_any r s hsm w2 (liesR_next hl hw2 hw2.size)
       clear hmes bx1 by1 hm1 hw1 hs1)
    | (go_at_call 15; refine hcop.mono ?_; rintro e w3 ⟨s2, rfl, hR2, hb3⟩
       have hT4 := turnR_new (B := w.heap.size + 3) HY.out hs2 hb3 hR2
       have hbA := (Below.refl _ w3).alloc (Nat.le_refl _) (repO r (.slice s2.lo r.log.length s2.lc) (.slice s2.ao r.acked.length s2.ac) (.slice s2.vo r.votes.length s2.vc) (.slice s2.wo r.voters.length s2.wc) (.slice s2.bo r.best.length s2.bc) 25)
       have by4 := (by2.below hb3).below hbA
       have hm4 := (hbA.block (w.heap.size + 1) (by have := hb3.size; omega)).trans ((hb3.block (w.heap.size + 1) (by omega)).trans hm2)
       have hw4 := below_next (below_next hw2 (Nat.le_refl _) hb3) (Nat.le_refl _) hbA
       obtain ⟨c0, c1, c2, c3, c4, c5, c6, c7⟩ := msg_cellsS hm4
       obtain ⟨s3, ⟨e0, e1, e2, e3, e4, e5, e6, e7, e8, e9, e10, e11, e12⟩, ez, _, eH⟩ := hT4.cells
       have hbx := eH.box
       skip
       clear hcop hR2 hb3))
  go_wp2_with fail
  clear u1 u2 u3 u4 u5
  have HB : Hid (∀ w5, Below (w3.alloc (repO r (.slice s2.lo r.log.length s2.lc) (.slice s2.ao r.acked.length s2.ac) (.slice s2.vo r.votes.length s2.vc) (.slice s2.wo r.voters.length s2.wc) (.slice s2.bo r.best.length s2.bc) 25)).drew.heap.size (w3.alloc (repO r (.slice s2.lo r.log.length s2.lc) (.slice s2.ao r.acked.length s2.ac) (.slice s2.vo r.votes.length s2.vc) (.slice s2.wo r.voters.length s2.wc) (.slice s2.bo r.best.length s2.bc) 25)).drew w5 → ∃ s5, RowsS (w.heap.size + 3) w5 r s5 ∧ w5.cell? ⟨w3.heap.size, 0, none⟩ = some (.int .i64 r.id) ∧ w5.cell? ⟨w3.heap.size, 1, none⟩ = some (.int .i64 r.n) ∧ w5.cell? ⟨w3.heap.size, 2, none⟩ = some (.int .i64 r.view) ∧ w5.cell? ⟨w3.heap.size, 3, none⟩ = some (.int .i64 r.normal) ∧ w5.cell? ⟨w3.heap.size, 4, none⟩ = some (.int .i64 r.how) ∧ w5.cell? ⟨w3.heap.size, 5, none⟩ = some (.slice s5.lo r.log.length s5.lc) ∧ w5.cell? ⟨w3.heap.size, 6, none⟩ = some (.int .i64 r.commit) ∧ w5.cell? ⟨w3.heap.size, 7, none⟩ = some (.slice s5.ao r.acked.length s5.ac) ∧ w5.cell? ⟨w3.heap.size, 8, none⟩ = some (.slice s5.vo r.votes.length s5.vc) ∧ w5.cell? ⟨w3.heap.size, 9, none⟩ = some (.slice s5.wo r.voters.length s5.wc) ∧ w5.cell? ⟨w3.heap.size, 10, none⟩ = some (.slice s5.bo r.best.length s5.bc) ∧ w5.cell? ⟨w3.heap.size, 11, none⟩ = some (.int .i64 r.bestView) ∧ w5.cell? ⟨w3.heap.size, 12, none⟩ = some (.int .i64 r.bestDone) ∧ BoxF w5 (w.heap.size + 2) 25 13 (repF rep0 (.slice none 0 0) (.slice none 0 0) (.slice none 0 0) (.slice none 0 0) (.slice none 0 0) undef) ∧ Below w.heap.size w w5) := fun w5 hb5 => by
    have hT5 := hT4.drew.below hb5
    obtain ⟨s5, ⟨b0, b1, b2, b3, b4, b5, b6, b7, b8, b9, b10, b11, b12⟩, _, _, hH⟩ := hT5.cells
    exact ⟨s5, hH.rows, b0, b1, b2, b3, b4, b5, b6, b7, b8, b9, b10, b11, b12, (by4.drew).below hb5, below_next hw4.drew (Nat.le_refl _) hb5⟩
  obtain ⟨h3, h4, hll1⟩ := HA4.out
  obtain ⟨lg, hlg⟩ : ∃ lg, r.log.drop m.a4.toNat = lg := ⟨_, rfl⟩
  have hll : lg.length = r.log.length - m.a4.toNat := by rw [← hlg, List.length_drop]
  obtain ⟨o1, ho1⟩ : ∃ o1, o1 = (oneM r (msg 8 m.a4 r.commit 0 (r.log.drop m.a4.toNat)) m.a1) := ⟨_, rfl⟩
  have HO1 : Hid (o1 = (oneM r (msg 8 m.a4 r.commit 0 (r.log.drop m.a4.toNat)) m.a1)) := ho1
  have hlk := ownE_lies eH.rows.log
  have eB := eH.box
  rcases eH.rows.log.2 with ⟨hv0, hn0⟩ | ⟨gl, cap, cur, hv0, _, _, hcap, _⟩
  · rw [hv0] at e5
    have e4 : m.a4 = 0 := by omega
    have hlg0 : lg = [] := List.eq_nil_of_length_eq_zero (by omega)
    have hone : Calls Tryz.prog 33 #[.pointer (some ⟨w3.heap.size, 0, none⟩), .int .i64 m.a1, .agg #[.int .i64 8, .int .i64 0, .int .i64 0, .int .i64 0, .int .i64 0, .int .i64 r.commit, .int .i64 0, .slice none 0 0]] (w3.alloc (repO r (.slice s2.lo r.log.length s2.lc) (.slice s2.ao r.acked.length s2.ac) (.slice s2.vo r.votes.length s2.vc) (.slice s2.wo r.voters.length s2.wc) (.slice s2.bo r.best.length s2.bc) 25)).drew fun e w' => ∃ v, e = .returned v ∧ OwnO (w3.alloc (repO r (.slice s2.lo r.log.length s2.lc) (.slice s2.ao r.acked.length s2.ac) (.slice s2.vo r.votes.length s2.vc) (.slice s2.wo r.voters.length s2.wc) (.slice s2.bo r.best.length s2.bc) 25)).drew.heap.size w' v o1 ∧ Below (w3.alloc (repO r (.slice s2.lo r.log.length s2.lc) (.slice s2.ao r.acked.length s2.ac) (.slice s2.vo r.votes.length s2.vc) (.slice s2.wo r.voters.length s2.wc) (.slice s2.bo r.best.length s2.bc) 25)).drew.heap.size (w3.alloc (repO r (.slice s2.lo r.log.length s2.lc) (.slice s2.ao r.acked.length s2.ac) (.slice s2.vo r.votes.length s2.vc) (.slice s2.wo r.voters.length s2.wc) (.slice s2.bo r.best.length s2.bc) 25)).drew w' := by
      rw [ho1, hlg, hlg0, e4]
      exact rone_low w3.heap.size r (msg 8 0 r.commit 0 []) none 0 m.a1 (w3.alloc (repO r (.slice s2.lo r.log.length s2.lc) (.slice s2.ao r.acked.length s2.ac) (.slice s2.vo r.votes.length s2.vc) (.slice s2.wo r.voters.length s2.wc) (.slice s2.bo r.best.length s2.bc) 25)).drew eB.drew (fun i x hx => by simp at hx) (by simp)
    rw [e4] at c4
    have HS : Hid (∀ w5, Below (w3.alloc (repO r (.slice s2.lo r.log.length s2.lc) (.slice s2.ao r.acked.length s2.ac) (.slice s2.vo r.votes.length s2.vc) (.slice s2.wo r.voters.length s2.wc) (.slice s2.bo r.best.length s2.bc) 25)).drew.heap.size (w3.alloc (repO r (.slice s2.lo r.log.length s2.lc) (.slice s2.ao r.acked.length s2.ac) (.slice s2.vo r.votes.length s2.vc) (.slice s2.wo r.voters.length s2.wc) (.slice s2.bo r.best.length s2.bc) 25)).drew w5 → (fun w' : World => w'.cell? ⟨w.heap.size + 1, 1, none⟩ = some (.int .i64 m.a1) ∧ w'.cell? ⟨w.heap.size + 1, 4, none⟩ = some (.int .i64 0) ∧ w'.cell? ⟨w3.heap.size, 6, none⟩ = some (.int .i64 r.commit) ∧ w'.cell? ⟨w3.heap.size, 5, none⟩ = some (.slice none 0 0)) w5) := fun w5 hb5 => by have hk := fun (p : Addr) (v : Value) (hp : (w3.alloc (repO r (.slice s2.lo r.log.length s2.lc) (.slice s2.ao r.acked.length s2.ac) (.slice s2.vo r.votes.length s2.vc) (.slice s2.wo r.voters.length s2.wc) (.slice s2.bo r.best.length s2.bc) 25)).cell? p = some v) => (World.cell?_of_block (hb5.block p.block (cell_lt hp))).trans hp; exact ⟨hk _ _ c1, hk _ _ c4, hk _ _ e6, hk _ _ e5⟩
    clear hv0 hn0 hlg hll hlk e4 hlg0 h3 h4 ho1 hll1 eH eB hT4 hbx
    go_region_held_law (fun w' : World => w'.cell? ⟨w.heap.size + 1, 1, none⟩ = some (.int .i64 m.a1) ∧ w'.cell? ⟨w.heap.size + 1, 4, none⟩ = some (.int .i64 0) ∧ w'.cell? ⟨w3.heap.size, 6, none⟩ = some (.int .i64 r.commit) ∧ w'.cell? ⟨w3.heap.size, 5, none⟩ = some (.slice none 0 0)) (first | exact ⟨c1, c4, e6, e5⟩ | exact hS1)
      (first
      | (go_at_call 33; refine hone.mono ?_; rintro e w5 ⟨v5, rfl, hO5, hb5⟩; obtain ⟨xo, xc, rfl⟩ := hO5.shape
         have hS1 := HS.out w5 hb5
         obtain ⟨s5, hH5, b0, b1, b2, b3, b4, b5, b6, b7, b8, b9, b10, b11, b12, bz, hwV⟩ := HB.out w5 hb5
         obtain ⟨bG, hSt, hwG⟩ := res_box (show w.heap.size ≤ w.heap.size + 2 by omega) bz hwV r s5
         have hRG := rowsS_lies (hH5.stay hSt (by decide) (by decide))
         obtain ⟨d0, d1, d2, d3, d4, d5, d6, d7, d8, d9, d10, d11, d12⟩ := bz.rep (by omega)
         have dz := bz.unfrozen
         obtain ⟨g0, g1, g2, g3, g4, g5, g6, g7, g8, g9, g10, g11, g12⟩ := bG.rep (by omega)
         simp only [sets] at hRG hwG g0 g1 g2 g3 g4 g5 g6 g7 g8 g9 g10 g11 g12
         have hOG := ownO_liesM (ownO_stay hO5 hSt (by decide) (by decide))
         simp only [sets] at hOG
         clear hSt bG bz hwV hH5 hO5))
    all_goals
      clear hS1
      go_wp2
      rw [HO1.out] at hOG
      refine bodyPost_ret (v := .tuple #[repV r s5, .slice xo o1.length xc, .int .i64 0]) (by simp [results, Tryz.results17, go_sem, g0, g1, g2, g3, g4, g5, g6, g7, g8, g9, g10, g11, g12]) rfl ⟨s5, xo, xc, by rw [HO1.out]; rfl, hRG, hOG, hwG⟩
  · rw [hv0] at e5
    have i2 : r.log.length ≤ cap := by omega
    have hlies : LiesE (w3.alloc (repO r (.slice s2.lo r.log.length s2.lc) (.slice s2.ao r.acked.length s2.ac) (.slice s2.vo r.votes.length s2.vc) (.slice s2.wo r.voters.length s2.wc) (.slice s2.bo r.best.length s2.bc) 25)) (w3.alloc (repO r (.slice s2.lo r.log.length s2.lc) (.slice s2.ao r.acked.length s2.ac) (.slice s2.vo r.votes.length s2.vc) (.slice s2.wo r.voters.length s2.wc) (.slice s2.bo r.best.length s2.bc) 25)).heap.size (some ⟨gl, 0, none⟩) r.log := by
      obtain ⟨lo, lc, e, hl⟩ := hlk
      rw [hv0] at e
      cases e
      exact hl
    have hsub := lies_subS hlies m.a4.toNat
    rw [hlg] at hsub
    by_cases hc : cap = m.a4.toNat
    · have hlg0 : lg = [] := List.eq_nil_of_length_eq_zero (by omega)
      have hone : ∀ c', Calls Tryz.prog 33 #[.pointer (some ⟨w3.heap.size, 0, none⟩), .int .i64 m.a1, .agg #[.int .i64 8, .int .i64 0, .int .i64 0, .int .i64 0, .int .i64 m.a4, .int .i64 r.commit, .int .i64 0, .slice (some ⟨gl, 0, none⟩) 0 c']] (w3.alloc (repO r (.slice s2.lo r.log.length s2.lc) (.slice s2.ao r.acked.length s2.ac) (.slice s2.vo r.votes.length s2.vc) (.slice s2.wo r.voters.length s2.wc) (.slice s2.bo r.best.length s2.bc) 25)).drew fun e w' => ∃ v, e = .returned v ∧ OwnO (w3.alloc (repO r (.slice s2.lo r.log.length s2.lc) (.slice s2.ao r.acked.length s2.ac) (.slice s2.vo r.votes.length s2.vc) (.slice s2.wo r.voters.length s2.wc) (.slice s2.bo r.best.length s2.bc) 25)).drew.heap.size w' v o1 ∧ Below (w3.alloc (repO r (.slice s2.lo r.log.length s2.lc) (.slice s2.ao r.acked.length s2.ac) (.slice s2.vo r.votes.length s2.vc) (.slice s2.wo r.voters.length s2.wc) (.slice s2.bo r.best.length s2.bc) 25)).drew.heap.size (w3.alloc (repO r (.slice s2.lo r.log.length s2.lc) (.slice s2.ao r.acked.length s2.ac) (.slice s2.vo r.votes.length s2.vc) (.slice s2.wo r.voters.length s2.wc) (.slice s2.bo r.best.length s2.bc) 25)).drew w' := by
        intro c'
        rw [ho1, hlg, hlg0]
        exact rone_low w3.heap.size r (msg 8 m.a4 r.commit 0 []) (some ⟨gl, 0, none⟩) c' m.a1 (w3.alloc (repO r (.slice s2.lo r.log.length s2.lc) (.slice s2.ao r.acked.length s2.ac) (.slice s2.vo r.votes.length s2.vc) (.slice s2.wo r.voters.length s2.wc) (.slice s2.bo r.best.length s2.bc) 25)).drew eB.drew (fun i x hx => by simp at hx) (by simp)
      have hl0 : r.log.length = cap := by omega
      have e5q := e5.trans (show some (Value.slice (some ⟨gl, 0, none⟩) r.log.length cap) = some (Value.slice (some ⟨gl, 0, none⟩) m.a4.toNat m.a4.toNat) by rw [hl0, hc])
      clear e5
      have e5 := e5q
      clear e5q
      subst hc
      have i3 : m.a4 ≤ ((m.a4.toNat : Nat) : Int) := by omega
      have i4 : ¬ m.a4 < 0 := by omega
      have HS : Hid (∀ w5, Below (w3.alloc (repO r (.slice s2.lo r.log.length s2.lc) (.slice s2.ao r.acked.length s2.ac) (.slice s2.vo r.votes.length s2.vc) (.slice s2.wo r.voters.length s2.wc) (.slice s2.bo r.best.length s2.bc) 25)).drew.heap.size (w3.alloc (repO r (.slice s2.lo r.log.length s2.lc) (.slice s2.ao r.acked.length s2.ac) (.slice s2.vo r.votes.length s2.vc) (.slice s2.wo r.voters.length s2.wc) (.slice s2.bo r.best.length s2.bc) 25)).drew w5 → (fun w' : World => w'.cell? ⟨w.heap.size + 1, 1, none⟩ = some (.int .i64 m.a1) ∧ w'.cell? ⟨w.heap.size + 1, 4, none⟩ = some (.int .i64 m.a4) ∧ w'.cell? ⟨w3.heap.size, 6, none⟩ = some (.int .i64 r.commit) ∧ w'.cell? ⟨w3.heap.size, 5, none⟩ = some (.slice (some ⟨gl, 0, none⟩) m.a4.toNat m.a4.toNat)) w5) := fun w5 hb5 => by have hk := fun (p : Addr) (v : Value) (hp : (w3.alloc (repO r (.slice s2.lo r.log.length s2.lc) (.slice s2.ao r.acked.length s2.ac) (.slice s2.vo r.votes.length s2.vc) (.slice s2.wo r.voters.length s2.wc) (.slice s2.bo r.best.length s2.bc) 25)).cell? p = some v) => (World.cell?_of_block (hb5.block p.block (cell_lt hp))).trans hp; exact ⟨hk _ _ c1, hk _ _ c4, hk _ _ e6, hk _ _ e5⟩
      clear hv0 hlg hll hlk hlg0 hl0 hlies hsub h3 i2 ho1 hll1 eH eB hT4 hbx
      go_region_held_law (fun w' : World => w'.cell? ⟨w.heap.size + 1, 1, none⟩ = some (.int .i64 m.a1) ∧ w'.cell? ⟨w.heap.size + 1, 4, none⟩ = some (.int .i64 m.a4) ∧ w'.cell? ⟨w3.heap.size, 6, none⟩ = some (.int .i64 r.commit) ∧ w'.cell? ⟨w3.heap.size, 5, none⟩ = some (.slice (some ⟨gl, 0, none⟩) m.a4.toNat m.a4.toNat)) (first | exact ⟨c1, c4, e6, e5⟩ | exact hS1)
        (first
        | (go_at_call 33; refine (hone _).mono ?_; rintro e w5 ⟨v5, rfl, hO5, hb5⟩; obtain ⟨xo, xc, rfl⟩ := hO5.shape
           have hS1 := HS.out w5 hb5
           obtain ⟨s5, hH5, b0, b1, b2, b3, b4, b5, b6, b7, b8, b9, b10, b11, b12, bz, hwV⟩ := HB.out w5 hb5
           obtain ⟨bG, hSt, hwG⟩ := res_box (show w.heap.size ≤ w.heap.size + 2 by omega) bz hwV r s5
           have hRG := rowsS_lies (hH5.stay hSt (by decide) (by decide))
           obtain ⟨d0, d1, d2, d3, d4, d5, d6, d7, d8, d9, d10, d11, d12⟩ := bz.rep (by omega)
           have dz := bz.unfrozen
           obtain ⟨g0, g1, g2, g3, g4, g5, g6, g7, g8, g9, g10, g11, g12⟩ := bG.rep (by omega)
           simp only [sets] at hRG hwG g0 g1 g2 g3 g4 g5 g6 g7 g8 g9 g10 g11 g12
           have hOG := ownO_liesM (ownO_stay hO5 hSt (by decide) (by decide))
           simp only [sets] at hOG
           clear hSt bG bz hwV hH5 hO5))
      all_goals
        clear hS1
        go_wp2
        rw [HO1.out] at hOG
        refine bodyPost_ret (v := .tuple #[repV r s5, .slice xo o1.length xc, .int .i64 0]) (by simp [results, Tryz.results17, go_sem, g0, g1, g2, g3, g4, g5, g6, g7, g8, g9, g10, g11, g12]) rfl ⟨s5, xo, xc, by rw [HO1.out]; rfl, hRG, hOG, hwG⟩
    · have hadr : (⟨gl, 0, none⟩ : Addr).add (m.a4.toNat * 2) = ⟨gl, m.a4.toNat * 2, none⟩ := by rw [Addr.add_lit, Nat.zero_add]
      rw [hadr] at hsub
      have hone : ∀ L : Nat, lg.length = L → Calls Tryz.prog 33 #[.pointer (some ⟨w3.heap.size, 0, none⟩), .int .i64 m.a1, .agg #[.int .i64 8, .int .i64 0, .int .i64 0, .int .i64 0, .int .i64 m.a4, .int .i64 r.commit, .int .i64 0, .slice (some ⟨gl, m.a4.toNat * 2, none⟩) L (cap - m.a4.toNat)]] (w3.alloc (repO r (.slice s2.lo r.log.length s2.lc) (.slice s2.ao r.acked.length s2.ac) (.slice s2.vo r.votes.length s2.vc) (.slice s2.wo r.voters.length s2.wc) (.slice s2.bo r.best.length s2.bc) 25)).drew fun e w' => ∃ v, e = .returned v ∧ OwnO (w3.alloc (repO r (.slice s2.lo r.log.length s2.lc) (.slice s2.ao r.acked.length s2.ac) (.slice s2.vo r.votes.length s2.vc) (.slice s2.wo r.voters.length s2.wc) (.slice s2.bo r.best.length s2.bc) 25)).drew.heap.size w' v o1 ∧ Below (w3.alloc (repO r (.slice s2.lo r.log.length s2.lc) (.slice s2.ao r.acked.length s2.ac) (.slice s2.vo r.votes.length s2.vc) (.slice s2.wo r.voters.length s2.wc) (.slice s2.bo r.best.length s2.bc) 25)).drew.heap.size (w3.alloc (repO r (.slice s2.lo r.log.length s2.lc) (.slice s2.ao r.acked.length s2.ac) (.slice s2.vo r.votes.length s2.vc) (.slice s2.wo r.voters.length s2.wc) (.slice s2.bo r.best.length s2.bc) 25)).drew w' := by
        intro L hL
        subst hL
        rw [ho1, hlg]
        exact rone_low w3.heap.size r (msg 8 m.a4 r.commit 0 lg) (some ⟨gl, m.a4.toNat * 2, none⟩) (cap - m.a4.toNat) m.a1 (w3.alloc (repO r (.slice s2.lo r.log.length s2.lc) (.slice s2.ao r.acked.length s2.ac) (.slice s2.vo r.votes.length s2.vc) (.slice s2.wo r.voters.length s2.wc) (.slice s2.bo r.best.length s2.bc) 25)).drew eB.drew (liesE_next hsub (Below.refl _ _).drew (Nat.le_refl _)) (by show lg.length ≤ 1000; omega)
      have hone2 := hone _ hll
      have i4 : ¬ m.a4 < 0 := by omega
      have i5 : m.a4 ≤ (r.log.length : Int) := h3
      have i6 : m.a4 ≤ (cap : Int) := by omega
      have i7 : ¬ m.a4.toNat = cap := fun e => hc e.symm
      have HS : Hid (∀ w5, Below (w3.alloc (repO r (.slice s2.lo r.log.length s2.lc) (.slice s2.ao r.acked.length s2.ac) (.slice s2.vo r.votes.length s2.vc) (.slice s2.wo r.voters.length s2.wc) (.slice s2.bo r.best.length s2.bc) 25)).drew.heap.size (w3.alloc (repO r (.slice s2.lo r.log.length s2.lc) (.slice s2.ao r.acked.length s2.ac) (.slice s2.vo r.votes.length s2.vc) (.slice s2.wo r.voters.length s2.wc) (.slice s2.bo r.best.length s2.bc) 25)).drew w5 → (fun w' : World => w'.cell? ⟨w.heap.size + 1, 1, none⟩ = some (.int .i64 m.a1) ∧ w'.cell? ⟨w.heap.size + 1, 4, none⟩ = some (.int .i64 m.a4) ∧ w'.cell? ⟨w3.heap.size, 6, none⟩ = some (.int .i64 r.commit) ∧ w'.cell? ⟨w3.heap.size, 5, none⟩ = some (.slice (some ⟨gl, 0, none⟩) r.log.length cap)) w5) := fun w5 hb5 => by have hk := fun (p : Addr) (v : Value) (hp : (w3.alloc (repO r (.slice s2.lo r.log.length s2.lc) (.slice s2.ao r.acked.length s2.ac) (.slice s2.vo r.votes.length s2.vc) (.slice s2.wo r.voters.length s2.wc) (.slice s2.bo r.best.length s2.bc) 25)).cell? p = some v) => (World.cell?_of_block (hb5.block p.block (cell_lt hp))).trans hp; exact ⟨hk _ _ c1, hk _ _ c4, hk _ _ e6, hk _ _ e5⟩
      clear hv0 hlg hll hlk hlies hsub h3 ho1 hll1 eH eB hT4 hbx hone hadr
      go_region_held_law (fun w' : World => w'.cell? ⟨w.heap.size + 1, 1, none⟩ = some (.int .i64 m.a1) ∧ w'.cell? ⟨w.heap.size + 1, 4, none⟩ = some (.int .i64 m.a4) ∧ w'.cell? ⟨w3.heap.size, 6, none⟩ = some (.int .i64 r.commit) ∧ w'.cell? ⟨w3.heap.size, 5, none⟩ = some (.slice (some ⟨gl, 0, none⟩) r.log.length cap)) (first | exact ⟨c1, c4, e6, e5⟩ | exact hS1)
        (first
        | (go_at_call 33; refine hone2.mono ?_; rintro e w5 ⟨v5, rfl, hO5, hb5⟩; obtain ⟨xo, xc, rfl⟩ := hO5.shape
           have hS1 := HS.out w5 hb5
           obtain ⟨s5, hH5, b0, b1, b2, b3, b4, b5, b6, b7, b8, b9, b10, b11, b12, bz, hwV⟩ := HB.out w5 hb5
           obtain ⟨bG, hSt, hwG⟩ := res_box (show w.heap.size ≤ w.heap.size + 2 by omega) bz hwV r s5
           have hRG := rowsS_lies (hH5.stay hSt (by decide) (by decide))
           obtain ⟨d0, d1, d2, d3, d4, d5, d6, d7, d8, d9, d10, d11, d12⟩ := bz.rep (by omega)
           have dz := bz.unfrozen
           obtain ⟨g0, g1, g2, g3, g4, g5, g6, g7, g8, g9, g10, g11, g12⟩ := bG.rep (by omega)
           simp only [sets] at hRG hwG g0 g1 g2 g3 g4 g5 g6 g7 g8 g9 g10 g11 g12
           have hOG := ownO_liesM (ownO_stay hO5 hSt (by decide) (by decide))
           simp only [sets] at hOG
           clear hSt bG bz hwV hH5 hO5))
      all_goals
        clear hS1
        go_wp2
        rw [HO1.out] at hOG
        refine bodyPost_ret (v := .tuple #[repV r s5, .slice xo o1.length xc, .int .i64 0]) (by simp [results, Tryz.results17, go_sem, g0, g1, g2, g3, g4, g5, g6, g7, g8, g9, g10, g11, g12]) rfl ⟨s5, xo, xc, by rw [HO1.out]; rfl, hRG, hOG, hwG⟩
end Go.Proofs.YtgdehjdajjhjpabGreat
