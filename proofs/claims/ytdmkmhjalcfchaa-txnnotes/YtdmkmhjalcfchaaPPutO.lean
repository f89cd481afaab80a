/-
  Contracts: pages with a pair more (7.2), of right pages: what is told are rows of the call's own.
-/
import Derived.Test.YtdmkmhjalcfchaaPPut
namespace Go.Proofs.Ytdmkmhjalcfchaa
open Go.RowKit Num
open scoped Classical
set_option linter.unusedVariables false
set_option maxRecDepth 100000

theorem ownPs_mono {B B' : Nat} {w : World} {v : Value} {ps : Pages} (h : OwnPs B w v ps) (hB : B' ≤ B) : OwnPs B' w v ps := OwnS.mono h hB (fun _ _ h => pgV_mono hB h)
set_option maxRecDepth 100000 in
set_option maxHeartbeats 4000000 in
theorem put_oldO (ps : Pages) (hr : RightP ps) (hne : ps ≠ []) (ao : Option Addr) (cap : Nat) (k v : ByteArray) (h1000 : ps.length ≤ 4200) (p : List Pr) (hp : ps[ofP ps k]? = some p) (hh : hasK p k = true) (w : World) (hl : LiesPg w w.heap.size ao ps) :
    Calls Try.prog 66 #[.slice ao ps.length cap, .string k, .string v] w fun e w' => ∃ ao' cap', e = .returned (.slice ao' (putP ps k v).length cap') ∧ OwnPs w.heap.size w' (.slice ao' (putP ps k v).length cap') (putP ps k v) ∧ Below w.heap.size w w' := by
  obtain ⟨hright, hcop, hfind⟩ := put_start ps hr hne ao cap k h1000 p hp w hl
  have hp8 := hr.1 p (List.mem_of_getElem? hp)
  have hol := (List.getElem?_eq_some_iff.1 hp).1
  have f1 : ((ofP ps k : Nat) : Int) < (ps.length : Int) := by omega
  have hpl : ¬ ps = [] := hne
  rw [hh] at hfind
  obtain ⟨x, hx, hxk⟩ := hasK_yes hh
  have hput := put_short (v := v) hp (by rw [ins_has hx hxk, List.length_set]; omega)
  rw [ins_has hx hxk] at hput
  rw [hput]
  clear hput hh hxk hr
  generalize ofP ps k = M at *
  generalize cntK p k = J at *
  have hjl := (List.getElem?_eq_some_iff.1 hx).1
  have f2 : (J : Int) < (p.length : Int) := by omega
  have hdone : ∀ (w3 : World) B gq Cq g C cs, OwnPg B w3 (.slice (some ⟨gq, 0, none⟩) ps.length Cq) cs ps → cs[M]? = some (.slice (some ⟨g, 0, none⟩) p.length C) → w.heap.size ≤ B → B ≤ w3.heap.size → Below w.heap.size w w3 →
      ∃ ao' cap', (Ending.returned (.slice (some ⟨gq, 0, none⟩) ps.length Cq)) = .returned (.slice ao' (ps.set M (p.set J ⟨x.key, v⟩)).length cap') ∧ OwnPs w.heap.size (w3.setCell ⟨g, J * 2 + 1, none⟩ (.string v)) (.slice ao' (ps.set M (p.set J ⟨x.key, v⟩)).length cap') (ps.set M (p.set J ⟨x.key, v⟩)) ∧ Below w.heap.size w (w3.setCell ⟨g, J * 2 + 1, none⟩ (.string v)) := by
    intro w3 B gq Cq g C cs hown hc hB hB3 hb3
    have hpw := hown.pages M _ p hc hp
    have hst := hpw.stored (J * 2 + 1) (.string v)
    rw [prCells_set p J x v hx] at hst
    obtain ⟨h1, h2⟩ := ownPg_place (p' := p.set J ⟨x.key, v⟩) hown hc hp (by rw [List.length_set]; exact hst.1) hst.2 hB3
    obtain ⟨ao', cap', e, _⟩ := ownPg_lies h1
    exact ⟨ao', cap', by rw [e], by rw [← e]; exact ownPs_mono (ownPg_ps h1) hB, hb3.trans (h2.mono hB)⟩
  go_enter Try.func66, Try.ntmps66
  go_wp2_with (first
    | (go_at_call 73; refine hright.mono ?_; rintro e w1 ⟨rfl, hb1⟩)
    | (go_at_call 75; refine (hcop w1 hb1).mono ?_; rintro e w2 ⟨gq, Cq, cs, rfl, hown2, hb2⟩)
    | (go_at_call 74; refine (hfind _ gq Cq cs w2 hown2).mono ?_; rintro e w3 ⟨rfl, hown3, hb3⟩
       obtain ⟨g, C, hc, hpw, k1⟩ := ownPg_page hown3 hp (by omega)
       obtain ⟨k2, k3⟩ := own_pair hpw hx
       have k4 := hpw.frozenAt (J * 2 + 1)))
  go_ret
  have s1 := hb1.size
  have s2 := hb2.size
  have s3 := hb3.size
  exact hdone w3 w1.heap.size gq Cq g C cs hown3 hc s1 (by omega) ((hb1.trans (hb2.mono s1)).trans (hb3.mono (by omega)))
set_option maxRecDepth 100000 in
set_option maxHeartbeats 4000000 in
theorem put_moreO (ps : Pages) (hr : RightP ps) (hne : ps ≠ []) (ao : Option Addr) (cap : Nat) (k v : ByteArray) (h1000 : ps.length ≤ 4200) (p : List Pr) (hp : ps[ofP ps k]? = some p) (hh : hasK p k = false) (w : World) (hl : LiesPg w w.heap.size ao ps) :
    Calls Try.prog 66 #[.slice ao ps.length cap, .string k, .string v] w fun e w' => ∃ ao' cap', e = .returned (.slice ao' (putP ps k v).length cap') ∧ OwnPs w.heap.size w' (.slice ao' (putP ps k v).length cap') (putP ps k v) ∧ Below w.heap.size w w' := by
  obtain ⟨hright, hcop, hfind⟩ := put_start ps hr hne ao cap k h1000 p hp w hl
  have hp8 := hr.1 p (List.mem_of_getElem? hp)
  have hol := (List.getElem?_eq_some_iff.1 hp).1
  have f1 : ((ofP ps k : Nat) : Int) < (ps.length : Int) := by omega
  have hpl : ¬ ps = [] := hne
  rw [hh] at hfind
  have hins := ins_new (v := v) (right_page hr hp) hh
  have hkl := cntK_le p k
  have hil : (insL p k v).length = p.length + 1 := by
    rw [hins]
    simp
    omega
  have hcells : prCells (insL p k v) = prCells (p.take (cntK p k)) ++ [.string k, .string v] ++ prCells (p.drop (cntK p k)) := by
    rw [hins, prCells_append, prCells_append]
    rfl
  have hps : (insL p k v).length ≤ 8 → putP ps k v = ps.set (ofP ps k) (insL p k v) := put_short hp
  have hpg : 8 < (insL p k v).length → putP ps k v = ps.take (ofP ps k) ++ ((insL p k v).take 4 :: (insL p k v).drop 4 :: ps.drop (ofP ps k + 1)) := put_long hp
  clear hh hr hins
  generalize putP ps k v = out at *
  generalize insL p k v = p' at *
  generalize ofP ps k = M at *
  generalize cntK p k = J at *
  have hcall : ∀ (w3 : World) B g C, w3.ownsRow B 52 2 (.slice (some ⟨g, 0, none⟩) p.length C) p.length (prCells p) → Calls Try.prog 76 #[.slice (some ⟨g, 0, none⟩) p.length C, .int .i64 (J : Int), .slice (some ⟨w3.heap.size, 0, none⟩) 1 1] (w3.alloc (.cells #[.string k, .string v] 52)) (InsSays_pr B g p.length C (w3.alloc (.cells #[.string k, .string v] 52)) (prCells p')) := by
    intro w3 B g C hpw
    have hg := (hpw.lt g rfl).2
    rw [hcells]
    exact ins_pr B g C p.length J w3.heap.size (prCells (p.take J)) (prCells (p.drop J)) [.string k, .string v] (by rw [prCells_len, List.length_take]; omega) (by rw [prCells_len, List.length_drop]) rfl (prCells_one _) (prCells_one _) (one2 ⟨k, v⟩) hkl (by omega) _ (by omega) (by rw [← prCells_split]; exact hpw.alloc _) (heap_new w3 _)
  have hturn : ∀ (w3 w4 : World) B gq Cq g C cs ao4 cap4, OwnPg B w3 (.slice (some ⟨gq, 0, none⟩) ps.length Cq) cs ps → cs[M]? = some (.slice (some ⟨g, 0, none⟩) p.length C) → w4.ownsRow B 52 2 (.slice ao4 (p.length + 1) cap4) (p.length + 1) (prCells p') → (w3.alloc (.cells #[.string k, .string v] 52)).grownBy w4 (some g) → Near (w3.alloc (.cells #[.string k, .string v] 52)) (.slice (some ⟨g, 0, none⟩) p.length C) (.slice ao4 (p.length + 1) cap4) →
      w4.cell? ⟨gq, M, none⟩ = some (.slice (some ⟨g, 0, none⟩) p.length C) ∧ w4.frozen? ⟨gq, M, none⟩ = false ∧
      OwnPg B (w4.setCell ⟨gq, M, none⟩ (.slice ao4 (p.length + 1) cap4)) (.slice (some ⟨gq, 0, none⟩) ps.length Cq) (cs.set M (.slice ao4 (p.length + 1) cap4)) (ps.set M p') ∧ Below B w3 (w4.setCell ⟨gq, M, none⟩ (.slice ao4 (p.length + 1) cap4)) ∧ (w4.setCell ⟨gq, M, none⟩ (.slice ao4 (p.length + 1) cap4)).cell? ⟨gq, M, none⟩ = some (.slice ao4 (p.length + 1) cap4) := by
    intro w3 w4 B gq Cq g C cs ao4 cap4 hown hc h4 hg4 hn4
    have hB3 : B ≤ w3.heap.size := by have := hown.row.lt gq rfl; omega
    have hownA := ownPg_below hown ((Below.refl _ w3).alloc (Nat.le_refl _) (.cells #[.string k, .string v] 52))
    have hpw := hownA.pages M _ p hc hp
    have hr4 := hownA.row.kept hg4 (ne_or (own_unlike hownA.row hpw (by decide)))
    obtain ⟨h1, h2⟩ := ownPg_turn (w1 := w4) (p' := p') hownA hc hp (by rw [hil]; exact h4) hg4 hn4
    have hlc := hown.len
    refine ⟨row_cell hr4 hc, hr4.frozenAt M, h1, ((Below.refl B w3).alloc hB3 _).trans h2, ?_⟩
    have hlen : (ps.set M p').length = ps.length := by simp
    have hrow := h1.row
    rw [hlen] at hrow
    exact row_cell hrow (List.getElem?_set_self (by omega))
  have hpart : ∀ (w5 : World) B gq Cq cs, OwnPg B w5 (.slice (some ⟨gq, 0, none⟩) ps.length Cq) cs (ps.set M p') → B ≤ w5.heap.size → 8 < p.length + 1 → Calls Try.prog 77 #[.slice (some ⟨gq, 0, none⟩) ps.length Cq, .int .i64 (M : Int)] w5 fun e w' => ∃ ao' cap', e = .returned (.slice ao' out.length cap') ∧ OwnPs B w' (.slice ao' out.length cap') out ∧ Below B w5 w' := by
    intro w5 B gq Cq cs hown hB h8
    have hlen : (ps.set M p').length = ps.length := by simp
    rw [← hlen] at hown
    have h := parted_any B gq Cq M cs (ps.set M p') p' (List.getElem?_set_self hol) (by omega) (by omega) w5 hB hown
    rw [hlen] at h
    refine h.mono ?_
    rintro e w' ⟨ao', cap', rfl, ho, hb⟩
    rw [List.take_set_of_le (Nat.le_refl _), List.drop_set_of_lt (by omega), ← hpg (by omega)] at ho
    obtain ⟨ao2, cap2, e, _⟩ := ownPs_lies ho
    exact ⟨ao2, cap2, by rw [e], by rw [← e]; exact ho, hb⟩
  clear hcells
  by_cases h8 : (8 : Int) < (p.length : Int) + 1
  all_goals
    go_enter Try.func66, Try.ntmps66
    go_wp2_with (first
      | (go_at_call 73; refine hright.mono ?_; rintro e w1 ⟨rfl, hb1⟩)
      | (go_at_call 75; refine (hcop w1 hb1).mono ?_; rintro e w2 ⟨gq, Cq, cs, rfl, hown2, hb2⟩)
      | (go_at_call 74; refine (hfind _ gq Cq cs w2 hown2).mono ?_; rintro e w3 ⟨rfl, hown3, hb3⟩
         obtain ⟨g, C, hc, hpw, k1⟩ := ownPg_page hown3 hp (by omega))
      | (go_at_call 76; refine (hcall w3 _ g C hpw).mono ?_; rintro e w4 ⟨ao4, cap4, rfl, ho4, hg4, hn4⟩
         obtain ⟨k2, k3, hown5, hb5, k4⟩ := hturn w3 w4 _ gq Cq g C cs ao4 cap4 hown3 hc ho4 hg4 hn4)
      | (go_at_call 77; refine (hpart _ _ gq Cq _ hown5 (by have := hb1.size; have := hb2.size; have := hb3.size; have := hb5.size; omega) (by omega)).mono ?_; rintro e w6 ⟨ao6, cap6, rfl, hl6, hb6⟩))
    go_ret
    have s1 := hb1.size
    have s2 := hb2.size
    have s3 := hb3.size
    have hbb := ((hb1.trans (hb2.mono s1)).trans (hb3.mono (by omega))).trans (hb5.mono s1)
    first
      | exact ⟨ao6, cap6, rfl, ownPs_mono hl6 s1, hbb.trans (hb6.mono s1)⟩
      | (rw [hps (by omega)]
         obtain ⟨ao', cap', e, _⟩ := ownPg_lies hown5
         exact ⟨ao', cap', by rw [← e]; rfl, by rw [← e]; exact ownPs_mono (ownPg_ps hown5) s1, hbb⟩)
/-- One page of one pair, just laid. -/
theorem own_one_page (w : World) (b : Nat) (hb : w.heap.size = b) (k v : ByteArray) : OwnPs w.heap.size ((w.alloc (.cells #[.string k, .string v] 52)).alloc (.cells #[.slice (some ⟨b, 0, none⟩) 1 1] 22)) (.slice (some ⟨b + 1, 0, none⟩) 1 1) [[⟨k, v⟩]] := by
  subst hb
  have h1 := alloc_box (.cells #[.slice (some ⟨w.heap.size, 0, none⟩) 1 1] 22) (heap_new w (.cells #[.string k, .string v] 52))
  have h2 := heap_newB (w.alloc (.cells #[.string k, .string v] 52)) (.cells #[.slice (some ⟨w.heap.size, 0, none⟩) 1 1] 22) (w.heap.size + 1) (by simp)
  refine ownPs_mk (cs := [.slice (some ⟨w.heap.size, 0, none⟩) 1 1]) rfl ?_ (pagesV_one ?_)
  · exact row_shut (q := [.slice (some ⟨w.heap.size, 0, none⟩) 1 1]) (Z := []) rfl h2 (by omega) (by unfold maxLen; omega) (Nat.le_refl _) rfl rfl
  · exact row_shut (q := [.string k, .string v]) (Z := []) rfl h1 (Nat.le_refl _) (by unfold maxLen; omega) (Nat.le_refl _) rfl rfl
set_option maxRecDepth 100000 in
set_option maxHeartbeats 1000000 in
theorem put_own (ps : Pages) (hr : RightP ps) (ao : Option Addr) (cap : Nat) (k v : ByteArray) (h900 : ps.length ≤ 4200) (w : World) (hl : LiesPg w w.heap.size ao ps) :
    Calls Try.prog 66 #[.slice ao ps.length cap, .string k, .string v] w fun e w' => ∃ ao' cap', e = .returned (.slice ao' (putP ps k v).length cap') ∧ OwnPs w.heap.size w' (.slice ao' (putP ps k v).length cap') (putP ps k v) ∧ Below w.heap.size w w' := by
  by_cases hne : ps = []
  · subst hne
    have hright := right_any [] ao cap (by simp) (by simp) w hl
    rw [tru_yes hr] at hright
    rw [show putP [] k v = [[⟨k, v⟩]] from rfl]
    clear hr
    go_enter Try.func66, Try.ntmps66
    go_wp2_with (first
      | (go_at_call 73; refine hright.mono ?_; rintro e w1 ⟨rfl, hb1⟩))
    go_ret
    exact ⟨_, 1, rfl, ownPs_mono (own_one_page w1 _ rfl k v) hb1.size, (hb1.alloc hb1.size _).alloc (by have := hb1.size; simp; omega) _⟩
  · have hof := of_lt k hne
    have hp : ps[ofP ps k]? = some (ps[ofP ps k]'hof) := List.getElem?_eq_getElem hof
    cases hh : hasK (ps[ofP ps k]'hof) k with
    | true => exact put_oldO ps hr hne ao cap k v h900 _ hp hh w hl
    | false => exact put_moreO ps hr hne ao cap k v h900 _ hp hh w hl
end Go.Proofs.Ytdmkmhjalcfchaa
