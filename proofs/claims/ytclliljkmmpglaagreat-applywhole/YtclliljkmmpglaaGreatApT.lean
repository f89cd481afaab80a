/-
  Contracts of layer 14's statements' own: the document's example.
-/
import Derived.Test.YtclliljkmmpglaaGreatApQ
namespace Go.Proofs.YtclliljkmmpglaaGreat
open Go.RowKit Go.Maps Num
open scoped Classical
set_option linter.unusedVariables false
set_option maxRecDepth 100000

def Num.exC (client : Int) : Cmd := oneC client 1 0 [⟨#[97]⟩] [] ⟨⟨#[97]⟩, ⟨#[120]⟩, false⟩ 0 0
theorem timeC_small {n : Int} (h : 0 ≤ n ∧ n ≤ 1000) : TimeC n := by
  unfold TimeC
  omega
theorem ex_ok {client : Int} (h : 0 ≤ client ∧ client ≤ 100) : CmdOk (exC client) := one_ok h (timeC_small (by omega)) (timeC_small (by omega)) (timeC_small (by omega)) (timeC_small (by omega)) (by simp) (fun k hk => by
  have e : k = ⟨#[97]⟩ := by simpa using hk
  subst e
  decide) (by simp) (fun r hr => by cases hr) ⟨by decide, by decide, rfl⟩
theorem ex_len (client : Int) : (cmdB (exC client)).length ≤ 19996 := one_len (by simp) (fun k hk => by
  have e : k = ⟨#[97]⟩ := by simpa using hk
  subst e
  decide) (by simp) (fun r hr => by cases hr) ⟨by decide, by decide, rfl⟩
def Num.exM : Mac := ⟨10, 5, ⟨10, 5, [⟨⟨#[97]⟩, 5, ⟨#[120]⟩, false⟩]⟩, [⟨1, 1, 5, 0⟩], keepL (fun _ => none) 1 (1, 0), 1⟩
theorem ex_verd1 : verd (newM 10) 5 (exC 1) 0 = (3, 0) := by
  rw [verd_5 (by show ¬ ((5 : Int) ≤ 0 ∨ _); omega) rfl (by decide)]
  congr 1
theorem ex_next1 : nextM (newM 10) 5 (exC 1) 0 = exM ∧ doneV (newM 10) 5 (exC 1) 0 = ⟨1, 1, 5, 0⟩ := by
  unfold nextM doneV
  rw [ex_verd1]
  refine ⟨?_, rfl⟩
  simp only [if_neg (by decide : ¬ (3 : Int) = 1), if_neg (by decide : ¬ (3 : Int) = 2), if_pos]
  have e : writeS 5 (newM 10).st (exC 1).wrts = ⟨10, 5, [⟨⟨#[97]⟩, 5, ⟨#[120]⟩, false⟩]⟩ := put_one 10 (by decide) ⟨⟨#[97]⟩, 5, ⟨#[120]⟩, false⟩ (by decide) (by decide) rfl
  rw [e]
  rfl
theorem ex_verd2 : verd exM 6 (exC 2) 0 = (3, 13) := by
  rw [verd_5 (by show ¬ ((6 : Int) ≤ 5 ∨ _); omega) (by decide) (by decide)]
  have hl := last_one ⟨⟨#[97]⟩, 5, ⟨#[120]⟩, false⟩
  have e : turnedB exM.st.vs (exC 2).snap (exC 2).keys (exC 2).rngs = true := by
    show (((decide ((0 : Int) < lastT [⟨⟨#[97]⟩, 5, ⟨#[120]⟩, false⟩] ⟨#[97]⟩)) || false) || false) = true
    rw [show lastT [⟨⟨#[97]⟩, 5, ⟨#[120]⟩, false⟩] ⟨#[97]⟩ = 5 from hl]
    rfl
  unfold codeV
  rw [if_neg (by show ¬ (6 : Int) ≤ 0; omega), if_neg (by show ¬ ((0 : Int) ≠ 0 ∧ _); simp), if_neg (by show ¬ (6 : Int) < 0; omega), if_pos e]
theorem ex_done2 : doneV exM 6 (exC 2) 0 = ⟨2, 1, 6, 13⟩ := by
  unfold doneV
  rw [ex_verd2]
  rfl
abbrev Num.exS (n : Nat) : Cs := ⟨some ⟨n, 0, none⟩, 1, none, 0, some ⟨n + 1, 0, none⟩, 1, none, 0⟩
abbrev Num.exK : Obj := .cells #[.string ⟨#[97]⟩] 9
abbrev Num.exW : Obj := .cells #[.string ⟨#[97]⟩, .string ⟨#[120]⟩, .bool false] 72
theorem ex_lies {W : World} {n : Nat} (client : Int) (h1 : W.heap[n]? = some exK) (h2 : W.heap[n + 1]? = some exW) : LiesC W W.heap.size (exS n) (exC client) :=
  ⟨lies_oneS h1 (Array.getElem?_eq_some_iff.1 h1).1, lies_noneG, lies_oneW (x := ⟨⟨#[97]⟩, ⟨#[120]⟩, false⟩) h2 (Array.getElem?_eq_some_iff.1 h2).1, lies_noneG⟩
theorem Num.HoldM.far {B : Nat} {w w' : World} {g gs cap b : Nat} {m : Mac} {ao : Option Addr} {lv : Value} {cs : Array Value} {t : TypeId} (h : HoldM B w g m gs ao cap lv) (hb : w.heap[b]? = some (.cells cs t (0, 0))) (ht : ¬ SK (.cells cs t (0, 0)) ∧ ¬ AK (.cells cs t (0, 0))) (hg : w.grownBy w' (some b)) : HoldM B w' g m gs ao cap lv :=
  h.kept fun i o _ e ho => grown_keep hg e (by
    intro e2
    cases e2
    rw [hb] at e
    cases e
    rcases ho with ho | ho
    · exact ht.1 ho
    · exact ht.2 ho)
theorem cmd_far (cs : Array Value) : ¬ SK (.cells cs 41 (0, 0)) ∧ ¬ AK (.cells cs 41 (0, 0)) := ⟨by
    intro h
    rcases h with h | h | h | h <;> exact absurd h (by decide), by
    intro h
    rcases h with h | h <;> exact absurd h (by decide)⟩
set_option maxRecDepth 100000 in
set_option maxHeartbeats 4000000 in
theorem awake14 (w : World) : Calls Tryz.prog 10 #[] w fun e w' => e = .returned (.bool true) ∧ Below w.heap.size w w' := by
  have hnew := anew_yes 10 (by decide) (by decide) w
  have hdo1 : ∀ W g gs, HoldM w.heap.size W g (newM 10) gs none 0 (.map none) → Calls Tryz.prog 15 #[.pointer (some ⟨g, 0, none⟩), enV 5 (bytesC (exC 1))] W fun e w' => e = .returned (.agg #[.int .i64 1, .int .i64 1, .int .i64 5, .int .i64 0]) ∧ (∃ ao' cap' lv', HoldM w.heap.size w' g exM gs ao' cap' lv') ∧ TurnA w.heap.size none W w' := fun W g gs h => by
    have := do_any w.heap.size g gs 0 (newM 10) none (.map none) 5 (bytesC (exC 1)) (exC 1) 0 (one_get (ex_ok (by omega)) (one_in _ _ _ _ _ _ _ _) (ex_len 1)) (by simp [newM]) (by simp [newM]) W h
    rw [ex_next1.1, ex_next1.2] at this
    refine this.mono ?_
    rintro e w' ⟨h1, ⟨ao', cap', lv', h2, _⟩, h3⟩
    exact ⟨h1, ⟨ao', cap', lv', h2⟩, h3⟩
  have hdo2 : ∀ W g gs cap ao lv, HoldM w.heap.size W g exM gs ao cap lv → Calls Tryz.prog 15 #[.pointer (some ⟨g, 0, none⟩), enV 6 (bytesC (exC 2))] W fun e w' => e = .returned (.agg #[.int .i64 2, .int .i64 1, .int .i64 6, .int .i64 13]) ∧ TurnA w.heap.size (Value.slice ao 1 cap).ownBlock W w' := fun W g gs cap ao lv h => by
    have := do_any w.heap.size g gs cap exM ao lv 6 (bytesC (exC 2)) (exC 2) 0 (one_get (ex_ok (by omega)) (one_in _ _ _ _ _ _ _ _) (ex_len 2)) (by simp [exM]) (by simp [exM]) W h
    rw [ex_done2] at this
    refine this.mono ?_
    rintro e w' ⟨h1, _, h3⟩
    exact ⟨h1, h3⟩
  have hent : ∀ W n (client : Int), (0 ≤ client ∧ client ≤ 100) → W.heap[n]? = some exK → W.heap[n + 1]? = some exW → ∀ t : Int, Calls Tryz.prog 28 #[.int .i64 t, cmV (exS n) (exC client)] W fun e w' => e = .returned (enV t (bytesC (exC client))) ∧ Below W.heap.size W w' := fun W n client hc h1 h2 t => entry_any t (exS n) (exC client) (ex_ok hc) (one_in _ _ _ _ _ _ _ _) (ex_len client) W (ex_lies client h1 h2)
  go_enter Tryz.func10, Tryz.ntmps10
  go_wp2_with (first
    | (go_at_call 11; refine hnew.mono ?_; rintro e w1 ⟨g, gs, rfl, hM1, hb1⟩
       have a0 : (((w1.alloc exK).alloc exW).alloc (cmCells (exS w1.heap.size) (exC 1))).heap[w1.heap.size]? = some exK := alloc_box _ (alloc_box _ (heap_new w1 _))
       have a1 : (((w1.alloc exK).alloc exW).alloc (cmCells (exS w1.heap.size) (exC 1))).heap[w1.heap.size + 1]? = some exW := alloc_box _ (heap_newB _ _ _ (by simp))
       have a2 : (((w1.alloc exK).alloc exW).alloc (cmCells (exS w1.heap.size) (exC 1))).heap[w1.heap.size + 1 + 1]? = some (cmCells (exS w1.heap.size) (exC 1)) := heap_newB _ _ _ (by simp)
       have hbA : Below w1.heap.size w1 (((w1.alloc exK).alloc exW).alloc (cmCells (exS w1.heap.size) (exC 1))) := (((Below.refl _ w1).alloc (Nat.le_refl _) _).alloc (by simp) _).alloc (by simp; omega) _
       have HA0 : Hid _ := a0
       have HA1 : Hid _ := a1
       have HA2 : Hid _ := a2
       have HBA : Hid _ := hbA
       clear a0 a1 a2 hbA hnew)
    | (go_at_call 13; refine (num_any14 _ _).mono ?_; rintro e wn ⟨rfl, hq⟩; have hq2 := hq.symm; clear hq; subst hq2)
    | (go_at_call 28; refine (hent _ w1.heap.size 1 (by omega) HA0.out HA1.out 5).mono ?_; rintro e w2 ⟨rfl, hb2⟩; have HB2 : Hid _ := hb2; clear hb2)
    | (go_at_call 15; refine (hdo1 w2 g gs ((hM1.below HBA.out).below HB2.out)).mono ?_; rintro e w3 ⟨rfl, ⟨ao3, cap3, lv3, hM3⟩, hT3⟩
       have HM3 : Hid _ := hM3
       have HT3 : Hid _ := hT3
       have HB3 : Hid (Below w.heap.size w w3) := (below_next (below_next hb1 (Nat.le_refl _) HBA.out) (Nat.le_refl _) HB2.out).trans hT3.below
       have b0 := hT3.keep _ _ (below_box HB2.out HA0.out) ⟨by decide, by decide, by decide, by decide⟩
       have b1 := hT3.keep _ _ (below_box HB2.out HA1.out) ⟨by decide, by decide, by decide, by decide⟩
       have b2 := hT3.keep _ _ (below_box HB2.out HA2.out) ⟨by decide, by decide, by decide, by decide⟩
       have cl := box_cell (alloc_box (dnBox ⟨1, 1, 5, 0⟩) b2) 1 _ rfl
       have cf := box_open (alloc_box (dnBox ⟨1, 1, 5, 0⟩) b2) 1
       have hbx := alloc_box (dnBox ⟨1, 1, 5, 0⟩) (set_heap (i := 1) b2 (.int .i64 2))
       obtain ⟨k0, k1, k2, k3, k4, k5, k6, k7, k8, k9, k10, k11, k12⟩ := cm_cells (s := exS w1.heap.size) (c := exC 2) hbx
       have hne0 : w1.heap.size ≠ w1.heap.size + 1 + 1 := by omega
       have hne1 : w1.heap.size + 1 ≠ w1.heap.size + 1 + 1 := by omega
       have HK0 : Hid (((w3.setCell ⟨w1.heap.size + 1 + 1, 1, none⟩ (.int .i64 2)).alloc (dnBox ⟨1, 1, 5, 0⟩)).heap[w1.heap.size]? = some exK) := by
         refine alloc_box _ ?_
         rw [Below.heap_setCell _ _ _ _ hne0]
         exact b0
       have HK1 : Hid (((w3.setCell ⟨w1.heap.size + 1 + 1, 1, none⟩ (.int .i64 2)).alloc (dnBox ⟨1, 1, 5, 0⟩)).heap[w1.heap.size + 1]? = some exW) := by
         refine alloc_box _ ?_
         rw [Below.heap_setCell _ _ _ _ hne1]
         exact b1
       have hlt3 := (Array.getElem?_eq_some_iff.1 (hT3.keep _ _ (below_box HB2.out HA2.out) ⟨by decide, by decide, by decide, by decide⟩)).1
       have hs1 := hb1.size
       have HA3 : Hid (((w3.setCell ⟨w1.heap.size + 1 + 1, 1, none⟩ (.int .i64 2)).alloc (dnBox ⟨1, 1, 5, 0⟩)).heap[w3.heap.size]? = some (dnBox ⟨1, 1, 5, 0⟩)) := by
         exact heap_newB _ _ _ (by simp)
       have HM5 : Hid _ := (hM3.far b2 (cmd_far _) (grown_set _ _ 1 (.int .i64 2))).below ((Below.refl _ _).alloc (Nat.le_refl _) (dnBox ⟨1, 1, 5, 0⟩))
       have HB5 : Hid (Below w.heap.size w ((w3.setCell ⟨w1.heap.size + 1 + 1, 1, none⟩ (.int .i64 2)).alloc (dnBox ⟨1, 1, 5, 0⟩))) := (HB3.out.trans (below_grown (grown_set _ _ 1 _) (by omega) HB3.out.size)).alloc (by simpa using HB3.out.size) _
       have HRB : Hid (some w3.heap.size ≠ (Value.slice ao3 1 cap3).ownBlock) := own_old (m := exM) hM3 (Nat.le_refl _)
       clear hM3 hT3 b0 b1 b2 hbx HT3 HM3 hM1 HA0 HA1 HA2 HBA)
    | (go_at_call 28; refine (hent _ w1.heap.size 2 (by omega) HK0.out HK1.out 6).mono ?_; rintro e w6 ⟨rfl, hb6⟩; have HB6 : Hid _ := hb6; clear hb6)
    | (go_at_call 15; refine (hdo2 w6 g gs cap3 ao3 lv3 (HM5.out.below HB6.out)).mono ?_; rintro e w7 ⟨rfl, hT7⟩
       have b7 := alloc_box (dnBox ⟨2, 1, 6, 13⟩) (hT7.row _ _ _ (below_box HB6.out HA3.out) HRB.out)
       have u0 := box_cell b7 0 _ rfl
       have u1 := box_cell b7 1 _ rfl
       have u2 := box_cell b7 2 _ rfl
       have u3 := box_cell b7 3 _ rfl
       have HB7 : Hid (Below w.heap.size w w7) := (below_next HB5.out (Nat.le_refl _) HB6.out).trans hT7.below
       clear hT7 b7 k0 k1 k2 k3 k4 k5 k6 k7 k8 k9 k10 k11 k12))
  go_ret
  exact ⟨rfl, HB7.out.alloc HB7.out.size _⟩
end Go.Proofs.YtclliljkmmpglaaGreat
