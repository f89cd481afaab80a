/-
  Contracts: the document's own: pages with a pair more (7.2).
-/
import Derived.Test.YtdllfplgenpalaaPRefB
import Derived.Test.YtdllfplgenpalaaPCop
namespace Go.Proofs.Ytdllfplgenpalaa
open Go.RowKit Num
open scoped Classical
set_option linter.unusedVariables false

/-- 'append' of one page to a row of pages of the call's own. -/
theorem wpList_appPg {ops : Array Oper} {rest : List Oper} {o : Oper} {a : Act} {Q : Exit → Act → World → Prop} (W : World) (hgd : o.guard = none) (s x : Operand)
    (ho : o.op = .call { callee := .builtin .append, args := #[s, x], argTypes := #[22, 22] }) (base : Nat) (v : Value) (acc : Pages) (hs : a.eval s = v) (hown : OwnPs base W v acc)
    (b : Nat) (hx : a.eval x = .slice (some ⟨b, 0, none⟩) 1 1) (c : Value) (p : List Pr) (hc : W.ownsRow base 41 2 c p.length (prCells p)) (hcell : W.cell? ⟨b, 0, none⟩ = some c) (hn : acc.length ≤ 1000) (hbase : base ≤ W.heap.size)
    (h : ∀ v' w', OwnPs base w' v' (acc ++ [p]) → Below base W w' → Stay (fun _ => False) 34 W w' → wpList Try.prog ops Q rest (a.put o.dst v') w') : wpList Try.prog ops Q (o :: rest) a W := by
  obtain ⟨css, hcl, hcc, hrow, hV⟩ := hown
  refine wpList_appX W hgd s x 22 ho 34 1 24 Try.underlying22 Try.infoPg base v acc.length css.flatten hs hrow ⟨b, 0, none⟩ 1 [c] hx rfl (by intro u hu; rw [List.mem_singleton.1 hu]; exact own_one hc) (by
    intro j u hj
    cases j with
    | zero =>
      simp at hj
      subst hj
      rw [addr_zero]
      exact hcell
    | succ j => simp at hj) ⟨hn, by decide, by decide, rfl⟩ hbase ?_
  intro v' w' hrow' hb hst
  refine h v' w' (own_snoc hcl hcc rfl (by intro u hu; rw [List.mem_singleton.1 hu]; exact own_one hc) hrow' (fun i cs x hi hx => pgV_hold (HoldX.of_stay hst) (hV i cs x hi hx)) ⟨c, rfl, own_stay hc hst (by decide) (fun _ h => h)⟩) hb hst
theorem lies_take {w : World} {B : Nat} {ao : Option Addr} {p : List Pr} (h : LiesPr w B ao p) (k : Nat) : LiesPr w B ao (p.take k) := h.take k
set_option maxRecDepth 100000 in
set_option maxHeartbeats 4000000 in
theorem refPut_go (ps : Pages) (hr : RightP ps) (hne : ps ≠ []) (ao : Option Addr) (cap : Nat) (k v : ByteArray) (h900 : ps.length ≤ 900) (w : World) (hl : LiesPg w w.heap.size ao ps) :
    Calls Try.prog 15 #[.slice ao ps.length cap, .string k, .string v] w fun e w' => ∃ ao' cap', e = .returned (.slice ao' (putP ps k v).length cap') ∧ LiesPg w' w'.heap.size ao' (putP ps k v) ∧ Below w.heap.size w w' := by
  have hright := refRight_yes ps ao cap h900 (fun q hq => by have := hr.1 q hq; omega) hr w hl
  have hof := refOf_any ps hr ao cap k h900 w hl
  have hol := of_lt k hne
  have HR : Hid (RightP ps) := hr
  have hpl : ¬ ps = [] := hne
  have HE : Hid (PutS ps k v ps.length = putP ps k v) := puts_end hne
  have HO : Hid (∀ (i : Nat) q, ps[i]? = some q → i ≠ ofP ps k → PutS ps k v (i + 1) = PutS ps k v i ++ [q]) := fun i q hq hi => puts_other hq hi
  have HA : Hid (∀ q, ps[ofP ps k]? = some q → PutS ps k v (ofP ps k + 1) = PutS ps k v (ofP ps k) ++ splitP (insL q k v)) := fun q hq => puts_at hq
  have HL : Hid (∀ i, i ≤ ps.length → (PutS ps k v i).length ≤ 901) := fun i hi => by have := puts_len (k := k) (v := v) hi; omega
  have H0 : Hid (PutS ps k v 0 = []) := puts_start ps k v
  clear hr
  generalize putP ps k v = OUT at *
  generalize ofP ps k = M at *
  generalize hS : PutS ps k v = S at *
  clear hS
  go_enter Try.func15, Try.ntmps15
  go_wp2_with (first
    | (go_at_call 10; refine hright.mono ?_; rintro e w1 ⟨rfl, hq⟩; have hq' := hq.symm; clear hq; subst hq')
    | (go_at_call 27; refine hof.mono ?_; rintro e w1 ⟨rfl, hq⟩; have hq' := hq.symm; clear hq; subst hq'))
  clear hright hof
  go_loopw [8, 9] (fun vv i wr => ∃ (c : Nat) (acc : Pages), c ≤ ps.length ∧ i = .int .i64 (c : Int) ∧ acc.length ≤ 901 ∧ OwnPs w.heap.size wr vv acc ∧ Below w.heap.size w wr ∧ Hid (acc = S c)) (fun _ i _ => ps.length - (intOf i).toNat)
  case atStart => exact ⟨0, [], by omega, rfl, by simp, OwnS.nil _ _ _ _ _, Below.refl _ _, H0.out.symm⟩
  case round =>
    obtain ⟨c, acc, hc, rfl, hacc, hown, hbel, HS⟩ := hrel
    have hsz := hbel.size
    by_cases hcl : c < ps.length
    · have HP : Hid (ps[c]? = some ps[c]) := List.getElem?_eq_getElem hcl
      have hlen := HR.out.1 ps[c] (List.getElem_mem hcl)
      have HRi : Hid (Rises ps[c]) := right_page HR.out HP.out
      obtain ⟨a, rfl, hblk, bo, cc, c0, hl2, hcap⟩ := (liesPg_next hl hbel hsz) c ps[c] HP.out
      rw [Nat.mul_one] at c0
      generalize ps[c] = p at *
      have hcd : ∀ o : Obj, (wr.alloc o).cell? (a.add c) = some (.slice bo p.length cc) := fun o => alloc_cell o c0
      have hcd2 : ∀ w1, Below wr.heap.size wr w1 → w1.cell? (a.add c) = some (.slice bo p.length cc) := fun w1 hb => (hb.cell (cell_lt c0)).trans c0
      by_cases hcM : c = M
      · subst hcM
        have hil := insL_len k v p
        have hinto := fun w1 (hb : Below wr.heap.size wr w1) => into_any p HRi.out bo cc k v (by omega) w1 (liesPr_next hl2 hb hb.size)
        have HA2 : Hid (S (c + 1) = acc ++ splitP (insL p k v)) := by
          unfold Hid
          rw [HA.out p HP.out, HS.out]
        clear HA HS HO HE
        generalize insL p k v = q at *
        by_cases h8 : (8 : Int) < (q.length : Int)
        · have HS2 : Hid (acc ++ [q.take 4] ++ [q.drop 4] = S (c + 1)) := by
            unfold Hid
            rw [HA2.out, splitP, if_pos (by omega)]
            simp
          clear HA2
          have h4 : (q.take 4).length = 4 := by rw [List.length_take]; omega
          have h5 : (q.drop 4).length = q.length - 4 := List.length_drop
          go_wp2_with (first
            | (at_builtin; refine wpList_app_pg _ rfl _ _ rfl wr.heap.size (.slice (some ⟨wr.heap.size, 0, none⟩) 0 0) [] rfl (own_empty wr) bo cc p rfl (liesPr_next hl2 ((Below.refl _ wr).alloc (Nat.le_refl _) _) (Nat.le_refl _)) (by simp; omega) (by simp) ?_; intro v1 w1 hown1 hgrow1 hnear1
               have hb1 : Below wr.heap.size wr w1 := below_made hgrow1
               have hk1 := hcd2 w1 hb1
               clear hgrow1 hown1 hnear1)
            | (go_at_call 28; refine (hinto w1 hb1).mono ?_; rintro e w2 ⟨ao2, cap2, bb, rfl, hown2, hb2⟩
               obtain ⟨g2, CX, e2⟩ := own_some hown2 (by omega)
               cases e2
               obtain ⟨_, _, _, _, hqC, hCm, _⟩ := row_open hown2
               have hC4 : ¬ cap2 = 4 := by omega
               have hC5 : (4 : Int) ≤ (cap2 : Int) := by omega)
            | (at_builtin; refine wpList_app_pg _ rfl _ _ rfl w2.heap.size (.slice (some ⟨w2.heap.size, 0, none⟩) 0 0) [] rfl (own_empty w2) (some ⟨g2, 0, none⟩) cap2 (q.take 4) (by rw [h4]; rfl) (liesPr_next (lies_take (by obtain ⟨ao', cap', e', hl', _⟩ := own_lies hown2; cases e'; exact hl') 4) ((Below.refl _ w2).alloc (Nat.le_refl _) _) (Nat.le_refl _)) (by simp; omega) (by simp) ?_; intro v3 w3 hown3 hgrow3 hnear3
               have hb3 : Below w2.heap.size w2 w3 := below_made hgrow3
               rw [List.nil_append] at hown3
               obtain ⟨ao3, cap3, rfl, _, _⟩ := own_lies hown3
               rw [h4] at hown3
               have hown2' := own_below hown2 hb3
               have hown' := ownPs_below (ownPs_below (ownPs_below hown hb1) hb2) hb3
               have s1 := hb1.size
               have s2 := hb2.size
               have s3 := hb3.size
               clear hgrow3 hnear3)
            | (at_builtin; refine wpList_appPg _ rfl _ _ rfl w.heap.size _ acc rfl (ownPs_below hown' ((Below.refl _ w3).alloc (Nat.le_refl _) _)) w3.heap.size rfl (.slice ao3 4 cap3) (q.take 4) (by rw [h4]; exact own_mono (hown3.alloc _) (by omega)) (box_cell (heap_new w3 _) 0 _ rfl) (by omega) (by simp; omega) ?_; intro v4 w4 hown4 hbel4 hst4
               have hown2'' := own_stay (hown2'.alloc _) hst4 (by decide) (fun _ h => h)
               have s4 := hbel4.size
               simp at s4
               have hl4 := lies_drop hown2'' 4)
            | (at_builtin; refine wpList_app_pg _ rfl _ _ rfl w4.heap.size (.slice (some ⟨w4.heap.size, 0, none⟩) 0 0) [] rfl (own_empty w4) (some ⟨g2, 8, none⟩) (cap2 - 4) (q.drop 4) (by rw [h5]; rfl) (liesPr_next hl4 ((Below.refl _ w4).alloc (Nat.le_refl _) _) (Nat.le_refl _)) (by simp; omega) (by simp) ?_; intro v5 w5 hown5 hgrow5 hnear5
               have hb5 : Below w4.heap.size w4 w5 := below_made hgrow5
               rw [List.nil_append] at hown5
               obtain ⟨ao5, cap5, rfl, _, _⟩ := own_lies hown5
               rw [h5] at hown5
               have hown4' := ownPs_below hown4 hb5
               have s5 := hb5.size
               clear hgrow5 hnear5)
            | (at_builtin; refine wpList_appPg _ rfl _ _ rfl w.heap.size _ (acc ++ [q.take 4]) rfl (ownPs_below hown4' ((Below.refl _ w5).alloc (Nat.le_refl _) _)) w5.heap.size rfl (.slice ao5 (q.length - 4) cap5) (q.drop 4) (by rw [h5]; exact own_mono (hown5.alloc _) (by omega)) (box_cell (heap_new w5 _) 0 _ rfl) (by simp; omega) (by simp; omega) ?_; intro v6 w6 hown6 hbel6 hst6))
          go_roundw
          case rel => exact ⟨c + 1, acc ++ [q.take 4] ++ [q.drop 4], by omega, by go_num, by rw [HS2.out]; exact HL.out _ (by omega), hown6, (((((hbel.trans (hb1.mono hsz)).trans (hb2.mono (by omega))).trans (hb3.mono (by omega))).alloc (by omega) _).trans hbel4).trans (((hb5.mono (by omega)).alloc (by omega) _).trans hbel6), HS2⟩
          case measure => simp [intOf]; omega
        · have HS2 : Hid (acc ++ [q] = S (c + 1)) := by
            unfold Hid
            rw [HA2.out, splitP, if_neg (by omega)]
          clear HA2
          go_wp2_with (first
            | (at_builtin; refine wpList_app_pg _ rfl _ _ rfl wr.heap.size (.slice (some ⟨wr.heap.size, 0, none⟩) 0 0) [] rfl (own_empty wr) bo cc p rfl (liesPr_next hl2 ((Below.refl _ wr).alloc (Nat.le_refl _) _) (Nat.le_refl _)) (by simp; omega) (by simp) ?_; intro v1 w1 hown1 hgrow1 hnear1
               have hb1 : Below wr.heap.size wr w1 := below_made hgrow1
               have hk1 := hcd2 w1 hb1
               clear hgrow1 hown1 hnear1)
            | (go_at_call 28; refine (hinto w1 hb1).mono ?_; rintro e w2 ⟨ao2, cap2, bb, rfl, hown2, hb2⟩
               have hown' := ownPs_below (ownPs_below hown hb1) hb2
               have s1 := hb1.size
               have s2 := hb2.size)
            | (at_builtin; refine wpList_appPg _ rfl _ _ rfl w.heap.size _ acc rfl (ownPs_below hown' ((Below.refl _ w2).alloc (Nat.le_refl _) _)) w2.heap.size rfl _ q (own_mono (hown2.alloc _) (by omega)) (box_cell (heap_new w2 _) 0 _ rfl) (by omega) (by simp; omega) ?_; intro v4 w4 hown4 hbel4 hst4))
          go_roundw
          case rel => exact ⟨c + 1, acc ++ [q], by omega, by go_num, by rw [HS2.out]; exact HL.out _ (by omega), hown4, ((((hbel.trans (hb1.mono hsz)).trans (hb2.mono (by omega))).alloc (by omega) _).trans hbel4), HS2⟩
          case measure => simp [intOf]; omega
      · have HS2 : Hid (acc ++ [p] = S (c + 1)) := by
          unfold Hid
          rw [HO.out c p HP.out hcM, HS.out]
        have hcMi : ¬ (c : Int) = (M : Int) := by omega
        have hp8 : ¬ (8 : Int) < (p.length : Int) := by omega
        clear HA HS HO HE
        go_wp2_with (first
          | (at_builtin; refine wpList_app_pg _ rfl _ _ rfl wr.heap.size (.slice (some ⟨wr.heap.size, 0, none⟩) 0 0) [] rfl (own_empty wr) bo cc p rfl (liesPr_next hl2 ((Below.refl _ wr).alloc (Nat.le_refl _) _) (Nat.le_refl _)) (by simp; omega) (by simp) ?_; intro v1 w1 hown1 hgrow1 hnear1
             have hb1 : Below wr.heap.size wr w1 := below_made hgrow1
             rw [List.nil_append] at hown1
             obtain ⟨ao1, cap1, rfl, _, _⟩ := own_lies hown1
             have hown' := ownPs_below hown hb1
             have s1 := hb1.size
             clear hgrow1 hnear1)
          | (at_builtin; refine wpList_appPg _ rfl _ _ rfl w.heap.size _ acc rfl (ownPs_below hown' ((Below.refl _ w1).alloc (Nat.le_refl _) _)) w1.heap.size rfl _ p (own_mono (hown1.alloc _) (by omega)) (box_cell (heap_new w1 _) 0 _ rfl) (by omega) (by simp; omega) ?_; intro v4 w4 hown4 hbel4 hst4))
        go_roundw
        case rel => exact ⟨c + 1, acc ++ [p], by omega, by go_num, by rw [HS2.out]; exact HL.out _ (by omega), hown4, (((hbel.trans (hb1.mono hsz)).alloc (by omega) _).trans hbel4), HS2⟩
        case measure => simp [intOf]; omega
    · obtain rfl : c = ps.length := by omega
      have he := HS.out
      rw [HE.out] at he
      subst he
      clear HS HE HA HO
      obtain ⟨ao3, cap3, rfl, hl3⟩ := ownPs_lies hown
      go_wp2
      go_ret
      exact ⟨_, _, rfl, hl3, hbel⟩
end Go.Proofs.Ytdllfplgenpalaa
