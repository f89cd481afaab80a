/-
  Contracts: the document's own bytes of a schema, or that it is refused (6.3).
-/
import Derived.Test.YtndppffcladalaaDWriT
namespace Go.Proofs.Ytndppffcladalaa
open Go.RowKit Num
open scoped Classical
set_option linter.unusedVariables false

theorem refPut_no (x : Sch) (hx : ¬ SchOk x) (hin : ∀ t ∈ x.tabs, TabIn t) (ao : Option Addr) (cap : Nat) (w : World) (hl : LiesT w w.heap.size ao x.tabs) :
    Calls Try.prog 16 #[.agg #[.int .i64 x.ver, .slice ao x.tabs.length cap, .int .i64 x.next]] w fun e w' => e = .returned (.tuple #[.string ⟨#[]⟩, .int .i64 3]) ∧ Below w.heap.size w w' := by
  have hla := liesT_next hl ((Below.refl _ w).alloc (Nat.le_refl _) (.cells #[.int .i64 x.ver, .slice ao x.tabs.length cap, .int .i64 x.next] 26))
  have hm := refMay_sch x hin ao cap _ hla
  rw [tru_no hx] at hm
  clear hx hl hla
  go_enter Try.func16, Try.ntmps16
  go_wp2_with (first
    | (go_at_call 14; refine hm.mono ?_; rintro e w5 ⟨rfl, hb5⟩))
  go_ret2
  exact ⟨rfl, below_box0 hb5⟩
theorem wri_new (w : World) : Wri w.heap.size w.heap.size (w.alloc (.cells #[.slice none 0 0] 61)) (w.alloc (.cells #[.slice none 0 0] 61)) [] :=
  ⟨⟨_, heap_new w _, World.ownsRow_nil _ _ _ _⟩, Below.refl _ _, Stay.refl _ _ _, by simp, Nat.le_refl _⟩
set_option maxRecDepth 100000 in
set_option maxHeartbeats 2000000 in
theorem refPut_yes (x : Sch) (hx : SchOk x) (hin : ∀ t ∈ x.tabs, TabIn t) (ao : Option Addr) (cap : Nat) (w : World) (hl : LiesT w w.heap.size ao x.tabs) :
    Calls Try.prog 16 #[.agg #[.int .i64 x.ver, .slice ao x.tabs.length cap, .int .i64 x.next]] w fun e w' => e = .returned (.tuple #[.string (str (sealL (schB x))), .int .i64 0]) ∧ Below w.heap.size w w' := by
  have hbx := heap_new w (.cells #[.int .i64 x.ver, .slice ao x.tabs.length cap, .int .i64 x.next] 26)
  have hla := liesT_next hl ((Below.refl _ w).alloc (Nat.le_refl _) (.cells #[.int .i64 x.ver, .slice ao x.tabs.length cap, .int .i64 x.next] 26))
  have hm := refMay_sch x hin ao cap _ hla
  rw [tru_yes hx] at hm
  have hlen := sch_len hx
  have h4 := hx.ntabs
  have hz : (str (schB x)).size ≤ 900000 := by rw [str_size]; omega
  have hs := refSeal_any (str (schB x)) hz
  rw [str_data] at hs
  have hlen2 := hlen
  unfold schB at hlen2
  simp only [List.length_append, lensB] at hlen2
  generalize hS : sealL (schB x) = SS at *
  clear hx hl hz hlen
  go_enter Try.func16, Try.ntmps16
  go_wp2_with (first
    | (go_at_call 14; refine hm.mono ?_; rintro e w5 ⟨rfl, hb5⟩; have b5 := below_box hb5 hbx; have hbx6 := alloc_box (.cells #[.slice none 0 0] 61) b5; have hq : w.heap.size ≠ w5.heap.size := by { have := hb5.size; simp at this; omega }; have hl5 := liesT_next hla hb5; have hc := wri_new w5; have bx := hbx6; have c0 := box_cell bx 0 _ rfl; have c1 := box_cell bx 1 _ rfl; have c2 := box_cell bx 2 _ rfl)
    | (go_at_call 31; refine (wNum_any hc _ (by first | omega | (simp only [List.length_append, lensB]; omega))).mono ?_; rintro e _ ⟨rfl, hc⟩; have bx := hc.keep hbx6 (by decide) hq; have c0 := box_cell bx 0 _ rfl; have c1 := box_cell bx 1 _ rfl; have c2 := box_cell bx 2 _ rfl))
  have hl6 := hl5.below TabAt.fast ((Below.refl _ w5).alloc (Nat.le_refl _) (.cells #[.slice none 0 0] 61))
  go_loopw [5] (fun i wr => ∃ k : Nat, k ≤ x.tabs.length ∧ i = .int .i64 (k : Int) ∧ Wri w5.heap.size w5.heap.size (w5.alloc (.cells #[.slice none 0 0] 61)) wr (num8 x.ver ++ num8 (x.tabs.length : Int) ++ (x.tabs.take k).flatMap tabB)) (fun i _ => x.tabs.length - (intOf i).toNat)
  case atStart => exact ⟨0, by omega, rfl, hc.as (by simp)⟩
  case round =>
    clear hc bx c0 c1 c2
    obtain ⟨k, hk, rfl, hr⟩ := hrel
    have bx := hr.keep hbx6 (by decide) hq; have c0 := box_cell bx 0 _ rfl; have c1 := box_cell bx 1 _ rfl; have c2 := box_cell bx 2 _ rfl
    by_cases hkl : k < x.tabs.length
    · obtain ⟨a, rfl, hblk, e0, e1, ⟨ao2, cap2, e2, hl2⟩, ⟨ao3, cap3, e3, hl3⟩, e4⟩ := (hl6.below TabAt.fast hr.low) k x.tabs[k] (List.getElem?_eq_getElem hkl)
      have hsum := flat_at tabB x.tabs k hkl
      have hcat := flat_snoc tabB x.tabs k hkl
      have hy := hin _ (List.getElem_mem hkl)
      generalize x.tabs[k] = y at *
      have ht := wTab_any hr y hy ao2 cap2 ao3 cap3 hl2 hl3 (by first | omega | (simp only [List.length_append, lensB]; omega))
      go_wp2_with (first
        | (go_at_call 32; refine ht.mono ?_; rintro e _ ⟨rfl, hc⟩))
      go_roundw
      case rel => exact ⟨k + 1, by omega, by go_num, hc.as (by rw [hcat]; simp only [List.append_assoc])⟩
      case measure => simp [intOf]; omega
    · have hke : k = x.tabs.length := by omega
      subst hke
      rw [List.take_length] at hr
      have h := wNum_any hr x.next (by first | omega | (simp only [List.length_append, lensB]; omega))
      go_wp2_with (first
        | (go_at_call 31; refine h.mono ?_; rintro e w7 ⟨rfl, hc⟩; obtain ⟨v7, hbox7, hown7⟩ := hc.box; have c7 := box_cell hbox7 0 _ rfl; have hconv := conv_own w7 _ _ _ _ hown7; rw [show num8 x.ver ++ num8 (x.tabs.length : Int) ++ x.tabs.flatMap tabB ++ num8 x.next = schB x by { unfold schB; simp only [List.append_assoc] }] at hconv)
        | (go_at_call 33; refine (hs _).mono ?_; rintro e w8 ⟨rfl, hb8⟩))
      go_ret2
      exact ⟨rfl, below_next (below_next (below_box0 hb5) (Nat.le_refl _) (((Below.refl _ w5).alloc (Nat.le_refl _) _).trans hc.low)) (Nat.le_refl _) hb8⟩
end Go.Proofs.Ytndppffcladalaa
