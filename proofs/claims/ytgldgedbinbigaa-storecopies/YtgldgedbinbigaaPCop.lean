/-
  Contracts: pages anew: of the program, of the document's own, and of the statements.
-/
import Derived.Test.YtgldgedbinbigaaPApp
import Derived.Test.YtgldgedbinbigaaPRgM
import Derived.Lib.SliceRun
namespace Go.Proofs.Ytgldgedbinbigaa
open Go.RowKit Num
set_option linter.unusedVariables false

theorem clone_any (bo : Option Addr) (c : Nat) (l : List Pr) (hne : l ≠ []) (hlen : l.length ≤ 1000) (w : World) (hl : LiesPr w w.heap.size bo l) :
    Calls Try.prog 38 #[.slice bo l.length c] w fun e w' => ∃ ao1 cap1, e = .returned (.slice ao1 l.length cap1) ∧ w'.ownsRow w.heap.size 69 2 (.slice ao1 l.length cap1) l.length (prCells l) ∧ Below w.heap.size w w' := by
  obtain ⟨a, rfl⟩ : ∃ a, bo = some a := by
    cases bo with
    | none => exact absurd (lies_none hl) hne
    | some a => exact ⟨a, rfl⟩
  have q22 : ∀ (w : World) (a : Option Addr) (n c n' c' : Nat), (binOp .eql 38 (.slice a n c) (.slice none n' c')).run Try.prog w = .ok (.bool a.isNone) w := fun w a n c n' c' => Lib.run_eql_slice_nil w _ _ a n c n' c' Try.underlying38
  go_enter Try.func38, Try.ntmps38
  go_wp2_with (first
    | (at_builtin; refine wpList_app_pg _ rfl _ _ rfl w.heap.size (.slice (some ⟨w.heap.size, 0, none⟩) 0 0) [] rfl (own_empty w) (some a) c l rfl (liesPr_next hl ((Below.refl _ w).alloc (Nat.le_refl _) _) (Nat.le_refl _)) (by simp; omega) (by simp) ?_; intro v1 w1 hown1 hgrow1 hnear1))
  rw [List.nil_append] at hown1
  obtain ⟨ao1, cap1, rfl, _, _⟩ := own_lies hown1
  go_ret
  exact ⟨_, _, rfl, hown1, below_made hgrow1⟩

set_option maxHeartbeats 1000000 in
theorem copied_any (ps : Pages) (ao : Option Addr) (cap : Nat) (h400 : ps.length ≤ 1000) (hp4 : ∀ p ∈ ps, 1 ≤ p.length ∧ p.length ≤ 8) (w : World) (hl : LiesPg w w.heap.size ao ps) :
    Calls Try.prog 50 #[.slice ao ps.length cap] w fun e w' => ∃ v cs, e = .returned v ∧ OwnPg w.heap.size w' v cs ps ∧ Below w.heap.size w w' := by
  go_enter Try.func50, Try.ntmps50
  go_wp2
  go_loopw [3, 8] (fun v i wr => ∃ (k : Nat) (cs : List Value), k ≤ ps.length ∧ i = .int .i64 (k : Int) ∧ OwnPg w.heap.size wr v cs (ps.take k) ∧ Below w.heap.size w wr) (fun _ i _ => ps.length - (intOf i).toNat)
  case atStart => exact ⟨0, [], by omega, rfl, ownPg_nil _ _, Below.refl _ _⟩
  case round =>
    obtain ⟨k, cs, hk, rfl, hown, hbel⟩ := hrel
    have hsz := hbel.size
    by_cases hkl : k < ps.length
    · have HP : Hid (ps[k]? = some ps[k]) := List.getElem?_eq_getElem hkl
      have hlen := hp4 ps[k] (List.getElem_mem hkl)
      obtain ⟨a, rfl, hblk, bo, c, c0, hl2, hcap⟩ := (liesPg_next hl hbel hsz) k ps[k] HP.out
      rw [Nat.mul_one] at c0
      generalize ps[k] = p at *
      obtain ⟨hcl, hrow, hV, hap⟩ := hown
      have htl : (ps.take k).length = k := by rw [List.length_take]; omega
      rw [htl] at hrow
      have hcall := clone_any bo c p (by rintro rfl; simp at hlen) (by omega) wr hl2
      go_wp2_with (first
        | (go_at_call 38; refine hcall.mono ?_; rintro e w1 ⟨ao1, cap1, rfl, hown1, hb1⟩)
        | (at_builtin; refine wpList_appX _ rfl _ _ 55 rfl 38 1 24 Try.underlying55 Try.infoPg w.heap.size _ k cs rfl ((own_below hrow hb1).alloc _) ⟨w1.heap.size, 0, none⟩ 1 [.slice ao1 p.length cap1] rfl rfl (by intro u hu; rw [List.mem_singleton.1 hu]; exact own_one hown1) (one_cell w1 _ _) ⟨by omega, by decide, by decide, rfl⟩ (by simp; have := hb1.size; omega) ?_; intro v3 w3 hown3 hbel3 hst3))
      go_roundw
      case rel =>
        have hs1 := hb1.size
        refine ⟨k + 1, cs ++ [.slice ao1 p.length cap1], by omega, by go_num, ?_, (hbel.trans (hb1.mono hsz)).trans (((Below.refl _ w1).alloc (by omega) _).trans hbel3)⟩
        rw [take_succ_at HP.out]
        exact ownPg_snoc hcl hV hap (hown1.alloc _) (hb1.trans ((Below.refl _ w1).alloc hs1 _)) hsz (by rw [htl]; exact hown3) hst3
      case measure => simp [intOf]; omega
    · obtain rfl : k = ps.length := by omega
      rw [List.take_length] at hown
      go_wp2
      go_ret
      exact ⟨_, _, rfl, hown, hbel⟩
end Go.Proofs.Ytgldgedbinbigaa
