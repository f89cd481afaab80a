/-
  Joined:
  Contracts: which pages are right: of the program and of the document's own (7.1).
  Contracts: are two lists of pairs, or of pages, one?
-/
import Derived.Test.YtdmkmhjalcfchaaBase
import Derived.Test.YtdmkmhjalcfchaaPl
namespace Go.Proofs.Ytdmkmhjalcfchaa
open Go.RowKit Num
open scoped Classical
set_option linter.unusedVariables false
set_option maxRecDepth 100000

theorem leq_yes {a s : ByteArray} (h : ¬ kl s a) : (Op.bytesLess a.toList s.toList || a.toList == s.toList) = true := by
  rw [leq_kl]
  have : Op.bytesLess s.toList a.toList = false := Bool.eq_false_iff.2 h
  rw [this]
  rfl
theorem leq_no {a s : ByteArray} (h : kl s a) : (Op.bytesLess a.toList s.toList || a.toList == s.toList) = false := by
  rw [leq_kl]
  have : Op.bytesLess s.toList a.toList = true := h
  rw [this]
  rfl

set_option maxRecDepth 100000 in
set_option maxHeartbeats 2000000 in
theorem right_any (ps : Pages) (ao : Option Addr) (cap : Nat) (h400 : ps.length ≤ 5000) (hp4 : ∀ p ∈ ps, p.length ≤ 5000) (w : World) (hl : LiesPg w w.heap.size ao ps) :
    Calls Try.prog 73 #[.slice ao ps.length cap] w fun e w' => e = .returned (.bool (tru (RightP ps))) ∧ Below w.heap.size w w' := by
  go_enter Try.func73, Try.ntmps73
  go_wp2
  go_loopw [3, 10] (fun v i wr => ∃ (k : Nat) (s : ByteArray), k ≤ ps.length ∧ i = .int .i64 (k : Int) ∧ v = .string s ∧ Below w.heap.size w wr ∧ Hid (UpP ps k ∧ s = lastK (ps.take k).flatten)) (fun _ i _ => ps.length - (intOf i).toNat)
  case atStart => exact ⟨0, ⟨#[]⟩, by omega, rfl, rfl, Below.refl _ _, up_zero ps, rfl⟩
  case round =>
    obtain ⟨k, s, hk, rfl, rfl, hbel, HK⟩ := hrel
    have hsz := hbel.size
    by_cases hkl : k < ps.length
    · have HP : Hid (ps[k]? = some ps[k]) := List.getElem?_eq_getElem hkl
      have hlen := hp4 ps[k] (List.getElem_mem hkl)
      obtain ⟨a, rfl, hblk, bo, c, c0, hl2, hcap⟩ := (hl.below PgAt.fast hbel) k ps[k] HP.out
      rw [Nat.mul_one] at c0
      generalize ps[k] = p at *
      by_cases q1 : (p.length : Int) < 1
      · have HN : Hid (¬ RightP ps) := right_no_len HP.out (.inl (by omega))
        go_wp2
        go_ret
        rw [tru_no HN.out]
        exact ⟨rfl, hbel⟩
      · by_cases q2 : 8 < (p.length : Int)
        · have HN : Hid (¬ RightP ps) := right_no_len HP.out (.inr (by omega))
          go_wp2
          go_ret
          rw [tru_no HN.out]
          exact ⟨rfl, hbel⟩
        · go_wp2
          rename World => W0
          go_loopw [3, 25] (fun v i wr => ∃ (j : Nat) (s : ByteArray), j ≤ p.length ∧ i = .int .i64 (j : Int) ∧ v = .string s ∧ Below w.heap.size W0 wr ∧ Hid (Rises (aheadP ps k p j) ∧ s = lastK (aheadP ps k p j))) (fun _ i _ => p.length - (intOf i).toNat)
          case atStart => exact ⟨0, s, by omega, rfl, rfl, Below.refl _ _, by rw [ahead_zero]; exact ⟨HK.out.1.2, HK.out.2⟩⟩
          case round =>
            obtain ⟨j, s, hj, rfl, rfl, hbel2, HJ⟩ := hrel
            have hb3 := hbel.trans hbel2
            have hsz2 := hb3.size
            by_cases hjl : j < p.length
            · have HX : Hid (p[j]? = some p[j]) := List.getElem?_eq_getElem hjl
              obtain ⟨a2, rfl, hblk2, e0, e1⟩ := (hl2.below PrAt.fast hbel2) j p[j] HX.out
              generalize p[j] = x at *
              by_cases h0 : k + j = 0
              · obtain ⟨rfl, rfl⟩ : k = 0 ∧ j = 0 := by omega
                rw [show a2.add (0 * 2) = a2 from addr_zero a2] at e0 e1
                have HR : Hid (Rises (aheadP ps 0 p 1)) := by
                  unfold Hid
                  rw [ahead_succ HX.out, rises_snoc]
                  exact ⟨HJ.out.1, .inl ((ahead_nil HP.out HK.out.1 (by omega)).2 rfl)⟩
                go_wp2
                go_roundw
                case rel => exact ⟨1, x.key, by omega, by go_num, rfl, hbel2.alloc hsz2 _, HR.out, by rw [ahead_succ HX.out, lastK_snoc]⟩
                case measure => simp [intOf]; omega
              · have hpos : (0 : Int) < (k : Int) + (j : Int) := by omega
                have HL : Hid (aheadP ps k p j ≠ []) := fun e => h0 ((ahead_nil HP.out HK.out.1 (by omega)).1 e)
                by_cases hc : kl s x.key
                · have hle := leq_no hc
                  have HR : Hid (Rises (aheadP ps k p (j + 1))) := by
                    unfold Hid
                    rw [ahead_succ HX.out, rises_snoc]
                    exact ⟨HJ.out.1, .inr (by rw [← HJ.out.2]; exact hc)⟩
                  clear hc
                  go_wp2
                  go_roundw
                  case rel => exact ⟨j + 1, x.key, by omega, by go_num, rfl, hbel2.alloc hsz2 _, HR.out, by rw [ahead_succ HX.out, lastK_snoc]⟩
                  case measure => simp [intOf]; omega
                · have hle := leq_yes hc
                  have HN : Hid (¬ RightP ps) := right_no_key HP.out HX.out HL.out (by rw [← HJ.out.2]; exact hc)
                  clear hc
                  go_wp2
                  go_ret
                  rw [tru_no HN.out]
                  exact ⟨rfl, hb3.alloc hsz2 _⟩
            · obtain rfl : j = p.length := by omega
              have HU : Hid (UpP ps (k + 1)) := up_succ HP.out HK.out.1 ⟨by omega, by omega⟩ HJ.out.1
              go_wp2
              go_roundw
              case rel => exact ⟨k + 1, s, by omega, by go_num, rfl, hb3, HU.out, by rw [← ahead_end HP.out]; exact HJ.out.2⟩
              case measure => simp [intOf]; omega
    · obtain rfl : k = ps.length := by omega
      have HY : Hid (RightP ps) := up_all HK.out.1
      go_wp2
      go_ret
      rw [tru_yes HY.out]
      exact ⟨rfl, hbel⟩

end Go.Proofs.Ytdmkmhjalcfchaa
namespace Go.Proofs.Ytdmkmhjalcfchaa
open Go.RowKit Num
set_option linter.unusedVariables false
set_option maxRecDepth 100000

theorem low_pr {w : World} {p : Addr} {y : Pr} (hb : p.block < w.heap.size) (h : PrAt w p y) :
    (∀ z : Low w, z.wd.cell? p = some (.string y.key)) ∧ (∀ z : Low w, z.wd.cell? ⟨p.block, p.off + 1, none⟩ = some (.string y.val)) :=
  ⟨fun z => (z.cell hb).trans h.1, fun z => (z.cell (p := ⟨p.block, p.off + 1, none⟩) hb).trans h.2⟩
set_option maxHeartbeats 1000000 in
theorem pairs_same (ao0 ao1 : Option Addr) (cap0 cap1 : Nat) (l : List Pr) (hlen : l.length ≤ 1000000) (w : World) (hl0 : LiesPr w w.heap.size ao0 l) (hl1 : LiesPr w w.heap.size ao1 l) :
    Calls Try.prog 15 #[.slice ao0 l.length cap0, .slice ao1 l.length cap1] w fun e w' => e = .returned (.bool true) ∧ Below w.heap.size w w' := by
  go_enter Try.func15, Try.ntmps15
  go_wp2
  go_loopw [5] (fun i wr => ∃ k : Nat, k ≤ l.length ∧ i = .int .i64 (k : Int) ∧ Below w.heap.size w wr) (fun i _ => l.length - (intOf i).toNat)
  case atStart => exact ⟨0, by omega, rfl, Below.refl _ _⟩
  case round =>
    obtain ⟨k, hk, rfl, hbel⟩ := hrel
    by_cases hkl : k < l.length
    · obtain ⟨a0, rfl, hblk0, h0⟩ := (liesPr_next hl0 hbel hbel.size) k l[k] (List.getElem?_eq_getElem hkl)
      obtain ⟨a1, rfl, hblk1, h1⟩ := (liesPr_next hl1 hbel hbel.size) k l[k] (List.getElem?_eq_getElem hkl)
      obtain ⟨d00, d01⟩ := low_pr (by rw [Addr.block_add]; exact hblk0) h0
      obtain ⟨d10, d11⟩ := low_pr (by rw [Addr.block_add]; exact hblk1) h1
      clear h0 h1 hblk0 hblk1 hl0 hl1
      go_wp2_with fail
      refine wp_region_low (by kernel_rfl) (by kernel_rfl) fun hsome => ?_
      repeat (go_big_quiet_step (fail))
      refine wpQuiet_nil ?_
      rintro _ ⟨x, rfl⟩
      have hx := x.low
      go_wp2
      go_roundw
      case rel => exact ⟨k + 1, by omega, by go_num, below_next hbel (Nat.le_refl _) hx⟩
      case measure => simp [intOf]; omega
    · have hke : k = l.length := by omega
      subst hke
      go_wp2
      go_ret
      exact ⟨rfl, hbel⟩
end Go.Proofs.Ytdmkmhjalcfchaa
