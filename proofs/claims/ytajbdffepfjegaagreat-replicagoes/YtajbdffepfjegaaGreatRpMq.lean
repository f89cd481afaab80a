/-
  Contract: mostReach tells the greatest number that most of Acked reach.
-/
import Derived.Test.YtajbdffepfjegaaGreatRpMp
import Derived.Test.YtajbdffepfjegaaGreatRpLd
namespace Go.Proofs.YtajbdffepfjegaaGreat
open Go.RowKit Num
open scoped Classical
set_option linter.unusedVariables false
set_option maxRecDepth 100000

set_option maxRecDepth 100000 in
set_option maxHeartbeats 1000000 in
theorem most_any : MostC := by
  intro M B g r o w h
  have hone := h.one
  have hal := h.al
  obtain ⟨⟨vl, va, vv, vw, vb, x, h, ho, hx⟩, _, _, _, hB, _, _, _, _⟩ := h
  obtain ⟨k0, k1, k2, k3, k4, k5, k6, k7, k8, k9, k10, k11, k12⟩ := h.cells (by omega)
  obtain ⟨ao, cap, rfl, hl⟩ := ownN_lies h.rows.ack
  have hn : r.n = 1 ∨ r.n = 3 ∨ r.n = 5 := hone.1
  clear ho hx hone
  have h5 : r.acked.length = 1 ∨ r.acked.length = 3 ∨ r.acked.length = 5 := by omega
  have hb1 : Below w.heap.size w (w.alloc (.cells #[.slice ao r.acked.length cap] 23)) := (Below.refl _ w).alloc (Nat.le_refl _) _
  have hs := sorted_any w.heap.size ao cap r.acked h5 (w.alloc (.cells #[.slice ao r.acked.length cap] 23)) (by simp) (Boxed.new w 23 (.slice ao r.acked.length cap)).cell (liesN_next hl hb1)
  have hgw := h.box.lt
  have hw1 := hb1.size
  have he : Int.tdiv r.n 2 = r.n / 2 := Int.tdiv_eq_ediv_of_nonneg (by omega)
  obtain ⟨q, hq⟩ : ∃ q : Nat, r.n / 2 = (q : Int) := ⟨(r.n / 2).toNat, by omega⟩
  have hql : q < r.acked.length := by omega
  have hq3 : (q : Int) ≤ 2 := by omega
  have HN : Hid (r.n = 1 ∨ r.n = 3 ∨ r.n = 5) := hn
  have HA : Hid ((r.acked.length : Int) = r.n) := hal
  have HQ : Hid (r.n / 2 = (q : Int)) := hq
  have hqi : (q : Int) < (r.acked.length : Int) := by omega
  rw [hq] at he
  clear hl h hn hal h5 hq
  go_enter Tryz.func82, Tryz.ntmps82
  go_wp2_with (first
    | (go_at_call 95; refine (ints_any _ _ _ _).mono ?_; rintro e w1 ⟨rfl, rfl⟩)
    | (go_at_call 94; refine hs.mono ?_; rintro e w2 ⟨g2, C, s, rfl, p1, p2, p3, p4⟩; have hb2 := hb1.trans (p4.mono hw1); have c1 := (hb2.cell (p := ⟨g, 1, none⟩) hgw).trans k1; obtain ⟨y, hy⟩ : ∃ y, s[q]? = some y := ⟨_, List.getElem?_eq_getElem (by rw [p1.length_eq]; exact hql)⟩; have cy : w2.cell? ⟨g2, q, none⟩ = some (.int .i64 y) := own_num p3 (by simp [inCells, hy])))
  go_ret
  refine ⟨y, rfl, p1.subset (List.mem_of_getElem? hy), fun i => ?_, hb2⟩
  have hyq : s[(r.n / 2).toNat]? = some y := by rw [HQ.out, Int.toNat_natCast]; exact hy
  exact mid_most p1 p2 HA.out HN.out hyq i
/-- MsgPrepared is taken as it should be. -/
theorem prep_any : PrepC := prepared_of most_any
end Go.Proofs.YtajbdffepfjegaaGreat
