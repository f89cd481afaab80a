/-
  Contracts: post.copied: messages anew, each with a log of its own.
-/
import Derived.Test.YthnbaijkhhbelaaGreatMsCon
namespace Go.Proofs.YthnbaijkhhbelaaGreat
open Go.RowKit Num
set_option linter.unusedVariables false
set_option maxRecDepth 100000

theorem flat_set {css : List (List Value)} {sz : Nat} (h : ∀ cs ∈ css, cs.length = sz) (k : Nat) (cs : List Value) (hk : css[k]? = some cs) (j : Nat) (hj : j < sz) (u : Value) : css.flatten.set (k * sz + j) u = (css.set k (cs.set j u)).flatten := by
  induction css generalizing k with
  | nil => simp at hk
  | cons c css ih =>
    have hc : c.length = sz := h c (by simp)
    cases k with
    | zero =>
      simp at hk
      subst hk
      rw [List.flatten_cons, Nat.zero_mul, Nat.zero_add, List.set_append_left _ _ (by omega), List.set_cons_zero, List.flatten_cons]
    | succ k =>
      have hk' : css[k]? = some cs := by simpa using hk
      rw [List.flatten_cons, List.set_append_right _ _ (by rw [hc, Nat.succ_mul]; omega), show (k + 1) * sz + j - c.length = k * sz + j by rw [hc, Nat.succ_mul]; omega, ih (fun cs hcs => h cs (by simp [hcs])) k hk', List.set_cons_succ, List.flatten_cons]
/-- Of the messages the first ones have a log of their own by now. -/
structure Num.Half (B : Nat) (w : World) (v : Value) (l : Msgs) (k : Nat) (css : List (List Value)) : Prop where
  len : css.length = l.length
  form : ∀ cs ∈ css, cs.length = 8 ∧ ∀ u ∈ cs, u.oneCell' = true
  row : w.ownsRow B 89 8 v l.length css.flatten
  done : ∀ (i : Nat) cs m, css[i]? = some cs → l[i]? = some m → i < k → MsO B w cs m
  left : ∀ (i : Nat) cs m, css[i]? = some cs → l[i]? = some m → k ≤ i → MsV B w cs m
theorem half_open {B : Nat} {w : World} {g n cap : Nat} {l : Msgs} {k : Nat} {css : List (List Value)} (h : Half B w (.slice (some ⟨g, 0, none⟩) n cap) l k css) {m : Msg} (hm : l[k]? = some m) :
    ∃ bo c, w.cell? ⟨g, k * 8 + 7, none⟩ = some (.slice bo m.log.length c) ∧ LiesE w B bo m.log ∧ css[k]? = some (mc m (.slice bo m.log.length c)) := by
  have hk := (List.getElem?_eq_some_iff.1 hm).1
  have hkc : k < css.length := by rw [h.len]; exact hk
  have hcs := List.getElem?_eq_getElem hkc
  obtain ⟨bo, c, e, hl⟩ := h.left k _ m hcs hm (Nat.le_refl _)
  rw [e] at hcs
  have h1 := flat_get (fun cs hc => (h.form cs hc).1) k _ hcs 7 (by omega)
  have h2 := h.row.cells (g := g) rfl _ _ (h1.trans (show (mc m (.slice bo m.log.length c))[7]? = some (.slice bo m.log.length c) from rfl))
  rw [Addr.add_lit, Nat.zero_add] at h2
  exact ⟨bo, c, h2, hl, hcs⟩
theorem half_next {B : Nat} {w w1 : World} {g cap : Nat} {l : Msgs} {k : Nat} {css : List (List Value)} (h : Half B w (.slice (some ⟨g, 0, none⟩) l.length cap) l k css) {m : Msg} (hm : l[k]? = some m) {bo : Option Addr} {c : Nat} (hcs : css[k]? = some (mc m (.slice bo m.log.length c))) (hB : B ≤ w.heap.size) (hb : Below w.heap.size w w1)
    {ao1 : Option Addr} {cap1 : Nat} (hown : w1.ownsRow w.heap.size 78 2 (.slice ao1 m.log.length cap1) m.log.length (enCells m.log)) :
    Half B (w1.setCell ⟨g, k * 8 + 7, none⟩ (.slice ao1 m.log.length cap1)) (.slice (some ⟨g, 0, none⟩) l.length cap) l (k + 1) (css.set k (mc m (.slice ao1 m.log.length cap1))) ∧ Below B w1 (w1.setCell ⟨g, k * 8 + 7, none⟩ (.slice ao1 m.log.length cap1)) := by
  have hrow1 := own_below h.row hb
  obtain ⟨hst, hgr⟩ := hrow1.stored (k * 8 + 7) (.slice ao1 m.log.length cap1)
  have hstay : Stay (fun _ => False) 89 w1 (w1.setCell ⟨g, k * 8 + 7, none⟩ (.slice ao1 m.log.length cap1)) := Stay.grown hrow1 hgr
  have hlow : Below B w1 (w1.setCell ⟨g, k * 8 + 7, none⟩ (.slice ao1 m.log.length cap1)) := (Below.refl B w1).grown hgr (Nat.le_trans hB hb.size) (fun j hj => (hrow1.lt j hj).1)
  rw [flat_set (fun cs hc => (h.form cs hc).1) k _ hcs 7 (by omega)] at hst
  have hkc := (List.getElem?_eq_some_iff.1 hcs).1
  refine ⟨⟨by rw [List.length_set, h.len], fun cs hc => ?_, hst, fun i cs x hi hx hik => ?_, fun i cs x hi hx hik => ?_⟩, hlow⟩
  · rcases List.mem_or_eq_of_mem_set hc with hc | rfl
    · exact h.form cs hc
    · exact ⟨rfl, mc_one _ _ _ _⟩
  · by_cases hik' : i = k
    · subst hik'
      rw [List.getElem?_set_self hkc] at hi
      cases hi
      rw [hm] at hx
      cases hx
      exact ⟨_, rfl, own_mono (own_stay hown hstay (by decide) (fun _ h => h)) hB⟩
    · rw [List.getElem?_set_ne (fun e => hik' e.symm)] at hi
      exact msO_stay hstay (msO_below hb (h.done i cs x hi hx (by omega)))
  · rw [List.getElem?_set_ne (by omega)] at hi
    exact msV_below ((hb.mono hB).trans hlow) (h.left i cs x hi hx (by omega))
set_option maxRecDepth 100000 in
set_option maxHeartbeats 1000000 in
theorem copiedM_any (l : Msgs) (ao : Option Addr) (cap : Nat) (hlen : l.length ≤ 3000) (hlog : ∀ m ∈ l, m.log.length ≤ 3000) (w : World) (hl : LiesM w w.heap.size ao l) :
    Calls Tryz.prog 70 #[.slice ao l.length cap] w fun e w' => ∃ v, e = .returned v ∧ OwnO w.heap.size w' v l ∧ Below w.heap.size w w' := by
  obtain ⟨css, hcl, hcc, hheld, hV⟩ := liesM_src hl
  have hclone := cloneM_any ao l.length cap css.flatten (by omega) w hheld
  go_enter Tryz.func70, Tryz.ntmps70
  go_wp2_with (first
    | (go_at_call 101; refine hclone.mono ?_; rintro e w1 ⟨ao1, cap1, rfl, hown1, hb1⟩))
  have H0 : Hid (Half w.heap.size w1 (.slice ao1 l.length cap1) l 0 css) := ⟨hcl, hcc, hown1, fun i cs m _ _ h => absurd h (Nat.not_lt_zero _), fun i cs m hi hm _ => msV_below hb1 (hV i cs m hi hm)⟩
  clear hclone hheld hV hcc hcl hown1
  go_loopw [9] (fun i wr => ∃ (k : Nat) (css : List (List Value)), k ≤ l.length ∧ i = .int .i64 (k : Int) ∧ Below w.heap.size w wr ∧ Hid (Half w.heap.size wr (.slice ao1 l.length cap1) l k css)) (fun i _ => l.length - (intOf i).toNat)
  case atStart => exact ⟨0, css, by omega, rfl, hb1, H0⟩
  case round =>
    obtain ⟨k, css, hk, rfl, hbel, hh⟩ := hrel
    have hsz := hbel.size
    by_cases hkl : k < l.length
    · have HM : Hid (l[k]? = some l[k]) := List.getElem?_eq_getElem hkl
      have hlg := hlog l[k] (List.getElem_mem hkl)
      obtain ⟨g, rfl⟩ : ∃ g, ao1 = some ⟨g, 0, none⟩ := by
        rcases hh.out.row.2 with ⟨_, h0⟩ | ⟨g, _, _, hv, _⟩
        · omega
        · cases hv
          exact ⟨g, rfl⟩
      obtain ⟨bo, c, e0, hle, hcs⟩ := half_open hh.out HM.out
      generalize l[k] = m at *
      have hcall := cloneE_any bo m.log.length c (enCells m.log) (by omega) wr (liesE_src hle)
      have hfz := hh.out.row.frozenAt (k * 8 + 7)
      go_wp2_with (first
        | (go_at_call 72; refine hcall.mono ?_; rintro e w2 ⟨ao2, cap2, rfl, hown2, hb2⟩
           have e2 := (hb2.cell (cell_lt e0)).trans e0
           have hfz2 := (own_below hh.out.row hb2).frozenAt (k * 8 + 7)))
      go_roundw
      case rel =>
        obtain ⟨hn1, hn2⟩ := half_next hh.out HM.out hcs hsz hb2 hown2
        exact ⟨k + 1, _, by omega, by go_num, hbel.trans ((hb2.mono hsz).trans hn2), hn1⟩
      case measure => simp [intOf]; omega
    · obtain rfl : k = l.length := by omega
      have hfin : OwnO w.heap.size wr (.slice ao1 l.length cap1) l := ⟨css, hh.out.len, hh.out.form, hh.out.row, fun i cs m hi hm => hh.out.done i cs m hi hm (List.getElem?_eq_some_iff.1 hm).1⟩
      go_wp2
      go_ret
      exact ⟨_, rfl, hfin, hbel⟩
end Go.Proofs.YthnbaijkhhbelaaGreat
