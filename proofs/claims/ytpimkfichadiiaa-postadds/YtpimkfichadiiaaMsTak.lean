/-
  Contracts: post.Take, post.Double.
-/
import Derived.Test.YtpimkfichadiiaaMsAdd
import Derived.Deep.RegionHeldLaw
namespace Go.Proofs.Ytpimkfichadiiaa
open Go.RowKit Num
set_option linter.unusedVariables false

theorem place_yes (l : Msgs) (ao : Option Addr) (cap i : Nat) (hi : i < l.length) (w : World) : Calls Try.prog 21 #[.slice ao l.length cap, .int .i64 (i : Int)] w fun e w' => e = .returned (.bool true) ∧ w' = w := by
  go_enter Try.func21, Try.ntmps21
  go_wp2
  go_ret
  exact ⟨rfl, rfl⟩
theorem place_no (n : Nat) (ao : Option Addr) (cap : Nat) (i : Int) (hi : i < 0 ∨ (n : Int) ≤ i) (w : World) : Calls Try.prog 21 #[.slice ao n cap, .int .i64 i] w fun e w' => e = .returned (.bool false) ∧ w' = w := by
  by_cases h0 : i < 0
  · go_enter Try.func21, Try.ntmps21
    go_wp2
    go_ret
    exact ⟨rfl, rfl⟩
  · have h1 : 0 ≤ i := by omega
    have h2 : ¬ i < (n : Int) := by omega
    clear hi
    go_enter Try.func21, Try.ntmps21
    go_wp2
    go_ret
    exact ⟨rfl, rfl⟩
theorem take_no (n : Nat) (ao : Option Addr) (cap : Nat) (i : Int) (hi : i < 0 ∨ (n : Int) ≤ i) (w : World) : Calls Try.prog 12 #[.slice ao n cap, .int .i64 i] w fun e w' => e = .returned (.tuple #[.agg #[.int .i64 0, .int .i64 0, .int .i64 0, .int .i64 0, .int .i64 0, .int .i64 0, .int .i64 0, .slice none 0 0], .slice none 0 0, .int .i64 20]) ∧ Below w.heap.size w w' := by
  have hp := fun w1 => place_no n ao cap i hi w1
  go_enter Try.func12, Try.ntmps12
  go_wp2_with (first
    | (go_at_call 21; refine (hp _).mono ?_; rintro e w1 ⟨rfl, rfl⟩))
  refine bodyPost_ret (v := .tuple #[.agg #[.int .i64 0, .int .i64 0, .int .i64 0, .int .i64 0, .int .i64 0, .int .i64 0, .int .i64 0, .slice none 0 0], .slice none 0 0, .int .i64 20]) (by simp [results, Try.results12, go_sem]) rfl ⟨rfl, (Below.refl _ w).alloc (Nat.le_refl _) _⟩
theorem split_at {α : Type} (l : List α) (i : Nat) (h : i < l.length) : l = l.take i ++ [l[i]] ++ l.drop (i + 1) := by
  rw [List.append_assoc, List.singleton_append, ← List.drop_eq_getElem_cons h, List.take_append_drop]
theorem erase_at {α : Type} (l : List α) (i : Nat) : l.eraseIdx i = l.take i ++ l.drop (i + 1) := List.eraseIdx_eq_take_drop_succ l i
theorem own_some {w : World} {B e sz n : Nat} {v : Value} {xs : List Value} (h : w.ownsRow B e sz v n xs) (hn : n ≠ 0) : ∃ g C, v = .slice (some ⟨g, 0, none⟩) n C := by
  rcases h.2 with ⟨_, h0⟩ | ⟨g, cap, cur, hv, _⟩
  · exact absurd h0 hn
  · exact ⟨g, cap, hv⟩
/-- slices.Delete of one message. -/
theorem cutOne_any (B g cap i : Nat) (l : Msgs) (hi : i < l.length) (hn : l.length ≤ 10000) (w : World) (hB : B ≤ w.heap.size) (hown : OwnO B w (.slice (some ⟨g, 0, none⟩) l.length cap) l) :
    Calls Try.prog 19 #[.slice (some ⟨g, 0, none⟩) l.length cap, .int .i64 (i : Int), .int .i64 ((i + 1 : Nat) : Int)] w fun e w' => e = .returned (.slice (some ⟨g, 0, none⟩) (l.length - 1) cap) ∧ OwnO B w' (.slice (some ⟨g, 0, none⟩) (l.length - 1) cap) (l.eraseIdx i) ∧ w.grownBy w' (some g) ∧ Stay (fun _ => False) 29 w w' := by
  obtain ⟨css, h1, h2, h3, h4⟩ := hown
  have hic : i < css.length := by omega
  have hs := split_at css i hic
  have hrow := h3
  rw [hs, List.flatten_append, List.flatten_append] at hrow
  have ht := flat_len (sz := 8) (css.take i) (fun cs hcs => (h2 cs (List.mem_of_mem_take hcs)).1)
  have hd := flat_len (sz := 8) (css.drop (i + 1)) (fun cs hcs => (h2 cs (List.mem_of_mem_drop hcs)).1)
  have hm : ([css[i]] : List (List Value)).flatten.length = 8 := by
    rw [flat_len (sz := 8) _ (fun cs hcs => by rw [List.mem_singleton.1 hcs]; exact (h2 _ (List.getElem_mem hic)).1)]
    rfl
  rw [List.length_take] at ht
  rw [List.length_drop] at hd
  refine (cut_ms B g cap l.length i (i + 1) (l.length - 1) _ _ _ (by rw [ht, Nat.min_eq_left (by omega)]) (by rw [hm]; omega) (by rw [hd, h1]) (flat_one' fun cs hcs => h2 cs (List.mem_of_mem_drop hcs)) (by omega) (by omega) hn (by omega) w hrow).mono ?_
  rintro e w' ⟨rfl, hown', hgr⟩
  have hst : Stay (fun _ => False) 29 w w' := Stay.grown h3 hgr
  have hle : (l.eraseIdx i).length = l.length - 1 := List.length_eraseIdx_of_lt hi
  refine ⟨rfl, ⟨css.eraseIdx i, by rw [hle, List.length_eraseIdx_of_lt hic, h1], fun cs hcs => h2 cs (List.mem_of_mem_eraseIdx hcs), ?_, fun j cs x hj hx => ?_⟩, hgr, hst⟩
  · rw [hle, erase_at, List.flatten_append]
    exact hown'
  · rw [List.getElem?_eraseIdx] at hj hx
    split at hj
    · rename_i hlt
      rw [if_pos hlt] at hx
      exact msO_stay hst (h4 _ cs x hj hx)
    · rename_i hlt
      rw [if_neg hlt] at hx
      exact msO_stay hst (h4 _ cs x hj hx)
theorem ownO_at {B g cap : Nat} {w : World} {l : Msgs} (hown : OwnO B w (.slice (some ⟨g, 0, none⟩) l.length cap) l) {i : Nat} {m : Msg} (hm : l[i]? = some m) :
    ∃ c, (∀ j u, (mc m c)[j]? = some u → w.cell? ⟨g, i * 8 + j, none⟩ = some u) ∧ w.ownsRow B 51 2 c m.log.length (enCells m.log) := by
  obtain ⟨css, h1, h2, h3, h4⟩ := hown
  have hi := (List.getElem?_eq_some_iff.1 hm).1
  have hcs := List.getElem?_eq_getElem (show i < css.length by omega)
  obtain ⟨c, e, hc⟩ := h4 i _ m hcs hm
  rw [e] at hcs
  refine ⟨c, fun j u hj => ?_, hc⟩
  have hj8 : j < 8 := (List.getElem?_eq_some_iff.1 hj).1
  have h5 := h3.cells (g := g) rfl _ _ ((flat_get (fun cs hc => (h2 cs hc).1) i _ hcs j hj8).trans hj)
  rwa [Addr.add_lit, Nat.zero_add] at h5
/-! A box of a message. -/
/-- A message is written into its box. -/
abbrev Num.setM (W : World) (b : Nat) (m : Msg) (v : Value) : World := ((((((((W.setCell ⟨b, 0, none⟩ (.int .i64 m.a0)).setCell ⟨b, 1, none⟩ (.int .i64 m.a1)).setCell ⟨b, 2, none⟩ (.int .i64 m.a2)).setCell ⟨b, 3, none⟩ (.int .i64 m.a3)).setCell ⟨b, 4, none⟩ (.int .i64 m.a4)).setCell ⟨b, 5, none⟩ (.int .i64 m.a5)).setCell ⟨b, 6, none⟩ (.int .i64 m.a6)).setCell ⟨b, 7, none⟩ v)
theorem setM_grown (W : World) (b : Nat) (m : Msg) (v : Value) : W.grownBy (setM W b m v) (some b) :=
  ((((((((grown_set W b 0 _)).trans (grown_set _ b 1 _)).trans (grown_set _ b 2 _)).trans (grown_set _ b 3 _)).trans (grown_set _ b 4 _)).trans (grown_set _ b 5 _)).trans (grown_set _ b 6 _)).trans (grown_set _ b 7 _)
theorem setM_0 {W : World} {b : Nat} (m : Msg) (v : Value) (h : W.heap[b]? = some (.cells #[.int .i64 0, .int .i64 0, .int .i64 0, .int .i64 0, .int .i64 0, .int .i64 0, .int .i64 0, .slice none 0 0] 29 (0, 0))) : (W.setCell ⟨b, 0, none⟩ (.int .i64 m.a0)).heap[b]? = some (.cells #[.int .i64 m.a0, .int .i64 0, .int .i64 0, .int .i64 0, .int .i64 0, .int .i64 0, .int .i64 0, .slice none 0 0] 29 (0, 0)) := (heap_setCell_same W b 0 _ _ _ h).trans (by simp)
theorem setM_1 {W : World} {b : Nat} (m : Msg) (v : Value) (h : W.heap[b]? = some (.cells #[.int .i64 m.a0, .int .i64 0, .int .i64 0, .int .i64 0, .int .i64 0, .int .i64 0, .int .i64 0, .slice none 0 0] 29 (0, 0))) : (W.setCell ⟨b, 1, none⟩ (.int .i64 m.a1)).heap[b]? = some (.cells #[.int .i64 m.a0, .int .i64 m.a1, .int .i64 0, .int .i64 0, .int .i64 0, .int .i64 0, .int .i64 0, .slice none 0 0] 29 (0, 0)) := (heap_setCell_same W b 1 _ _ _ h).trans (by simp)
theorem setM_2 {W : World} {b : Nat} (m : Msg) (v : Value) (h : W.heap[b]? = some (.cells #[.int .i64 m.a0, .int .i64 m.a1, .int .i64 0, .int .i64 0, .int .i64 0, .int .i64 0, .int .i64 0, .slice none 0 0] 29 (0, 0))) : (W.setCell ⟨b, 2, none⟩ (.int .i64 m.a2)).heap[b]? = some (.cells #[.int .i64 m.a0, .int .i64 m.a1, .int .i64 m.a2, .int .i64 0, .int .i64 0, .int .i64 0, .int .i64 0, .slice none 0 0] 29 (0, 0)) := (heap_setCell_same W b 2 _ _ _ h).trans (by simp)
theorem setM_3 {W : World} {b : Nat} (m : Msg) (v : Value) (h : W.heap[b]? = some (.cells #[.int .i64 m.a0, .int .i64 m.a1, .int .i64 m.a2, .int .i64 0, .int .i64 0, .int .i64 0, .int .i64 0, .slice none 0 0] 29 (0, 0))) : (W.setCell ⟨b, 3, none⟩ (.int .i64 m.a3)).heap[b]? = some (.cells #[.int .i64 m.a0, .int .i64 m.a1, .int .i64 m.a2, .int .i64 m.a3, .int .i64 0, .int .i64 0, .int .i64 0, .slice none 0 0] 29 (0, 0)) := (heap_setCell_same W b 3 _ _ _ h).trans (by simp)
theorem setM_4 {W : World} {b : Nat} (m : Msg) (v : Value) (h : W.heap[b]? = some (.cells #[.int .i64 m.a0, .int .i64 m.a1, .int .i64 m.a2, .int .i64 m.a3, .int .i64 0, .int .i64 0, .int .i64 0, .slice none 0 0] 29 (0, 0))) : (W.setCell ⟨b, 4, none⟩ (.int .i64 m.a4)).heap[b]? = some (.cells #[.int .i64 m.a0, .int .i64 m.a1, .int .i64 m.a2, .int .i64 m.a3, .int .i64 m.a4, .int .i64 0, .int .i64 0, .slice none 0 0] 29 (0, 0)) := (heap_setCell_same W b 4 _ _ _ h).trans (by simp)
theorem setM_5 {W : World} {b : Nat} (m : Msg) (v : Value) (h : W.heap[b]? = some (.cells #[.int .i64 m.a0, .int .i64 m.a1, .int .i64 m.a2, .int .i64 m.a3, .int .i64 m.a4, .int .i64 0, .int .i64 0, .slice none 0 0] 29 (0, 0))) : (W.setCell ⟨b, 5, none⟩ (.int .i64 m.a5)).heap[b]? = some (.cells #[.int .i64 m.a0, .int .i64 m.a1, .int .i64 m.a2, .int .i64 m.a3, .int .i64 m.a4, .int .i64 m.a5, .int .i64 0, .slice none 0 0] 29 (0, 0)) := (heap_setCell_same W b 5 _ _ _ h).trans (by simp)
theorem setM_6 {W : World} {b : Nat} (m : Msg) (v : Value) (h : W.heap[b]? = some (.cells #[.int .i64 m.a0, .int .i64 m.a1, .int .i64 m.a2, .int .i64 m.a3, .int .i64 m.a4, .int .i64 m.a5, .int .i64 0, .slice none 0 0] 29 (0, 0))) : (W.setCell ⟨b, 6, none⟩ (.int .i64 m.a6)).heap[b]? = some (.cells #[.int .i64 m.a0, .int .i64 m.a1, .int .i64 m.a2, .int .i64 m.a3, .int .i64 m.a4, .int .i64 m.a5, .int .i64 m.a6, .slice none 0 0] 29 (0, 0)) := (heap_setCell_same W b 6 _ _ _ h).trans (by simp)
theorem setM_7 {W : World} {b : Nat} (m : Msg) (v : Value) (h : W.heap[b]? = some (.cells #[.int .i64 m.a0, .int .i64 m.a1, .int .i64 m.a2, .int .i64 m.a3, .int .i64 m.a4, .int .i64 m.a5, .int .i64 m.a6, .slice none 0 0] 29 (0, 0))) : (W.setCell ⟨b, 7, none⟩ (v)).heap[b]? = some (.cells #[.int .i64 m.a0, .int .i64 m.a1, .int .i64 m.a2, .int .i64 m.a3, .int .i64 m.a4, .int .i64 m.a5, .int .i64 m.a6, v] 29 (0, 0)) := (heap_setCell_same W b 7 _ _ _ h).trans (by simp)
theorem setM_heap {W : World} {b : Nat} (m : Msg) (v : Value) (h : W.heap[b]? = some (.cells #[.int .i64 0, .int .i64 0, .int .i64 0, .int .i64 0, .int .i64 0, .int .i64 0, .int .i64 0, .slice none 0 0] 29 (0, 0))) : (setM W b m v).heap[b]? = some (.cells #[.int .i64 m.a0, .int .i64 m.a1, .int .i64 m.a2, .int .i64 m.a3, .int .i64 m.a4, .int .i64 m.a5, .int .i64 m.a6, v] 29 (0, 0)) := (setM_7 m v (setM_6 m v (setM_5 m v (setM_4 m v (setM_3 m v (setM_2 m v (setM_1 m v (setM_0 m v h))))))))
theorem ownO_grown {B : Nat} {W W' : World} {v : Value} {l : Msgs} {b : Nat} (h : OwnO B W v l) (hg : W.grownBy W' (some b)) (hb : b < B) : OwnO B W' v l := by
  have far : ∀ {e sz n : Nat} {u : Value} {xs : List Value}, W.ownsRow B e sz u n xs → W'.ownsRow B e sz u n xs := fun hr => hr.kept hg (by
    rename_i u _
    cases hu : u.ownBlock with
    | none => exact .inl rfl
    | some k =>
      refine .inr fun e => ?_
      cases e
      have := (hr.lt b hu).1
      omega)
  obtain ⟨css, h1, h2, h3, h4⟩ := h
  exact ⟨css, h1, h2, far h3, fun i cs x a c => by
    obtain ⟨c, e, h⟩ := h4 i cs x a c
    exact ⟨c, e, far h⟩⟩
theorem ownE_grown {B : Nat} {W W' : World} {n : Nat} {v : Value} {xs : List Value} {b : Nat} (hr : W.ownsRow B 51 2 v n xs) (hg : W.grownBy W' (some b)) (hb : b < B) : W'.ownsRow B 51 2 v n xs := hr.kept hg (by
    cases hu : v.ownBlock with
    | none => exact .inl rfl
    | some k =>
      refine .inr fun e => ?_
      cases e
      have := (hr.lt b hu).1
      omega)
set_option maxRecDepth 100000 in
set_option maxHeartbeats 600000 in
theorem take_yes (l : Msgs) (ao : Option Addr) (cap i : Nat) (m : Msg) (hi : l[i]? = some m) (hlen : l.length ≤ 3000) (hlog : ∀ m ∈ l, m.log.length ≤ 3000) (w : World) (hl : LiesM w w.heap.size ao l) :
    Calls Try.prog 12 #[.slice ao l.length cap, .int .i64 (i : Int)] w fun e w' => ∃ bo c ao2 cap2, e = .returned (.tuple #[.agg #[.int .i64 m.a0, .int .i64 m.a1, .int .i64 m.a2, .int .i64 m.a3, .int .i64 m.a4, .int .i64 m.a5, .int .i64 m.a6, .slice bo m.log.length c], .slice ao2 (l.length - 1) cap2, .int .i64 0]) ∧ LiesM w' w'.heap.size ao2 (l.eraseIdx i) ∧ LiesE w' w'.heap.size bo m.log ∧ Below w.heap.size w w' ∧ l.length - 1 ≤ cap2 := by
  have hil := (List.getElem?_eq_some_iff.1 hi).1
  have HI : Hid (l[i]? = some m) := hi
  clear hi
  have hp := fun w1 => place_yes l ao cap i hil w1
  have hcop := fun o => copied_any l ao cap hlen hlog (w.alloc o) (liesM_next hl ((Below.refl _ w).alloc (Nat.le_refl _) _) (by simp))
  have hzero : ∀ X : World, X.heap[w.heap.size]? = some (.cells #[.int .i64 0, .int .i64 0, .int .i64 0, .int .i64 0, .int .i64 0, .int .i64 0, .int .i64 0, .slice none 0 0] 29 (0, 0)) → X.cell? ⟨w.heap.size, 0, none⟩ = some (.int .i64 0) ∧ X.frozen? ⟨w.heap.size, 0, none⟩ = false ∧ X.cell? ⟨w.heap.size, 1, none⟩ = some (.int .i64 0) ∧ X.frozen? ⟨w.heap.size, 1, none⟩ = false ∧ X.cell? ⟨w.heap.size, 2, none⟩ = some (.int .i64 0) ∧ X.frozen? ⟨w.heap.size, 2, none⟩ = false ∧ X.cell? ⟨w.heap.size, 3, none⟩ = some (.int .i64 0) ∧ X.frozen? ⟨w.heap.size, 3, none⟩ = false ∧ X.cell? ⟨w.heap.size, 4, none⟩ = some (.int .i64 0) ∧ X.frozen? ⟨w.heap.size, 4, none⟩ = false ∧ X.cell? ⟨w.heap.size, 5, none⟩ = some (.int .i64 0) ∧ X.frozen? ⟨w.heap.size, 5, none⟩ = false ∧ X.cell? ⟨w.heap.size, 6, none⟩ = some (.int .i64 0) ∧ X.frozen? ⟨w.heap.size, 6, none⟩ = false ∧ X.cell? ⟨w.heap.size, 7, none⟩ = some (.slice none 0 0) ∧ X.frozen? ⟨w.heap.size, 7, none⟩ = false := fun X h => ⟨box_cell h 0 _ rfl, box_open h 0, box_cell h 1 _ rfl, box_open h 1, box_cell h 2 _ rfl, box_open h 2, box_cell h 3 _ rfl, box_open h 3, box_cell h 4 _ rfl, box_open h 4, box_cell h 5 _ rfl, box_open h 5, box_cell h 6 _ rfl, box_open h 6, box_cell h 7 _ rfl, box_open h 7⟩
  go_enter Try.func12, Try.ntmps12
  go_wp2_with (first
    | (go_at_call 21; refine (hp _).mono ?_; rintro e w1 ⟨rfl, rfl⟩)
    | (go_at_call 18; refine (hcop _).mono ?_; rintro e w1 ⟨v, rfl, hown1, hb1⟩
       obtain ⟨g, C, rfl⟩ : ∃ g C, v = .slice (some ⟨g, 0, none⟩) l.length C := by
         obtain ⟨_, _, _, h3, _⟩ := hown1
         exact own_some h3 (by omega)
       obtain ⟨lc, hc, hlo⟩ := ownO_at hown1 HI.out
       obtain ⟨bo, cl, rfl, _⟩ := ownE_lies hlo
       have e0 := hc 0 _ rfl
       have e1 := hc 1 _ rfl
       have e2 := hc 2 _ rfl
       have e3 := hc 3 _ rfl
       have e4 := hc 4 _ rfl
       have e5 := hc 5 _ rfl
       have e6 := hc 6 _ rfl
       have e7 := hc 7 _ rfl
       rw [Nat.add_zero] at e0
       clear hcop hp hc))
  have hsz0 := hb1.size
  simp only [World.size_alloc] at hown1 hlo hsz0
  have hgB : w.heap.size + 1 ≤ g ∧ g < w1.heap.size := by
    obtain ⟨_, _, _, h3, _⟩ := hown1
    exact h3.lt g rfl
  obtain ⟨W2, hW2⟩ : ∃ W2, W2 = (w1.alloc (.cells #[.int .i64 m.a0, .int .i64 m.a1, .int .i64 m.a2, .int .i64 m.a3, .int .i64 m.a4, .int .i64 m.a5, .int .i64 m.a6, .slice bo m.log.length cl] 29)).drew := ⟨_, rfl⟩
  have hb2 : Below w1.heap.size w1 W2 := by rw [hW2]; exact ((Below.refl _ w1).alloc (Nat.le_refl _) _).drew
  have k0 : W2.heap[w.heap.size]? = some (.cells #[.int .i64 0, .int .i64 0, .int .i64 0, .int .i64 0, .int .i64 0, .int .i64 0, .int .i64 0, .slice none 0 0] 29 (0, 0)) := below_box hb2 (below_box hb1 (heap_new w _))
  have k1 : W2.heap[w1.heap.size]? = some (.cells #[.int .i64 m.a0, .int .i64 m.a1, .int .i64 m.a2, .int .i64 m.a3, .int .i64 m.a4, .int .i64 m.a5, .int .i64 m.a6, .slice bo m.log.length cl] 29 (0, 0)) := by rw [hW2]; exact heap_new w1 _
  have hown2 := ownO_below hown1 hb2
  have hlo2 := own_below hlo hb2
  have hs2 := hb2.size
  have hBel2 : Below w.heap.size w W2 := (below_box0 hb1).trans (hb2.mono (by omega))
  have hcell : ∀ X : World, X.heap[w1.heap.size]? = some (.cells #[.int .i64 m.a0, .int .i64 m.a1, .int .i64 m.a2, .int .i64 m.a3, .int .i64 m.a4, .int .i64 m.a5, .int .i64 m.a6, .slice bo m.log.length cl] 29 (0, 0)) → X.cell? ⟨w1.heap.size, 0, none⟩ = some (.int .i64 m.a0) ∧ X.cell? ⟨w1.heap.size, 1, none⟩ = some (.int .i64 m.a1) ∧ X.cell? ⟨w1.heap.size, 2, none⟩ = some (.int .i64 m.a2) ∧ X.cell? ⟨w1.heap.size, 3, none⟩ = some (.int .i64 m.a3) ∧ X.cell? ⟨w1.heap.size, 4, none⟩ = some (.int .i64 m.a4) ∧ X.cell? ⟨w1.heap.size, 5, none⟩ = some (.int .i64 m.a5) ∧ X.cell? ⟨w1.heap.size, 6, none⟩ = some (.int .i64 m.a6) ∧ X.cell? ⟨w1.heap.size, 7, none⟩ = some (.slice bo m.log.length cl) := fun X h => ⟨box_cell h 0 _ rfl, box_cell h 1 _ rfl, box_cell h 2 _ rfl, box_cell h 3 _ rfl, box_cell h 4 _ rfl, box_cell h 5 _ rfl, box_cell h 6 _ rfl, box_cell h 7 _ rfl⟩
  have hS0 := hcell _ k1
  have hsz2 : w.heap.size + 1 ≤ W2.heap.size := by omega
  have hcut := cutOne_any _ g C i l hil (by omega) W2 hsz2 hown2
  rw [show ((i + 1 : Nat) : Int) = (i : Int) + 1 by omega] at hcut
  clear hown1 hown2 e0 e1 e2 e3 e4 e5 e6 e7
  have hw1 : IntKind.i64.wrap ((i : Int) + 1) = (i : Int) + 1 := by rw [IntKind.wrap_i64]; omega
  subst hW2
  go_region_held_law (fun w' => w'.cell? ⟨w1.heap.size, 0, none⟩ = some (.int .i64 m.a0) ∧ w'.cell? ⟨w1.heap.size, 1, none⟩ = some (.int .i64 m.a1) ∧ w'.cell? ⟨w1.heap.size, 2, none⟩ = some (.int .i64 m.a2) ∧ w'.cell? ⟨w1.heap.size, 3, none⟩ = some (.int .i64 m.a3) ∧ w'.cell? ⟨w1.heap.size, 4, none⟩ = some (.int .i64 m.a4) ∧ w'.cell? ⟨w1.heap.size, 5, none⟩ = some (.int .i64 m.a5) ∧ w'.cell? ⟨w1.heap.size, 6, none⟩ = some (.int .i64 m.a6) ∧ w'.cell? ⟨w1.heap.size, 7, none⟩ = some (.slice bo m.log.length cl)) (first | with_reducible exact hS0 | with_reducible exact hS3 | with_reducible exact hS4)
    (first
      | (go_at_call 19; refine hcut.mono ?_; rintro e w3 ⟨rfl, hown3, hgr3, hst3⟩
         have k13 := grown_box hgr3 k1 (by omega)
         have hS3 := hcell _ k13
         have k03 := grown_box hgr3 k0 (by omega)
         obtain ⟨x0, r0, x1, r1, x2, r2, x3, r3, x4, r4, x5, r5, x6, r6, x7, r7⟩ := hzero _ k03
         have hgr4 := setM_grown w3 w.heap.size m (.slice bo m.log.length cl)
         have hS4 := hcell _ (grown_box hgr4 k13 (by omega))
         clear hcut hcell hzero))
  have kX := setM_heap m (.slice bo m.log.length cl) k03
  have hownX := ownO_grown hown3 hgr4 (by omega)
  have hloX := ownE_grown (own_stay hlo2 hst3 (by decide) (fun _ h => h)) hgr4 (by omega)
  have hs3 := hgr3.size
  have hC6 : l.length - 1 ≤ C := by
    obtain ⟨_, _, _, h3, _⟩ := hownX
    rw [List.length_eraseIdx_of_lt hil] at h3
    obtain ⟨_, _, _, _, h, _⟩ := row_open h3
    exact h
  have hBelX := (hBel2.grown hgr3 (by omega) (fun j hj => by cases hj; omega)).grown hgr4 (by omega) (fun j hj => by cases hj; exact Nat.le_refl _)
  clear hgr4 hS4
  unfold setM at kX hownX hloX hBelX
  generalize ((((((((w3.setCell ⟨w.heap.size, 0, none⟩ (.int .i64 m.a0)).setCell ⟨w.heap.size, 1, none⟩ (.int .i64 m.a1)).setCell ⟨w.heap.size, 2, none⟩ (.int .i64 m.a2)).setCell ⟨w.heap.size, 3, none⟩ (.int .i64 m.a3)).setCell ⟨w.heap.size, 4, none⟩ (.int .i64 m.a4)).setCell ⟨w.heap.size, 5, none⟩ (.int .i64 m.a5)).setCell ⟨w.heap.size, 6, none⟩ (.int .i64 m.a6)).setCell ⟨w.heap.size, 7, none⟩ (.slice bo m.log.length cl)) = X at *
  have q0 := box_cell kX 0 _ rfl
  have q1 := box_cell kX 1 _ rfl
  have q2 := box_cell kX 2 _ rfl
  have q3 := box_cell kX 3 _ rfl
  have q4 := box_cell kX 4 _ rfl
  have q5 := box_cell kX 5 _ rfl
  have q6 := box_cell kX 6 _ rfl
  have q7 := box_cell kX 7 _ rfl
  obtain ⟨bo5, cap5, hv5, hle5⟩ := ownE_lies hloX
  cases hv5
  obtain ⟨ao6, cap6, hv6, hl6⟩ := ownO_lies hownX
  obtain ⟨rfl, _, rfl⟩ : some ⟨g, 0, none⟩ = ao6 ∧ True ∧ C = cap6 := by
    simp only [Value.slice.injEq] at hv6
    exact ⟨hv6.1, trivial, hv6.2.2⟩
  go_wp2
  refine bodyPost_ret (v := .tuple #[.agg #[.int .i64 m.a0, .int .i64 m.a1, .int .i64 m.a2, .int .i64 m.a3, .int .i64 m.a4, .int .i64 m.a5, .int .i64 m.a6, .slice bo m.log.length cl], .slice (some ⟨g, 0, none⟩) (l.length - 1) C, .int .i64 0]) (by simp [results, Try.results12, go_sem, q0, q1, q2, q3, q4, q5, q6, q7]) rfl ⟨bo, cl, some ⟨g, 0, none⟩, C, rfl, hl6, hle5, hBelX, hC6⟩
end Go.Proofs.Ytpimkfichadiiaa
