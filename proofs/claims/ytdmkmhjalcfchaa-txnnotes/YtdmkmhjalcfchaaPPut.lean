/-
  Joined:
  Contracts: pages with a pair more (7.2).
  Contracts: pages with a pair more (7.2), the whole.
  Contracts: pages with a pair more (7.2), of whatever pages.
-/
import Derived.Test.YtdmkmhjalcfchaaPFind
import Derived.Test.YtdmkmhjalcfchaaPA
import Derived.Test.YtdmkmhjalcfchaaPIns
import Derived.Test.YtdmkmhjalcfchaaPT
import Derived.Test.YtdmkmhjalcfchaaPl
import Derived.Deep.RegionWith
namespace Go.Proofs.Ytdmkmhjalcfchaa
open Go.RowKit Num
open scoped Classical
set_option linter.unusedVariables false
set_option maxRecDepth 100000

theorem lies_drop {w : World} {B g C : Nat} {p : List Pr} (h : w.ownsRow B 52 2 (.slice (some ⟨g, 0, none⟩) p.length C) p.length (prCells p)) (k : Nat) : LiesPr w w.heap.size (some ⟨g, k * 2, none⟩) (p.drop k) := by
  obtain ⟨ao, cap, e, hl, _⟩ := own_lies h
  cases e
  intro i x hx
  rw [List.getElem?_drop] at hx
  obtain ⟨a, e, hb, h1⟩ := hl (k + i) x hx
  cases e
  refine ⟨_, rfl, hb, ?_⟩
  rw [Addr.add_lit] at h1 ⊢
  rw [show k * 2 + i * 2 = 0 + (k + i) * 2 by omega]
  exact h1
theorem prCells_split (p : List Pr) (k : Nat) : prCells p = prCells (p.take k) ++ prCells (p.drop k) := by rw [← prCells_append, List.take_append_drop]
theorem below_grown {B : Nat} {w w1 : World} {g : Nat} (h : w.grownBy w1 (some g)) (hg : B ≤ g) (hB : B ≤ w.heap.size) : Below B w w1 := ⟨h.os, h.tape, h.output, h.size, fun k hk => h.block k (by omega) (by intro e; cases e; omega)⟩

theorem take_one {cs : List Value} {ps : Pages} (h : cs.length = ps.length) (i : Nat) : (cs.take i).length = (ps.take i).length := by
  rw [List.length_take, List.length_take, h]
theorem insPage (B gq Cq i : Nat) (cs : List Value) (ps : Pages) (c : Value) (q : List Pr) (hi : i ≤ ps.length) (hn : ps.length ≤ 5000) (w : World) (hB : B ≤ w.heap.size) (hown : OwnPg B w (.slice (some ⟨gq, 0, none⟩) ps.length Cq) cs ps) (hq : w.ownsRow B 52 2 c q.length (prCells q)) :
    Calls Try.prog 95 #[.slice (some ⟨gq, 0, none⟩) ps.length Cq, .int .i64 (i : Int), .slice (some ⟨w.heap.size, 0, none⟩) 1 1] (w.alloc (.cells #[c] 22)) fun e w' => ∃ ao cap, e = .returned (.slice ao (ps.length + 1) cap) ∧ OwnPs B w' (.slice ao (ps.length + 1) cap) (ps.take i ++ ([q] ++ ps.drop i)) ∧ Below B w w' := by
  obtain ⟨hl, hrow, hV, hap⟩ := hown
  have hone := pages_one hl hV
  have hgq := hrow.lt gq rfl
  have h := ins_pg B gq Cq ps.length i w.heap.size (cs.take i) (cs.drop i) [c] (by rw [List.length_take]; omega) (by rw [List.length_drop]; omega) rfl (fun v hv => hone v (List.mem_of_mem_take hv)) (fun v hv => hone v (List.mem_of_mem_drop hv)) (by intro u hu; rw [List.mem_singleton.1 hu]; exact own_one hq) hi (by omega) (w.alloc (.cells #[c] 22)) (by omega) (by rw [List.take_append_drop]; exact hrow.alloc _) (heap_new w _)
  refine h.mono ?_
  rintro e w' ⟨ao, cap, rfl, hrow', hgr, _⟩
  have hkeep : ∀ (d : Value) (r : List Pr), w.ownsRow B 52 2 d r.length (prCells r) → w'.ownsRow B 52 2 d r.length (prCells r) := fun d r hd => (hd.alloc _).kept hgr (ne_or (fun g hg hx => own_unlike hrow hd (by decide) g hx hg))
  refine ⟨ao, cap, rfl, ownPs_mk (cs := cs.take i ++ ([c] ++ cs.drop i)) ?_ ?_ ?_, ?_⟩
  · simp [hl]
  · have e1 : (ps.take i ++ ([q] ++ ps.drop i)).length = ps.length + 1 := by
      simp
      omega
    rw [e1, ← List.append_assoc]
    exact hrow'
  · refine pagesV_append (take_one hl i) (fun j d r hd hr => hkeep d r (pagesV_take hV i j d r hd hr)) (pagesV_append rfl (pagesV_one (hkeep c q hq)) (fun j d r hd hr => hkeep d r (pagesV_drop hV i j d r hd hr)))
  · exact ((Below.refl B w).alloc hB _).trans (below_grown hgr hgq.1 (by simp; omega))

set_option maxRecDepth 100000 in
set_option maxHeartbeats 4000000 in
theorem parted_any (B gq Cq i : Nat) (cs : List Value) (ps : Pages) (p : List Pr) (hp : ps[i]? = some p) (h5 : 5 ≤ p.length ∧ p.length ≤ 5000) (hn : ps.length ≤ 5000) (w : World) (hB : B ≤ w.heap.size) (hown : OwnPg B w (.slice (some ⟨gq, 0, none⟩) ps.length Cq) cs ps) :
    Calls Try.prog 77 #[.slice (some ⟨gq, 0, none⟩) ps.length Cq, .int .i64 (i : Int)] w fun e w' => ∃ ao cap, e = .returned (.slice ao (ps.length + 1) cap) ∧ OwnPs B w' (.slice ao (ps.length + 1) cap) (ps.take i ++ (p.take 4 :: p.drop 4 :: ps.drop (i + 1))) ∧ Below B w w' := by
  have hil := (List.getElem?_eq_some_iff.1 hp).1
  have hcl := hown.len
  have hc : cs[i]? = some (cs[i]'(by omega)) := List.getElem?_eq_getElem _
  have hpw := hown.pages i _ p hc hp
  obtain ⟨g, C, hce⟩ := own_some hpw (by omega)
  rw [hce] at hc hpw
  obtain ⟨_, _, _, _, hpC, hCm, _⟩ := row_open hpw
  have hgl := (hpw.lt g rfl).2
  have k1 : w.cell? ⟨gq, i, none⟩ = some (.slice (some ⟨g, 0, none⟩) p.length C) := row_cell hown.row hc
  have hcall := clone_any (some ⟨g, 8, none⟩) (C - 4) (p.drop 4) (by intro e; have := congrArg List.length e; simp at this; omega) (by rw [List.length_drop]; omega) w (lies_drop hpw 4)
  have hdel : ∀ w1, Below w.heap.size w w1 → Calls Try.prog 94 #[.slice (some ⟨g, 0, none⟩) p.length C, .int .i64 4, .int .i64 (p.length : Int)] w1.drew fun e w' => e = .returned (.slice (some ⟨g, 0, none⟩) 4 C) ∧ w'.ownsRow B 52 2 (.slice (some ⟨g, 0, none⟩) 4 C) 4 (prCells (p.take 4)) ∧ w1.grownBy w' (some g) := by
    intro w1 hb1
    have h1 : w1.drew.ownsRow B 52 2 (.slice (some ⟨g, 0, none⟩) p.length C) p.length (prCells (p.take 4) ++ prCells (p.drop 4) ++ []) := by
      rw [List.append_nil, ← prCells_split]
      exact (own_below hpw hb1).drew
    have h2 := cut_pr B g C p.length 4 p.length 4 (prCells (p.take 4)) (prCells (p.drop 4)) [] (by rw [prCells_len, List.length_take]; omega) (by rw [prCells_len, List.length_drop]) (by simp) (by simp) (by omega) (Nat.le_refl _) (by omega) (by omega) w1.drew h1
    rw [List.append_nil] at h2
    exact h2.mono fun e w' ⟨a, b, c⟩ => ⟨a, b, grown_drew c⟩
  have hk2 : ∀ w1 w2 : World, Below w.heap.size w w1 → w1.grownBy w2 (some g) → w2.cell? ⟨gq, i, none⟩ = some (.slice (some ⟨g, 0, none⟩) p.length C) ∧ w2.frozen? ⟨gq, i, none⟩ = false := by
    intro w1 w2 hb1 hg2
    have hr2 := (own_below hown.row hb1).kept hg2 (ne_or (own_unlike (own_below hown.row hb1) (own_below hpw hb1) (by decide)))
    exact ⟨row_cell hr2 hc, hr2.frozenAt i⟩
  have hfin : ∀ (w1 w2 : World) ao1 cap1, w1.ownsRow w.heap.size 52 2 (.slice ao1 (p.drop 4).length cap1) (p.drop 4).length (prCells (p.drop 4)) → Below w.heap.size w w1 → w2.ownsRow B 52 2 (.slice (some ⟨g, 0, none⟩) 4 C) 4 (prCells (p.take 4)) → w1.grownBy w2 (some g) →
      Calls Try.prog 95 #[.slice (some ⟨gq, 0, none⟩) ps.length Cq, .int .i64 ((i : Int) + 1), .slice (some ⟨w2.heap.size, 0, none⟩) 1 1] ((w2.setCell ⟨gq, i, none⟩ (.slice (some ⟨g, 0, none⟩) 4 C)).alloc (.cells #[.slice ao1 (p.length - 4) cap1] 22)) fun e w' => ∃ ao cap, e = .returned (.slice ao (ps.length + 1) cap) ∧ OwnPs B w' (.slice ao (ps.length + 1) cap) (ps.take i ++ (p.take 4 :: p.drop 4 :: ps.drop (i + 1))) ∧ Below B w w' := by
    intro w1 w2 ao1 cap1 h1 hb1 h2 hg2
    have hs1 := hb1.size
    have htl : (p.take 4).length = 4 := by rw [List.length_take]; omega
    obtain ⟨hturn, hbt⟩ := ownPg_turn (w1 := w2) (c' := .slice (some ⟨g, 0, none⟩) 4 C) (p' := p.take 4) (ownPg_below hown hb1) hc hp (by rw [htl]; exact h2) hg2 (.inl rfl)
    have hz : (w2.setCell ⟨gq, i, none⟩ (.slice (some ⟨g, 0, none⟩) 4 C)).heap.size = w2.heap.size := by simp
    have hr2 := (own_below hown.row hb1).kept hg2 (ne_or (own_unlike (own_below hown.row hb1) (own_below hpw hb1) (by decide)))
    have hq2 : w2.ownsRow B 52 2 (.slice ao1 (p.drop 4).length cap1) (p.drop 4).length (prCells (p.drop 4)) := own_mono (h1.kept hg2 (ne_or (fun x hx e => by cases e; have := (h1.lt g hx).1; omega))) hB
    have hq3 := hq2.kept (hr2.stored i (.slice (some ⟨g, 0, none⟩) 4 C)).2 (ne_or (fun x hx e => own_unlike hr2 hq2 (by decide) x e hx))
    have hlen : (ps.set i (p.take 4)).length = ps.length := by simp
    rw [← hlen] at hturn
    have hc3 := insPage B gq Cq (i + 1) _ (ps.set i (p.take 4)) _ _ (by rw [hlen]; omega) (by rw [hlen]; omega) _ (by rw [hz]; have := hg2.size; omega) hturn hq3
    rw [hz, hlen, List.length_drop, show (((i + 1 : Nat)) : Int) = (i : Int) + 1 by omega] at hc3
    refine hc3.mono ?_
    rintro e w' ⟨ao, cap, rfl, ho, hb⟩
    refine ⟨ao, cap, rfl, ?_, ((hb1.mono hB).trans hbt).trans hb⟩
    have e1 : (ps.set i (p.take 4)).take (i + 1) ++ ([p.drop 4] ++ (ps.set i (p.take 4)).drop (i + 1)) = ps.take i ++ (p.take 4 :: p.drop 4 :: ps.drop (i + 1)) := by
      have hx : (ps.set i (p.take 4))[i]? = some (p.take 4) := List.getElem?_set_self hil
      rw [take_succ_at hx, List.take_set_of_le (Nat.le_refl _), List.drop_set_of_lt (by omega)]
      simp
    rw [e1] at ho
    exact ho
  rw [List.length_drop] at hcall hfin
  unfold maxLen at hCm
  have f1 : (i : Int) < (ps.length : Int) := by omega
  have f2 : ¬ (C = 4) := by omega
  have f3 : (4 : Int) ≤ (p.length : Int) := by omega
  have f4 : 4 ≤ p.length := by omega
  have kk : ∀ w1 : World, Below w.heap.size w w1 → w1.cell? ⟨gq, i, none⟩ = some (.slice (some ⟨g, 0, none⟩) p.length C) := fun w1 hb1 => (hb1.cell (cell_lt k1)).trans k1
  clear hown hpw hp hc hce
  go_enter Try.func77, Try.ntmps77
  go_wp2_with (first
    | (go_at_call 91; refine hcall.mono ?_; rintro e w1 ⟨ao1, cap1, rfl, hown1, hb1⟩))
  have k2 := kk w1 hb1
  have k3 : w1.drew.cell? ⟨gq, i, none⟩ = some (.slice (some ⟨g, 0, none⟩) p.length C) := k2
  clear hcall kk
  go_region_with (go_at_call 94; refine (hdel w1 hb1).mono ?_; rintro e w2 ⟨rfl, hown2, hg2⟩; obtain ⟨k4, k5⟩ := hk2 w1 w2 hb1 hg2)
  all_goals
    go_wp2_with (first
      | (go_at_call 95; refine (hfin w1 w2 ao1 cap1 hown1 hb1 hown2 hg2).mono ?_; rintro e w3 ⟨ao3, cap3, rfl, ho3, hb3⟩))
    go_ret
    exact ⟨ao3, cap3, rfl, ho3, hb3⟩
end Go.Proofs.Ytdmkmhjalcfchaa
namespace Go.Proofs.Ytdmkmhjalcfchaa
open Go.RowKit Num
open scoped Classical
set_option linter.unusedVariables false
set_option maxRecDepth 100000

/-- 7.2, of whatever pages. -/
def Num.putA (ps : Pages) (k v : ByteArray) [Decidable (RightP ps)] : Pages := if RightP ps then putP ps k v else []
theorem putA_yes {ps : Pages} {k v : ByteArray} (h : RightP ps) : putA ps k v = putP ps k v := if_pos h
theorem putA_no {ps : Pages} {k v : ByteArray} (h : ¬ RightP ps) : putA ps k v = [] := if_neg h
theorem lies_nil (w : World) (B : Nat) (ao : Option Addr) : LiesPg w B ao [] := fun i x hx => by simp at hx
theorem prCells_set (p : List Pr) : ∀ (j : Nat) x v, p[j]? = some x → (prCells p).set (j * 2 + 1) (.string v) = prCells (p.set j ⟨x.key, v⟩) := by
  induction p with
  | nil => intro j x v h; simp at h
  | cons y p ih =>
    intro j x v h
    cases j with
    | zero =>
      simp at h
      subst h
      rfl
    | succ j =>
      have h' : p[j]? = some x := by simpa using h
      rw [prCells_cons, show (j + 1) * 2 + 1 = (j * 2 + 1) + 1 + 1 by omega]
      show Value.string y.key :: Value.string y.val :: (prCells p).set (j * 2 + 1) (.string v) = _
      rw [ih j x v h']
      rfl
theorem ownPg_at {B gq Cq : Nat} {w : World} {cs : List Value} {ps : Pages} (h : OwnPg B w (.slice (some ⟨gq, 0, none⟩) ps.length Cq) cs ps) : LiesPg w w.heap.size (some ⟨gq, 0, none⟩) ps := by
  obtain ⟨ao, cap, e, hl⟩ := ownPg_lies h
  cases e
  exact hl
theorem ownPg_page {B gq Cq i : Nat} {w : World} {cs : List Value} {ps : Pages} {p : List Pr} (h : OwnPg B w (.slice (some ⟨gq, 0, none⟩) ps.length Cq) cs ps) (hp : ps[i]? = some p) (hne : p.length ≠ 0) :
    ∃ g C, cs[i]? = some (.slice (some ⟨g, 0, none⟩) p.length C) ∧ w.ownsRow B 52 2 (.slice (some ⟨g, 0, none⟩) p.length C) p.length (prCells p) ∧ w.cell? ⟨gq, i, none⟩ = some (.slice (some ⟨g, 0, none⟩) p.length C) := by
  have hil := (List.getElem?_eq_some_iff.1 hp).1
  have hcl := h.len
  have hc : cs[i]? = some (cs[i]'(by omega)) := List.getElem?_eq_getElem _
  have hpw := h.pages i _ p hc hp
  obtain ⟨g, C, hce⟩ := own_some hpw hne
  rw [hce] at hc hpw
  exact ⟨g, C, hc, hpw, row_cell h.row hc⟩
theorem own_pair {w : World} {B g C j : Nat} {p : List Pr} {x : Pr} (h : w.ownsRow B 52 2 (.slice (some ⟨g, 0, none⟩) p.length C) p.length (prCells p)) (hx : p[j]? = some x) : w.cell? ⟨g, j * 2, none⟩ = some (.string x.key) ∧ w.cell? ⟨g, j * 2 + 1, none⟩ = some (.string x.val) := by
  obtain ⟨h1, h2⟩ := prCells_get p j x hx
  have h3 := h.cells (g := g) rfl _ _ h1
  have h4 := h.cells (g := g) rfl _ _ h2
  rw [Addr.add_lit, Nat.zero_add] at h3 h4
  exact ⟨h3, h4⟩
/-- What is there ahead of the two ways of Put. -/
theorem put_start (ps : Pages) (hr : RightP ps) (hne : ps ≠ []) (ao : Option Addr) (cap : Nat) (k : ByteArray) (h1000 : ps.length ≤ 4200) (p : List Pr) (hp : ps[ofP ps k]? = some p) (w : World) (hl : LiesPg w w.heap.size ao ps) :
    Calls Try.prog 73 #[.slice ao ps.length cap] w (fun e w' => e = .returned (.bool true) ∧ Below w.heap.size w w') ∧
    (∀ w1, Below w.heap.size w w1 → Calls Try.prog 75 #[.slice ao ps.length cap] w1 fun e w' => ∃ gq Cq cs, e = .returned (.slice (some ⟨gq, 0, none⟩) ps.length Cq) ∧ OwnPg w1.heap.size w' (.slice (some ⟨gq, 0, none⟩) ps.length Cq) cs ps ∧ Below w1.heap.size w1 w') ∧
    (∀ B gq Cq cs w2, OwnPg B w2 (.slice (some ⟨gq, 0, none⟩) ps.length Cq) cs ps → Calls Try.prog 74 #[.slice (some ⟨gq, 0, none⟩) ps.length Cq, .string k] w2 fun e w' => e = .returned (.tuple #[.int .i64 (ofP ps k : Int), .int .i64 (cntK p k : Int), .bool (hasK p k)]) ∧ OwnPg B w' (.slice (some ⟨gq, 0, none⟩) ps.length Cq) cs ps ∧ Below w2.heap.size w2 w') := by
  have hright := right_any ps ao cap (by omega) (fun q hq => by have := hr.1 q hq; omega) w hl
  rw [tru_yes hr] at hright
  refine ⟨hright, fun w1 hb1 => ?_, fun B gq Cq cs w2 hown => ?_⟩
  · refine (copied_any ps ao cap (by omega) hr.1 w1 (liesPg_next hl hb1 hb1.size)).mono ?_
    rintro e w2 ⟨v2, cs, rfl, hown, hb2⟩
    obtain ⟨gq, Cq, rfl⟩ := own_some hown.row (by intro h0; exact hne (List.eq_nil_of_length_eq_zero h0))
    exact ⟨gq, Cq, cs, rfl, hown, hb2⟩
  · refine (find_any ps hr _ Cq k (by omega) p hp w2 (ownPg_at hown)).mono ?_
    rintro e w3 ⟨rfl, hb3⟩
    exact ⟨rfl, ownPg_below hown hb3, hb3⟩
set_option maxRecDepth 100000 in
set_option maxHeartbeats 4000000 in
theorem put_old (ps : Pages) (hr : RightP ps) (hne : ps ≠ []) (ao : Option Addr) (cap : Nat) (k v : ByteArray) (h1000 : ps.length ≤ 4200) (p : List Pr) (hp : ps[ofP ps k]? = some p) (hh : hasK p k = true) (w : World) (hl : LiesPg w w.heap.size ao ps) :
    Calls Try.prog 66 #[.slice ao ps.length cap, .string k, .string v] w fun e w' => ∃ ao' cap', e = .returned (.slice ao' (putP ps k v).length cap') ∧ LiesPg w' w'.heap.size ao' (putP ps k v) ∧ Below w.heap.size w w' := by
  obtain ⟨hright, hcop, hfind⟩ := put_start ps hr hne ao cap k h1000 p hp w hl
  have hp8 := hr.1 p (List.mem_of_getElem? hp)
  have hol := (List.getElem?_eq_some_iff.1 hp).1
  have f1 : ((ofP ps k : Nat) : Int) < (ps.length : Int) := by omega
  have hpl : ¬ ps = [] := hne
  rw [hh] at hfind
  obtain ⟨x, hx, hxk⟩ := hasK_yes hh
  have hput := put_short (v := v) hp (by rw [ins_has hx hxk, List.length_set]; omega)
  rw [ins_has hx hxk] at hput
  rw [hput]
  clear hput hh hxk hr
  generalize ofP ps k = M at *
  generalize cntK p k = J at *
  have hjl := (List.getElem?_eq_some_iff.1 hx).1
  have f2 : (J : Int) < (p.length : Int) := by omega
  have hdone : ∀ (w3 : World) B gq Cq g C cs, OwnPg B w3 (.slice (some ⟨gq, 0, none⟩) ps.length Cq) cs ps → cs[M]? = some (.slice (some ⟨g, 0, none⟩) p.length C) → w.heap.size ≤ B → B ≤ w3.heap.size → Below w.heap.size w w3 →
      ∃ ao' cap', (Ending.returned (.slice (some ⟨gq, 0, none⟩) ps.length Cq)) = .returned (.slice ao' (ps.set M (p.set J ⟨x.key, v⟩)).length cap') ∧ LiesPg (w3.setCell ⟨g, J * 2 + 1, none⟩ (.string v)) (w3.setCell ⟨g, J * 2 + 1, none⟩ (.string v)).heap.size ao' (ps.set M (p.set J ⟨x.key, v⟩)) ∧ Below w.heap.size w (w3.setCell ⟨g, J * 2 + 1, none⟩ (.string v)) := by
    intro w3 B gq Cq g C cs hown hc hB hB3 hb3
    have hpw := hown.pages M _ p hc hp
    have hst := hpw.stored (J * 2 + 1) (.string v)
    rw [prCells_set p J x v hx] at hst
    obtain ⟨h1, h2⟩ := ownPg_place (p' := p.set J ⟨x.key, v⟩) hown hc hp (by rw [List.length_set]; exact hst.1) hst.2 hB3
    obtain ⟨ao', cap', e, hl'⟩ := ownPg_lies h1
    exact ⟨ao', cap', by rw [e], hl', hb3.trans (h2.mono hB)⟩
  go_enter Try.func66, Try.ntmps66
  go_wp2_with (first
    | (go_at_call 73; refine hright.mono ?_; rintro e w1 ⟨rfl, hb1⟩)
    | (go_at_call 75; refine (hcop w1 hb1).mono ?_; rintro e w2 ⟨gq, Cq, cs, rfl, hown2, hb2⟩)
    | (go_at_call 74; refine (hfind _ gq Cq cs w2 hown2).mono ?_; rintro e w3 ⟨rfl, hown3, hb3⟩
       obtain ⟨g, C, hc, hpw, k1⟩ := ownPg_page hown3 hp (by omega)
       obtain ⟨k2, k3⟩ := own_pair hpw hx
       have k4 := hpw.frozenAt (J * 2 + 1)))
  go_ret
  have s1 := hb1.size
  have s2 := hb2.size
  have s3 := hb3.size
  exact hdone w3 w1.heap.size gq Cq g C cs hown3 hc s1 (by omega) ((hb1.trans (hb2.mono s1)).trans (hb3.mono (by omega)))
set_option maxRecDepth 100000 in
set_option maxHeartbeats 4000000 in
theorem put_more (ps : Pages) (hr : RightP ps) (hne : ps ≠ []) (ao : Option Addr) (cap : Nat) (k v : ByteArray) (h1000 : ps.length ≤ 4200) (p : List Pr) (hp : ps[ofP ps k]? = some p) (hh : hasK p k = false) (w : World) (hl : LiesPg w w.heap.size ao ps) :
    Calls Try.prog 66 #[.slice ao ps.length cap, .string k, .string v] w fun e w' => ∃ ao' cap', e = .returned (.slice ao' (putP ps k v).length cap') ∧ LiesPg w' w'.heap.size ao' (putP ps k v) ∧ Below w.heap.size w w' := by
  obtain ⟨hright, hcop, hfind⟩ := put_start ps hr hne ao cap k h1000 p hp w hl
  have hp8 := hr.1 p (List.mem_of_getElem? hp)
  have hol := (List.getElem?_eq_some_iff.1 hp).1
  have f1 : ((ofP ps k : Nat) : Int) < (ps.length : Int) := by omega
  have hpl : ¬ ps = [] := hne
  rw [hh] at hfind
  have hins := ins_new (v := v) (right_page hr hp) hh
  have hkl := cntK_le p k
  have hil : (insL p k v).length = p.length + 1 := by
    rw [hins]
    simp
    omega
  have hcells : prCells (insL p k v) = prCells (p.take (cntK p k)) ++ [.string k, .string v] ++ prCells (p.drop (cntK p k)) := by
    rw [hins, prCells_append, prCells_append]
    rfl
  have hps : (insL p k v).length ≤ 8 → putP ps k v = ps.set (ofP ps k) (insL p k v) := put_short hp
  have hpg : 8 < (insL p k v).length → putP ps k v = ps.take (ofP ps k) ++ ((insL p k v).take 4 :: (insL p k v).drop 4 :: ps.drop (ofP ps k + 1)) := put_long hp
  clear hh hr hins
  generalize putP ps k v = out at *
  generalize insL p k v = p' at *
  generalize ofP ps k = M at *
  generalize cntK p k = J at *
  have hcall : ∀ (w3 : World) B g C, w3.ownsRow B 52 2 (.slice (some ⟨g, 0, none⟩) p.length C) p.length (prCells p) → Calls Try.prog 76 #[.slice (some ⟨g, 0, none⟩) p.length C, .int .i64 (J : Int), .slice (some ⟨w3.heap.size, 0, none⟩) 1 1] (w3.alloc (.cells #[.string k, .string v] 52)) (InsSays_pr B g p.length C (w3.alloc (.cells #[.string k, .string v] 52)) (prCells p')) := by
    intro w3 B g C hpw
    have hg := (hpw.lt g rfl).2
    rw [hcells]
    exact ins_pr B g C p.length J w3.heap.size (prCells (p.take J)) (prCells (p.drop J)) [.string k, .string v] (by rw [prCells_len, List.length_take]; omega) (by rw [prCells_len, List.length_drop]) rfl (prCells_one _) (prCells_one _) (one2 ⟨k, v⟩) hkl (by omega) _ (by omega) (by rw [← prCells_split]; exact hpw.alloc _) (heap_new w3 _)
  have hturn : ∀ (w3 w4 : World) B gq Cq g C cs ao4 cap4, OwnPg B w3 (.slice (some ⟨gq, 0, none⟩) ps.length Cq) cs ps → cs[M]? = some (.slice (some ⟨g, 0, none⟩) p.length C) → w4.ownsRow B 52 2 (.slice ao4 (p.length + 1) cap4) (p.length + 1) (prCells p') → (w3.alloc (.cells #[.string k, .string v] 52)).grownBy w4 (some g) → Near (w3.alloc (.cells #[.string k, .string v] 52)) (.slice (some ⟨g, 0, none⟩) p.length C) (.slice ao4 (p.length + 1) cap4) →
      w4.cell? ⟨gq, M, none⟩ = some (.slice (some ⟨g, 0, none⟩) p.length C) ∧ w4.frozen? ⟨gq, M, none⟩ = false ∧
      OwnPg B (w4.setCell ⟨gq, M, none⟩ (.slice ao4 (p.length + 1) cap4)) (.slice (some ⟨gq, 0, none⟩) ps.length Cq) (cs.set M (.slice ao4 (p.length + 1) cap4)) (ps.set M p') ∧ Below B w3 (w4.setCell ⟨gq, M, none⟩ (.slice ao4 (p.length + 1) cap4)) ∧ (w4.setCell ⟨gq, M, none⟩ (.slice ao4 (p.length + 1) cap4)).cell? ⟨gq, M, none⟩ = some (.slice ao4 (p.length + 1) cap4) := by
    intro w3 w4 B gq Cq g C cs ao4 cap4 hown hc h4 hg4 hn4
    have hB3 : B ≤ w3.heap.size := by have := hown.row.lt gq rfl; omega
    have hownA := ownPg_below hown ((Below.refl _ w3).alloc (Nat.le_refl _) (.cells #[.string k, .string v] 52))
    have hpw := hownA.pages M _ p hc hp
    have hr4 := hownA.row.kept hg4 (ne_or (own_unlike hownA.row hpw (by decide)))
    obtain ⟨h1, h2⟩ := ownPg_turn (w1 := w4) (p' := p') hownA hc hp (by rw [hil]; exact h4) hg4 hn4
    have hlc := hown.len
    refine ⟨row_cell hr4 hc, hr4.frozenAt M, h1, ((Below.refl B w3).alloc hB3 _).trans h2, ?_⟩
    have hlen : (ps.set M p').length = ps.length := by simp
    have hrow := h1.row
    rw [hlen] at hrow
    exact row_cell hrow (List.getElem?_set_self (by omega))
  have hpart : ∀ (w5 : World) B gq Cq cs, OwnPg B w5 (.slice (some ⟨gq, 0, none⟩) ps.length Cq) cs (ps.set M p') → B ≤ w5.heap.size → 8 < p.length + 1 → Calls Try.prog 77 #[.slice (some ⟨gq, 0, none⟩) ps.length Cq, .int .i64 (M : Int)] w5 fun e w' => ∃ ao' cap', e = .returned (.slice ao' out.length cap') ∧ LiesPg w' w'.heap.size ao' out ∧ Below B w5 w' := by
    intro w5 B gq Cq cs hown hB h8
    have hlen : (ps.set M p').length = ps.length := by simp
    rw [← hlen] at hown
    have h := parted_any B gq Cq M cs (ps.set M p') p' (List.getElem?_set_self hol) (by omega) (by omega) w5 hB hown
    rw [hlen] at h
    refine h.mono ?_
    rintro e w' ⟨ao', cap', rfl, ho, hb⟩
    rw [List.take_set_of_le (Nat.le_refl _), List.drop_set_of_lt (by omega), ← hpg (by omega)] at ho
    obtain ⟨ao2, cap2, e, hl2⟩ := ownPs_lies ho
    exact ⟨ao2, cap2, by rw [e], hl2, hb⟩
  clear hcells
  by_cases h8 : (8 : Int) < (p.length : Int) + 1
  all_goals
    go_enter Try.func66, Try.ntmps66
    go_wp2_with (first
      | (go_at_call 73; refine hright.mono ?_; rintro e w1 ⟨rfl, hb1⟩)
      | (go_at_call 75; refine (hcop w1 hb1).mono ?_; rintro e w2 ⟨gq, Cq, cs, rfl, hown2, hb2⟩)
      | (go_at_call 74; refine (hfind _ gq Cq cs w2 hown2).mono ?_; rintro e w3 ⟨rfl, hown3, hb3⟩
         obtain ⟨g, C, hc, hpw, k1⟩ := ownPg_page hown3 hp (by omega))
      | (go_at_call 76; refine (hcall w3 _ g C hpw).mono ?_; rintro e w4 ⟨ao4, cap4, rfl, ho4, hg4, hn4⟩
         obtain ⟨k2, k3, hown5, hb5, k4⟩ := hturn w3 w4 _ gq Cq g C cs ao4 cap4 hown3 hc ho4 hg4 hn4)
      | (go_at_call 77; refine (hpart _ _ gq Cq _ hown5 (by have := hb1.size; have := hb2.size; have := hb3.size; have := hb5.size; omega) (by omega)).mono ?_; rintro e w6 ⟨ao6, cap6, rfl, hl6, hb6⟩))
    go_ret
    have s1 := hb1.size
    have s2 := hb2.size
    have s3 := hb3.size
    have hbb := ((hb1.trans (hb2.mono s1)).trans (hb3.mono (by omega))).trans (hb5.mono s1)
    first
      | exact ⟨ao6, cap6, rfl, hl6, hbb.trans (hb6.mono s1)⟩
      | (rw [hps (by omega)]
         obtain ⟨ao', cap', e, hl'⟩ := ownPg_lies hown5
         exact ⟨ao', cap', by rw [← e]; rfl, hl', hbb⟩)
end Go.Proofs.Ytdmkmhjalcfchaa
namespace Go.Proofs.Ytdmkmhjalcfchaa
open Go.RowKit Num
open scoped Classical
set_option linter.unusedVariables false
set_option maxRecDepth 100000

theorem right_nil : RightP [] := ⟨by simp, by simp [Rises]⟩
/-- One page of one pair, just laid. -/
theorem lies_one (w : World) (b : Nat) (hb : w.heap.size = b) (k v : ByteArray) : LiesPg ((w.alloc (.cells #[.string k, .string v] 52)).alloc (.cells #[.slice (some ⟨b, 0, none⟩) 1 1] 22)) ((w.alloc (.cells #[.string k, .string v] 52)).alloc (.cells #[.slice (some ⟨b, 0, none⟩) 1 1] 22)).heap.size (some ⟨b + 1, 0, none⟩) [[⟨k, v⟩]] := by
  subst hb
  have h1 := alloc_box (.cells #[.slice (some ⟨w.heap.size, 0, none⟩) 1 1] 22) (heap_new w (.cells #[.string k, .string v] 52))
  have h2 := heap_newB (w.alloc (.cells #[.string k, .string v] 52)) (.cells #[.slice (some ⟨w.heap.size, 0, none⟩) 1 1] 22) (w.heap.size + 1) (by simp)
  intro i p hp
  cases i with
  | succ i => simp at hp
  | zero =>
    simp at hp
    subst hp
    refine ⟨_, rfl, by simp, _, 1, box_cell h2 0 _ rfl, ?_, Nat.le_refl _⟩
    intro j x hx
    cases j with
    | succ j => simp at hx
    | zero =>
      simp at hx
      subst hx
      exact ⟨_, rfl, by simp; omega, box_cell h1 0 _ rfl, box_cell h1 1 _ rfl⟩
set_option maxRecDepth 100000 in
set_option maxHeartbeats 1000000 in
theorem put_any (ps : Pages) (ao : Option Addr) (cap : Nat) (k v : ByteArray) (h900 : ps.length ≤ 4200) (hp4 : ∀ p ∈ ps, p.length ≤ 5000) (w : World) (hl : LiesPg w w.heap.size ao ps) :
    Calls Try.prog 66 #[.slice ao ps.length cap, .string k, .string v] w fun e w' => ∃ ao' cap', e = .returned (.slice ao' (putA ps k v).length cap') ∧ LiesPg w' w'.heap.size ao' (putA ps k v) ∧ Below w.heap.size w w' := by
  by_cases hr : RightP ps
  · rw [putA_yes hr]
    by_cases hne : ps = []
    · subst hne
      have hright := right_any [] ao cap (by simp) (by simp) w hl
      rw [tru_yes hr] at hright
      rw [show putP [] k v = [[⟨k, v⟩]] from rfl]
      clear hr
      go_enter Try.func66, Try.ntmps66
      go_wp2_with (first
        | (go_at_call 73; refine hright.mono ?_; rintro e w1 ⟨rfl, hb1⟩))
      go_ret
      exact ⟨_, 1, rfl, lies_one w1 _ rfl k v, (hb1.alloc hb1.size _).alloc (by have := hb1.size; simp; omega) _⟩
    · have hof := of_lt k hne
      have hp : ps[ofP ps k]? = some (ps[ofP ps k]'hof) := List.getElem?_eq_getElem hof
      cases hh : hasK (ps[ofP ps k]'hof) k with
      | true => exact put_old ps hr hne ao cap k v h900 _ hp hh w hl
      | false => exact put_more ps hr hne ao cap k v h900 _ hp hh w hl
  · have hright := right_any ps ao cap (by omega) hp4 w hl
    rw [tru_no hr] at hright
    rw [putA_no hr]
    clear hr
    go_enter Try.func66, Try.ntmps66
    go_wp2_with (first
      | (go_at_call 73; refine hright.mono ?_; rintro e w1 ⟨rfl, hb1⟩))
    go_ret
    exact ⟨none, 0, rfl, lies_nil _ _ _, hb1⟩
end Go.Proofs.Ytdmkmhjalcfchaa
