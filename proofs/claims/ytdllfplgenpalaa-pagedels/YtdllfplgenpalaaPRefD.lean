/-
  Pages of the call's own in a row of another age; the document's own Put of whatever pages; what the document's own Del leaves, told by a loop.
-/
import Derived.Test.YtdllfplgenpalaaPRefC
namespace Go.Proofs.Ytdllfplgenpalaa
open Go.RowKit Num
open scoped Classical
set_option linter.unusedVariables false

set_option maxRecDepth 100000 in
set_option maxHeartbeats 1000000 in
theorem refPut_any (ps : Pages) (ao : Option Addr) (cap : Nat) (k v : ByteArray) (h900 : ps.length ≤ 900) (hp4 : ∀ p ∈ ps, p.length ≤ 1000) (w : World) (hl : LiesPg w w.heap.size ao ps) :
    Calls Try.prog 15 #[.slice ao ps.length cap, .string k, .string v] w fun e w' => ∃ ao' cap', e = .returned (.slice ao' (putA ps k v).length cap') ∧ LiesPg w' w'.heap.size ao' (putA ps k v) ∧ Below w.heap.size w w' := by
  by_cases hr : RightP ps
  · rw [putA_yes hr]
    by_cases hne : ps = []
    · subst hne
      have hright := refRight_yes [] ao cap (by simp) (by simp) hr w hl
      rw [show putP [] k v = [[⟨k, v⟩]] from rfl]
      clear hr
      go_enter Try.func15, Try.ntmps15
      go_wp2_with (first
        | (go_at_call 10; refine hright.mono ?_; rintro e w1 ⟨rfl, hq⟩; have hq' := hq.symm; clear hq; subst hq'))
      go_ret
      exact ⟨_, 1, rfl, lies_one w _ rfl k v, boxes_below _ _ _⟩
    · exact refPut_go ps hr hne ao cap k v h900 w hl
  · have hright := refRight_no ps ao cap h900 hp4 hr w hl
    rw [putA_no hr]
    clear hr
    go_enter Try.func15, Try.ntmps15
    go_wp2_with (first
      | (go_at_call 10; refine hright.mono ?_; rintro e w1 ⟨rfl, hq⟩; have hq' := hq.symm; clear hq; subst hq'))
    go_ret
    exact ⟨none, 0, rfl, lies_nil _ _ _, Below.refl _ _⟩

/-! A row of pages, opened. -/
theorem ownPs_open {B : Nat} {w : World} {v : Value} {ps : Pages} (h : OwnPs B w v ps) : ∃ cs : List Value, cs.length = ps.length ∧ w.ownsRow B 34 1 v ps.length cs ∧ PagesV B w cs ps := by
  obtain ⟨css, h1, h2, h3, h4⟩ := h
  have hlen : css.flatten.length = ps.length := by have := h3.1; rwa [Nat.mul_one] at this
  refine ⟨css.flatten, hlen, h3, ?_⟩
  intro i c p hc hp
  have hi := (List.getElem?_eq_some_iff.1 hp).1
  have hcs : css[i]? = some (css[i]'(by omega)) := List.getElem?_eq_getElem _
  obtain ⟨c', e, hown⟩ := h4 i _ p hcs hp
  have hg := flat_get (fun cs hcs => (h2 cs hcs).1) i _ hcs 0 (by decide)
  rw [Nat.mul_one, Nat.add_zero, hc, e] at hg
  cases hg
  exact hown
theorem ownPs_set {B gl C i : Nat} {w : World} {ps : Pages} {c' : Value} {p' : List Pr} (h : OwnPs B w (.slice (some ⟨gl, 0, none⟩) ps.length C) ps) (hi : i < ps.length) (hB : B ≤ w.heap.size) (hc' : w.ownsRow B 41 2 c' p'.length (prCells p')) :
    OwnPs B (w.setCell ⟨gl, i, none⟩ c') (.slice (some ⟨gl, 0, none⟩) (ps.set i p').length C) (ps.set i p') ∧ w.frozen? ⟨gl, i, none⟩ = false ∧ Below B w (w.setCell ⟨gl, i, none⟩ c') := by
  obtain ⟨cs, hl, hrow, hV⟩ := ownPs_open h
  have hst := hrow.stored i c'
  have hgl := (hrow.lt gl rfl).1
  have hkeep : ∀ (d : Value) (r : List Pr), w.ownsRow B 41 2 d r.length (prCells r) → (w.setCell ⟨gl, i, none⟩ c').ownsRow B 41 2 d r.length (prCells r) := fun d r hd => hd.kept hst.2 (ne_or (fun g hg hx => own_unlike hrow hd (by decide) g hx hg))
  refine ⟨ownPs_mk (cs := cs.set i c') (by simp [hl]) (by rw [List.length_set]; exact hst.1) ?_, hrow.frozenAt i, below_grown hst.2 hgl hB⟩
  intro j d q hd hq
  rw [set_get] at hd hq
  by_cases hij : i = j
  · rw [if_pos hij] at hd hq
    rw [if_pos (by omega)] at hd hq
    cases hd
    cases hq
    exact hkeep _ _ hc'
  · rw [if_neg hij] at hd hq
    exact hkeep d q (hV j d q hd hq)
/-- A row of pages, younger than the pages. -/
abbrev Num.OwnP2 (B B2 : Nat) (w : World) (v : Value) (ps : Pages) : Prop := OwnS (fun _ => PgV B2) 34 1 B w v ps
theorem ownP2_lies {B B2 : Nat} {w : World} {v : Value} {ps : Pages} (h : OwnP2 B B2 w v ps) : ∃ ao cap, v = .slice ao ps.length cap ∧ LiesPg w w.heap.size ao ps := by
  refine h.lies (PgAt w.heap.size) ?_
  rintro p cs l ⟨c, rfl, hc⟩ _ hcell hs
  obtain ⟨bo, cap, rfl, hl, hcap⟩ := own_lies hc
  exact ⟨bo, cap, at_zero hs (hcell 0 _ rfl), hl, hcap⟩
theorem ownP2_below {B B2 : Nat} {w w' : World} {v : Value} {ps : Pages} (h : OwnP2 B B2 w v ps) (hb : Below w.heap.size w w') : OwnP2 B B2 w' v ps := by
  obtain ⟨css, h1, h2, h3, h4⟩ := h
  exact ⟨css, h1, h2, own_below h3 hb, fun i cs x a b => pgV_below hb (h4 i cs x a b)⟩
theorem wpList_appP2 {ops : Array Oper} {rest : List Oper} {o : Oper} {a : Act} {Q : Exit → Act → World → Prop} (W : World) (hgd : o.guard = none) (s x : Operand)
    (ho : o.op = .call { callee := .builtin .append, args := #[s, x], argTypes := #[22, 22] }) (base B2 : Nat) (v : Value) (acc : Pages) (hs : a.eval s = v) (hown : OwnP2 base B2 W v acc)
    (b : Nat) (hx : a.eval x = .slice (some ⟨b, 0, none⟩) 1 1) (c : Value) (p : List Pr) (hc : W.ownsRow B2 41 2 c p.length (prCells p)) (hcell : W.cell? ⟨b, 0, none⟩ = some c) (hn : acc.length ≤ 1000) (hbase : base ≤ W.heap.size)
    (h : ∀ v' w', OwnP2 base B2 w' v' (acc ++ [p]) → Below base W w' → Stay (fun _ => False) 34 W w' → wpList Try.prog ops Q rest (a.put o.dst v') w') : wpList Try.prog ops Q (o :: rest) a W := by
  obtain ⟨css, hcl, hcc, hrow, hV⟩ := hown
  refine wpList_appX W hgd s x 22 ho 34 1 24 Try.underlying22 Try.infoPg base v acc.length css.flatten hs hrow ⟨b, 0, none⟩ 1 [c] hx rfl (by intro u hu; rw [List.mem_singleton.1 hu]; exact own_one hc) (by
    intro j u hj
    cases j with
    | zero =>
      simp at hj
      subst hj
      rw [addr_zero]
      exact hcell
    | succ j => simp at hj) ⟨hn, by decide, by decide, rfl⟩ hbase ?_
  intro v' w' hrow' hb hst
  refine h v' w' (own_snoc hcl hcc rfl (by intro u hu; rw [List.mem_singleton.1 hu]; exact own_one hc) hrow' (fun i cs x hi hx => pgV_hold (HoldX.of_stay hst) (hV i cs x hi hx)) ⟨c, rfl, own_stay hc hst (by decide) (fun _ h => h)⟩) hb hst
/-! What the loop leaves. -/
def Num.nz (p : List Pr) : Bool := decide (0 < p.length)
theorem nz_take {L : Pages} {c : Nat} {y : List Pr} (hy : L[c]? = some y) (h : 0 < y.length) : (L.take (c + 1)).filter nz = (L.take c).filter nz ++ [y] := by
  rw [take_succ_at hy, List.filter_append]
  congr 1
  simp [nz, h]
theorem nz_skip {L : Pages} {c : Nat} {y : List Pr} (hy : L[c]? = some y) (h : ¬ 0 < y.length) : (L.take (c + 1)).filter nz = (L.take c).filter nz := by
  rw [take_succ_at hy, List.filter_append]
  have : y = [] := List.eq_nil_of_length_eq_zero (by omega)
  simp [nz, this]
theorem nz_len (L : Pages) (c : Nat) : ((L.take c).filter nz).length ≤ c := Nat.le_trans (List.length_filter_le _ _) (by rw [List.length_take]; omega)
theorem nz_all {L : Pages} (h : ∀ p ∈ L, 1 ≤ p.length) : L.filter nz = L := by
  rw [List.filter_eq_self]
  intro p hp
  have := h p hp
  simp [nz]
  omega
def Num.bothS (L : Pages) (f : Nat) (pq : List Pr) (i : Nat) : Pages := if i ≤ f then L.take i else L.take f ++ (pq :: (L.drop (f + 2)).take (i - (f + 2)))
theorem both_low {L : Pages} {f c : Nat} {pq y : List Pr} (hy : L[c]? = some y) (h : c < f) : bothS L f pq (c + 1) = bothS L f pq c ++ [y] := by
  unfold bothS
  rw [if_pos (by omega), if_pos (by omega), take_succ_at hy]
theorem both_at (L : Pages) (f : Nat) (pq : List Pr) : bothS L f pq (f + 1) = bothS L f pq f ++ [pq] := by
  unfold bothS
  rw [if_neg (by omega), if_pos (Nat.le_refl _), show f + 1 - (f + 2) = 0 by omega]
  rfl
theorem both_skip (L : Pages) (f : Nat) (pq : List Pr) : bothS L f pq (f + 1 + 1) = bothS L f pq (f + 1) := by
  unfold bothS
  rw [if_neg (by omega), if_neg (by omega), show f + 1 + 1 - (f + 2) = 0 by omega, show f + 1 - (f + 2) = 0 by omega]
theorem both_high {L : Pages} {f c : Nat} {pq y : List Pr} (hy : L[c]? = some y) (h : f + 1 < c) : bothS L f pq (c + 1) = bothS L f pq c ++ [y] := by
  unfold bothS
  rw [if_neg (by omega), if_neg (by omega)]
  have hd : (L.drop (f + 2))[c - (f + 2)]? = some y := by
    rw [List.getElem?_drop, show f + 2 + (c - (f + 2)) = c by omega]
    exact hy
  rw [show c + 1 - (f + 2) = (c - (f + 2)) + 1 by omega, take_succ_at hd]
  simp
theorem both_end {L : Pages} {f : Nat} (pq : List Pr) (h : f + 1 < L.length) : bothS L f pq L.length = L.take f ++ (pq :: L.drop (f + 2)) := by
  unfold bothS
  rw [if_neg (by omega), show (L.drop (f + 2)).take (L.length - (f + 2)) = L.drop (f + 2) from List.take_of_length_le (by rw [List.length_drop]; omega)]
theorem both_len {L : Pages} {f i : Nat} (pq : List Pr) (hi : i ≤ L.length) : (bothS L f pq i).length ≤ L.length + 1 := by
  unfold bothS
  split
  · rw [List.length_take]
    omega
  · simp only [List.length_append, List.length_cons, List.length_take, List.length_drop]
    omega
theorem gone_nz {ps : Pages} (h : ∀ p ∈ ps, 1 ≤ p.length) {i : Nat} (hi : i < ps.length) : (ps.set i []).filter nz = ps.take i ++ ps.drop (i + 1) := by
  have hp : ps[i]? = some (ps[i]'hi) := List.getElem?_eq_getElem hi
  rw [set_at hp, List.filter_append, List.filter_cons, nz_all (fun p hp => h p (List.mem_of_mem_take hp)), nz_all (fun p hp => h p (List.mem_of_mem_drop hp))]
  rfl
end Go.Proofs.Ytdllfplgenpalaa
