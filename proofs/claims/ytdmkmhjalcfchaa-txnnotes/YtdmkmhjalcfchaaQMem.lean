/-
  Joined:
  What was there at a time stays there (8.6): a store's turn by a version behind that time.
  The document's own store in memory: its box and its row of versions; the last version of a key by its place.
-/
import Derived.Test.YtdmkmhjalcfchaaSNew
import Derived.Test.YtdmkmhjalcfchaaPR
namespace Go.Proofs.Ytdmkmhjalcfchaa
open Go.RowKit Num
open scoped Classical
set_option linter.unusedVariables false
set_option maxRecDepth 100000

theorem within_all (k : ByteArray) : withinB k ⟨#[]⟩ ⟨#[]⟩ = true := by
  unfold withinB
  rw [show (⟨#[]⟩ : ByteArray).toList = [] by rw [Lib.toList_data], bl_nil]
  rfl
theorem since_put (s : Sto) (v : Ver) {t : Int} (ht : t < v.time) (h : sinceV s.vs ⟨#[]⟩ ⟨#[]⟩ t = true) : sinceV (putS s v).2.vs ⟨#[]⟩ ⟨#[]⟩ t = true := by
  unfold sinceV at h ⊢
  rw [List.any_eq_true] at h ⊢
  obtain ⟨x, hx, hxt⟩ := h
  have hv : (decide (t < v.time) && withinB v.key ⟨#[]⟩ ⟨#[]⟩) = true := by rw [within_all, decide_eq_true ht]; rfl
  unfold putS
  split
  · exact ⟨x, hx, hxt⟩
  · split
    · exact ⟨x, hx, hxt⟩
    · split
      · rename_i hm
        obtain ⟨y, hy, _⟩ := lastAt_iff hm
        obtain ⟨a, b, h1, h2, _, _⟩ := turnV_split hy v
        show ∃ z, z ∈ turnV s.vs v.key v ∧ _
        exact ⟨v, by rw [h2]; simp, hv⟩
      · split
        · exact ⟨x, hx, hxt⟩
        · exact ⟨x, by show x ∈ s.vs ++ [v]; simp [hx], hxt⟩
theorem past_scan (s : Sto) (v : Ver) {t : Int} (ht : t < v.time) {r : List Pr} (h : ScanIs s.vs t ⟨#[]⟩ ⟨#[]⟩ r) : ScanIs (putS s v).2.vs t ⟨#[]⟩ ⟨#[]⟩ r := scan_same h (fun k => put_past s v ht k)
end Go.Proofs.Ytdmkmhjalcfchaa
namespace Go.Proofs.Ytdmkmhjalcfchaa
open Go.RowKit Num
open scoped Classical
set_option linter.unusedVariables false
set_option maxRecDepth 100000

/-! The last version of a key that is not behind a time, by its place. -/
def Num.hitV (k : ByteArray) (t : Int) (v : Ver) : Bool := isKey k v && decide (v.time ≤ t)
def Num.lastJ (k : ByteArray) (t : Int) : List Ver → Nat
  | [] => 0
  | x :: l => if 0 < lastJ k t l then lastJ k t l + 1 else if hitV k t x = true then 1 else 0
theorem lastJ_none {k : ByteArray} {t : Int} : ∀ {l : List Ver}, (∀ y ∈ l, hitV k t y = false) → lastJ k t l = 0
  | [], _ => rfl
  | x :: l, h => by
    rw [lastJ, lastJ_none (fun y hy => h y (by simp [hy])), h x (by simp)]
    rfl
theorem lastJ_at {k : ByteArray} {t : Int} : ∀ {l : List Ver} {j : Nat} {v : Ver}, l[j]? = some v → hitV k t v = true → (∀ y ∈ l.drop (j + 1), hitV k t y = false) → lastJ k t l = j + 1
  | [], _, _, h, _, _ => by simp at h
  | x :: l, j, v, h, hv, hd => by
    rw [lastJ]
    cases j with
    | zero =>
      simp at h
      subst h
      rw [lastJ_none (by simpa using hd), if_neg (by omega), if_pos hv]
    | succ j =>
      have := lastJ_at (l := l) (j := j) (by simpa using h) hv (by simpa using hd)
      rw [this, if_pos (by omega)]
theorem lastJ_zero {k : ByteArray} {t : Int} : ∀ {l : List Ver}, lastJ k t l = 0 → ∀ y ∈ l, hitV k t y = false
  | [], _, y, hy => by cases hy
  | x :: l, h, y, hy => by
    rw [lastJ] at h
    split at h
    · omega
    · rename_i h0
      split at h
      · omega
      · rename_i h1
        rcases List.mem_cons.1 hy with rfl | hy
        · simpa using h1
        · exact lastJ_zero (by omega) y hy
theorem lastJ_succ {k : ByteArray} {t : Int} : ∀ {l : List Ver} {j : Nat}, lastJ k t l = j + 1 → ∃ v, l[j]? = some v ∧ hitV k t v = true ∧ ∀ y ∈ l.drop (j + 1), hitV k t y = false
  | [], _, h => by simp [lastJ] at h
  | x :: l, j, h => by
    rw [lastJ] at h
    split at h
    · rename_i h0
      obtain ⟨i, rfl⟩ : ∃ i, j = i + 1 := ⟨j - 1, by omega⟩
      obtain ⟨v, h1, h2, h3⟩ := lastJ_succ (k := k) (t := t) (l := l) (j := i) (by omega)
      exact ⟨v, by simpa using h1, h2, by simpa using h3⟩
    · rename_i h0
      split at h
      · rename_i h1
        obtain rfl : j = 0 := by omega
        exact ⟨x, rfl, h1, by simpa using lastJ_zero (k := k) (t := t) (l := l) (by omega)⟩
      · omega
theorem verT_hit (l : List Ver) (k : ByteArray) (t : Int) : verT l k t = l.filter (hitV k t) := rfl
theorem lastV_zero {k : ByteArray} {t : Int} {l : List Ver} (h : lastJ k t l = 0) : lastV l k t = none := by
  unfold lastV
  rw [verT_hit, List.filter_eq_nil_iff.2 (fun y hy => by rw [lastJ_zero h y hy]; simp)]
  rfl
theorem split_at {α : Type} {l : List α} {j : Nat} {v : α} (h : l[j]? = some v) : l = l.take j ++ (v :: l.drop (j + 1)) := by
  rw [← drop_at h, List.take_append_drop]
theorem lastV_succ {k : ByteArray} {t : Int} {l : List Ver} {j : Nat} {v : Ver} (h : l[j]? = some v) (hv : hitV k t v = true) (hd : ∀ y ∈ l.drop (j + 1), hitV k t y = false) : lastV l k t = some v := by
  unfold lastV
  have hf : (l.drop (j + 1)).filter (hitV k t) = [] := List.filter_eq_nil_iff.2 (fun y hy => by rw [hd y hy]; simp)
  rw [verT_hit]
  conv => lhs; rw [split_at h]
  rw [List.filter_append, List.filter_cons, if_pos hv, hf, List.getLast?_concat]
/-- Behind all times it is the last one of all. -/
theorem hit_all {st : Sto} (h : InvS st) (k : ByteArray) : ∀ y ∈ st.vs, hitV k 1099511627776 y = isKey k y := by
  intro y hy
  unfold hitV
  have := h.2.1 y hy
  have := h.2.2.2.2
  rw [decide_eq_true (by omega), Bool.and_true]
theorem lastA_all {st : Sto} (h : InvS st) (k : ByteArray) : lastV st.vs k 1099511627776 = lastA st.vs k := by
  unfold lastV lastA
  rw [verT_hit]
  congr 1
  exact List.filter_congr (hit_all h k)
theorem turn_set {st : Sto} (h : InvS st) {j : Nat} {x v : Ver} (hx : st.vs[j]? = some x) (hh : hitV v.key 1099511627776 x = true) (hd : ∀ y ∈ st.vs.drop (j + 1), hitV v.key 1099511627776 y = false) : turnV st.vs v.key v = st.vs.set j v := by
  have hl : lastA st.vs v.key = some x := by rw [← lastA_all h, lastV_succ hx hh hd]
  obtain ⟨a, b, h1, h2, h3, h4⟩ := turnV_split hl v
  have hj : lastJ v.key 1099511627776 st.vs = a.length + 1 := by
    refine lastJ_at (v := x) (by rw [h1]; simp) ?_ ?_
    · rw [hit_all h v.key x (by rw [h1]; simp)]
      exact h3
    · intro y hy
      have hy' : y ∈ b := by
        rw [h1, List.drop_append, List.drop_of_length_le (by omega)] at hy
        simpa using hy
      rw [hit_all h v.key y (by rw [h1]; simp [hy'])]
      exact h4 y hy'
  have hj2 := lastJ_at hx hh hd
  obtain rfl : j = a.length := by omega
  rw [h2, h1, List.set_append_right _ _ (Nat.le_refl _), Nat.sub_self]
  rfl
/-! Memory. -/
def Num.rvC (v : Ver) : List Value := [.string v.key, .int .i64 v.time, .string v.val, .bool v.gone]
def Num.rvCells (l : List Ver) : List Value := l.flatMap rvC
theorem rvCells_cons (x : Ver) (l : List Ver) : rvCells (x :: l) = rvC x ++ rvCells l := rfl
theorem rvCells_append (l r : List Ver) : rvCells (l ++ r) = rvCells l ++ rvCells r := by simp [rvCells]
theorem rvCells_len (l : List Ver) : (rvCells l).length = l.length * 4 := by
  induction l with
  | nil => rfl
  | cons x l ih =>
    rw [rvCells_cons, List.length_append, ih, List.length_cons]
    simp [rvC]
    omega
theorem rone4 (x : Ver) : ∀ v ∈ rvC x, v.oneCell' = true := by
  intro v hv
  simp [rvC] at hv
  rcases hv with rfl | rfl | rfl | rfl <;> rfl
theorem rvCells_one (l : List Ver) : ∀ v ∈ rvCells l, v.oneCell' = true := by
  intro v hv
  simp only [rvCells, List.mem_flatMap] at hv
  obtain ⟨y, _, hy⟩ := hv
  exact rone4 y v hy
theorem rvCells_get (l : List Ver) : ∀ (i : Nat) x, l[i]? = some x → (rvCells l)[i * 4]? = some (.string x.key) ∧ (rvCells l)[i * 4 + 1]? = some (.int .i64 x.time) ∧ (rvCells l)[i * 4 + 2]? = some (.string x.val) ∧ (rvCells l)[i * 4 + 3]? = some (.bool x.gone) := by
  induction l with
  | nil => intro i x h; simp at h
  | cons y l ih =>
    intro i x h
    rw [rvCells_cons]
    cases i with
    | zero =>
      simp at h
      subst h
      exact ⟨rfl, rfl, rfl, rfl⟩
    | succ i =>
      have h' : l[i]? = some x := by simpa using h
      obtain ⟨h1, h2, h3, h4⟩ := ih i x h'
      have e : ∀ j, (rvC y ++ rvCells l)[j + 4]? = (rvCells l)[j]? := fun j => by
        rw [List.getElem?_append_right (by simp [rvC])]
        simp [rvC]
      rw [show (i + 1) * 4 = i * 4 + 4 by omega, e, show i * 4 + 4 + 1 = (i * 4 + 1) + 4 by omega, e, show i * 4 + 4 + 2 = (i * 4 + 2) + 4 by omega, e, show i * 4 + 4 + 3 = (i * 4 + 3) + 4 by omega, e]
      exact ⟨h1, h2, h3, h4⟩
theorem rvCells_set (l : List Ver) : ∀ (j : Nat) (x v : Ver), l[j]? = some x → ((((rvCells l).set (j * 4) (.string v.key)).set (j * 4 + 1) (.int .i64 v.time)).set (j * 4 + 2) (.string v.val)).set (j * 4 + 3) (.bool v.gone) = rvCells (l.set j v) := by
  intro j x v h
  have hl := split_at h
  have hjl := (List.getElem?_eq_some_iff.1 h).1
  have e4 : j * 4 = (rvCells (l.take j)).length := by rw [rvCells_len, List.length_take]; omega
  rw [set_at h]
  conv => lhs; rw [hl]
  rw [rvCells_append, rvCells_append, rvCells_cons, rvCells_cons, e4, List.set_append_right _ _ (Nat.le_refl _), Nat.sub_self, List.set_append_right _ _ (by omega), show (rvCells (l.take j)).length + 1 - (rvCells (l.take j)).length = 1 by omega, List.set_append_right _ _ (by omega), show (rvCells (l.take j)).length + 2 - (rvCells (l.take j)).length = 2 by omega, List.set_append_right _ _ (by omega), show (rvCells (l.take j)).length + 3 - (rvCells (l.take j)).length = 3 by omega]
  rfl
theorem Try.infoRV : (Try.prog.info? 91).map (fun i => (i.zero, i.size, i.bytes)) = some (some (.agg #[.string ⟨#[]⟩, .int .i64 0, .string ⟨#[]⟩, .bool false]), 4, 48) := by kernel_rfl
def Num.RVAt (w : World) (p : Addr) (v : Ver) : Prop := w.cell? p = some (.string v.key) ∧ w.cell? ⟨p.block, p.off + 1, none⟩ = some (.int .i64 v.time) ∧ w.cell? ⟨p.block, p.off + 2, none⟩ = some (.string v.val) ∧ w.cell? ⟨p.block, p.off + 3, none⟩ = some (.bool v.gone)
abbrev Num.LiesR (w : World) (B : Nat) (ao : Option Addr) (l : List Ver) : Prop := LiesG RVAt 4 w B ao l
theorem Num.RVAt.fast {B : Nat} : Fast B RVAt := fun w w' p x hp h hb => ⟨(hb.cell hp).trans h.1, (hb.cell (p := ⟨p.block, p.off + 1, none⟩) hp).trans h.2.1, (hb.cell (p := ⟨p.block, p.off + 2, none⟩) hp).trans h.2.2.1, (hb.cell (p := ⟨p.block, p.off + 3, none⟩) hp).trans h.2.2.2⟩
theorem liesR_next {w w' : World} {B : Nat} {ao : Option Addr} {l : List Ver} (h : LiesR w B ao l) (hb : Below B w w') {B' : Nat} (hB : B ≤ B') : LiesR w' B' ao l := (h.below RVAt.fast hb).mono hB fun _ _ h => h
theorem own_liesR {w : World} {B : Nat} {v : Value} {l : List Ver} (h : w.ownsRow B 91 4 v l.length (rvCells l)) : ∃ ao cap, v = .slice ao l.length cap ∧ LiesR w w.heap.size ao l := by
  rcases h.2 with ⟨hv, h0⟩ | ⟨g, cap, cur, hv, _, hg, hcap, _⟩
  · subst hv
    have : l = [] := List.eq_nil_of_length_eq_zero h0
    subst this
    exact ⟨none, 0, rfl, fun i x hx => by simp at hx⟩
  · subst hv
    refine ⟨_, cap, rfl, fun i x hx => ⟨_, rfl, (Array.getElem?_eq_some_iff.1 hg).1, ?_⟩⟩
    obtain ⟨h1, h2, h3, h4⟩ := rvCells_get l i x hx
    have g1 := h.cells (g := g) rfl _ _ h1
    have g2 := h.cells (g := g) rfl _ _ h2
    have g3 := h.cells (g := g) rfl _ _ h3
    have g4 := h.cells (g := g) rfl _ _ h4
    rw [Addr.add_lit] at g1 g2 g3 g4
    rw [Addr.add_lit]
    exact ⟨g1, g2, g3, g4⟩
/-- A pointer to the document's own store that is so. -/
structure Num.RefAt (B : Nat) (w : World) (g : Nat) (st : Sto) (ao : Option Addr) (cap : Nat) : Prop where
  box : w.heap[g]? = some (.cells #[.int .i64 st.room, .int .i64 st.top, .slice ao st.vs.length cap] 89 (0, 0))
  gB : B ≤ g
  row : w.ownsRow B 91 4 (.slice ao st.vs.length cap) st.vs.length (rvCells st.vs)
  inv : InvS st
def Num.HoldR (B : Nat) (w : World) (g : Nat) (st : Sto) : Prop := ∃ ao cap, RefAt B w g st ao cap
def Num.RK (o : Obj) : Prop := match o with
  | .cells _ t _ => t = 89 ∨ t = 91
  | _ => False
theorem Num.RefAt.kept {B : Nat} {w w' : World} {g : Nat} {st : Sto} {ao : Option Addr} {cap : Nat} (h : RefAt B w g st ao cap) (hk : ∀ (i : Nat) (o : Obj), B ≤ i → w.heap[i]? = some o → RK o → w'.heap[i]? = some o) : RefAt B w' g st ao cap :=
  ⟨hk g _ h.gB h.box (.inl rfl), h.gB, own_same h.row (fun i cur hi e => hk i _ hi e (.inr rfl)), h.inv⟩
theorem Num.RefAt.below {B : Nat} {w w' : World} {g : Nat} {st : Sto} {ao : Option Addr} {cap : Nat} (h : RefAt B w g st ao cap) (hb : Below w.heap.size w w') : RefAt B w' g st ao cap := h.kept fun i o _ e _ => below_box hb e
theorem Num.HoldR.kept {B : Nat} {w w' : World} {g : Nat} {st : Sto} (h : HoldR B w g st) (hk : ∀ (i : Nat) (o : Obj), B ≤ i → w.heap[i]? = some o → RK o → w'.heap[i]? = some o) : HoldR B w' g st := by
  obtain ⟨ao, cap, h⟩ := h
  exact ⟨ao, cap, h.kept hk⟩
theorem Num.HoldR.below {B : Nat} {w w' : World} {g : Nat} {st : Sto} (h : HoldR B w g st) (hb : Below w.heap.size w w') : HoldR B w' g st := h.kept fun i o _ e _ => below_box hb e
theorem Num.HoldR.lt {B : Nat} {w : World} {g : Nat} {st : Sto} (h : HoldR B w g st) : B ≤ g ∧ g < w.heap.size := by
  obtain ⟨ao, cap, h⟩ := h
  exact ⟨h.gB, (Array.getElem?_eq_some_iff.1 h.box).1⟩
/-- What the document's own store's methods leave as it was. -/
def Num.QK (o : Obj) : Prop := match o with
  | .cells _ t _ => t ≠ 89 ∧ t ≠ 91
  | .map _ _ => True
  | _ => False
abbrev Num.TurnR (B : Nat) (w w' : World) : Prop := Turns QK B w w'
theorem Num.HoldR.turn {B B' : Nat} {w w' : World} {g : Nat} {st : Sto} (h : HoldR B w g st) (hT : TurnP B' w w') : HoldR B w' g st := h.kept fun i o _ e ho => hT.keep i o e (by
  cases o with
  | cells cs t fr =>
    rcases ho with rfl | rfl
    · exact ⟨by decide, by decide⟩
    · exact ⟨by decide, by decide⟩
  | _ => exact ho.elim)
theorem Num.HoldP.turn {B B' : Nat} {w w' : World} {g : Nat} {st : Sto} (h : HoldP B w g st) (hT : TurnR B' w w') : HoldP B w' g st := h.kept fun i o _ e ho => hT.keep i o e (by
  cases o with
  | cells cs t fr =>
    rcases ho with rfl | rfl | rfl | rfl
    · exact ⟨by decide, by decide⟩
    · exact ⟨by decide, by decide⟩
    · exact ⟨by decide, by decide⟩
    · exact ⟨by decide, by decide⟩
  | map es c => trivial
  | _ => exact ho.elim)
theorem ref_cells {B : Nat} {w : World} {g : Nat} {st : Sto} {ao : Option Addr} {cap : Nat} (h : RefAt B w g st ao cap) : w.cell? ⟨g, 0, none⟩ = some (.int .i64 st.room) ∧ w.cell? ⟨g, 1, none⟩ = some (.int .i64 st.top) ∧ w.cell? ⟨g, 2, none⟩ = some (.slice ao st.vs.length cap) :=
  ⟨box_cell h.box 0 _ rfl, box_cell h.box 1 _ rfl, box_cell h.box 2 _ rfl⟩
theorem ref_lies {B : Nat} {w : World} {g : Nat} {st : Sto} {ao : Option Addr} {cap : Nat} (h : RefAt B w g st ao cap) : LiesR w w.heap.size ao st.vs := by
  obtain ⟨ao1, cap1, e, hl⟩ := own_liesR h.row
  cases e
  exact hl
set_option maxRecDepth 100000 in
set_option maxHeartbeats 2000000 in
theorem rlast_any (B g : Nat) (st : Sto) (k : ByteArray) (t : Int) (hn : st.vs.length ≤ 5000) (w : World) (h : HoldR B w g st) :
    Calls Try.prog 54 #[.pointer (some ⟨g, 0, none⟩), .string k, .int .i64 t] w fun e w' => e = .returned (.int .i64 ((lastJ k t st.vs : Int) - 1)) ∧ w' = w := by
  obtain ⟨ao, cap, h⟩ := h
  obtain ⟨_, _, c2⟩ := ref_cells h
  have hl := ref_lies h
  clear h
  generalize st.vs = l at *
  obtain ⟨J, hJ⟩ : ∃ J, lastJ k t l = J := ⟨_, rfl⟩
  have HJ : Hid (lastJ k t l = J) := hJ
  rw [hJ]
  clear hJ
  go_enter Try.func54, Try.ntmps54
  go_wp2
  go_loop [7] (fun i => ∃ (j : Nat) (z : Int), j ≤ l.length ∧ i = .int .i64 z ∧ Hid (z = (j : Int) - 1 ∧ ∀ y ∈ l.drop j, hitV k t y = false)) (fun i => (intOf i + 1).toNat)
  case atStart => exact ⟨l.length, _, Nat.le_refl _, rfl, rfl, by simp⟩
  case round =>
    obtain ⟨j, z, hj, rfl, HF⟩ := hrel
    cases j with
    | zero =>
      have hz : z = -1 := by have := HF.out.1; omega
      subst hz
      have hno := HF.out.2
      rw [List.drop_zero] at hno
      obtain rfl : 0 = J := (lastJ_none hno).symm.trans HJ.out
      clear HF HJ hno
      go_wp2
      go_ret
      exact ⟨rfl, rfl⟩
    | succ m =>
      have hz : z = (m : Int) := by have := HF.out.1; omega
      subst hz
      have HX : Hid (l[m]? = some (l[m]'(by omega))) := List.getElem?_eq_getElem _
      obtain ⟨a, rfl, hblk, e0, e1, e2, e3⟩ := hl m _ HX.out
      generalize (l[m]'(by omega)) = x at *
      have hml : (m : Int) < (l.length : Int) := by omega
      have HN : Hid (hitV k t x = false → ∀ y ∈ l.drop m, hitV k t y = false) := fun h0 y hy => by
        rw [drop_at HX.out] at hy
        rcases List.mem_cons.1 hy with rfl | hy
        · exact h0
        · exact HF.out.2 y hy
      have HY : Hid (hitV k t x = true → m + 1 = J) := fun h1 => (lastJ_at HX.out h1 HF.out.2).symm.trans HJ.out
      by_cases hk : x.key = k
      · have hk2 : (x.key.toList == k.toList) = true := by rw [hk]; simp
        by_cases ht : x.time ≤ t
        · obtain rfl := HY.out (by unfold hitV; rw [isKey_iff.2 hk, decide_eq_true ht]; rfl)
          clear HN HY HX HF HJ hk
          go_wp2
          go_ret
          refine ⟨?_, rfl⟩
          show Ending.returned (Value.int .i64 (m : Int)) = _
          congr 2
        · have HN2 := HN.out (by unfold hitV; rw [decide_eq_false ht]; simp)
          have HN3 : Hid (∀ y ∈ l.drop m, hitV k t y = false) := HN2
          have ht2 : decide (x.time ≤ t) = false := decide_eq_false ht
          clear HN HY HX HF HJ HN2 hk ht
          go_wp2
          go_round
          case rel => exact ⟨m, _, by omega, rfl, rfl, HN3.out⟩
          case measure => simp [intOf]
      · have HN2 := HN.out (by unfold hitV; rw [isKey_no hk]; rfl)
        have HN3 : Hid (∀ y ∈ l.drop m, hitV k t y = false) := HN2
        have hk2 : (x.key.toList == k.toList) = false := key_ne hk
        have hk3 : ¬ x.key.toList = k.toList := by simpa using hk2
        clear HN HY HX HF HJ HN2
        go_wp2
        go_round
        case rel => exact ⟨m, _, by omega, rfl, rfl, HN3.out⟩
        case measure => simp [intOf]
end Go.Proofs.Ytdmkmhjalcfchaa
