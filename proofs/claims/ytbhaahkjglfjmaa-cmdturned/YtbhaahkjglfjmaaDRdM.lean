/-
  Reading as package desc reads: a bool by a number, a list by its length, which is at most so many. What was written is read again. No program is named here.
-/
import Derived.Test.YtbhaahkjglfjmaaDSchM
namespace Go.Proofs.Ytbhaahkjglfjmaa.Num

abbrev Rd (α : Type) := List UInt8 → Option (α × List UInt8)
def rdInt : Rd Int := fun l => if l.length < 8 then none else some (sgn (numOf (l.take 8)), l.drop 8)
def rdNat : Rd Nat := fun l => if l.length < 8 then none else some (numOf (l.take 8), l.drop 8)
def rdTxt : Rd ByteArray := fun l => (rdNat l).bind fun q => if q.1 ≤ q.2.length then some (str (q.2.take q.1), q.2.drop q.1) else none
def rdBit : Rd Bool := fun l => (rdInt l).map fun q => (q.1 == 1, q.2)
def rdMany {α : Type} (rd : Rd α) : Nat → Rd (List α)
  | 0, l => some ([], l)
  | n + 1, l => (rd l).bind fun q => (rdMany rd n q.2).map fun z => (q.1 :: z.1, z.2)
def rdList {α : Type} (most : Nat) (rd : Rd α) : Rd (List α) := fun l => (rdNat l).bind fun q => if most < q.1 then none else rdMany rd q.1 q.2
def rdVal : Rd Val := fun l => (rdInt l).bind fun a => (rdInt a.2).bind fun b => (rdNat b.2).bind fun c => (rdTxt c.2).bind fun d => some (⟨a.1, b.1, c.1, d.1⟩, d.2)
def rdCol : Rd Colm := fun l => (rdInt l).bind fun a => (rdTxt a.2).bind fun b => (rdInt b.2).bind fun c => (rdInt c.2).bind fun d => (rdInt d.2).bind fun e => (rdVal e.2).bind fun f => some (⟨a.1, b.1, c.1, d.1, e.1, f.1⟩, f.2)
def rdIdx : Rd Idx := fun l => (rdInt l).bind fun a => (rdTxt a.2).bind fun b => (rdList 8 rdInt b.2).bind fun c => (rdBit c.2).bind fun d => (rdInt d.2).bind fun e => some (⟨a.1, b.1, c.1, d.1, e.1⟩, e.2)
def rdTab : Rd Tab := fun l => (rdInt l).bind fun a => (rdTxt a.2).bind fun b => (rdList 8 rdCol b.2).bind fun c => (rdList 4 rdIdx c.2).bind fun d => (rdInt d.2).bind fun e => some (⟨a.1, b.1, c.1, d.1, e.1⟩, e.2)
def rdSch : Rd Sch := fun l => (rdInt l).bind fun a => (rdList 4 rdTab a.2).bind fun b => (rdInt b.2).bind fun c => some (⟨a.1, b.1, c.1⟩, c.2)

/-! What was written is read again. -/
theorem rdInt_fwd (n : Int) (h : isInt n) (r : List UInt8) : rdInt (num8 n ++ r) = some (n, r) := Cod.num.fwd n h r
theorem rdNat_fwd (n : Nat) (h : n < 18446744073709551616) (r : List UInt8) : rdNat (be8 n ++ r) = some (n, r) := Cod.nat.fwd n h r
theorem num8_nat (n : Nat) (h : n < 18446744073709551616) : num8 (n : Int) = be8 n := by
  unfold num8
  congr 1
  omega
theorem rdTxt_fwd (s : ByteArray) (h : s.size < 18446744073709551616) (r : List UInt8) : rdTxt (txtB s ++ r) = some (s, r) := by
  have hd : s.data.toList.length = s.size := rfl
  unfold rdTxt txtB
  rw [num8_nat s.size h, List.append_assoc, rdNat_fwd s.size h]
  have e1 : (s.data.toList ++ r).take s.size = s.data.toList := List.take_left' hd
  have e2 : (s.data.toList ++ r).drop s.size = r := List.drop_left' hd
  simp only [Option.bind_some]
  rw [if_pos (by rw [List.length_append]; omega), e1, e2]
  rfl
theorem rdBit_fwd (b : Bool) (r : List UInt8) : rdBit (num8 (if b then 1 else 0) ++ r) = some (b, r) := by
  unfold rdBit
  rw [rdInt_fwd _ (by unfold isInt; cases b <;> simp)]
  cases b <;> rfl
theorem rdMany_fwd {α : Type} {rd : Rd α} {f : α → List UInt8} : ∀ (l : List α), (∀ x ∈ l, ∀ r, rd (f x ++ r) = some (x, r)) → ∀ r, rdMany rd l.length (l.flatMap f ++ r) = some (l, r)
  | [], _, r => rfl
  | x :: l, h, r => by
    have h1 := h x (by simp)
    have h2 := rdMany_fwd l (fun y hy => h y (by simp [hy])) r
    rw [List.flatMap_cons, List.append_assoc, List.length_cons]
    unfold rdMany
    rw [h1]
    simp only [Option.bind_some]
    rw [h2]
    rfl
theorem rdList_fwd {α : Type} {rd : Rd α} {f : α → List UInt8} (most : Nat) (l : List α) (hm : l.length ≤ most) (hm2 : most < 1000) (h : ∀ x ∈ l, ∀ r, rd (f x ++ r) = some (x, r)) (r : List UInt8) : rdList most rd ((num8 (l.length : Int) ++ l.flatMap f) ++ r) = some (l, r) := by
  unfold rdList
  rw [num8_nat l.length (by omega), List.append_assoc, rdNat_fwd _ (by omega)]
  simp only [Option.bind_some]
  rw [if_neg (by omega)]
  exact rdMany_fwd l h r
theorem rdVal_fwd (v : Val) (h : v.may = true) (ho : v.ok) (r : List UInt8) : rdVal (valB v ++ r) = some (v, r) := by
  have h1 := may_kind h
  have h2 := may_len h
  unfold rdVal valB
  simp only [List.append_assoc]
  rw [rdInt_fwd v.k (by unfold isInt; omega)]
  simp only [Option.bind_some]
  rw [rdInt_fwd v.n ho.1]
  simp only [Option.bind_some]
  rw [rdNat_fwd v.f ho.2]
  simp only [Option.bind_some]
  rw [rdTxt_fwd v.s (by omega)]
  rfl
theorem rdCol_fwd (c : Colm) (h : ColOk c) (hi : isInt c.id) (ho : c.d.ok) (r : List UInt8) : rdCol (colB c ++ r) = some (c, r) := by
  obtain ⟨h1, h2, h3, h4, h5, _⟩ := h
  have hn := name_len h1
  unfold rdCol colB
  simp only [List.append_assoc]
  rw [rdInt_fwd c.id hi]
  simp only [Option.bind_some]
  rw [rdTxt_fwd c.name (by omega)]
  simp only [Option.bind_some]
  rw [rdInt_fwd c.kind (by unfold isInt; omega)]
  simp only [Option.bind_some]
  rw [rdInt_fwd c.state (by unfold isInt; omega)]
  simp only [Option.bind_some]
  rw [rdInt_fwd c.null (by unfold isInt; omega)]
  simp only [Option.bind_some]
  rw [rdVal_fwd c.d h5 ho]
  rfl
theorem rdIdx_fwd (cols : List Colm) (x : Idx) (h : IdxOk cols x) (hi : isInt x.id) (hc : ∀ d ∈ x.cols, isInt d) (r : List UInt8) : rdIdx (idxB x ++ r) = some (x, r) := by
  obtain ⟨h1, h2, h3, _, _⟩ := h
  have hn := name_len h1
  unfold rdIdx idxB
  rw [List.append_assoc, rdInt_fwd x.id hi]
  simp only [Option.bind_some]
  rw [List.append_assoc, rdTxt_fwd x.name (by omega)]
  simp only [Option.bind_some]
  rw [List.append_assoc, rdList_fwd 8 x.cols h3.2 (by omega) (fun d hd r => rdInt_fwd d (hc d hd) r)]
  simp only [Option.bind_some]
  rw [List.append_assoc, rdBit_fwd]
  simp only [Option.bind_some]
  rw [rdInt_fwd x.state (by unfold isInt; omega)]
  rfl
theorem rdTab_fwd (t : Tab) (h : TabOk t) (hi : isInt t.id) (ho : ∀ c ∈ t.cols, c.d.ok) (r : List UInt8) : rdTab (tabB t ++ r) = some (t, r) := by
  have hn := name_len h.name
  have h1 := h.next
  have hid : ∀ d ∈ t.ids, isInt d := fun d hd => small_int (by have := h.ids d hd; omega)
  have hc : ∀ c ∈ t.cols, isInt c.id := fun c hc => hid _ (List.mem_append_left _ (List.mem_map_of_mem hc))
  unfold rdTab tabB
  rw [List.append_assoc, rdInt_fwd t.id hi]
  simp only [Option.bind_some]
  rw [List.append_assoc, rdTxt_fwd t.name (by omega)]
  simp only [Option.bind_some]
  rw [List.append_assoc, rdList_fwd 8 t.cols h.ncols.2 (by omega) (fun c hm r => rdCol_fwd c (h.cols c hm) (hc c hm) (ho c hm) r)]
  simp only [Option.bind_some]
  rw [List.append_assoc, rdList_fwd 4 t.idxs h.nidxs (by omega) (fun x hm r => rdIdx_fwd t.cols x (h.idxs x hm) (hid _ (List.mem_append_right _ (List.mem_map_of_mem hm))) (fun d hd => by
    obtain ⟨c, hcm, rfl⟩ := (h.idxs x hm).2.2.2.2 d hd
    exact hc c hcm) r)]
  simp only [Option.bind_some]
  rw [rdInt_fwd t.next (by unfold isInt; omega)]
  rfl
theorem rdSch_fwd (x : Sch) (h : SchOk x) (ho : ∀ t ∈ x.tabs, ∀ c ∈ t.cols, c.d.ok) : rdSch (schB x) = some (x, []) := by
  have h1 := h.ver
  have h2 := h.next
  unfold rdSch schB
  rw [rdInt_fwd x.ver (by unfold isInt; omega)]
  simp only [Option.bind_some]
  rw [rdList_fwd 4 x.tabs h.ntabs (by omega) (fun t ht r => rdTab_fwd t (h.tabs t ht) (small_int (by have := h.ids t ht; omega)) (ho t ht) r)]
  simp only [Option.bind_some]
  rw [← List.append_nil (num8 x.next), rdInt_fwd x.next (by unfold isInt; omega)]
  rfl
/-! What is read. -/
theorem rdMany_len {α : Type} {rd : Rd α} : ∀ (n : Nat) (l : List UInt8) (z : List α × List UInt8), rdMany rd n l = some z → z.1.length = n
  | 0, l, z, h => by
    cases h
    rfl
  | n + 1, l, z, h => by
    obtain ⟨q, _, h2⟩ := Option.bind_eq_some_iff.1 h
    obtain ⟨y, hy, e⟩ := Option.map_eq_some_iff.1 h2
    cases e
    rw [List.length_cons, rdMany_len n _ _ hy]
theorem rdMany_all {α : Type} {rd : Rd α} {P : α → Prop} (hP : ∀ l q, rd l = some q → P q.1) : ∀ (n : Nat) (l : List UInt8) (z : List α × List UInt8), rdMany rd n l = some z → ∀ x ∈ z.1, P x
  | 0, l, z, h => by
    cases h
    simp
  | n + 1, l, z, h => by
    obtain ⟨q, hq, h2⟩ := Option.bind_eq_some_iff.1 h
    obtain ⟨y, hy, e⟩ := Option.map_eq_some_iff.1 h2
    cases e
    intro x hx
    rcases List.mem_cons.1 hx with rfl | hx
    · exact hP _ _ hq
    · exact rdMany_all hP n _ _ hy x hx
theorem rdList_all {α : Type} {rd : Rd α} {P : α → Prop} (most : Nat) (hP : ∀ l q, rd l = some q → P q.1) (l : List UInt8) (z : List α × List UInt8) (h : rdList most rd l = some z) : ∀ x ∈ z.1, P x := by
  obtain ⟨q, _, h2⟩ := Option.bind_eq_some_iff.1 h
  split at h2
  · cases h2
  · exact rdMany_all hP _ _ _ h2
theorem rdInt_ok (l : List UInt8) (q : Int × List UInt8) (h : rdInt l = some q) : isInt q.1 := (Cod.num.bwd l q.1 q.2 h).2
theorem rdNat_ok (l : List UInt8) (q : Nat × List UInt8) (h : rdNat l = some q) : q.1 < 18446744073709551616 := (Cod.nat.bwd l q.1 q.2 h).2
theorem rdVal_ok (l : List UInt8) (q : Val × List UInt8) (h : rdVal l = some q) : q.1.ok := by
  obtain ⟨a, ha, h⟩ := Option.bind_eq_some_iff.1 h
  obtain ⟨b, hb, h⟩ := Option.bind_eq_some_iff.1 h
  obtain ⟨c, hc, h⟩ := Option.bind_eq_some_iff.1 h
  obtain ⟨d, hd, h⟩ := Option.bind_eq_some_iff.1 h
  cases h
  exact ⟨rdInt_ok _ _ hb, rdNat_ok _ _ hc⟩
theorem rdCol_ok (l : List UInt8) (q : Colm × List UInt8) (h : rdCol l = some q) : q.1.d.ok := by
  obtain ⟨a, ha, h⟩ := Option.bind_eq_some_iff.1 h
  obtain ⟨b, hb, h⟩ := Option.bind_eq_some_iff.1 h
  obtain ⟨c, hc, h⟩ := Option.bind_eq_some_iff.1 h
  obtain ⟨d, hd, h⟩ := Option.bind_eq_some_iff.1 h
  obtain ⟨e, he, h⟩ := Option.bind_eq_some_iff.1 h
  obtain ⟨f, hf, h⟩ := Option.bind_eq_some_iff.1 h
  cases h
  exact rdVal_ok _ _ hf
theorem rdTab_ok (l : List UInt8) (q : Tab × List UInt8) (h : rdTab l = some q) : ∀ c ∈ q.1.cols, c.d.ok := by
  obtain ⟨a, ha, h⟩ := Option.bind_eq_some_iff.1 h
  obtain ⟨b, hb, h⟩ := Option.bind_eq_some_iff.1 h
  obtain ⟨c, hc, h⟩ := Option.bind_eq_some_iff.1 h
  obtain ⟨d, hd, h⟩ := Option.bind_eq_some_iff.1 h
  obtain ⟨e, he, h⟩ := Option.bind_eq_some_iff.1 h
  cases h
  exact rdList_all 8 (P := fun c : Colm => c.d.ok) rdCol_ok _ _ hc
theorem rdSch_ok (l : List UInt8) (q : Sch × List UInt8) (h : rdSch l = some q) : ∀ t ∈ q.1.tabs, ∀ c ∈ t.cols, c.d.ok := by
  obtain ⟨a, ha, h⟩ := Option.bind_eq_some_iff.1 h
  obtain ⟨b, hb, h⟩ := Option.bind_eq_some_iff.1 h
  obtain ⟨c, hc, h⟩ := Option.bind_eq_some_iff.1 h
  cases h
  exact rdList_all 4 (P := fun t : Tab => ∀ c ∈ t.cols, c.d.ok) rdTab_ok _ _ hb
/-! What is left is not longer. -/
def RdLe {α : Type} (rd : Rd α) : Prop := ∀ l q, rd l = some q → q.2.length ≤ l.length
theorem rdInt_le : RdLe rdInt := by
  intro l q h
  unfold rdInt at h
  split at h
  · cases h
  · cases h
    rw [List.length_drop]
    omega
theorem rdNat_le : RdLe rdNat := by
  intro l q h
  unfold rdNat at h
  split at h
  · cases h
  · cases h
    rw [List.length_drop]
    omega
theorem rdTxt_le : RdLe rdTxt := by
  intro l q h
  obtain ⟨a, ha, h⟩ := Option.bind_eq_some_iff.1 h
  have := rdNat_le _ _ ha
  split at h
  · cases h
    rw [List.length_drop]
    omega
  · cases h
theorem rdBit_le : RdLe rdBit := by
  intro l q h
  obtain ⟨a, ha, h⟩ := Option.map_eq_some_iff.1 h
  cases h
  exact rdInt_le _ _ ha
theorem rdMany_le {α : Type} {rd : Rd α} (hr : RdLe rd) : ∀ n, RdLe (rdMany rd n)
  | 0, l, q, h => by
    cases h
    exact Nat.le_refl _
  | n + 1, l, q, h => by
    obtain ⟨a, ha, h⟩ := Option.bind_eq_some_iff.1 h
    obtain ⟨b, hb, h⟩ := Option.map_eq_some_iff.1 h
    cases h
    have h1 := rdMany_le hr n _ _ hb
    have h2 := hr _ _ ha
    simp only
    omega
theorem rdList_le {α : Type} {rd : Rd α} (hr : RdLe rd) (most : Nat) : RdLe (rdList most rd) := by
  intro l q h
  obtain ⟨a, ha, h⟩ := Option.bind_eq_some_iff.1 h
  split at h
  · cases h
  · exact Nat.le_trans (rdMany_le hr _ _ _ h) (rdNat_le _ _ ha)
theorem rdVal_le : RdLe rdVal := by
  intro l q h
  obtain ⟨a, ha, h⟩ := Option.bind_eq_some_iff.1 h
  obtain ⟨b, hb, h⟩ := Option.bind_eq_some_iff.1 h
  obtain ⟨c, hc, h⟩ := Option.bind_eq_some_iff.1 h
  obtain ⟨d, hd, h⟩ := Option.bind_eq_some_iff.1 h
  cases h
  have := rdInt_le _ _ ha
  have := rdInt_le _ _ hb
  have := rdNat_le _ _ hc
  have := rdTxt_le _ _ hd
  simp only
  omega
theorem rdCol_le : RdLe rdCol := by
  intro l q h
  obtain ⟨a, ha, h⟩ := Option.bind_eq_some_iff.1 h
  obtain ⟨b, hb, h⟩ := Option.bind_eq_some_iff.1 h
  obtain ⟨c, hc, h⟩ := Option.bind_eq_some_iff.1 h
  obtain ⟨d, hd, h⟩ := Option.bind_eq_some_iff.1 h
  obtain ⟨e, he, h⟩ := Option.bind_eq_some_iff.1 h
  obtain ⟨f, hf, h⟩ := Option.bind_eq_some_iff.1 h
  cases h
  have := rdInt_le _ _ ha
  have := rdTxt_le _ _ hb
  have := rdInt_le _ _ hc
  have := rdInt_le _ _ hd
  have := rdInt_le _ _ he
  have := rdVal_le _ _ hf
  simp only
  omega
theorem rdIdx_le : RdLe rdIdx := by
  intro l q h
  obtain ⟨a, ha, h⟩ := Option.bind_eq_some_iff.1 h
  obtain ⟨b, hb, h⟩ := Option.bind_eq_some_iff.1 h
  obtain ⟨c, hc, h⟩ := Option.bind_eq_some_iff.1 h
  obtain ⟨d, hd, h⟩ := Option.bind_eq_some_iff.1 h
  obtain ⟨e, he, h⟩ := Option.bind_eq_some_iff.1 h
  cases h
  have := rdInt_le _ _ ha
  have := rdTxt_le _ _ hb
  have := rdList_le rdInt_le 8 _ _ hc
  have := rdBit_le _ _ hd
  have := rdInt_le _ _ he
  simp only
  omega
theorem rdTab_le : RdLe rdTab := by
  intro l q h
  obtain ⟨a, ha, h⟩ := Option.bind_eq_some_iff.1 h
  obtain ⟨b, hb, h⟩ := Option.bind_eq_some_iff.1 h
  obtain ⟨c, hc, h⟩ := Option.bind_eq_some_iff.1 h
  obtain ⟨d, hd, h⟩ := Option.bind_eq_some_iff.1 h
  obtain ⟨e, he, h⟩ := Option.bind_eq_some_iff.1 h
  cases h
  have := rdInt_le _ _ ha
  have := rdTxt_le _ _ hb
  have := rdList_le rdCol_le 8 _ _ hc
  have := rdList_le rdIdx_le 4 _ _ hd
  have := rdInt_le _ _ he
  simp only
  omega
end Go.Proofs.Ytbhaahkjglfjmaa.Num
