/-
  Schemas, as records of numbers, texts and lists: which may be (6.1, 6.2), their bytes (6.3), and that these can be read again (6.4, 6.5). No program is named here.
-/
import Derived.Test.YtiajlhjjmlakmaaGreatDoorDCodM
import Derived.Test.YtiajlhjjmlakmaaGreatDoorColM
namespace Go.Proofs.YtiajlhjjmlakmaaGreatDoor.Num

/-- An index. -/
structure Idx where
  id : Int
  name : ByteArray
  cols : List Int
  uniq : Bool
  state : Int
/-- A table. -/
structure Tab where
  id : Int
  name : ByteArray
  cols : List Colm
  idxs : List Idx
  next : Int
/-- A schema. -/
structure Sch where
  ver : Int
  tabs : List Tab
  next : Int

/-! The bytes. -/
def Cod.str : Cod ByteArray := Cod.text.as Num.str (fun s => s.data.toList) (fun _ => rfl) (fun _ => rfl)
def Cod.val : Cod Val := (Cod.num.both (Cod.num.both (Cod.nat.both Cod.str))).as (fun p => ⟨p.1, p.2.1, p.2.2.1, p.2.2.2⟩) (fun v => (v.k, v.n, v.f, v.s)) (fun _ => rfl) (fun _ => rfl)
def Cod.col : Cod Colm := (Cod.num.both (Cod.str.both (Cod.num.both (Cod.num.both (Cod.num.both Cod.val))))).as (fun p => ⟨p.1, p.2.1, p.2.2.1, p.2.2.2.1, p.2.2.2.2.1, p.2.2.2.2.2⟩) (fun c => (c.id, c.name, c.kind, c.state, c.null, c.d)) (fun _ => rfl) (fun _ => rfl)
def Cod.idx : Cod Idx := (Cod.num.both (Cod.str.both ((Cod.list Cod.num).both (Cod.bool.both Cod.num)))).as (fun p => ⟨p.1, p.2.1, p.2.2.1, p.2.2.2.1, p.2.2.2.2⟩) (fun x => (x.id, x.name, x.cols, x.uniq, x.state)) (fun _ => rfl) (fun _ => rfl)
def Cod.tab : Cod Tab := (Cod.num.both (Cod.str.both ((Cod.list Cod.col).both ((Cod.list Cod.idx).both Cod.num)))).as (fun p => ⟨p.1, p.2.1, p.2.2.1, p.2.2.2.1, p.2.2.2.2⟩) (fun t => (t.id, t.name, t.cols, t.idxs, t.next)) (fun _ => rfl) (fun _ => rfl)
def Cod.sch : Cod Sch := (Cod.num.both ((Cod.list Cod.tab).both Cod.num)).as (fun p => ⟨p.1, p.2.1, p.2.2⟩) (fun x => (x.ver, x.tabs, x.next)) (fun _ => rfl) (fun _ => rfl)
def txtB (s : ByteArray) : List UInt8 := num8 (s.size : Int) ++ s.data.toList
def valB (v : Val) : List UInt8 := num8 v.k ++ (num8 v.n ++ (be8 v.f ++ txtB v.s))
def colB (c : Colm) : List UInt8 := num8 c.id ++ (txtB c.name ++ (num8 c.kind ++ (num8 c.state ++ (num8 c.null ++ valB c.d))))
def idxB (x : Idx) : List UInt8 := num8 x.id ++ (txtB x.name ++ ((num8 (x.cols.length : Int) ++ x.cols.flatMap num8) ++ (num8 (if x.uniq then 1 else 0) ++ num8 x.state)))
def tabB (t : Tab) : List UInt8 := num8 t.id ++ (txtB t.name ++ ((num8 (t.cols.length : Int) ++ t.cols.flatMap colB) ++ ((num8 (t.idxs.length : Int) ++ t.idxs.flatMap idxB) ++ num8 t.next)))
def schB (x : Sch) : List UInt8 := num8 x.ver ++ ((num8 (x.tabs.length : Int) ++ x.tabs.flatMap tabB) ++ num8 x.next)
theorem val_enc (v : Val) : Cod.val.enc v = valB v := rfl
theorem col_enc (c : Colm) : Cod.col.enc c = colB c := rfl
theorem idx_enc (x : Idx) : Cod.idx.enc x = idxB x := rfl
theorem tab_enc (t : Tab) : Cod.tab.enc t = tabB t := rfl
theorem sch_enc (x : Sch) : Cod.sch.enc x = schB x := rfl
/-- Two schemas that are written alike are one. -/
theorem sch_inj {x y : Sch} (hx : Cod.sch.ok x) (hy : Cod.sch.ok y) (h : schB x = schB y) : x = y := by
  have h2 : Cod.sch.enc x ++ [] = Cod.sch.enc y ++ [] := by rw [sch_enc, sch_enc, h]
  exact (Cod.sch.inj hx hy h2).1

/-! Which may be. -/
def lowB (b : UInt8) : Bool := decide (97 ≤ b.toNat) && decide (b.toNat ≤ 122)
def digB (b : UInt8) : Bool := decide (48 ≤ b.toNat) && decide (b.toNat ≤ 57)
def letB (b : UInt8) : Bool := lowB b || digB b || decide (b.toNat = 95)
/-- The words. -/
def words : List (List UInt8) := [[105, 110, 115, 101, 114, 116], [105, 110, 116, 111], [118, 97, 108, 117, 101, 115], [117, 112, 100, 97, 116, 101], [115, 101, 116], [119, 104, 101, 114, 101], [97, 110, 100], [100, 101, 108, 101, 116, 101], [102, 114, 111, 109], [115, 101, 108, 101, 99, 116], [99, 114, 101, 97, 116, 101], [117, 110, 105, 113, 117, 101], [116, 97, 98, 108, 101], [105, 110, 100, 101, 120], [111, 110], [100, 114, 111, 112], [97, 108, 116, 101, 114], [97, 100, 100], [99, 111, 108, 117, 109, 110], [100, 101, 102, 97, 117, 108, 116], [110, 111, 116], [110, 117, 108, 108], [105, 115], [112, 114, 105, 109, 97, 114, 121], [107, 101, 121], [98, 111, 111, 108], [105, 110, 116], [102, 108, 111, 97, 116], [98, 121, 116, 101, 115], [116, 101, 120, 116], [116, 114, 117, 101], [102, 97, 108, 115, 101]]
/-- Which texts are names (6.1). -/
def nameL (l : List UInt8) : Bool := decide (1 ≤ l.length) && decide (l.length ≤ 16) && lowB (l.headD 0) && l.all letB && !words.contains l
def nameOk (s : ByteArray) : Bool := nameL s.data.toList
/-- No two are the same. -/
def Apart {α : Type} (l : List α) : Prop := ∀ i k (hi : i < l.length) (hk : k < i), l[k] ≠ l[i]
def ColOk (c : Colm) : Prop := nameOk c.name = true ∧ (1 ≤ c.kind ∧ c.kind ≤ 5) ∧ (0 ≤ c.state ∧ c.state ≤ 4) ∧ (0 ≤ c.null ∧ c.null ≤ 4) ∧ c.d.may = true ∧ (c.d.k = 0 ∨ c.d.k = c.kind)
def IdxOk (cols : List Colm) (x : Idx) : Prop := nameOk x.name = true ∧ (0 ≤ x.state ∧ x.state ≤ 4) ∧ (1 ≤ x.cols.length ∧ x.cols.length ≤ 8) ∧ Apart x.cols ∧ ∀ d ∈ x.cols, ∃ c ∈ cols, c.id = d
def Tab.ids (t : Tab) : List Int := t.cols.map Colm.id ++ t.idxs.map Idx.id
structure TabOk (t : Tab) : Prop where
  name : nameOk t.name = true
  next : 1 ≤ t.next ∧ t.next ≤ 60000
  ncols : 1 ≤ t.cols.length ∧ t.cols.length ≤ 8
  nidxs : t.idxs.length ≤ 4
  first : ∀ f, t.cols[0]? = some f → f.state = 4 ∧ f.null = 4 ∧ f.d.k = 0
  cnames : Apart (t.cols.map Colm.name)
  cols : ∀ c ∈ t.cols, ColOk c
  inames : Apart (t.idxs.map Idx.name)
  idxs : ∀ x ∈ t.idxs, IdxOk t.cols x
  ids : ∀ d ∈ t.ids, 1 ≤ d ∧ d < t.next
  apart : Apart t.ids
structure SchOk (x : Sch) : Prop where
  ver : 0 ≤ x.ver ∧ x.ver < 1099511627776
  next : 0 ≤ x.next ∧ x.next < 1099511627776
  ntabs : x.tabs.length ≤ 4
  rise : ∀ i (h : i + 1 < x.tabs.length), x.tabs[i].id < x.tabs[i + 1].id
  ids : ∀ t ∈ x.tabs, 1 ≤ t.id ∧ t.id < x.next
  tabs : ∀ t ∈ x.tabs, TabOk t
  names : Apart (x.tabs.map Tab.name)

/-! How many bytes. -/
theorem flat_len {α : Type} (f : α → List UInt8) (b : Nat) : ∀ (l : List α), (∀ x ∈ l, (f x).length ≤ b) → (l.flatMap f).length ≤ b * l.length
  | [], _ => by simp
  | x :: l, h => by
    have h1 := h x (by simp)
    have h2 := flat_len f b l (fun y hy => h y (by simp [hy]))
    rw [List.flatMap_cons, List.length_append, List.length_cons, Nat.mul_succ]
    omega
theorem txt_len (s : ByteArray) : (txtB s).length = 8 + s.size := by
  unfold txtB
  rw [List.length_append, num8_len]
  rfl
theorem name_len {s : ByteArray} (h : nameOk s = true) : 1 ≤ s.size ∧ s.size ≤ 16 := by
  unfold nameOk nameL at h
  simp only [Bool.and_eq_true, decide_eq_true_eq] at h
  exact ⟨h.1.1.1.1, h.1.1.1.2⟩
theorem may_len {v : Val} (h : v.may = true) : v.s.size ≤ 40 := by
  have hsz : ∀ s : ByteArray, s.toList.isEmpty = true → s.size = 0 := by
    intro s hs
    have : s.toList.length = 0 := by simpa using hs
    rw [ByteArray.toList_eq] at this
    exact this
  unfold Val.may may at h
  split at h
  · simp only [Bool.and_eq_true] at h
    have := hsz _ h.2
    omega
  · split at h
    · simp only [Bool.and_eq_true] at h
      have := hsz _ h.2
      omega
    · split at h
      · simp only [Bool.and_eq_true] at h
        have := hsz _ h.2
        omega
      · split at h
        · simp only [Bool.and_eq_true] at h
          have := hsz _ h.2
          omega
        · split at h
          · simp only [Bool.and_eq_true, decide_eq_true_eq] at h
            omega
          · cases h
theorem col_len {c : Colm} (h : ColOk c) : (colB c).length ≤ 128 := by
  have h1 := name_len h.1
  have h2 := may_len h.2.2.2.2.1
  unfold colB valB
  simp only [List.length_append, num8_len, be8_len, txt_len]
  omega
theorem idx_len {cols : List Colm} {x : Idx} (h : IdxOk cols x) : (idxB x).length ≤ 120 := by
  have h1 := name_len h.1
  have h2 := h.2.2.1
  have h3 := flat_len num8 8 x.cols (fun y _ => by rw [num8_len]; omega)
  unfold idxB
  simp only [List.length_append, num8_len, txt_len]
  omega
theorem tab_len {t : Tab} (h : TabOk t) : (tabB t).length ≤ 1560 := by
  have h1 := name_len h.name
  have h2 := h.ncols
  have h3 := h.nidxs
  have h4 := flat_len colB 128 t.cols (fun y hy => col_len (h.cols y hy))
  have h5 := flat_len idxB 120 t.idxs (fun y hy => idx_len (h.idxs y hy))
  unfold tabB
  simp only [List.length_append, num8_len, txt_len]
  omega
theorem sch_len {x : Sch} (h : SchOk x) : (schB x).length ≤ 6264 := by
  have h2 := h.ntabs
  have h4 := flat_len tabB 1560 x.tabs (fun y hy => tab_len (h.tabs y hy))
  unfold schB
  simp only [List.length_append, num8_len]
  omega

/-! What may be can be written, and is read again. -/
theorem small_int {n : Int} (h : -1000000000000000 ≤ n ∧ n ≤ 1000000000000000) : isInt n := by
  unfold isInt
  omega
theorem may_kind {v : Val} (h : v.may = true) : 0 ≤ v.k ∧ v.k ≤ 5 := by
  unfold Val.may may at h
  by_cases h0 : v.k = 0
  · omega
  · rw [if_neg h0] at h
    by_cases h1 : v.k = 1
    · omega
    · rw [if_neg h1] at h
      by_cases h2 : v.k = 2
      · omega
      · rw [if_neg h2] at h
        by_cases h3 : v.k = 3
        · omega
        · rw [if_neg h3] at h
          by_cases h4 : v.k = 4 ∨ v.k = 5
          · omega
          · rw [if_neg h4] at h
            cases h
theorem val_ok {v : Val} (h : v.may = true) (ho : v.ok) : Cod.val.ok v := by
  have h1 := may_kind h
  have h2 := may_len h
  exact ⟨small_int (by show -1000000000000000 ≤ v.k ∧ v.k ≤ 1000000000000000; omega), ho.1, ho.2, small_int (by show -1000000000000000 ≤ (v.s.size : Int) ∧ (v.s.size : Int) ≤ 1000000000000000; omega)⟩
theorem size_ok {s : ByteArray} (h : nameOk s = true) : Cod.str.ok s := by
  have := name_len h
  exact small_int (by show -1000000000000000 ≤ (s.size : Int) ∧ (s.size : Int) ≤ 1000000000000000; omega)
theorem col_ok {c : Colm} (h : ColOk c) (hi : isInt c.id) (ho : c.d.ok) : Cod.col.ok c := by
  obtain ⟨h1, h2, h3, h4, h5, _⟩ := h
  exact ⟨hi, size_ok h1, small_int (by show -1000000000000000 ≤ c.kind ∧ c.kind ≤ 1000000000000000; omega), small_int (by show -1000000000000000 ≤ c.state ∧ c.state ≤ 1000000000000000; omega), small_int (by show -1000000000000000 ≤ c.null ∧ c.null ≤ 1000000000000000; omega), val_ok h5 ho⟩
theorem idx_ok {cols : List Colm} {x : Idx} (h : IdxOk cols x) (hi : isInt x.id) (hc : ∀ d ∈ x.cols, isInt d) : Cod.idx.ok x := by
  obtain ⟨h1, h2, h3, _, _⟩ := h
  exact ⟨hi, size_ok h1, ⟨small_int (by show -1000000000000000 ≤ (x.cols.length : Int) ∧ (x.cols.length : Int) ≤ 1000000000000000; omega), hc⟩, trivial, small_int (by show -1000000000000000 ≤ x.state ∧ x.state ≤ 1000000000000000; omega)⟩
theorem tab_ok {t : Tab} (h : TabOk t) (hi : isInt t.id) (ho : ∀ c ∈ t.cols, c.d.ok) : Cod.tab.ok t := by
  have h1 := h.next
  have h2 := h.ncols
  have h3 := h.nidxs
  have hid : ∀ d ∈ t.ids, isInt d := fun d hd => small_int (by have := h.ids d hd; omega)
  have hc : ∀ c ∈ t.cols, isInt c.id := fun c hc => hid _ (List.mem_append_left _ (List.mem_map_of_mem hc))
  refine ⟨hi, size_ok h.name, ⟨small_int (by show -1000000000000000 ≤ (t.cols.length : Int) ∧ (t.cols.length : Int) ≤ 1000000000000000; omega), fun c hm => col_ok (h.cols c hm) (hc c hm) (ho c hm)⟩, ⟨small_int (by show -1000000000000000 ≤ (t.idxs.length : Int) ∧ (t.idxs.length : Int) ≤ 1000000000000000; omega), fun x hm => ?_⟩, small_int (by show -1000000000000000 ≤ t.next ∧ t.next ≤ 1000000000000000; omega)⟩
  refine idx_ok (h.idxs x hm) (hid _ (List.mem_append_right _ (List.mem_map_of_mem hm))) fun d hd => ?_
  obtain ⟨c, hcm, rfl⟩ := (h.idxs x hm).2.2.2.2 d hd
  exact hc c hcm
theorem sch_ok {x : Sch} (h : SchOk x) (ho : ∀ t ∈ x.tabs, ∀ c ∈ t.cols, c.d.ok) : Cod.sch.ok x := by
  have h1 := h.ver
  have h2 := h.next
  have h3 := h.ntabs
  exact ⟨small_int (by show -1000000000000000 ≤ x.ver ∧ x.ver ≤ 1000000000000000; omega), ⟨small_int (by show -1000000000000000 ≤ (x.tabs.length : Int) ∧ (x.tabs.length : Int) ≤ 1000000000000000; omega), fun t ht => tab_ok (h.tabs t ht) (small_int (by have := h.ids t ht; omega)) (ho t ht)⟩, small_int (by show -1000000000000000 ≤ x.next ∧ x.next ≤ 1000000000000000; omega)⟩
end Go.Proofs.YtiajlhjjmlakmaaGreatDoor.Num
