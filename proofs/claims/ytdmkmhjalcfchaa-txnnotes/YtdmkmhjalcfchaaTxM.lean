/-
  A transaction as plain data: what it reads, notes and writes (15.1), its command (15.2). No program is named here.
-/
import Derived.Test.YtdmkmhjalcfchaaPl
import Derived.Test.YtdmkmhjalcfchaaCod
import Derived.Test.YtdmkmhjalcfchaaPScn
import Derived.Sort.Walk0
import Derived.Sort.KeysCollected
namespace Go.Proofs.Ytdmkmhjalcfchaa
open Num Go.Proofs
set_option linter.unusedVariables false
set_option maxRecDepth 100000
/-- A transaction. -/
structure Num.Tx where
  st : Sto
  snap : Int
  asked : List ByteArray
  rngs : List Rng
  ws : List Wrt
  lim : Nat
/-! Rising lists of texts. -/
def Num.UpT (l : List ByteArray) : Prop := l.Pairwise kl
theorem rising_one {α : Type} {r : α → α → Prop} (hirr : ∀ a b, r a b → r b a → False) : ∀ {a b : List α}, a.Pairwise r → b.Pairwise r → (∀ x, x ∈ a ↔ x ∈ b) → a = b
  | [], [], _, _, _ => rfl
  | [], y :: b, _, _, h => absurd ((h y).2 (by simp)) (by simp)
  | x :: a, [], _, _, h => absurd ((h x).1 (by simp)) (by simp)
  | x :: a, y :: b, ha, hb, h => by
    rw [List.pairwise_cons] at ha hb
    have hxx : ∀ z : α, r z z → False := fun z hz => hirr z z hz hz
    have e : x = y := by
      have h1 := (h x).1 (by simp)
      have h2 := (h y).2 (by simp)
      rcases List.mem_cons.1 h1 with e | h1
      · exact e
      · rcases List.mem_cons.1 h2 with e | h2
        · exact e.symm
        · exact (hirr _ _ (ha.1 _ h2) (hb.1 _ h1)).elim
    subst e
    have hin : ∀ z, z ∈ a ↔ z ∈ b := fun z => by
      have hz := h z
      simp only [List.mem_cons] at hz
      constructor
      · intro hm
        rcases hz.1 (.inr hm) with e | h2
        · exact (hxx x (e ▸ ha.1 z hm)).elim
        · exact h2
      · intro hm
        rcases hz.2 (.inr hm) with e | h2
        · exact (hxx x (e ▸ hb.1 z hm)).elim
        · exact h2
    rw [rising_one hirr ha.2 hb.2 hin]
theorem upT_one {a b : List ByteArray} (ha : UpT a) (hb : UpT b) (h : ∀ x, x ∈ a ↔ x ∈ b) : a = b := rising_one (fun _ _ h k => kl_asym h k) ha hb h
theorem upPr_one {a b : List Pr} (ha : Rises a) (hb : Rises b) (h : ∀ x, x ∈ a ↔ x ∈ b) : a = b := rising_one (r := fun x y : Pr => kl x.key y.key) (fun _ _ h k => kl_asym h k) ha hb h
/-- A text more. -/
def Num.insA : List ByteArray → ByteArray → List ByteArray
  | [], k => [k]
  | y :: l, k => if Op.bytesLess k.toList y.toList = true then k :: y :: l else if Op.bytesLess y.toList k.toList = true then y :: insA l k else y :: l
theorem insA_mem {k x : ByteArray} : ∀ {l : List ByteArray}, x ∈ insA l k ↔ x = k ∨ x ∈ l
  | [] => by simp [insA]
  | y :: l => by
    unfold insA
    split
    · simp
    · rename_i h1
      split
      · rw [List.mem_cons, insA_mem, List.mem_cons]
        constructor
        · rintro (h | h | h)
          · exact .inr (.inl h)
          · exact .inl h
          · exact .inr (.inr h)
        · rintro (h | h | h)
          · exact .inr (.inl h)
          · exact .inl h
          · exact .inr (.inr h)
      · rename_i h2
        have e : k = y := by
          rcases kl_tri k y with h | h | h
          · exact absurd h h1
          · exact h
          · exact absurd h h2
        subst e
        simp
theorem insA_up {k : ByteArray} : ∀ {l : List ByteArray}, UpT l → UpT (insA l k)
  | [], _ => by simp [insA, UpT]
  | y :: l, h => by
    unfold UpT at h
    rw [List.pairwise_cons] at h
    unfold insA
    split
    · rename_i h1
      refine List.pairwise_cons.2 ⟨fun z hz => ?_, List.pairwise_cons.2 h⟩
      rcases List.mem_cons.1 hz with e | hz
      · rw [e]; exact h1
      · exact kl_trans h1 (h.1 z hz)
    · split
      · rename_i h2
        refine List.pairwise_cons.2 ⟨fun z hz => ?_, insA_up h.2⟩
        rcases insA_mem.1 hz with e | hz
        · rw [e]; exact h2
        · exact h.1 z hz
      · exact List.pairwise_cons.2 h
theorem insA_len (k : ByteArray) : ∀ l : List ByteArray, (insA l k).length ≤ l.length + 1
  | [] => by simp [insA]
  | y :: l => by
    unfold insA
    split
    · simp
    · split
      · have := insA_len k l
        simp only [List.length_cons]
        omega
      · simp
/-! Own writes, by rising keys. -/
def Num.UpW (l : List Wrt) : Prop := l.Pairwise (fun a b => kl a.key b.key)
theorem upW_one {a b : List Wrt} (ha : UpW a) (hb : UpW b) (h : ∀ x, x ∈ a ↔ x ∈ b) : a = b := rising_one (r := fun x y : Wrt => kl x.key y.key) (fun _ _ h k => kl_asym h k) ha hb h
theorem upW_key : ∀ {l : List Wrt}, UpW l → ∀ {x y : Wrt}, x ∈ l → y ∈ l → x.key = y.key → x = y
  | [], _, x, _, hx, _, _ => by cases hx
  | z :: l, h, x, y, hx, hy, e => by
    unfold UpW at h
    rw [List.pairwise_cons] at h
    rcases List.mem_cons.1 hx with ex | hx2 <;> rcases List.mem_cons.1 hy with ey | hy2
    · rw [ex, ey]
    · rw [ex] at e
      exact (kl_ne (h.1 y hy2) e).elim
    · rw [ey] at e
      exact (kl_ne (h.1 x hx2) e.symm).elim
    · exact upW_key h.2 hx2 hy2 e
def Num.findW (l : List Wrt) (k : ByteArray) : Option Wrt := l.find? (fun x => x.key.toList == k.toList)
theorem findW_some {l : List Wrt} {k : ByteArray} {x : Wrt} (h : findW l k = some x) : x ∈ l ∧ x.key = k := by
  unfold findW at h
  have h2 := List.find?_some (p := fun y : Wrt => y.key.toList == k.toList) h
  exact ⟨List.mem_of_find?_eq_some h, key_eq h2⟩
theorem findW_none {l : List Wrt} {k : ByteArray} : findW l k = none ↔ ∀ x ∈ l, x.key ≠ k := by
  unfold findW
  rw [List.find?_eq_none]
  constructor
  · intro h x hx e
    exact h x hx (by rw [e]; simp)
  · intro h x hx e
    exact h x hx (key_eq e)
theorem findW_mem {l : List Wrt} (hu : UpW l) {x : Wrt} (hx : x ∈ l) : findW l x.key = some x := by
  cases hf : findW l x.key with
  | none => exact absurd rfl (findW_none.1 hf x hx)
  | some y =>
    obtain ⟨h1, h2⟩ := findW_some hf
    rw [upW_key hu h1 hx h2]
def Num.putW : List Wrt → Wrt → List Wrt
  | [], x => [x]
  | y :: l, x => if Op.bytesLess x.key.toList y.key.toList = true then x :: y :: l else if Op.bytesLess y.key.toList x.key.toList = true then y :: putW l x else x :: l
theorem putW_mem {x y : Wrt} : ∀ {l : List Wrt}, UpW l → (y ∈ putW l x ↔ y = x ∨ (y ∈ l ∧ y.key ≠ x.key))
  | [], _ => by simp [putW]
  | z :: l, h => by
    unfold UpW at h
    rw [List.pairwise_cons] at h
    have hall : kl x.key z.key → ∀ u ∈ z :: l, u.key ≠ x.key := fun h1 u hu e => by
      rcases List.mem_cons.1 hu with eu | hu
      · rw [eu] at e
        exact kl_ne h1 e.symm
      · exact kl_ne (kl_trans h1 (h.1 u hu)) e.symm
    unfold putW
    split
    · rename_i h1
      rw [List.mem_cons]
      constructor
      · rintro (e | hm)
        · exact .inl e
        · exact .inr ⟨hm, hall h1 y hm⟩
      · rintro (e | ⟨hm, _⟩)
        · exact .inl e
        · exact .inr hm
    · rename_i h1
      split
      · rename_i h2
        rw [List.mem_cons, putW_mem h.2, List.mem_cons]
        constructor
        · rintro (e | e | ⟨hm, hn⟩)
          · exact .inr ⟨.inl e, by rw [e]; exact kl_ne h2⟩
          · exact .inl e
          · exact .inr ⟨.inr hm, hn⟩
        · rintro (e | ⟨e | hm, hn⟩)
          · exact .inr (.inl e)
          · exact .inl e
          · exact .inr (.inr ⟨hm, hn⟩)
      · rename_i h2
        have e : x.key = z.key := by
          rcases kl_tri x.key z.key with h | h | h
          · exact absurd h h1
          · exact h
          · exact absurd h h2
        rw [List.mem_cons, List.mem_cons]
        constructor
        · rintro (e | hm)
          · exact .inl e
          · exact .inr ⟨.inr hm, fun e2 => kl_ne (h.1 y hm) (by rw [e2, e])⟩
        · rintro (e3 | ⟨e3 | hm, hn⟩)
          · exact .inl e3
          · rw [e3] at hn
            exact absurd e.symm hn
          · exact .inr hm
theorem putW_keys {x y : Wrt} {l : List Wrt} (hu : UpW l) (h : y ∈ putW l x) : y.key = x.key ∨ y ∈ l := by
  rcases (putW_mem hu).1 h with e | ⟨hm, _⟩
  · exact .inl (by rw [e])
  · exact .inr hm
theorem putW_up {x : Wrt} : ∀ {l : List Wrt}, UpW l → UpW (putW l x)
  | [], _ => by simp [putW, UpW]
  | y :: l, h => by
    have h0 := h
    unfold UpW at h
    rw [List.pairwise_cons] at h
    unfold putW
    split
    · rename_i h1
      refine List.pairwise_cons.2 ⟨fun z hz => ?_, List.pairwise_cons.2 h⟩
      rcases List.mem_cons.1 hz with e | hz
      · rw [e]; exact h1
      · exact kl_trans h1 (h.1 z hz)
    · rename_i h1
      split
      · rename_i h2
        refine List.pairwise_cons.2 ⟨fun z hz => ?_, putW_up h.2⟩
        rcases putW_keys h.2 hz with e | hz
        · rw [e]; exact h2
        · exact h.1 z hz
      · rename_i h2
        have e : x.key = y.key := by
          rcases kl_tri x.key y.key with h | h | h
          · exact absurd h h1
          · exact h
          · exact absurd h h2
        exact List.pairwise_cons.2 ⟨fun z hz => by rw [e]; exact h.1 z hz, h.2⟩
theorem putW_len (x : Wrt) : ∀ l : List Wrt, (putW l x).length ≤ l.length + 1
  | [] => by simp [putW]
  | y :: l => by
    unfold putW
    split
    · simp
    · split
      · have := putW_len x l
        simp only [List.length_cons]
        omega
      · simp
theorem findW_put {l : List Wrt} (hu : UpW l) (x : Wrt) (k : ByteArray) : findW (putW l x) k = if x.key = k then some x else findW l k := by
  have hu2 : UpW (putW l x) := putW_up hu
  split
  · rename_i e
    subst e
    exact findW_mem hu2 ((putW_mem hu).2 (.inl rfl))
  · rename_i e
    cases hf : findW l k with
    | none =>
      rw [findW_none] at hf ⊢
      intro y hy
      rcases (putW_mem hu).1 hy with e2 | ⟨hm, _⟩
      · rw [e2]; exact e
      · exact hf y hm
    | some y =>
      obtain ⟨h1, h2⟩ := findW_some hf
      have := findW_mem hu2 ((putW_mem hu).2 (.inr ⟨h1, fun e3 => e (by rw [← e3, h2])⟩))
      rw [h2] at this
      exact this
/-! The store's pairs and own writes, merged. -/
def Num.tellW (x : Wrt) : List Pr := if x.del = true then [] else [⟨x.key, x.val⟩]
def Num.mrgX (f : List Pr → List Pr) (x : Wrt) : List Pr → List Pr
  | [] => tellW x ++ f []
  | p :: ps => if x.key.toList == p.key.toList then mrgX f x ps else if Op.bytesLess x.key.toList p.key.toList = true then tellW x ++ f (p :: ps) else p :: mrgX f x ps
def Num.mrgR : List Wrt → List Pr → List Pr
  | [] => fun ps => ps
  | x :: xs => mrgX (mrgR xs) x
def Num.mrg (ps : List Pr) (xs : List Wrt) : List Pr := mrgR xs ps
theorem mrg_nil : mrg [] [] = [] := rfl
theorem mrg_own (ps : List Pr) : mrg ps [] = ps := rfl
theorem mrg_left (x : Wrt) (xs : List Wrt) : mrg [] (x :: xs) = tellW x ++ mrg [] xs := rfl
theorem mrg_cons (p : Pr) (ps : List Pr) (x : Wrt) (xs : List Wrt) : mrg (p :: ps) (x :: xs) = (if x.key.toList == p.key.toList then mrg ps (x :: xs) else if Op.bytesLess x.key.toList p.key.toList = true then tellW x ++ mrg (p :: ps) xs else p :: mrg ps (x :: xs)) := rfl
theorem mrg_same {p : Pr} {ps : List Pr} {x : Wrt} {xs : List Wrt} (h : x.key = p.key) : mrg (p :: ps) (x :: xs) = mrg ps (x :: xs) := by
  rw [mrg_cons, if_pos (by rw [h]; simp)]
theorem mrg_lt {p : Pr} {ps : List Pr} {x : Wrt} {xs : List Wrt} (h : kl x.key p.key) : mrg (p :: ps) (x :: xs) = tellW x ++ mrg (p :: ps) xs := by
  rw [mrg_cons, if_neg (by rw [key_ne (kl_ne h)]; simp), if_pos (show Op.bytesLess _ _ = true from h)]
theorem mrg_gt {p : Pr} {ps : List Pr} {x : Wrt} {xs : List Wrt} (h : kl p.key x.key) : mrg (p :: ps) (x :: xs) = p :: mrg ps (x :: xs) := by
  rw [mrg_cons, if_neg (by rw [key_ne (fun e => kl_ne h e.symm)]; simp), if_neg (fun h2 : Op.bytesLess _ _ = true => kl_asym h h2)]
/-- Its own writes of keys between. -/
def Num.ownW (ws : List Wrt) (lo hi : ByteArray) : List Wrt := ws.filter (fun x => withinB x.key lo hi)
theorem withinB_all (k : ByteArray) : withinB k ⟨#[]⟩ ⟨#[]⟩ = true := by
  unfold withinB
  have : (⟨#[]⟩ : ByteArray).toList = [] := by rw [Lib.toList_data]
  rw [this, bl_nil]
  rfl
theorem ownW_all (ws : List Wrt) : ownW ws ⟨#[]⟩ ⟨#[]⟩ = ws := by
  unfold ownW
  rw [List.filter_eq_self]
  intro x _
  exact withinB_all x.key
/-- A text with a byte 00 behind. -/
def Num.zeroB (k : ByteArray) : ByteArray := k ++ ⟨#[0]⟩
/-- The range that a scan hangs on. -/
def Num.seenR (lo hi : ByteArray) (told : List Pr) (n : Int) : Rng := match told.getLast? with
  | some x => if (told.length : Int) = n then ⟨lo, zeroB x.key⟩ else ⟨lo, hi⟩
  | none => ⟨lo, hi⟩
/-- 15.2. -/
def Num.cmdT (t : Tx) : Cmd := ⟨0, 0, 0, t.snap, t.asked, t.rngs, t.ws, 0, 0, 0, ⟨#[]⟩, 0, []⟩
/-- What holds of each; lim: a bound on all its lists. -/
structure Num.TxOk (t : Tx) : Prop where
  asked : UpT t.asked
  ws : UpW t.ws
  vs : t.st.vs.length ≤ 500
  ups : Ups t.st.vs
  small : ∀ x ∈ t.ws, x.key.size ≤ 900000
  smallA : ∀ k ∈ t.asked, k.size ≤ 900000
  smallV : ∀ v ∈ t.st.vs, v.key.size ≤ 900000
  limA : t.asked.length ≤ t.lim
  limR : t.rngs.length ≤ t.lim
  limW : t.ws.length ≤ t.lim
  lim : t.lim ≤ 1000
/-- 15.1: Get. -/
def Num.getA (t : Tx) (k : ByteArray) : ByteArray × Bool := match findW t.ws k with
  | some x => (x.val, !x.del)
  | none => (lookS (getV t.st.vs k t.snap), lookB (getV t.st.vs k t.snap))
def Num.getN (t : Tx) (k : ByteArray) : Tx := match findW t.ws k with
  | some _ => { t with lim := t.lim + 1 }
  | none => { t with asked := insA t.asked k, lim := t.lim + 1 }
/-- 15.1: Put, Del. -/
def Num.writeN (t : Tx) (x : Wrt) : Tx := { t with ws := putW t.ws x, lim := t.lim + 1 }
/-- 15.1: Scan, r what the store tells. -/
def Num.scanX (t : Tx) (lo hi : ByteArray) (n : Int) (r : List Pr) : List Pr := (mrg r (ownW t.ws lo hi)).take n.toNat
def Num.scanN (t : Tx) (lo hi : ByteArray) (n : Int) (r : List Pr) : Tx := { t with rngs := t.rngs ++ [seenR lo hi (scanX t lo hi n r) n], lim := t.lim + 1 }
theorem Num.TxOk.get {t : Tx} (h : TxOk t) {k : ByteArray} (hk : k.size ≤ 900000) (hl : t.lim ≤ 999) : TxOk (getN t k) := by
  have h1 := insA_len k t.asked
  have h2 := h.limA
  have h3 := h.limR
  have h4 := h.limW
  unfold getN
  split
  · exact ⟨h.asked, h.ws, h.vs, h.ups, h.small, h.smallA, h.smallV, by show t.asked.length ≤ t.lim + 1; omega, by show t.rngs.length ≤ t.lim + 1; omega, by show t.ws.length ≤ t.lim + 1; omega, by show t.lim + 1 ≤ 1000; omega⟩
  · exact ⟨insA_up h.asked, h.ws, h.vs, h.ups, h.small, fun x hx => by
      rcases insA_mem.1 hx with e | hm
      · rw [e]; exact hk
      · exact h.smallA x hm, h.smallV, by show (insA t.asked k).length ≤ t.lim + 1; omega, by show t.rngs.length ≤ t.lim + 1; omega, by show t.ws.length ≤ t.lim + 1; omega, by show t.lim + 1 ≤ 1000; omega⟩
theorem Num.TxOk.write {t : Tx} (h : TxOk t) {x : Wrt} (hk : x.key.size ≤ 900000) (hl : t.lim ≤ 999) : TxOk (writeN t x) := by
  have h1 := putW_len x t.ws
  have h2 := h.limA
  have h3 := h.limR
  have h4 := h.limW
  exact ⟨h.asked, putW_up h.ws, h.vs, h.ups, fun y hy => by
    rcases putW_keys h.ws hy with e | hm
    · rw [e]; exact hk
    · exact h.small y hm, h.smallA, h.smallV, by show t.asked.length ≤ t.lim + 1; omega, by show t.rngs.length ≤ t.lim + 1; omega, by show (putW t.ws x).length ≤ t.lim + 1; omega, by show t.lim + 1 ≤ 1000; omega⟩
theorem Num.TxOk.scan {t : Tx} (h : TxOk t) (lo hi : ByteArray) (n : Int) (r : List Pr) (hl : t.lim ≤ 999) : TxOk (scanN t lo hi n r) := by
  have h2 := h.limA
  have h3 := h.limR
  have h4 := h.limW
  exact ⟨h.asked, h.ws, h.vs, h.ups, h.small, h.smallA, h.smallV, by show t.asked.length ≤ t.lim + 1; omega, by show (t.rngs ++ [_]).length ≤ t.lim + 1; rw [List.length_append]; simp; omega, by show t.ws.length ≤ t.lim + 1; omega, by show t.lim + 1 ≤ 1000; omega⟩
/-! Sorted texts are the rising list of them. -/
theorem kl_lists {a b : ByteArray} : kl a b ↔ a.data.toList < b.data.toList := by
  unfold kl
  rw [bytesLess_eq, decide_eq_true_iff, Lib.toList_data, Lib.toList_data]
def Num.lst (k : ByteArray) : List UInt8 := k.data.toList
theorem lst_inj {a b : ByteArray} (h : lst a = lst b) : a = b := ByteArray.ext (Array.ext' h)
theorem lst_surj (x : List UInt8) : ∃ k : ByteArray, lst k = x := ⟨⟨x.toArray⟩, by simp [lst]⟩
theorem sorted_is {ss : List (List UInt8)} {K : List ByteArray} (hp : ss.Perm (K.map lst)) (hu : UpT K) : ss.mergeSort (fun x y => decide (x ≤ y)) = K.map lst := by
  have h1 : ss.mergeSort leB = (K.map lst).mergeSort leB := mergeSort_of_perm hp
  refine h1.trans (List.mergeSort_of_pairwise ?_)
  rw [List.pairwise_map]
  refine hu.imp fun h => ?_
  have := kl_lists.1 h
  exact decide_eq_true (List.le_of_lt this)
theorem upT_nodup {K : List ByteArray} (h : UpT K) : K.Nodup := h.imp fun hk => kl_ne hk
theorem lst_nodup {K : List ByteArray} (h : UpT K) : (K.map lst).Nodup := by
  show List.Pairwise _ _
  rw [List.pairwise_map]
  exact h.imp fun hk e => kl_ne hk (lst_inj e)
end Go.Proofs.Ytdmkmhjalcfchaa
