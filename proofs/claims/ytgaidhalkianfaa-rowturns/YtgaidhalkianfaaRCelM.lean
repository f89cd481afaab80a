/-
  Cells (a column's number and a value), and lists of them; the bytes of a row, and the row of bytes. No program is named here.
-/
import Derived.Test.YtgaidhalkianfaaTSeqM
namespace Go.Proofs.Ytgaidhalkianfaa.Num

/-- A cell. -/
structure Cel where
  c : Int
  x : Val
/-- Its numbers are numbers. -/
def Cel.ok (y : Cel) : Prop := (-9223372036854775808 ≤ y.c ∧ y.c ≤ 9223372036854775807) ∧ y.x.ok
/-- A column's number in two bytes. -/
def col2 (c : Int) : List UInt8 := [byteAt c.toNat 1, byteAt c.toNat 0]
def Cel.put (y : Cel) : List UInt8 := col2 y.c ++ y.x.put
def rowB (l : List Cel) : List UInt8 := l.flatMap Cel.put
/-- The last column, or what was ahead of all. -/
def lastC : Int → List Cel → Int
  | a, [] => a
  | _, y :: r => lastC y.c r
/-- May a cell stand behind a column? -/
def Cel.may (a : Int) (y : Cel) : Prop := a < y.c ∧ y.c ≤ 65535 ∧ y.x.may = true
/-- A row that may be (4.1). -/
def RowOk : Int → List Cel → Prop
  | _, [] => True
  | a, y :: r => y.may a ∧ RowOk y.c r
/-- What Put tells of a row (4.1). -/
def PutSays (l : List Cel) (T : List UInt8) (E : Int) : Prop := (RowOk 0 l ∧ T = rowB l ∧ E = 0) ∨ (¬ RowOk 0 l ∧ T = [] ∧ E = 1)

theorem putSays_one {l : List Cel} {T T' : List UInt8} {E E' : Int} (h : PutSays l T E) (h' : PutSays l T' E') : T = T' ∧ E = E' := by
  rcases h with ⟨a, rfl, rfl⟩ | ⟨a, rfl, rfl⟩
  · rcases h' with ⟨_, rfl, rfl⟩ | ⟨b, _, _⟩
    · exact ⟨rfl, rfl⟩
    · exact absurd a b
  · rcases h' with ⟨b, _, _⟩ | ⟨_, rfl, rfl⟩
    · exact absurd b a
    · exact ⟨rfl, rfl⟩
theorem take_one {α : Type} (l : List α) (i : Nat) (hi : i < l.length) : l.take (i + 1) = l.take i ++ [l[i]] := by
  rw [List.take_add_one, List.getElem?_eq_getElem hi]
  rfl
theorem lastC_snoc : ∀ (l : List Cel) (a : Int) (y : Cel), lastC a (l ++ [y]) = y.c
  | [], _, _ => rfl
  | z :: l, _, y => lastC_snoc l z.c y
theorem rowOk_snoc : ∀ (l : List Cel) (a : Int) (y : Cel), RowOk a (l ++ [y]) ↔ RowOk a l ∧ y.may (lastC a l)
  | [], a, y => by simp [RowOk, lastC]
  | z :: l, a, y => by
    have ih := rowOk_snoc l z.c y
    show z.may a ∧ RowOk z.c (l ++ [y]) ↔ (z.may a ∧ RowOk z.c l) ∧ y.may (lastC z.c l)
    rw [ih, and_assoc]
theorem rowOk_front : ∀ (l r : List Cel) (a : Int), RowOk a (l ++ r) → RowOk a l
  | [], _, _, _ => trivial
  | z :: l, r, _, h => ⟨h.1, rowOk_front l r z.c h.2⟩
theorem rowOk_not {l : List Cel} {k : Nat} (hk : k < l.length) (h : ¬ (l[k]).may (lastC 0 (l.take k))) : ¬ RowOk 0 l := by
  intro hl
  have e : l = l.take (k + 1) ++ l.drop (k + 1) := (List.take_append_drop _ _).symm
  rw [e] at hl
  have h2 := rowOk_front _ _ _ hl
  rw [take_one l k hk] at h2
  exact h ((rowOk_snoc _ _ _).1 h2).2
theorem rowB_snoc (l : List Cel) (i : Nat) (hi : i < l.length) : rowB (l.take (i + 1)) = rowB (l.take i) ++ (l[i]).put := by
  rw [take_one l i hi]
  show List.flatMap Cel.put (l.take i ++ [l[i]]) = _
  rw [List.flatMap_append, List.flatMap_singleton]
  rfl
theorem length_rowB : ∀ (l : List Cel) (a : Int), RowOk a l → (rowB l).length ≤ 85 * l.length
  | [], _, _ => by simp [rowB]
  | y :: l, _, h => by
    have ih := length_rowB l y.c h.2
    have e : rowB (y :: l) = (col2 y.c ++ y.x.put) ++ rowB l := rfl
    have hp := length_put y.x h.1.2.2
    have hc : (col2 y.c).length = 2 := rfl
    rw [e, List.length_append, List.length_append, List.length_cons, hc]
    omega
theorem lastC_bounds : ∀ (l : List Cel) (a : Int), (0 ≤ a ∧ a ≤ 65535) → RowOk a l → 0 ≤ lastC a l ∧ lastC a l ≤ 65535
  | [], _, ha, _ => ha
  | y :: l, a, ha, h => lastC_bounds l y.c ⟨by have := h.1.1; omega, h.1.2.1⟩ h.2

/-- The column's number at the beginning of bytes. -/
def colN (a b : UInt8) : Nat := a.toNat * 256 + b.toNat
def celOf (a b : UInt8) (r : Res) : Cel := ⟨(colN a b : Int), ⟨r.k, r.n, r.f, str r.s⟩⟩
/-- The cells of bytes (4.2), of at most so many. -/
def rowN : Nat → Int → List UInt8 → Option (List Cel)
  | 0, _, _ => some []
  | _ + 1, _, [] => some []
  | _ + 1, _, [_] => none
  | N + 1, last, a :: b :: r => if (getL r).e = 0 ∧ last < (colN a b : Int) then (rowN N (colN a b) (r.drop (getL r).c.toNat)).map (celOf a b (getL r) :: ·) else none
def rowL (s : List UInt8) : Option (List Cel) := rowN s.length 0 s

theorem rowN_go {N : Nat} {last : Int} {a b : UInt8} {r : List UInt8} (he : (getL r).e = 0) (hc : last < (colN a b : Int)) : rowN (N + 1) last (a :: b :: r) = (rowN N (colN a b) (r.drop (getL r).c.toNat)).map (celOf a b (getL r) :: ·) := by
  rw [rowN, if_pos ⟨he, hc⟩]
theorem rowN_bad {N : Nat} {last : Int} {a b : UInt8} {r : List UInt8} (h : ¬ (getL r).e = 0 ∨ ¬ last < (colN a b : Int)) : rowN (N + 1) last (a :: b :: r) = none := by
  rw [rowN, if_neg]
  rintro ⟨h1, h2⟩
  rcases h with h | h
  · exact h h1
  · exact h h2
theorem map_cons {q : List Cel} {y : Cel} (o : Option (List Cel)) : (o.map (y :: ·)).map (q ++ ·) = o.map ((q ++ [y]) ++ ·) := by
  cases o with
  | none => rfl
  | some p => simp
theorem colN_col2 (c : Int) (h0 : 0 ≤ c) (h1 : c ≤ 65535) : colN (byteAt c.toNat 1) (byteAt c.toNat 0) = c.toNat := by
  unfold colN
  rw [byteAt_nat, byteAt_nat]
  omega
theorem str_data2 (s : ByteArray) : str s.data.toList = s := by
  unfold str
  rw [Array.toArray_toList]
theorem row_nil : ∀ (N : Nat) (a : Int), rowN N a [] = some []
  | 0, _ => rfl
  | _ + 1, _ => rfl
/-- A row that may be is read back. -/
theorem rowN_put : ∀ (l : List Cel) (N : Nat) (a : Int), 0 ≤ a → (∀ y ∈ l, y.ok) → RowOk a l → (rowB l).length ≤ N → rowN N a (rowB l) = some l
  | [], N, a, _, _, _, _ => row_nil N a
  | y :: l, N, a, ha, hok, h, hN => by
    have hy := hok y (by simp)
    obtain ⟨⟨h1, h2, h3⟩, h4⟩ := h
    have e : rowB (y :: l) = byteAt y.c.toNat 1 :: byteAt y.c.toNat 0 :: (y.x.put ++ rowB l) := rfl
    have hg : getL (y.x.put ++ rowB l) = ⟨y.x.k, y.x.n, y.x.f, y.x.s.data.toList, (y.x.put.length : Int), 0⟩ := getL_put y.x.k y.x.n hy.2.1 y.x.f hy.2.2 y.x.s h3 (rowB l)
    rw [e, List.length_cons, List.length_cons, List.length_append] at hN
    obtain ⟨M, rfl⟩ : ∃ M, N = M + 1 := ⟨N - 1, by omega⟩
    have hc := colN_col2 y.c (by omega) h2
    have hci : ((y.c.toNat : Nat) : Int) = y.c := by omega
    rw [e, rowN_go (by rw [hg]) (by rw [hc, hci]; exact h1), hg]
    simp only [Int.toNat_natCast, List.drop_left]
    rw [hc, hci, rowN_put l M y.c (by omega) (fun z hz => hok z (by simp [hz])) h4 (by omega)]
    simp only [Option.map_some, celOf, hc, hci, str_data2]
theorem rowL_put (l : List Cel) (hok : ∀ y ∈ l, y.ok) (h : RowOk 0 l) : rowL (rowB l) = some l := rowN_put l _ 0 (by omega) hok h (Nat.le_refl _)
end Go.Proofs.Ytgaidhalkianfaa.Num
