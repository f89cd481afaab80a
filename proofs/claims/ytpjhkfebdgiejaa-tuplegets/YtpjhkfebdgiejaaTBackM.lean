/-
  Values that may be are read back from their bytes, one behind the other. And: a row of values in memory, cell by cell.
-/
import Derived.Test.YtpjhkfebdgiejaaTGet
namespace Go.Proofs.Ytpjhkfebdgiejaa
open Go.RowKit Num

theorem put_ne' (x : Val) : ∃ c r, x.put = c :: r := by
  unfold Val.put putL
  split
  · exact ⟨_, _, rfl⟩
  · split
    · exact ⟨_, _, rfl⟩
    · split
      · exact ⟨_, _, rfl⟩
      · split
        · exact ⟨_, _, rfl⟩
        · split
          · exact ⟨_, _, rfl⟩
          · exact ⟨_, _, rfl⟩
theorem str_data' (s : ByteArray) : str s.data.toList = s := by
  unfold str
  rw [Array.toArray_toList]
theorem seqN_put : ∀ (l : List Val) (N : Nat), (∀ x ∈ l, x.ok) → mayAll l = true → (putAll l).length ≤ N → seqN N (putAll l) = l.map (fun x => (x, 0))
  | [], N, _, _, _ => by
    cases N <;> simp [seqN, putAll]
  | x :: l, N, hok, hm, hN => by
    have hx := hok x (by simp)
    have hm' : x.may = true ∧ mayAll l = true := by simpa [mayAll] using hm
    have e : putAll (x :: l) = x.put ++ putAll l := rfl
    obtain ⟨c, r, hp⟩ := put_ne' x
    have hg := getL_put x.k x.n hx.1 x.f hx.2 x.s hm'.1 (putAll l)
    have hg' : getL (x.put ++ putAll l) = ⟨x.k, x.n, x.f, x.s.data.toList, (x.put.length : Int), 0⟩ := hg
    rw [e, List.length_append] at hN
    have hpl : 1 ≤ x.put.length := by rw [hp]; simp
    obtain ⟨M, rfl⟩ : ∃ M, N = M + 1 := ⟨N - 1, by omega⟩
    have hne : ¬ x.put ++ putAll l = [] := by rw [hp]; simp
    have ih := seqN_put l M (fun y hy => hok y (by simp [hy])) hm'.2 (by omega)
    rw [e, seqN_go hne (by rw [hg'])]
    rw [hg']
    simp only [Int.toNat_natCast, List.drop_left, ih, item, str_data', List.map_cons]
theorem vals_put (l : List Val) (hok : ∀ x ∈ l, x.ok) (hm : mayAll l = true) (h16 : l.length ≤ 16) : valsL (putAll l) = some l := by
  have e := seqN_put l (putAll l).length hok hm (Nat.le_refl _)
  have h := vals_ok (s := putAll l) (by rw [e]; intro y hy; obtain ⟨x, _, rfl⟩ := List.mem_map.1 hy; rfl) (by rw [e, List.length_map]; exact h16)
  rw [h, e, List.map_map]
  congr 1
  exact List.map_id' l

theorem valCells_at : ∀ (l : List Val) (i : Nat) (x : Val), l[i]? = some x → (valCells l)[i * 4]? = some (.int .i64 x.k) ∧ (valCells l)[i * 4 + 1]? = some (.int .i64 x.n) ∧ (valCells l)[i * 4 + 2]? = some (.int .u64 (x.f : Int)) ∧ (valCells l)[i * 4 + 3]? = some (.string x.s)
  | [], i, x, h => by simp at h
  | y :: l, 0, x, h => by
    simp at h
    subst h
    simp [valCells]
  | y :: l, i + 1, x, h => by
    have ih := valCells_at l i x (by simpa using h)
    have e : valCells (y :: l) = [.int .i64 y.k, .int .i64 y.n, .int .u64 (y.f : Int), .string y.s] ++ valCells l := rfl
    have s : ∀ j, (valCells (y :: l))[(i + 1) * 4 + j]? = (valCells l)[i * 4 + j]? := by
      intro j
      rw [e, List.getElem?_append_right (by simp; omega)]
      congr 1
      simp
      omega
    have s0 := s 0
    simp only [Nat.add_zero] at s0
    rw [s0, s 1, s 2, s 3]
    exact ih
theorem lies_of_row {w : World} {base : Nat} {v : Value} {l : List Val} (h : w.ownsRow base 38 4 v l.length (valCells l)) :
    ∃ ao cap, v = .slice ao l.length cap ∧ Lies w w.heap.size ao l := by
  have hc : ∀ {g : Nat}, v.ownBlock = some g → _ := fun e => h.cells e
  rcases h.2 with ⟨hv, h0⟩ | ⟨g, cap, cur, hv, _, hg, _⟩
  · subst hv
    have : l = [] := List.eq_nil_of_length_eq_zero h0
    subst this
    exact ⟨none, 0, rfl, fun i x hx => by simp at hx⟩
  · subst hv
    refine ⟨some ⟨g, 0, none⟩, cap, rfl, fun i x hx => ?_⟩
    obtain ⟨h0, h1, h2, h3⟩ := valCells_at l i x hx
    have c0 := h.cells (g := g) rfl _ _ h0
    have c1 := h.cells (g := g) rfl _ _ h1
    have c2 := h.cells (g := g) rfl _ _ h2
    have c3 := h.cells (g := g) rfl _ _ h3
    simp only [Addr.add_lit] at c0 c1 c2 c3
    refine ⟨_, rfl, (Array.getElem?_eq_some_iff.1 hg).1, ?_⟩
    simp only [Addr.add_lit]
    exact ⟨c0, c1, c2, c3⟩
/-- Get of a text of whose values l is the list. -/
theorem get_some (s : ByteArray) (hs : s.size ≤ 900000) (l : List Val) (hv : valsL s.data.toList = some l) (w : World) :
    Calls Try.prog 14 #[.string s] w fun e w' => ∃ v, e = .returned (.tuple #[v, .int .i64 0]) ∧ w'.ownsRow w.heap.size 38 4 v l.length (valCells l) ∧ Below w.heap.size w w' := by
  have h := tupGet_any s hs w
  rw [hv] at h
  exact h.mono fun e w' ⟨⟨v, he, hr⟩, hb⟩ => ⟨v, he, hr, hb⟩
theorem get_none (s : ByteArray) (hs : s.size ≤ 900000) (hv : valsL s.data.toList = none) (w : World) :
    Calls Try.prog 14 #[.string s] w fun e w' => e = .returned (.tuple #[.slice none 0 0, .int .i64 3]) ∧ Below w.heap.size w w' := by
  have h := tupGet_any s hs w
  rw [hv] at h
  exact h
theorem get_lies (s : ByteArray) (hs : s.size ≤ 900000) (l : List Val) (hv : valsL s.data.toList = some l) (w : World) :
    Calls Try.prog 14 #[.string s] w fun e w' => ∃ ao cap, e = .returned (.tuple #[.slice ao l.length cap, .int .i64 0]) ∧ Lies w' w'.heap.size ao l ∧ Below w.heap.size w w' :=
  (get_some s hs l hv w).mono fun e w' ⟨v, he, hr, hb⟩ => by
    obtain ⟨ao, cap, rfl, hl⟩ := lies_of_row hr
    exact ⟨ao, cap, he, hl, hb⟩
end Go.Proofs.Ytpjhkfebdgiejaa
