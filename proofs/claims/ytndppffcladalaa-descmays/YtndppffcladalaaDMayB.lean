/-
  Contracts: what package desc asks of columns, of indexes and of a table's numbers (6.2).
-/
import Derived.Test.YtndppffcladalaaDMayA
import Derived.Test.YtndppffcladalaaDPutL
import Derived.Test.YtndppffcladalaaVMay
namespace Go.Proofs.Ytndppffcladalaa
open Go.RowKit Num
open scoped Classical
set_option linter.unusedVariables false

theorem Try.infoInt : (Try.prog.info? 3).map (fun i => (i.zero, i.size, i.bytes)) = some (some (.int .i64 0), 1, 8) := by kernel_rfl
theorem Try.infoStr : (Try.prog.info? 9).map (fun i => (i.zero, i.size, i.bytes)) = some (some (.string ⟨#[]⟩), 1, 16) := by kernel_rfl
theorem one_cell (w : World) (t : TypeId) (y : Value) : ∀ j u, [y][j]? = some u → (w.alloc (.cells #[y] t)).cell? ((⟨w.heap.size, 0, none⟩ : Addr).add j) = some u := by
  intro j u hj
  match j, hj with
  | 0, hj => simp at hj; subst hj; simp [Addr.add]
theorem one_cellB (w : World) (t : TypeId) (y : Value) (b : Nat) (hb : w.heap.size = b) : ∀ j u, [y][j]? = some u → (w.alloc (.cells #[y] t)).cell? ((⟨b, 0, none⟩ : Addr).add j) = some u := by
  subst hb
  exact one_cell w t y
/-- A box stays. -/
theorem stay_box {X : Nat → Prop} {e : TypeId} {w w' : World} (h : Stay X e w w') {b : Nat} {cs : Array Value} {t : TypeId} {fr : Nat × Nat} (hb : w.heap[b]? = some (.cells cs t fr)) (ht : t ≠ e) (hX : ¬ X b) : w'.heap[b]? = some (.cells cs t fr) := by
  rw [h.keep b (Array.getElem?_eq_some_iff.1 hb).1 hX (fun cs' fr' he => by rw [hb] at he; simp at he; exact ht he.2.1)]
  exact hb
theorem below_box {w w' : World} (h : Below w.heap.size w w') {b : Nat} {o : Obj} (hb : w.heap[b]? = some o) : w'.heap[b]? = some o := by
  rw [h.block b (Array.getElem?_eq_some_iff.1 hb).1]
  exact hb
theorem alloc_box {w : World} (o' : Obj) {b : Nat} {o : Obj} (hb : w.heap[b]? = some o) : (w.alloc o').heap[b]? = some o := by
  rw [Below.heap_alloc w o' b (Array.getElem?_eq_some_iff.1 hb).1]
  exact hb
/-- Another row of the call's own stays. -/
theorem own_stay {X : Nat → Prop} {e e' : TypeId} {w w' : World} {B size n : Nat} {v : Value} {xs : List Value} (h : w.ownsRow B e size v n xs) (hs : Stay X e' w w') (hne : e ≠ e') (hX : ∀ k, ¬ X k) : w'.ownsRow B e size v n xs := by
  refine ⟨h.1, ?_⟩
  rcases h.2 with h0 | ⟨g, cap, cur, hv, hb, hg, r⟩
  · exact .inl h0
  · exact .inr ⟨g, cap, cur, hv, hb, stay_box hs hg hne (hX g), r⟩
/-- A row of the call's own. -/
def Num.RowN (B : Nat) (w : World) (v : Value) (l : List Int) : Prop := w.ownsRow B 3 1 v l.length (l.map (Value.int .i64))
theorem wpList_appRowN {ops : Array Oper} {rest : List Oper} {o : Oper} {a : Act} {Q : Exit → Act → World → Prop} (w : World) (hgd : o.guard = none) (s x : Operand)
    (ho : o.op = .call { callee := .builtin .append, args := #[s, x], argTypes := #[50, 50] })
    (base : Nat) (v : Value) (l : List Int) (hs : a.eval s = v) (hown : RowN base w v l)
    (ad : Addr) (c : Nat) (y : Int) (hx : a.eval x = .slice (some ad) 1 c) (hnews : ∀ j u, [(Value.int .i64) y][j]? = some u → w.cell? (ad.add j) = some u)
    (hb : l.length ≤ 100000) (hbase : base ≤ w.heap.size)
    (h : ∀ v' w', RowN base w' v' (l ++ [y]) → Below base w w' → Stay (fun _ => False) 3 w w' → wpList Try.prog ops Q rest (a.put o.dst v') w') : wpList Try.prog ops Q (o :: rest) a w := by
  obtain ⟨i0, hi, hz0, hz1, hz2⟩ := info_parts Try.infoInt
  refine wpList_append_own w hgd s x 50 ho base 3 i0 _ 1 _ Try.underlying50 hi hz0 hz1 hz2 rfl (by decide) v l.length (l.map (Value.int .i64)) hs hown ad 1 c [(Value.int .i64) y] hx (by simp) hnews ?_ (by unfold maxLen; omega) (by omega) hbase ?_
  · intro u hu
    simp only [List.mem_singleton] at hu
    subst hu
    rfl
  · intro v' w' hown' hgrow _
    have e : l.map (Value.int .i64) ++ [(Value.int .i64) y] = (l ++ [y]).map (Value.int .i64) := by simp
    rw [e] at hown'
    exact h v' w' (by unfold RowN; rw [List.length_append]; exact hown') (Below.grown (Below.refl base w) hgrow hbase (fun k hk => (hown.lt k hk).1)) (Stay.grown hown hgrow)
theorem Num.RowN.nil (B : Nat) (w : World) : RowN B w (.slice none 0 0) [] := World.ownsRow_nil _ _ _ _
theorem Num.RowN.below {B : Nat} {w w' : World} {v : Value} {l : List Int} (h : RowN B w v l) (hb : Below w.heap.size w w') : RowN B w' v l := own_below h hb
theorem Num.RowN.alloc {B : Nat} {w : World} {v : Value} {l : List Int} (h : RowN B w v l) (o : Obj) : RowN B (w.alloc o) v l := World.ownsRow.alloc h o
theorem Num.RowN.lies {B : Nat} {w : World} {v : Value} {l : List Int} (h : RowN B w v l) : ∃ ao cap, v = .slice ao l.length cap ∧ l.length ≤ cap ∧ LiesN w w.heap.size ao l := by
  rcases h.2 with ⟨hv, h0⟩ | ⟨g, cap, cur, hv, _, hg, hcap, _⟩
  · subst hv
    have : l = [] := List.eq_nil_of_length_eq_zero h0
    subst this
    exact ⟨none, 0, rfl, Nat.le_refl _, fun i x hx => by simp at hx⟩
  · subst hv
    refine ⟨some ⟨g, 0, none⟩, cap, rfl, hcap, fun i x hx => ⟨_, rfl, (Array.getElem?_eq_some_iff.1 hg).1, ?_⟩⟩
    rw [Nat.mul_one]
    exact h.cells (g := g) rfl i _ (by rw [List.getElem?_map, hx]; rfl)
/-- A row of the call's own. -/
def Num.RowS (B : Nat) (w : World) (v : Value) (l : List ByteArray) : Prop := w.ownsRow B 9 1 v l.length (l.map Value.string)
theorem wpList_appRowS {ops : Array Oper} {rest : List Oper} {o : Oper} {a : Act} {Q : Exit → Act → World → Prop} (w : World) (hgd : o.guard = none) (s x : Operand)
    (ho : o.op = .call { callee := .builtin .append, args := #[s, x], argTypes := #[54, 54] })
    (base : Nat) (v : Value) (l : List ByteArray) (hs : a.eval s = v) (hown : RowS base w v l)
    (ad : Addr) (c : Nat) (y : ByteArray) (hx : a.eval x = .slice (some ad) 1 c) (hnews : ∀ j u, [Value.string y][j]? = some u → w.cell? (ad.add j) = some u)
    (hb : l.length ≤ 100000) (hbase : base ≤ w.heap.size)
    (h : ∀ v' w', RowS base w' v' (l ++ [y]) → Below base w w' → Stay (fun _ => False) 9 w w' → wpList Try.prog ops Q rest (a.put o.dst v') w') : wpList Try.prog ops Q (o :: rest) a w := by
  obtain ⟨i0, hi, hz0, hz1, hz2⟩ := info_parts Try.infoStr
  refine wpList_append_own w hgd s x 54 ho base 9 i0 _ 1 _ Try.underlying54 hi hz0 hz1 hz2 rfl (by decide) v l.length (l.map Value.string) hs hown ad 1 c [Value.string y] hx (by simp) hnews ?_ (by unfold maxLen; omega) (by omega) hbase ?_
  · intro u hu
    simp only [List.mem_singleton] at hu
    subst hu
    rfl
  · intro v' w' hown' hgrow _
    have e : l.map Value.string ++ [Value.string y] = (l ++ [y]).map Value.string := by simp
    rw [e] at hown'
    exact h v' w' (by unfold RowS; rw [List.length_append]; exact hown') (Below.grown (Below.refl base w) hgrow hbase (fun k hk => (hown.lt k hk).1)) (Stay.grown hown hgrow)
theorem Num.RowS.nil (B : Nat) (w : World) : RowS B w (.slice none 0 0) [] := World.ownsRow_nil _ _ _ _
theorem Num.RowS.below {B : Nat} {w w' : World} {v : Value} {l : List ByteArray} (h : RowS B w v l) (hb : Below w.heap.size w w') : RowS B w' v l := own_below h hb
theorem Num.RowS.alloc {B : Nat} {w : World} {v : Value} {l : List ByteArray} (h : RowS B w v l) (o : Obj) : RowS B (w.alloc o) v l := World.ownsRow.alloc h o
theorem Num.RowS.lies {B : Nat} {w : World} {v : Value} {l : List ByteArray} (h : RowS B w v l) : ∃ ao cap, v = .slice ao l.length cap ∧ l.length ≤ cap ∧ LiesS w w.heap.size ao l := by
  rcases h.2 with ⟨hv, h0⟩ | ⟨g, cap, cur, hv, _, hg, hcap, _⟩
  · subst hv
    have : l = [] := List.eq_nil_of_length_eq_zero h0
    subst this
    exact ⟨none, 0, rfl, Nat.le_refl _, fun i x hx => by simp at hx⟩
  · subst hv
    refine ⟨some ⟨g, 0, none⟩, cap, rfl, hcap, fun i x hx => ⟨_, rfl, (Array.getElem?_eq_some_iff.1 hg).1, ?_⟩⟩
    rw [Nat.mul_one]
    exact h.cells (g := g) rfl i _ (by rw [List.getElem?_map, hx]; rfl)
theorem Num.RowS.stay {B : Nat} {w w' : World} {v : Value} {l : List ByteArray} (h : RowS B w v l) (hs : Stay (fun _ => False) 3 w w') : RowS B w' v l := own_stay h hs (by decide) (fun _ => id)
theorem Num.RowN.stay {B : Nat} {w w' : World} {v : Value} {l : List Int} (h : RowN B w v l) (hs : Stay (fun _ => False) 9 w w') : RowN B w' v l := own_stay h hs (by decide) (fun _ => id)

/-- What is asked of a column by itself. -/
def Num.ColM (c : Colm) : Prop := (1 ≤ c.kind ∧ c.kind ≤ 5) ∧ (0 ≤ c.state ∧ c.state ≤ 4) ∧ (0 ≤ c.null ∧ c.null ≤ 4) ∧ c.d.may = true ∧ (c.d.k = 0 ∨ c.d.k = c.kind)
def Num.KeyM (c : Colm) : Prop := c.state = 4 ∧ c.null = 4 ∧ c.d.k = 0
theorem mayColumn_any (c : Colm) (w : World) :
    Calls Try.prog 40 #[.agg #[.int .i64 c.id, .string c.name, .int .i64 c.kind, .int .i64 c.state, .int .i64 c.null, .int .i64 c.d.k, .int .i64 c.d.n, .int .u64 (c.d.f : Int), .string c.d.s]] w fun e w' => e = .returned (.bool (tru (ColM c))) ∧ Below w.heap.size w w' := by
  have hbx := heap_new w (.cells #[.int .i64 c.id, .string c.name, .int .i64 c.kind, .int .i64 c.state, .int .i64 c.null, .int .i64 c.d.k, .int .i64 c.d.n, .int .u64 (c.d.f : Int), .string c.d.s] 45)
  have h1 := within_any c.kind 1 5
  have h2 := mayState_any c.state
  have h3 := mayState_any c.null
  have h4 : ∀ w, Calls Try.prog 63 #[.agg #[.int .i64 c.d.k, .int .i64 c.d.n, .int .u64 (c.d.f : Int), .string c.d.s]] w fun e w' => e = .returned (.bool c.d.may) ∧ Below w.heap.size w w' := may_any c.d.k c.d.n c.d.f c.d.s
  by_cases hk : 1 ≤ c.kind ∧ c.kind ≤ 5
  · rw [tru_yes hk] at h1
    by_cases hs : 0 ≤ c.state ∧ c.state ≤ 4
    · rw [tru_yes hs] at h2
      by_cases hn : 0 ≤ c.null ∧ c.null ≤ 4
      · rw [tru_yes hn] at h3
        rcases Bool.eq_false_or_eq_true c.d.may with hm | hm
        · rw [hm] at h4
          by_cases h0 : c.d.k = 0
          · rw [tru_yes (show ColM c from ⟨hk, hs, hn, hm, .inl h0⟩)]
            clear hk hs hn hm
            have hz : (c.d.k == 0) = true := beq_iff_eq.2 h0
            clear h0
            go_enter Try.func40, Try.ntmps40
            go_wp2_with (first
              | (go_at_call 25; refine (h1 _).mono ?_; rintro e w1 ⟨rfl, rfl⟩)
              | (go_at_call 62; refine (h2 _).mono ?_; rintro e w1 ⟨rfl, rfl⟩; clear h2)
              | (go_at_call 62; refine (h3 _).mono ?_; rintro e w1 ⟨rfl, rfl⟩)
              | (go_at_call 63; refine (h4 _).mono ?_; rintro e w5 ⟨rfl, hb5⟩; have b5 := below_box hb5 hbx; have c2 := box_cell b5 2 _ rfl; have c5 := box_cell b5 5 _ rfl))
            go_ret
            exact ⟨rfl, below_box0 hb5⟩
          · by_cases h5 : c.d.k = c.kind
            · rw [tru_yes (show ColM c from ⟨hk, hs, hn, hm, .inr h5⟩)]
              clear hk hs hn hm
              have hz : (c.d.k == 0) = false := beq_eq_false_iff_ne.2 h0
              have hz2 : (c.d.k == c.kind) = true := beq_iff_eq.2 h5
              clear h0 h5
              go_enter Try.func40, Try.ntmps40
              go_wp2_with (first
                | (go_at_call 25; refine (h1 _).mono ?_; rintro e w1 ⟨rfl, rfl⟩)
                | (go_at_call 62; refine (h2 _).mono ?_; rintro e w1 ⟨rfl, rfl⟩; clear h2)
                | (go_at_call 62; refine (h3 _).mono ?_; rintro e w1 ⟨rfl, rfl⟩)
                | (go_at_call 63; refine (h4 _).mono ?_; rintro e w5 ⟨rfl, hb5⟩; have b5 := below_box hb5 hbx; have c2 := box_cell b5 2 _ rfl; have c5 := box_cell b5 5 _ rfl))
              go_ret
              exact ⟨rfl, below_box0 hb5⟩
            · rw [tru_no (show ¬ ColM c from fun h => by rcases h.2.2.2.2 with h | h; exact h0 h; exact h5 h)]
              clear hk hs hn hm
              have hz : (c.d.k == 0) = false := beq_eq_false_iff_ne.2 h0
              have hz2 : (c.d.k == c.kind) = false := beq_eq_false_iff_ne.2 h5
              clear h0 h5
              go_enter Try.func40, Try.ntmps40
              go_wp2_with (first
                | (go_at_call 25; refine (h1 _).mono ?_; rintro e w1 ⟨rfl, rfl⟩)
                | (go_at_call 62; refine (h2 _).mono ?_; rintro e w1 ⟨rfl, rfl⟩; clear h2)
                | (go_at_call 62; refine (h3 _).mono ?_; rintro e w1 ⟨rfl, rfl⟩)
                | (go_at_call 63; refine (h4 _).mono ?_; rintro e w5 ⟨rfl, hb5⟩; have b5 := below_box hb5 hbx; have c2 := box_cell b5 2 _ rfl; have c5 := box_cell b5 5 _ rfl))
              go_ret
              exact ⟨rfl, below_box0 hb5⟩
        · rw [hm] at h4
          rw [tru_no (show ¬ ColM c from fun h => by have := h.2.2.2.1; rw [hm] at this; cases this)]
          clear hk hs hn hm
          go_enter Try.func40, Try.ntmps40
          go_wp2_with (first
            | (go_at_call 25; refine (h1 _).mono ?_; rintro e w1 ⟨rfl, rfl⟩)
            | (go_at_call 62; refine (h2 _).mono ?_; rintro e w1 ⟨rfl, rfl⟩; clear h2)
            | (go_at_call 62; refine (h3 _).mono ?_; rintro e w1 ⟨rfl, rfl⟩)
            | (go_at_call 63; refine (h4 _).mono ?_; rintro e w5 ⟨rfl, hb5⟩; have b5 := below_box hb5 hbx; have c2 := box_cell b5 2 _ rfl; have c5 := box_cell b5 5 _ rfl))
          go_ret
          exact ⟨rfl, below_box0 hb5⟩
      · rw [tru_no hn] at h3
        rw [tru_no (show ¬ ColM c from fun h => hn h.2.2.1)]
        clear hk hs hn
        go_enter Try.func40, Try.ntmps40
        go_wp2_with (first
          | (go_at_call 25; refine (h1 _).mono ?_; rintro e w1 ⟨rfl, rfl⟩)
          | (go_at_call 62; refine (h2 _).mono ?_; rintro e w1 ⟨rfl, rfl⟩; clear h2)
          | (go_at_call 62; refine (h3 _).mono ?_; rintro e w1 ⟨rfl, rfl⟩)
          | (go_at_call 63; refine (h4 _).mono ?_; rintro e w5 ⟨rfl, hb5⟩; have b5 := below_box hb5 hbx; have c2 := box_cell b5 2 _ rfl; have c5 := box_cell b5 5 _ rfl))
        go_ret
        exact ⟨rfl, (Below.refl _ _).alloc (Nat.le_refl _) _⟩
    · rw [tru_no hs] at h2
      rw [tru_no (show ¬ ColM c from fun h => hs h.2.1)]
      clear hk hs
      go_enter Try.func40, Try.ntmps40
      go_wp2_with (first
        | (go_at_call 25; refine (h1 _).mono ?_; rintro e w1 ⟨rfl, rfl⟩)
        | (go_at_call 62; refine (h2 _).mono ?_; rintro e w1 ⟨rfl, rfl⟩; clear h2)
        | (go_at_call 62; refine (h3 _).mono ?_; rintro e w1 ⟨rfl, rfl⟩)
        | (go_at_call 63; refine (h4 _).mono ?_; rintro e w5 ⟨rfl, hb5⟩; have b5 := below_box hb5 hbx; have c2 := box_cell b5 2 _ rfl; have c5 := box_cell b5 5 _ rfl))
      go_ret
      exact ⟨rfl, (Below.refl _ _).alloc (Nat.le_refl _) _⟩
  · rw [tru_no hk] at h1
    rw [tru_no (show ¬ ColM c from fun h => hk h.1)]
    clear hk
    go_enter Try.func40, Try.ntmps40
    go_wp2_with (first
      | (go_at_call 25; refine (h1 _).mono ?_; rintro e w1 ⟨rfl, rfl⟩)
      | (go_at_call 62; refine (h2 _).mono ?_; rintro e w1 ⟨rfl, rfl⟩; clear h2)
      | (go_at_call 62; refine (h3 _).mono ?_; rintro e w1 ⟨rfl, rfl⟩)
      | (go_at_call 63; refine (h4 _).mono ?_; rintro e w5 ⟨rfl, hb5⟩; have b5 := below_box hb5 hbx; have c2 := box_cell b5 2 _ rfl; have c5 := box_cell b5 5 _ rfl))
    go_ret
    exact ⟨rfl, (Below.refl _ _).alloc (Nat.le_refl _) _⟩
theorem mayKey_any (c : Colm) (w : World) :
    Calls Try.prog 41 #[.agg #[.int .i64 c.id, .string c.name, .int .i64 c.kind, .int .i64 c.state, .int .i64 c.null, .int .i64 c.d.k, .int .i64 c.d.n, .int .u64 (c.d.f : Int), .string c.d.s]] w fun e w' => e = .returned (.bool (tru (KeyM c))) ∧ Below w.heap.size w w' := by
  by_cases hs : c.state = 4
  · have hs' : (c.state == 4) = true := beq_iff_eq.2 hs
    by_cases hn : c.null = 4
    · have hn' : (c.null == 4) = true := beq_iff_eq.2 hn
      by_cases h0 : c.d.k = 0
      · have h0' : (c.d.k == 0) = true := beq_iff_eq.2 h0
        rw [tru_yes (show KeyM c from ⟨hs, hn, h0⟩)]
        clear hs hn h0
        go_enter Try.func41, Try.ntmps41
        go_wp2
        go_ret
        exact ⟨rfl, (Below.refl _ _).alloc (Nat.le_refl _) _⟩
      · have h0' : (c.d.k == 0) = false := beq_eq_false_iff_ne.2 h0
        rw [tru_no (show ¬ KeyM c from fun h => h0 h.2.2)]
        clear hs hn h0
        go_enter Try.func41, Try.ntmps41
        go_wp2
        go_ret
        exact ⟨rfl, (Below.refl _ _).alloc (Nat.le_refl _) _⟩
    · have hn' : (c.null == 4) = false := beq_eq_false_iff_ne.2 hn
      rw [tru_no (show ¬ KeyM c from fun h => hn h.2.1)]
      clear hs hn
      go_enter Try.func41, Try.ntmps41
      go_wp2
      go_ret
      exact ⟨rfl, (Below.refl _ _).alloc (Nat.le_refl _) _⟩
  · have hs' : (c.state == 4) = false := beq_eq_false_iff_ne.2 hs
    rw [tru_no (show ¬ KeyM c from fun h => hs h.1)]
    clear hs
    go_enter Try.func41, Try.ntmps41
    go_wp2
    go_ret
    exact ⟨rfl, (Below.refl _ _).alloc (Nat.le_refl _) _⟩
end Go.Proofs.Ytndppffcladalaa
