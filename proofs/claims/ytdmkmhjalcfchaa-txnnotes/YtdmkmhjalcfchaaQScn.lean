/-
  Contracts of the document's own store: texts in a rising list, once each; Scan (8.3).
-/
import Derived.Test.YtdmkmhjalcfchaaQPut
namespace Go.Proofs.Ytdmkmhjalcfchaa
open Go.RowKit Num
open scoped Classical
set_option linter.unusedVariables false
set_option maxRecDepth 100000

/-! A rising list of texts. -/
def Num.cntT (l : List ByteArray) (k : ByteArray) : Nat := (l.takeWhile (fun x => Op.bytesLess x.toList k.toList)).length
def Num.hasT (l : List ByteArray) (k : ByteArray) : Bool := match l[cntT l k]? with
  | none => false
  | some x => x.toList == k.toList
def Num.insT (l : List ByteArray) (k : ByteArray) : List ByteArray := if hasT l k = true then l else l.take (cntT l k) ++ (k :: l.drop (cntT l k))
theorem cntT_le (l : List ByteArray) (k : ByteArray) : cntT l k ≤ l.length := tw_len _ _
def Num.Up (l : List ByteArray) : Prop := l.Pairwise kl
theorem insT_mem {l : List ByteArray} {k x : ByteArray} : x ∈ insT l k ↔ x = k ∨ x ∈ l := by
  unfold insT
  split
  · rename_i h
    unfold hasT at h
    split at h
    · cases h
    · rename_i y hy
      have e := key_eq h
      constructor
      · exact fun hx => .inr hx
      · rintro (rfl | hx)
        · rw [← e]
          exact List.mem_of_getElem? hy
        · exact hx
  · have hs : x ∈ l ↔ x ∈ l.take (cntT l k) ∨ x ∈ l.drop (cntT l k) := by
      rw [← List.mem_append, List.take_append_drop]
    rw [List.mem_append, List.mem_cons, hs]
    constructor
    · rintro (h | h | h)
      · exact .inr (.inl h)
      · exact .inl h
      · exact .inr (.inr h)
    · rintro (h | h | h)
      · exact .inr (.inl h)
      · exact .inl h
      · exact .inr (.inr h)
theorem cntT_below {l : List ByteArray} {k : ByteArray} : ∀ x ∈ l.take (cntT l k), kl x k := by
  intro x hx
  rw [show l.take (cntT l k) = l.takeWhile (fun x => Op.bytesLess x.toList k.toList) from (List.prefix_iff_eq_take.1 (List.takeWhile_prefix _)).symm] at hx
  exact tw_all _ l x hx
theorem insT_up {l : List ByteArray} (h : Up l) (k : ByteArray) : Up (insT l k) := by
  unfold insT
  split
  · exact h
  · rename_i hh
    have hab : ∀ x ∈ l.drop (cntT l k), kl k x := by
      intro x hx
      obtain ⟨i, hi⟩ := List.mem_iff_getElem?.1 hx
      rw [List.getElem?_drop] at hi
      have hil := (List.getElem?_eq_some_iff.1 hi).1
      have hy : l[cntT l k]? = some (l[cntT l k]'(by omega)) := List.getElem?_eq_getElem _
      have h1 := tw_at _ l _ hy
      have h2 : kl k (l[cntT l k]'(by omega)) := by
        rcases kl_tri (l[cntT l k]'(by omega)) k with h3 | h3 | h3
        · exfalso
          have h4 : Op.bytesLess (l[cntT l k]'(by omega)).toList k.toList = true := h3
          rw [h4] at h1
          cases h1
        · exfalso
          apply hh
          unfold hasT
          rw [hy]
          show ((l[cntT l k]'(by omega)).toList == k.toList) = true
          rw [h3]
          simp
        · exact h3
      rcases Nat.eq_zero_or_pos i with rfl | hp
      · rw [Nat.add_zero, hy] at hi
        cases hi
        exact h2
      · have h5 := List.pairwise_iff_getElem.1 h (cntT l k) (cntT l k + i) (by omega) hil (by omega)
        rw [(List.getElem?_eq_some_iff.1 hi).2] at h5
        exact kl_trans h2 h5
    unfold Up at h ⊢
    rw [List.pairwise_append, List.pairwise_cons]
    refine ⟨h.take, ⟨hab, h.drop⟩, fun a ha b hb => ?_⟩
    have hak := cntT_below a ha
    rcases List.mem_cons.1 hb with rfl | hb
    · exact hak
    · exact kl_trans hak (hab b hb)
theorem insT_len (l : List ByteArray) (k : ByteArray) : (insT l k).length ≤ l.length + 1 := by
  unfold insT
  split
  · omega
  · have := cntT_le l k
    simp
    omega
/-! Rows of texts. -/
def Num.strCells (l : List ByteArray) : List Value := l.map Value.string
theorem strCells_one (l : List ByteArray) : ∀ v ∈ strCells l, v.oneCell' = true := by
  intro v hv
  unfold strCells at hv
  obtain ⟨x, _, rfl⟩ := List.mem_map.1 hv
  rfl
theorem strCells_get {l : List ByteArray} {i : Nat} {x : ByteArray} (h : l[i]? = some x) : (strCells l)[i]? = some (.string x) := by
  unfold strCells
  rw [List.getElem?_map, h]
  rfl
theorem strCells_append (l r : List ByteArray) : strCells (l ++ r) = strCells l ++ strCells r := by simp [strCells]
theorem strCells_set (l : List ByteArray) (i : Nat) (x : ByteArray) : (strCells l).set i (.string x) = strCells (l.set i x) := by
  unfold strCells
  rw [List.map_set]
theorem Try.infoStr : (Try.prog.info? 9).map (fun i => (i.zero, i.size, i.bytes)) = some (some (.string ⟨#[]⟩), 1, 16) := by kernel_rfl
theorem own_txt {w : World} {B : Nat} {v : Value} {l : List ByteArray} (h : w.ownsRow B 9 1 v l.length (strCells l)) : ∃ ao cap, v = .slice ao l.length cap ∧ ∀ (i : Nat) x, l[i]? = some x → ∃ a, ao = some a ∧ w.cell? (a.add i) = some (.string x) := by
  rcases h.2 with ⟨hv, h0⟩ | ⟨g, cap, cur, hv, _, hg, hcap, _⟩
  · subst hv
    have : l = [] := List.eq_nil_of_length_eq_zero h0
    subst this
    exact ⟨none, 0, rfl, fun i x hx => by simp at hx⟩
  · subst hv
    exact ⟨_, cap, rfl, fun i x hx => ⟨_, rfl, h.cells (g := g) rfl _ _ (strCells_get hx)⟩⟩
theorem shift_set {l : List ByteArray} {i : Nat} {x y : ByteArray} (h : l[i]? = some y) : (l.take (i + 1) ++ (x :: l.drop (i + 1))).set (i + 1) y = l.take i ++ (y :: l.drop i) := by
  have hil := (List.getElem?_eq_some_iff.1 h).1
  have e : (l.take (i + 1)).length = i + 1 := by rw [List.length_take]; omega
  rw [List.set_append_right _ _ (by omega), e, Nat.sub_self, take_succ_at h, drop_at h, List.append_assoc]
  rfl
theorem shift_get {l : List ByteArray} {i : Nat} {x y : ByteArray} (h : l[i]? = some y) : (l.take (i + 1) ++ (x :: l.drop (i + 1)))[i]? = some y := by
  have hil := (List.getElem?_eq_some_iff.1 h).1
  rw [List.getElem?_append_left (by rw [List.length_take]; omega), List.getElem?_take, if_pos (by omega)]
  exact h
theorem last_set (l : List ByteArray) (i : Nat) (x k : ByteArray) (hi : i ≤ l.length) : (l.take i ++ (x :: l.drop i)).set i k = l.take i ++ (k :: l.drop i) := by
  have e : (l.take i).length = i := by rw [List.length_take]; omega
  rw [List.set_append_right _ _ (by omega), e, Nat.sub_self]
  rfl
set_option maxRecDepth 100000 in
set_option maxHeartbeats 4000000 in
theorem insert_any (B : Nat) (v : Value) (l : List ByteArray) (k : ByteArray) (hn : l.length ≤ 4200) (w : World) (hB : B ≤ w.heap.size) (h : w.ownsRow B 9 1 v l.length (strCells l)) :
    Calls Try.prog 58 #[v, .string k] w fun e w' => ∃ v', e = .returned v' ∧ w'.ownsRow B 9 1 v' (insT l k).length (strCells (insT l k)) ∧ Below B w w' := by
  obtain ⟨ao, cap, rfl, hl⟩ := own_txt h
  have hcl := cntT_le l k
  obtain ⟨C, hC⟩ : ∃ C, cntT l k = C := ⟨_, rfl⟩
  have HC : Hid (cntT l k = C) := hC
  have HI : Hid (∀ i x, i < C → l[i]? = some x → Op.bytesLess x.toList k.toList = true) := fun i x hi hx => tw_lt (fun x => Op.bytesLess x.toList k.toList) l i x (by show i < cntT l k; omega) hx
  have HE : Hid (∀ x, l[C]? = some x → Op.bytesLess x.toList k.toList = false) := fun x hx => tw_at (fun x => Op.bytesLess x.toList k.toList) l x (by rw [← hC] at hx; exact hx)
  rw [hC] at hcl
  have HT : Hid (insT l k = if hasT l k = true then l else l.take C ++ (k :: l.drop C)) := by unfold Hid insT; rw [hC]
  have HH : Hid (hasT l k = match l[C]? with | none => false | some x => x.toList == k.toList) := by unfold Hid hasT; rw [hC]
  obtain ⟨out, hout⟩ : ∃ out, insT l k = out := ⟨_, rfl⟩
  have HO : Hid (insT l k = out) := hout
  rw [hout]
  clear hout hC
  go_enter Try.func58, Try.ntmps58
  go_wp2
  go_loop [5] (fun i => ∃ c : Nat, c ≤ C ∧ i = .int .i64 (c : Int)) (fun i => C - (intOf i).toNat)
  case atStart => exact ⟨0, by omega, rfl⟩
  case round =>
    obtain ⟨c, hc, rfl⟩ := hrel
    by_cases hcC : c < C
    · have HX : Hid (l[c]? = some (l[c]'(by omega))) := List.getElem?_eq_getElem _
      have hless := HI.out c _ hcC HX.out
      obtain ⟨a, rfl, e0⟩ := hl c _ HX.out
      generalize (l[c]'(by omega)) = x at *
      have hcl2 : (c : Int) < (l.length : Int) := by omega
      clear HX
      go_wp2
      go_round
      case rel => exact ⟨c + 1, by omega, by go_num⟩
      case measure => simp [intOf]; omega
    · obtain rfl : c = C := by omega
      clear hc hcC
      have hins : (∀ x, l[c]? = some x → ¬ x.toList = k.toList) → out = l.take c ++ (k :: l.drop c) := fun h0 => by
        have h1 : hasT l k = false := by
          rw [HH.out]
          cases hx : l[c]? with
          | none => rfl
          | some x => simpa using h0 x hx
        rw [← HO.out, HT.out, h1]
        rfl
      have hfin : ∀ (W : World) (g Cq : Nat) (y : ByteArray), W.ownsRow B 9 1 (.slice (some ⟨g, 0, none⟩) (l.length + 1) Cq) (l.length + 1) (strCells (l.take c ++ (y :: l.drop c))) → Below B w W → B ≤ W.heap.size → out = l.take c ++ (k :: l.drop c) → (W.setCell ⟨g, c, none⟩ (.string k)).ownsRow B 9 1 (.slice (some ⟨g, 0, none⟩) (l.length + 1) Cq) out.length (strCells out) ∧ Below B w (W.setCell ⟨g, c, none⟩ (.string k)) ∧ (∃ u, W.cell? ⟨g, c, none⟩ = some u) ∧ W.frozen? ⟨g, c, none⟩ = false := by
        intro W g Cq y ho hb hBW e
        obtain ⟨s1, g1⟩ := ho.stored c (.string k)
        rw [strCells_set, last_set l c y k hcl, ← e] at s1
        have el : out.length = l.length + 1 := by rw [e]; simp; omega
        have hc9 : (strCells (l.take c ++ (y :: l.drop c)))[c]? = some (.string y) := strCells_get (by rw [List.getElem?_append_right (by rw [List.length_take]; omega), List.length_take, Nat.min_eq_left hcl, Nat.sub_self]; rfl)
        have hg9 := ho.cells (g := g) rfl _ _ hc9
        rw [Addr.add_lit, Nat.zero_add] at hg9
        exact ⟨by rw [el]; exact s1, hb.trans (below_grown g1 (ho.lt g rfl).1 hBW), ⟨_, hg9⟩, ho.frozenAt c⟩
      have hmain : (∀ x, l[c]? = some x → ¬ x.toList = k.toList) → True := fun _ => trivial
      by_cases hcl2 : c < l.length
      · have HX : Hid (l[c]? = some (l[c]'(by omega))) := List.getElem?_eq_getElem _
        have hnl := HE.out _ HX.out
        obtain ⟨a, rfl, e0⟩ := hl c _ HX.out
        generalize (l[c]'(by omega)) = x at *
        have hcl3 : (c : Int) < (l.length : Int) := by omega
        by_cases hk : x.toList = k.toList
        · have hk2 : (x.toList == k.toList) = true := by rw [hk]; simp
          have hout2 : out = l := by
            rw [← HO.out, HT.out, if_pos]
            rw [HH.out, HX.out]
            exact hk2
          subst hout2
          clear HX HO HT HH HE HI HC hins hfin hmain hk
          go_wp2
          go_ret
          exact ⟨_, rfl, h, Below.refl _ _⟩
        · have hk2 : (x.toList == k.toList) = false := by simpa using hk
          have he := hins (fun y hy => by rw [HX.out] at hy; cases hy; exact hk)
          have HEQ : Hid (out = l.take c ++ (k :: l.drop c)) := he
          clear HX HO HT HH HE HI HC hins hmain he
          go_wp2_with (first
            | (at_builtin; refine wpList_appX _ rfl _ _ 43 rfl 9 1 16 Try.underlying43 Try.infoStr B _ l.length (strCells l) rfl (h.alloc _) ⟨w.heap.size, 0, none⟩ 1 [.string k] rfl rfl (by intro u hu; rw [List.mem_singleton.1 hu]; rfl) (one_cell w _ _) ⟨by omega, by decide, by decide, rfl⟩ (by simp; omega) ?_; intro v3 w3 hown3 hbel3 hst3
               obtain ⟨g3, C3, rfl⟩ := own_some hown3 (by omega)))
          have hb3 : Below B w w3 := ((Below.refl B w).alloc hB _).trans hbel3
          have hs3 := hb3.size
          have hown4 : w3.ownsRow B 9 1 (.slice (some ⟨g3, 0, none⟩) (l.length + 1) C3) (l.length + 1) (strCells (l.take l.length ++ (k :: l.drop l.length))) := by
            rw [List.take_length, List.drop_length, strCells_append]
            exact hown3
          clear hown3 hst3 hbel3
          go_loopw [6] (fun i wr => ∃ (m : Nat) (y : ByteArray), c ≤ m ∧ m ≤ l.length ∧ i = .int .i64 (m : Int) ∧ wr.ownsRow B 9 1 (.slice (some ⟨g3, 0, none⟩) (l.length + 1) C3) (l.length + 1) (strCells (l.take m ++ (y :: l.drop m))) ∧ Below B w wr) (fun i _ => (intOf i).toNat)
          case atStart => exact ⟨l.length, k, by omega, Nat.le_refl _, rfl, hown4, hb3⟩
          case round =>
            obtain ⟨m, y, hcm, hml, rfl, hrow, hbr⟩ := hrel
            have hsr := hbr.size
            clear hown4
            by_cases hm : c < m
            · obtain ⟨i, rfl⟩ : ∃ i, m = i + 1 := ⟨m - 1, by omega⟩
              have HX : Hid (l[i]? = some (l[i]'(by omega))) := List.getElem?_eq_getElem _
              have q1 := hrow.cells (g := g3) rfl _ _ (strCells_get (shift_get (x := y) HX.out))
              have q2 := hrow.cells (g := g3) rfl (i + 1) (.string y) (strCells_get (by rw [List.getElem?_append_right (by rw [List.length_take]; omega), List.length_take, Nat.min_eq_left (by omega), Nat.sub_self]; rfl))
              rw [Addr.add_lit, Nat.zero_add] at q1 q2
              have q3 := hrow.frozenAt (i + 1)
              obtain ⟨st1, gr1⟩ := hrow.stored (i + 1) (.string (l[i]'(by omega)))
              rw [strCells_set, shift_set (x := y) HX.out] at st1
              have hb5 := hbr.trans (below_grown gr1 (hrow.lt g3 rfl).1 (Nat.le_trans hB hsr))
              generalize (l[i]'(by omega)) = z at *
              have hci : (c : Int) < (i : Int) + 1 := by omega
              have hil : (i : Int) < (l.length : Int) := by omega
              clear HX hrow gr1
              go_wp2
              go_roundw
              case rel => exact ⟨i, z, by omega, by omega, by first | rfl | go_num, st1, hb5⟩
              case measure => simp [intOf]
            · obtain rfl : m = c := by omega
              obtain ⟨r1, r2, ⟨u9, r3⟩, r4⟩ := hfin wr g3 C3 y hrow hbr (Nat.le_trans hB hsr) HEQ.out
              have hci : ¬ ((m : Int) < (m : Int)) := by omega
              have hil : (m : Int) < (l.length : Int) + 1 := by omega
              clear hrow hfin HEQ
              go_wp2
              go_ret
              exact ⟨_, rfl, r1, r2⟩
      · have hcl3 : decide ((c : Int) < (l.length : Int)) = false := decide_eq_false (by omega)
        have he := hins (fun y hy => by rw [List.getElem?_eq_none (by omega)] at hy; cases hy)
        have HEQ : Hid (out = l.take c ++ (k :: l.drop c)) := he
        clear HO HT HH HE HI HC hins hmain he
        go_wp2_with (first
          | (at_builtin; refine wpList_appX _ rfl _ _ 43 rfl 9 1 16 Try.underlying43 Try.infoStr B _ l.length (strCells l) rfl (h.alloc _) ⟨w.heap.size, 0, none⟩ 1 [.string k] rfl rfl (by intro u hu; rw [List.mem_singleton.1 hu]; rfl) (one_cell w _ _) ⟨by omega, by decide, by decide, rfl⟩ (by simp; omega) ?_; intro v3 w3 hown3 hbel3 hst3
             obtain ⟨g3, C3, rfl⟩ := own_some hown3 (by omega)))
        have hb3 : Below B w w3 := ((Below.refl B w).alloc hB _).trans hbel3
        have hs3 := hb3.size
        have hown4 : w3.ownsRow B 9 1 (.slice (some ⟨g3, 0, none⟩) (l.length + 1) C3) (l.length + 1) (strCells (l.take l.length ++ (k :: l.drop l.length))) := by
          rw [List.take_length, List.drop_length, strCells_append]
          exact hown3
        clear hown3 hst3 hbel3
        go_loopw [6] (fun i wr => ∃ (m : Nat) (y : ByteArray), c ≤ m ∧ m ≤ l.length ∧ i = .int .i64 (m : Int) ∧ wr.ownsRow B 9 1 (.slice (some ⟨g3, 0, none⟩) (l.length + 1) C3) (l.length + 1) (strCells (l.take m ++ (y :: l.drop m))) ∧ Below B w wr) (fun i _ => (intOf i).toNat)
        case atStart => exact ⟨l.length, k, by omega, Nat.le_refl _, rfl, hown4, hb3⟩
        case round =>
          obtain ⟨m, y, hcm, hml, rfl, hrow, hbr⟩ := hrel
          have hsr := hbr.size
          clear hown4
          by_cases hm : c < m
          · exfalso
            omega
          · obtain rfl : m = c := by omega
            obtain ⟨r1, r2, ⟨u9, r3⟩, r4⟩ := hfin wr g3 C3 y hrow hbr (Nat.le_trans hB hsr) HEQ.out
            have hci : ¬ ((m : Int) < (m : Int)) := by omega
            have hil : (m : Int) < (l.length : Int) + 1 := by omega
            clear hrow hfin HEQ
            go_wp2
            go_ret
            exact ⟨_, rfl, r1, r2⟩
/-! Scan. -/
def Num.asPr (l : List ByteArray) : List Pr := l.map (fun k => ⟨k, ⟨#[]⟩⟩)
theorem asPr_get {l : List ByteArray} {i : Nat} {x : ByteArray} (h : l[i]? = some x) : (asPr l)[i]? = some ⟨x, ⟨#[]⟩⟩ := by
  unfold asPr
  rw [List.getElem?_map, h]
  rfl
theorem asPr_take (l : List ByteArray) (i : Nat) : (asPr l).take i = asPr (l.take i) := by
  unfold asPr
  rw [List.map_take]
theorem asPr_len (l : List ByteArray) : (asPr l).length = l.length := by simp [asPr]
/-- The keys of versions between two. -/
def Num.KeysT (l : List Ver) (lo hi : ByteArray) (c : Nat) (K : List ByteArray) : Prop := Up K ∧ ∀ k, k ∈ K ↔ ∃ v ∈ l.take c, v.key = k ∧ withinB k lo hi = true
theorem keysT_zero (l : List Ver) (lo hi : ByteArray) : KeysT l lo hi 0 [] := ⟨by simp [Up], fun k => by simp⟩
theorem keysT_in {l : List Ver} {lo hi : ByteArray} {c : Nat} {K : List ByteArray} (h : KeysT l lo hi c K) {v : Ver} (hv : l[c]? = some v) (hw : withinB v.key lo hi = true) : KeysT l lo hi (c + 1) (insT K v.key) := by
  refine ⟨insT_up h.1 _, fun k => ?_⟩
  rw [insT_mem, h.2, take_succ_at hv]
  constructor
  · rintro (rfl | ⟨x, hx, h1, h2⟩)
    · exact ⟨v, by simp, rfl, hw⟩
    · exact ⟨x, by simp [hx], h1, h2⟩
  · rintro ⟨x, hx, h1, h2⟩
    rcases List.mem_append.1 hx with hx | hx
    · exact .inr ⟨x, hx, h1, h2⟩
    · rw [List.mem_singleton.1 hx] at h1
      exact .inl h1.symm
theorem keysT_out {l : List Ver} {lo hi : ByteArray} {c : Nat} {K : List ByteArray} (h : KeysT l lo hi c K) {v : Ver} (hv : l[c]? = some v) (hw : withinB v.key lo hi = false) : KeysT l lo hi (c + 1) K := by
  refine ⟨h.1, fun k => ?_⟩
  rw [h.2, take_succ_at hv]
  constructor
  · rintro ⟨x, hx, h1, h2⟩
    exact ⟨x, by simp [hx], h1, h2⟩
  · rintro ⟨x, hx, h1, h2⟩
    rcases List.mem_append.1 hx with hx | hx
    · exact ⟨x, hx, h1, h2⟩
    · rw [List.mem_singleton.1 hx] at h1
      rw [← h1, hw] at h2
      cases h2
theorem keysT_scan {l : List Ver} {lo hi : ByteArray} {K : List ByteArray} (h : KeysT l lo hi l.length K) (t : Int) : ScanIs l t lo hi (scanV l t (asPr K)) := by
  have hm : ∀ k, k ∈ K ↔ (∃ v ∈ l, v.key = k) ∧ withinB k lo hi = true := fun k => by
    rw [h.2, List.take_length]
    constructor
    · rintro ⟨v, hv, h1, h2⟩
      exact ⟨⟨v, hv, h1⟩, h2⟩
    · rintro ⟨⟨v, hv, h1⟩, h2⟩
      exact ⟨v, hv, h1, h2⟩
  constructor
  · unfold scanV Rises
    rw [List.pairwise_filterMap]
    have hr : (asPr K).Pairwise (fun a b => kl a.key b.key) := by
      unfold asPr
      rw [List.pairwise_map]
      exact h.1
    refine List.Pairwise.imp ?_ hr
    intro a b hab x hx y hy
    unfold pairV at hx hy
    split at hx
    · cases hx
    · split at hy
      · cases hy
      · cases hx
        cases hy
        exact hab
  · intro x
    unfold scanV
    rw [List.mem_filterMap]
    constructor
    · rintro ⟨y, hy, e⟩
      unfold asPr at hy
      obtain ⟨k, hk, rfl⟩ := List.mem_map.1 hy
      unfold pairV at e
      split at e
      · cases e
      · rename_i v hv
        cases e
        exact ⟨((hm k).1 hk).2, hv⟩
    · rintro ⟨hw, hv⟩
      have hne := getV_key hv
      obtain ⟨u, hu⟩ := List.exists_mem_of_ne_nil _ hne
      obtain ⟨h1, h2⟩ := keyV_mem.1 hu
      refine ⟨⟨x.key, ⟨#[]⟩⟩, List.mem_map.2 ⟨x.key, (hm x.key).2 ⟨⟨u, h1, h2⟩, hw⟩, rfl⟩, ?_⟩
      unfold pairV
      simp only [hv]
end Go.Proofs.Ytdmkmhjalcfchaa
