/-
  Contracts: the reader of texts of package lex.
-/
import Derived.Test.YtiajlhjjmlakmaaGreatDoorLxQb
namespace Go.Proofs.YtiajlhjjmlakmaaGreatDoor
open Go.RowKit Num
set_option linter.unusedVariables false
set_option maxRecDepth 100000

def mp (B : List UInt8) (k : Nat) (o : Option (List UInt8 × Nat)) : Option (List UInt8 × Nat) := o.map fun y => (B ++ y.1, k + y.2)
/-- So far the bytes mean B; in the midst of two quotes, or not. -/
def TextTo (r B : List UInt8) (k : Nat) : Bool → Prop
  | false => textG r = mp B k (textG (r.drop k))
  | true => 1 ≤ k ∧ (∃ a q, r.drop (k - 1) = a :: q ∧ a.toNat = 39 ∧ ∃ a2 q2, q = a2 :: q2 ∧ a2.toNat = 39) ∧ textG r = mp B (k - 1) (textG (r.drop (k - 1)))
theorem textTo_start (r : List UInt8) : TextTo r [] 0 false := by
  unfold TextTo mp
  cases h : textG r with
  | none => simp [h]
  | some y => simp [h]
theorem textG_cons (c : UInt8) (r : List UInt8) : textG (c :: r) = if c.toNat = 39 then (match r with | [] => some ([], 1) | d :: q => if d.toNat = 39 then (textG q).map (fun x => (c :: x.1, x.2 + 2)) else some ([], 1)) else if plainB c = true then (textG r).map (fun x => (c :: x.1, x.2 + 1)) else none := by
  rw [textG.eq_def]
  rfl
theorem drop_two {r : List UInt8} {k : Nat} {a : UInt8} {q : List UInt8} (h : r.drop k = a :: q) : r.drop (k + 1) = q := by
  rw [← List.drop_drop, h]
  rfl
theorem textTo_pair {r B : List UInt8} {k : Nat} (h : TextTo r B k false) {a a2 : UInt8} {q : List UInt8} (hd : r.drop k = a :: a2 :: q) (h1 : a.toNat = 39) (h2 : a2.toNat = 39) : TextTo r B (k + 1) true :=
  ⟨by omega, ⟨a, a2 :: q, hd, h1, a2, q, rfl, h2⟩, h⟩
theorem textTo_second {r B : List UInt8} {k : Nat} (h : TextTo r B k true) (c : UInt8) (q : List UInt8) (hc : r.drop k = c :: q) : c.toNat = 39 ∧ TextTo r (B ++ [c]) (k + 1) false := by
  obtain ⟨hk, ⟨a, q1, hd, ha, a2, q2, rfl, ha2⟩, ht⟩ := h
  obtain ⟨j, rfl⟩ : ∃ j, k = j + 1 := ⟨k - 1, by omega⟩
  rw [Nat.add_sub_cancel] at hd ht
  have h2 := drop_two hd
  rw [hc] at h2
  obtain ⟨rfl, rfl⟩ := List.cons.inj h2
  refine ⟨ha2, ?_⟩
  have e : a = c := UInt8.toNat_inj.1 (by omega)
  show textG r = mp (B ++ [c]) (j + 1 + 1) (textG (r.drop (j + 1 + 1)))
  rw [ht, hd, drop_two hc, textG_cons, if_pos ha]
  simp only
  rw [if_pos ha2]
  unfold mp
  cases textG q with
  | none => rfl
  | some y => simp only [Option.map_some, List.append_assoc, List.cons_append, List.nil_append, e]; congr 2; omega
theorem textTo_end {r B : List UInt8} {k : Nat} (h : TextTo r B k false) {a : UInt8} {q : List UInt8} (hd : r.drop k = a :: q) (h1 : a.toNat = 39) (h2 : q.head? ≠ some 39) : textG r = some (B, k + 1) := by
  have h : textG r = mp B k (textG (r.drop k)) := h
  rw [h, hd, textG_cons, if_pos h1]
  cases q with
  | nil => simp [mp]
  | cons d q =>
    have : ¬ d.toNat = 39 := by
      intro e
      apply h2
      rw [show d = 39 from UInt8.toNat_inj.1 e]
      rfl
    simp only
    rw [if_neg this]
    simp [mp]
theorem textTo_bad {r B : List UInt8} {k : Nat} (h : TextTo r B k false) {a : UInt8} {q : List UInt8} (hd : r.drop k = a :: q) (h1 : ¬ a.toNat = 39) (h2 : plainB a = false) : textG r = none := by
  have h : textG r = mp B k (textG (r.drop k)) := h
  rw [h, hd, textG_cons, if_neg h1, if_neg (by simp [h2])]
  rfl
theorem textTo_next {r B : List UInt8} {k : Nat} (h : TextTo r B k false) {a : UInt8} {q : List UInt8} (hd : r.drop k = a :: q) (h1 : ¬ a.toNat = 39) (h2 : plainB a = true) : TextTo r (B ++ [a]) (k + 1) false := by
  have h : textG r = mp B k (textG (r.drop k)) := h
  show textG r = mp (B ++ [a]) (k + 1) (textG (r.drop (k + 1)))
  rw [h, hd, drop_two hd, textG_cons, if_neg h1, if_pos h2]
  unfold mp
  cases textG q with
  | none => rfl
  | some y => simp only [Option.map_some, List.append_assoc, List.cons_append, List.nil_append]; congr 2; omega
theorem textTo_over {r B : List UInt8} {k : Nat} {p : Bool} (h : TextTo r B k p) (hk : r.length ≤ k) : p = false ∧ textG r = none := by
  cases p with
  | true =>
    obtain ⟨h1, ⟨a, q, hd, _, a2, q2, rfl, _⟩, _⟩ := h
    have := congrArg List.length hd
    simp at this
    omega
  | false =>
    have h : textG r = mp B k (textG (r.drop k)) := h
    rw [h, List.drop_eq_nil_of_le hk]
    exact ⟨rfl, rfl⟩
theorem may_text (kd : Int) (hk : kd = 4 ∨ kd = 5) (B : List UInt8) : Val.may ⟨kd, 0, 0, str B⟩ = decide (B.length ≤ 40) := by
  by_cases h : B.length ≤ 40
  · rw [decide_eq_true h]
    have h2 : ((str B).size : Int) ≤ 40 := by rw [size_str]; omega
    rcases hk with rfl | rfl <;> simp only [Val.may, may, decide_eq_true h2] <;> rfl
  · rw [decide_eq_false h]
    have h2 : ¬ ((str B).size : Int) ≤ 40 := by rw [size_str]; omega
    rcases hk with rfl | rfl <;> simp only [Val.may, may, decide_eq_false h2] <;> rfl
set_option maxHeartbeats 2000000 in
theorem readText_any (s : ByteArray) (hs : 1 ≤ s.size) (hs2 : s.size ≤ 100000) (w : World) :
    Calls Tryz.prog 53 #[.string s] w fun e w' => e = .returned (tkV s.data.toList (textT (s.data.toList.drop 1))) ∧ Below w.heap.size w w' := by
  have hl : s.data.toList.length = s.size := rfl
  obtain ⟨x, hx⟩ : ∃ x, s.extract 1 s.size = x := ⟨_, rfl⟩
  have hxd : s.data.toList.drop 1 = x.data.toList := by rw [← hx, ext_drop, data_str]
  have hxs : x.size = s.size - 1 := by rw [← hx, ext_drop, size_str, List.length_drop, hl]
  have hxl : x.data.toList.length = x.size := rfl
  have hxm : (x.size : Int) ≤ 100000 := by omega
  have hres : Hid (∀ y, textG x.data.toList = y → tkV s.data.toList (textT (s.data.toList.drop 1)) = match y with | some z => if z.1.length ≤ 40 then .tuple #[tokV 3 (str (s.data.toList.take (z.2 + 1))) ⟨5, 0, 0, str z.1⟩ 0, .bool true] else .tuple #[tokV 0 ⟨#[]⟩ noV 0, .bool false] | none => .tuple #[tokV 0 ⟨#[]⟩ noV 0, .bool false]) := by
    intro y hy
    rw [hxd, textT, hy]
    cases y with
    | none => rfl
    | some z =>
      simp only
      by_cases h40 : z.1.length ≤ 40
      · rw [if_pos h40, if_pos h40]
        rfl
      · rw [if_neg h40, if_neg h40]
        rfl
  have hxs2 : Hid (x.size = s.size - 1) := hxs
  clear hxd hxs
  generalize tkV s.data.toList (textT (s.data.toList.drop 1)) = R at *
  go_enter Tryz.func53, Tryz.ntmps53
  go_wp2
  go_loopw [5, 6, 7, 8, 13] (fun v p _ _ i wr => ∃ (k : Nat) (B : List UInt8) (pb : Bool), k ≤ x.size ∧ B.length ≤ k ∧ i = .int .i64 (k : Int) ∧ p = .bool pb ∧ Hid (TextTo x.data.toList B k pb) ∧ wr.ownsRow (w.heap.size + 1) 5 1 v B.length (cellsOf B) ∧ Below (w.alloc zBox).heap.size (w.alloc zBox) wr) (fun _ _ _ _ i _ => x.size - (intOf i).toNat)
  case atStart => exact ⟨0, [], false, by omega, by simp, rfl, rfl, textTo_start _, World.ownsRow_nil _ _ _ _, Below.refl _ _⟩
  case round =>
    obtain ⟨k, B, pb, hk, hBk, rfl, rfl, HT, hown, hbel⟩ := hrel
    have hsz : w.heap.size + 1 ≤ wr.heap.size := by have := hbel.size; simpa using this
    have hzb := zbox_at hbel
    obtain ⟨q0, q1, q2, q3, q4, q5, q6⟩ := cells7 hzb
    obtain ⟨z0, z1, z2, z3, z4, z5, z6⟩ := free7 hzb
    clear hzb
    by_cases hkx : k < x.size
    · have hdk := sdrop_at x k hkx
      have hpl := plain_any x[k]
      have he := int_eq x[k] 39
      have he : (((x[k].toNat : Nat) : Int) == 39) = decide (x[k].toNat = 39) := he
      cases pb with
      | true =>
        obtain ⟨hx0, hn⟩ := textTo_second HT.out _ _ hdk
        clear hx0
        have hn : Hid (TextTo x.data.toList (B ++ [x[k]]) (k + 1) false) := hn
        clear HT hdk he hpl q0 q1 q2 q3 q4 q5 q6 z0 z1 z2 z3 z4 z5 z6
        go_wp2_with (first
          | (at_builtin; refine wpList_app _ rfl (.tmp 25) _ rfl (w.heap.size + 1) _ B.length _ rfl (World.ownsRow.alloc hown _) _ _ _ [x[k]] rfl rfl (one_new _ _ _ _ rfl) (by omega) (by simp; omega) ?_; intro v4 w4 hown4 hbel4))
        go_roundw
        case rel => exact ⟨k + 1, B ++ [x[k]], false, by omega, by simp; omega, by go_num, rfl, hn, by simpa using hown4, below_up hbel hbel4⟩
        case measure => simp [intOf]; omega
      | false =>
        by_cases h39 : x[k].toNat = 39
        · rw [decide_eq_true h39] at he
          obtain ⟨c, hc⟩ : ∃ c, x.extract (k + 1) x.size = c := ⟨_, rfl⟩
          have hcd : c.data.toList = x.data.toList.drop (k + 1) := by rw [← hc, ext_drop, data_str]
          have hcs : c.size ≤ 1000000 := by
            have e : c.size = c.data.toList.length := rfl
            rw [e, hcd, List.length_drop]
            omega
          have hq := quoted_any c hcs
          rw [hcd] at hq
          by_cases hh : (x.data.toList.drop (k + 1)).head? = some 39
          · rw [decide_eq_true hh] at hq
            have hn : Hid (TextTo x.data.toList B (k + 1) true) := by
              cases hd : x.data.toList.drop (k + 1) with
              | nil => rw [hd] at hh; cases hh
              | cons a2 q =>
                rw [hd] at hh
                rw [hd] at hdk
                have hh := Option.some.inj hh
                subst hh
                exact textTo_pair HT.out hdk h39 rfl
            clear HT hdk hpl hcd hcs hh h39 q0 q1 q2 q3 q4 q5 q6 z0 z1 z2 z3 z4 z5 z6
            go_wp2_with (first
              | (go_at_call 46; refine (hq _).mono ?_; rintro e w3 ⟨rfl, rfl⟩))
            go_roundw
            case rel => exact ⟨k + 1, B, true, by omega, by omega, by go_num, rfl, hn, hown, hbel⟩
            case measure => simp [intOf]; omega
          · rw [decide_eq_false hh] at hq
            have hfin := hres.out _ (textTo_end HT.out hdk h39 hh)
            simp only at hfin
            obtain ⟨t, ht⟩ : ∃ t, s.extract 0 (k + 2) = t := ⟨_, rfl⟩
            have htd : str (s.data.toList.take (k + 1 + 1)) = t := by rw [← ht, ext_take]
            rw [htd] at hfin
            have hks : (k : Int) + 2 ≤ (s.size : Int) := by have := hxs2.out; omega
            have hconv := conv_own wr.drew _ _ _ _ (World.ownsRow.drew hown)
            have hbd : Below (w.alloc zBox).heap.size (w.alloc zBox) wr.drew := hbel.drew
            clear HT hdk hpl hcd hcs hh h39 hres htd q0 q1 q2 q3 q4 q5 q6 z0 z1 z2 z3 z4 z5 z6
            by_cases h40 : B.length ≤ 40
            · have hfin : Hid (R = .tuple #[tokV 3 t ⟨5, 0, 0, str B⟩ 0, .bool true]) := by
                unfold Hid
                rw [hfin, if_pos h40]
              rename_i hfin0
              clear hfin0
              have hv := valued_yes t ⟨5, 0, 0, str B⟩ (by rw [may_text _ (.inr rfl), decide_eq_true h40])
              unfold Val.v tokV at hv
              go_wp2_with (first
                | (go_at_call 46; refine (hq _).mono ?_; rintro e w3 ⟨rfl, rfl⟩))
              have hwr : IntKind.i64.wrap ((k : Int) + 2) = (k : Int) + 2 := by rw [IntKind.wrap_i64]; omega
              go_region_with (first
                | (go_at_call 92; refine (hv _).mono ?_; rintro e w3 ⟨rfl, hb3⟩; have hz := heap_next (zbox_at hbd) hb3; obtain ⟨q0, q1, q2, q3, q4, q5, q6⟩ := cells7 hz; obtain ⟨z0, z1, z2, z3, z4, z5, z6⟩ := free7 hz; clear hz))
              all_goals
                go_wp2
                refine bodyPost_ret (v := .tuple #[tokV 3 t ⟨5, 0, 0, str B⟩ 0, .bool true]) (by simp [results, Tryz.results53, go_sem, tokV, q0, q1, q2, q3, q4, q5, q6]) rfl ⟨by rw [hfin.out], ?_⟩
                exact below_set7 (below_two hbd hb3) (Nat.le_refl _) _ _ _ _ _ _ _
            · have hfin : Hid (R = .tuple #[tokV 0 ⟨#[]⟩ noV 0, .bool false]) := by
                unfold Hid
                rw [hfin, if_neg h40]
              rename_i hfin0
              clear hfin0
              have hv := valued_no t ⟨5, 0, 0, str B⟩ (by rw [may_text _ (.inr rfl), decide_eq_false h40])
              unfold Val.v tokV noV at hv
              go_wp2_with (first
                | (go_at_call 46; refine (hq _).mono ?_; rintro e w3 ⟨rfl, rfl⟩))
              have hwr : IntKind.i64.wrap ((k : Int) + 2) = (k : Int) + 2 := by rw [IntKind.wrap_i64]; omega
              go_region_with (first
                | (go_at_call 92; refine (hv _).mono ?_; rintro e w3 ⟨rfl, hb3⟩; have hz := heap_next (zbox_at hbd) hb3; obtain ⟨q0, q1, q2, q3, q4, q5, q6⟩ := cells7 hz; obtain ⟨z0, z1, z2, z3, z4, z5, z6⟩ := free7 hz; clear hz))
              all_goals
                go_wp2
                refine bodyPost_ret (v := .tuple #[tokV 0 ⟨#[]⟩ noV 0, .bool false]) (by simp [results, Tryz.results53, go_sem, tokV, noV, q0, q1, q2, q3, q4, q5, q6]) rfl ⟨by rw [hfin.out], ?_⟩
                exact below_set7 (below_two hbd hb3) (Nat.le_refl _) _ _ _ _ _ _ _
        · rw [decide_eq_false h39] at he
          cases hp : plainB x[k] with
          | true =>
            rw [hp] at hpl
            have hn : Hid (TextTo x.data.toList (B ++ [x[k]]) (k + 1) false) := textTo_next HT.out hdk h39 hp
            clear HT hdk h39 hp q0 q1 q2 q3 q4 q5 q6 z0 z1 z2 z3 z4 z5 z6
            go_wp2_with (first
              | (go_at_call 99; refine (hpl _).mono ?_; rintro e w3 ⟨rfl, rfl⟩)
              | (at_builtin; refine wpList_app _ rfl (.tmp 19) _ rfl (w.heap.size + 1) _ B.length _ rfl (World.ownsRow.alloc hown _) _ _ _ [x[k]] rfl rfl (one_new _ _ _ _ rfl) (by omega) (by simp; omega) ?_; intro v4 w4 hown4 hbel4))
            go_roundw
            case rel => exact ⟨k + 1, B ++ [x[k]], false, by omega, by simp; omega, by go_num, rfl, hn, by simpa using hown4, below_up hbel hbel4⟩
            case measure => simp [intOf]; omega
          | false =>
            rw [hp] at hpl
            have hfin : Hid (R = .tuple #[tokV 0 ⟨#[]⟩ noV 0, .bool false]) := hres.out _ (textTo_bad HT.out hdk h39 hp)
            clear HT hdk h39 hp hres
            go_wp2_with (first
              | (go_at_call 99; refine (hpl _).mono ?_; rintro e w3 ⟨rfl, rfl⟩))
            refine bodyPost_ret (v := .tuple #[tokV 0 ⟨#[]⟩ noV 0, .bool false]) (by simp [results, Tryz.results53, go_sem, tokV, noV, q0, q1, q2, q3, q4, q5, q6]) rfl ⟨by rw [hfin.out], ?_⟩
            exact below_set7 (below_box0 hbel) (Nat.le_refl _) _ _ _ _ _ _ _
    · obtain ⟨rfl, hov⟩ := textTo_over HT.out (by omega)
      have hfin : Hid (R = .tuple #[tokV 0 ⟨#[]⟩ noV 0, .bool false]) := hres.out _ hov
      clear HT hres hov
      go_wp2
      refine bodyPost_ret (v := .tuple #[tokV 0 ⟨#[]⟩ noV 0, .bool false]) (by simp [results, Tryz.results53, go_sem, tokV, noV, q0, q1, q2, q3, q4, q5, q6]) rfl ⟨by rw [hfin.out], ?_⟩
      exact below_set7 (below_box0 hbel) (Nat.le_refl _) _ _ _ _ _ _ _
end Go.Proofs.YtiajlhjjmlakmaaGreatDoor
