/-
  Joined:
  Contracts: a number among numbers that rise: is it there; its place; it is put in.
  Contracts of a replica at work beside a message's box: what is asked of it; its commit; a message to one; does it follow?
-/
import Derived.Test.YtajbdffepfjegaaGreatRpG12
import Derived.Test.YtajbdffepfjegaaGreatRpG3
import Derived.Test.YtajbdffepfjegaaGreatRpMay
import Derived.BigQuiet
import Derived.WalkSmall
namespace Go.Proofs.YtajbdffepfjegaaGreat
open Go.RowKit Num
open scoped Classical
set_option linter.unusedVariables false
set_option maxRecDepth 100000

theorem index_any (ao : Option Addr) (cap : Nat) (l : List Int) (hl1 : l.length ≤ 1000000) (x : Int) (w : World) (hl : LiesN w w.heap.size ao l) :
    Calls Tryz.prog 96 #[.slice ao l.length cap, .int .i64 x] w fun e w' => (∃ r : Int, e = .returned (.int .i64 r) ∧ (0 ≤ r ↔ x ∈ l)) ∧ w' = w := by
  go_enter Tryz.func96, Tryz.ntmps96
  go_wp2
  go_loop [8] (fun i => ∃ k : Nat, k ≤ l.length ∧ i = .int .i64 (k : Int) ∧ Hid (∀ j (hj : j < l.length), j < k → l[j] ≠ x)) (fun i => l.length - (intOf i).toNat)
  case atStart => exact ⟨0, by omega, rfl, fun _ _ h => absurd h (Nat.not_lt_zero _)⟩
  case round =>
    obtain ⟨k, hk, rfl, HK⟩ := hrel
    by_cases hkl : k < l.length
    · obtain ⟨a, rfl, hblk, c0⟩ := hl k l[k] (List.getElem?_eq_getElem hkl)
      rw [Nat.mul_one] at c0
      unfold NumAt at c0
      by_cases hx : l[k] = x
      · have hm : Hid (x ∈ l) := hx ▸ List.getElem_mem hkl
        rw [hx] at c0
        clear HK hx
        go_wp2
        go_ret
        exact ⟨⟨_, rfl, ⟨fun _ => hm.out, fun _ => by omega⟩⟩, rfl⟩
      · have HK2 : Hid (∀ j (hj : j < l.length), j < k + 1 → l[j] ≠ x) := by
          intro j hj hjk
          by_cases h : j = k
          · subst h
            exact hx
          · exact HK.out j hj (by omega)
        have hxe : (x == l[k]) = false := beq_eq_false_iff_ne.2 (fun e => hx e.symm)
        clear HK
        generalize l[k] = y at *
        clear hx
        go_wp2
        go_round
        case rel => exact ⟨k + 1, by omega, by go_num, HK2⟩
        case measure => simp [intOf]; omega
    · have hno : Hid (x ∉ l) := fun hm => by
        obtain ⟨j, hj, e⟩ := List.getElem_of_mem hm
        exact HK.out j hj (by omega) e
      clear HK
      go_wp2
      go_ret
      exact ⟨⟨_, rfl, ⟨fun h => by omega, fun h => absurd h hno.out⟩⟩, rfl⟩
theorem contains_any (ao : Option Addr) (cap : Nat) (l : List Int) (hl1 : l.length ≤ 1000000) (x : Int) (w : World) (hl : LiesN w w.heap.size ao l) :
    Calls Tryz.prog 84 #[.slice ao l.length cap, .int .i64 x] w fun e w' => e = .returned (.bool (tru (x ∈ l))) ∧ w' = w := by
  have h := index_any ao cap l hl1 x w hl
  go_enter Tryz.func84, Tryz.ntmps84
  go_wp2_with (go_at_call 96; refine h.mono ?_; rintro e w1 ⟨⟨r, rfl, hr0⟩, rfl⟩; have hr : Hid (0 ≤ r ↔ x ∈ l) := hr0; clear hr0)
  go_ret
  refine ⟨?_, rfl⟩
  by_cases hx : x ∈ l
  · rw [tru_yes hx]
    show Ending.returned (.bool (decide (0 ≤ r))) = _
    rw [decide_eq_true (hr.out.2 hx)]
  · rw [tru_no hx]
    show Ending.returned (.bool (decide (0 ≤ r))) = _
    rw [decide_eq_false (fun h => hx (hr.out.1 h))]
theorem nan_cmp (n : Int) (w : World) : Calls Tryz.prog 112 #[.int .i64 n] w fun e w' => e = .returned (.bool false) ∧ w' = w := by
  have h : (n != n) = false := by simp
  go_enter Tryz.func112, Tryz.ntmps112
  go_wp2
  go_ret
  exact ⟨rfl, rfl⟩
theorem nan_sl (n : Int) (w : World) : Calls Tryz.prog 105 #[.int .i64 n] w fun e w' => e = .returned (.bool false) ∧ w' = w := by
  have h : (n != n) = false := by simp
  go_enter Tryz.func105, Tryz.ntmps105
  go_wp2
  go_ret
  exact ⟨rfl, rfl⟩
theorem less_any (a b : Int) (w : World) : Calls Tryz.prog 104 #[.int .i64 a, .int .i64 b] w fun e w' => e = .returned (.bool (decide (a < b))) ∧ w' = w := by
  have hn := fun n W => nan_cmp n W
  go_enter Tryz.func104, Tryz.ntmps104
  go_wp2_with (first
    | (go_at_call 112; refine (hn _ _).mono ?_; rintro e wn ⟨rfl, hq⟩; have hq' := hq.symm; clear hq; subst hq'))
  go_ret
  exact ⟨rfl, rfl⟩
set_option maxHeartbeats 1000000 in
theorem search_any (l : List Int) (k : Int) (r : Nat) (hl1 : l.length ≤ 1000) (hr : r ≤ l.length) (hlo : ∀ (i : Nat) x, i < r → l[i]? = some x → x < k) (hhi : ∀ (i : Nat) x, r ≤ i → l[i]? = some x → k < x) (ao : Option Addr) (cap : Nat) (w : World) (hl : LiesN w w.heap.size ao l) :
    Calls Tryz.prog 97 #[.slice ao l.length cap, .int .i64 k] w fun e w' => e = .returned (.tuple #[.int .i64 (r : Int), .bool false]) ∧ w' = w := by
  have HLO : Hid (∀ (i : Nat) x, i < r → l[i]? = some x → x < k) := hlo
  have HHI : Hid (∀ (i : Nat) x, r ≤ i → l[i]? = some x → k < x) := hhi
  have hless := fun a b W => less_any a b W
  have hnan := fun n W => nan_sl n W
  clear hlo hhi
  go_enter Tryz.func97, Tryz.ntmps97
  go_wp2
  go_loop [7, 8] (fun u v => ∃ lo hi : Nat, lo ≤ r ∧ r ≤ hi ∧ hi ≤ l.length ∧ u = .int .i64 (lo : Int) ∧ v = .int .i64 (hi : Int)) (fun u v => (intOf v).toNat - (intOf u).toNat)
  case atStart => exact ⟨0, l.length, by omega, hr, by omega, rfl, rfl⟩
  case round =>
    obtain ⟨lo, hi, h1, h2, h3, rfl, rfl⟩ := hrel
    by_cases hlt : lo < hi
    · have hmid : (lo + hi) / 2 < l.length := by omega
      have HX := List.getElem?_eq_getElem hmid
      obtain ⟨a, rfl, _, c0⟩ := hl _ _ HX
      rw [Nat.mul_one] at c0
      unfold NumAt at c0
      have e2 : ((lo : Int) + (hi : Int)) / 2 = (((lo + hi) / 2 : Nat) : Int) := by omega
      by_cases hm : (lo + hi) / 2 < r
      · have hd : decide (l[(lo + hi) / 2] < k) = true := decide_eq_true (HLO.out _ _ hm HX)
        generalize l[(lo + hi) / 2] = y at *
        clear HX
        obtain ⟨M, hM⟩ : ∃ M : Nat, (lo + hi) / 2 = M := ⟨_, rfl⟩
        rw [hM] at c0 e2 hm hmid
        have hM2 : lo ≤ M ∧ M < hi := by omega
        clear hM
        go_wp2_with (first
          | (go_at_call 104; refine (hless _ _ _).mono ?_; rintro e wn ⟨rfl, hq⟩; have hq' := hq.symm; clear hq; subst hq'))
        go_round
        case rel => exact ⟨M + 1, hi, by omega, h2, h3, by go_num, rfl⟩
        case measure => simp [intOf]; omega
      · have hd : decide (l[(lo + hi) / 2] < k) = false := decide_eq_false (fun h => by have := HHI.out _ _ (by omega) HX; omega)
        generalize l[(lo + hi) / 2] = y at *
        clear HX
        obtain ⟨M, hM⟩ : ∃ M : Nat, (lo + hi) / 2 = M := ⟨_, rfl⟩
        rw [hM] at c0 e2 hm hmid
        have hM2 : lo ≤ M ∧ M < hi := by omega
        clear hM
        go_wp2_with (first
          | (go_at_call 104; refine (hless _ _ _).mono ?_; rintro e wn ⟨rfl, hq⟩; have hq' := hq.symm; clear hq; subst hq'))
        go_round
        case rel => exact ⟨lo, M, h1, by omega, by omega, rfl, by go_num⟩
        case measure => simp [intOf]; omega
    · obtain rfl : lo = r := by omega
      obtain rfl : hi = lo := by omega
      by_cases hin : hi < l.length
      · have HX := List.getElem?_eq_getElem hin
        obtain ⟨a, rfl, _, c0⟩ := hl _ _ HX
        rw [Nat.mul_one] at c0
        unfold NumAt at c0
        have hne : (l[hi] == k) = false := beq_eq_false_iff_ne.2 (fun e => by have := HHI.out _ _ (Nat.le_refl _) HX; omega)
        have hne2 : decide (l[hi] = k) = false := decide_eq_false (fun e => by have := HHI.out _ _ (Nat.le_refl _) HX; omega)
        have hne3 : ¬ l[hi] = k := fun e => by have := HHI.out _ _ (Nat.le_refl _) HX; omega
        generalize l[hi] = y at *
        clear HX
        have hin2 : (hi : Int) < (l.length : Int) := by omega
        go_wp2_with (first
          | (go_at_call 105; refine (hnan _ _).mono ?_; rintro e wn ⟨rfl, hq⟩; have hq' := hq.symm; clear hq; subst hq'))
        refine bodyPost_ret (v := .tuple #[.int .i64 (hi : Int), .bool false]) (by simp [results, Tryz.results97, go_sem]) rfl ⟨rfl, rfl⟩
      · have hin2 : ¬ (hi : Int) < (l.length : Int) := by omega
        go_wp2_with (first
          | (go_at_call 105; refine (hnan _ _).mono ?_; rintro e wn ⟨rfl, hq⟩; have hq' := hq.symm; clear hq; subst hq'))
        refine bodyPost_ret (v := .tuple #[.int .i64 (hi : Int), .bool false]) (by simp [results, Tryz.results97, go_sem]) rfl ⟨rfl, rfl⟩
/-- What is left where a number is put in. -/
structure Num.Joined (B : Nat) (w w' : World) (v v' : Value) (l : List Int) : Prop where
  own : w'.ownsRow B 3 1 v' l.length (inCells l)
  grown : w.grownBy w' v.ownBlock
  near : Near w v v'
set_option maxHeartbeats 1000000 in
theorem insNil_any (B : Nat) (k : Int) (w : World) (hB : B ≤ w.heap.size) (vb : Nat) (hv : w.heap[vb]? = some (.cells #[.int .i64 k] 3 (0, 0))) :
    Calls Tryz.prog 98 #[.slice none 0 0, .int .i64 0, .slice (some ⟨vb, 0, none⟩) 1 1] w fun e w' => ∃ v', e = .returned v' ∧ Joined B w w' (.slice none 0 0) v' [k] := by
  have hheld : Held w (some ⟨vb, 0, none⟩) 1 1 (inCells [k]) := ⟨rfl, inCells_one _, fun e => (by cases e), fun a e j u hj => by
    cases e
    have h0 : j = 0 := by
      have := (List.getElem?_eq_some_iff.1 hj).1
      simp [inCells] at this
      exact this
    subst h0
    simp [inCells] at hj
    subst hj
    rw [Addr.add_lit]
    exact box_cell hv 0 _ rfl⟩
  go_enter Tryz.func98, Tryz.ntmps98
  go_wp2_with (first
    | (at_builtin; refine wpList_app_g Tryz.underlying23 Tryz.infoInt (by decide) _ rfl _ _ rfl B (.slice none 0 0) 0 [] rfl (World.ownsRow_nil _ _ _ _) (some ⟨vb, 0, none⟩) 1 1 (inCells [k]) rfl hheld (by omega) hB ?_; intro v1 w1 hown1 hgrow1 hnear1))
  obtain ⟨ao1, cap1, rfl⟩ := own_form hown1
  go_ret
  exact ⟨_, rfl, hown1, hgrow1, hnear1⟩
set_option maxHeartbeats 1000000 in
theorem joined_any (B : Nat) (l : List Int) (n k : Int) (hids : IdsOk l n) (hk : k ∉ l) (hlen : l.length ≤ 1000) (v : Value) (w : World) (hB : B ≤ w.heap.size) (h : w.ownsRow B 3 1 v l.length (inCells l)) :
    Calls Tryz.prog 85 #[v, .int .i64 k] w fun e w' => ∃ v', e = .returned v' ∧ Joined B (w.alloc (.cells #[.int .i64 k] 3)) w' v v' (addI l k) := by
  obtain ⟨j, hj, h3, h4⟩ := place_ex (ids_iff.1 hids).1 hk
  have hadd := addI_place hj h3 h4
  obtain ⟨ao, cap, rfl, hl⟩ := ownN_lies h
  have hs := search_any l k j hlen hj h3 h4 ao cap w hl
  have hbA := (Below.refl _ w).alloc (Nat.le_refl _) (.cells #[.int .i64 k] 3)
  have hA := own_below h hbA
  have hv : (w.alloc (.cells #[.int .i64 k] 3)).heap[w.heap.size]? = some (.cells #[.int .i64 k] 3 (0, 0)) := heap_new w _
  cases ao with
  | none =>
    have hl0 : l = [] := liesN_none hl
    subst hl0
    have hj0 : j = 0 := by simpa using hj
    subst hj0
    have hc0 : cap = 0 := by
      rcases h.2 with ⟨hv0, _⟩ | ⟨g, cap', cur, hv0, _⟩
      · cases hv0
        rfl
      · cases hv0
    subst hc0
    have hi := insNil_any B k (w.alloc (.cells #[.int .i64 k] 3)) (Nat.le_trans hB hbA.size) w.heap.size hv
    clear h hl h3 h4 hids hk hA hv
    go_enter Tryz.func85, Tryz.ntmps85
    go_wp2_with (first
      | (go_at_call 97; refine hs.mono ?_; rintro e wn ⟨rfl, hq⟩; have hq' := hq.symm; clear hq; subst hq')
      | (go_at_call 98; refine hi.mono ?_; rintro e w1 ⟨v', rfl, hJ⟩))
    go_ret
    exact ⟨_, rfl, hJ⟩
  | some a =>
    obtain ⟨g, hag⟩ : ∃ g, (⟨g, 0, none⟩ : Addr) = a := by
      rcases h.2 with ⟨hv0, _⟩ | ⟨g, cap', cur, hv0, _⟩
      · cases hv0
      · cases hv0
        exact ⟨g, rfl⟩
    subst hag
    have hglt := (h.lt g rfl).2
    have hi := ins_in B g cap l.length j w.heap.size (inCells (l.take j)) (inCells (l.drop j)) (inCells [k]) (by simp [inCells]; omega) (by simp [inCells]) (by simp [inCells]) (inCells_one _) (inCells_one _) (inCells_one _) hj (by omega) (w.alloc (.cells #[.int .i64 k] 3)) (by omega) (by
      have e : inCells (l.take j) ++ inCells (l.drop j) = inCells l := by rw [inCells, inCells, ← List.map_append, List.take_append_drop]
      rw [e]
      exact hA) hv
    have e2 : inCells (l.take j) ++ inCells [k] ++ inCells (l.drop j) = inCells (addI l k) := by
      rw [hadd]
      simp [inCells]
    have e3 : Hid ((addI l k).length = l.length + 1) := addI_len l k
    rw [e2] at hi
    clear h hl h3 h4 hids hk hA hv hadd e2
    go_enter Tryz.func85, Tryz.ntmps85
    go_wp2_with (first
      | (go_at_call 97; refine hs.mono ?_; rintro e wn ⟨rfl, hq⟩; have hq' := hq.symm; clear hq; subst hq')
      | (go_at_call 98; refine hi.mono ?_; rintro e w1 ⟨ao1, cap1, rfl, hown1, hgr1, hnear1⟩))
    go_ret
    exact ⟨_, rfl, by rw [e3.out]; exact hown1, hgr1, hnear1⟩
end Go.Proofs.YtajbdffepfjegaaGreat
namespace Go.Proofs.YtajbdffepfjegaaGreat
open Go.RowKit Num
open scoped Classical
set_option linter.unusedVariables false
set_option maxRecDepth 100000

theorem Num.TM.drewN {M : Nat × Obj} {B : Nat} {w : World} {g : Nat} {r : Rep} {o : Msgs} (h : TM M B w g r o) (n : Nat) : TM M B (w.drewN n) g r o := h.below (below_drewN (Below.refl _ _) n)
theorem Num.Turn.drewN {B : Nat} {w : World} {g : Nat} {r : Rep} {o : Msgs} (h : Turn B w g r o) (n : Nat) : Turn B (w.drewN n) g r o := h.below (below_drewN (Below.refl _ _) n)
theorem keep_drewN {B : Nat} {w : World} (n : Nat) (hB : B ≤ w.heap.size) : Keep B w (w.drewN n) := Keep.of_below (below_drewN (Below.refl _ _) n) hB
set_option maxHeartbeats 1000000 in
theorem leadsD_any (B g : Nat) (r : Rep) (o : Msgs) (w : World) (h : Turn B w g r o) (hv : 0 ≤ r.view ∧ r.view < 1099511627776) :
    Calls Tryz.prog 49 #[.pointer (some ⟨g, 0, none⟩)] w fun e w' => e = .returned (.bool (tru (r.how = 0 ∧ r.view % r.n = r.id))) ∧ ∃ m, w' = w.drewN m := by
  have hp := fun n => primaryT_any B g r o r.view (w.drewN n) (h.drewN n) hv
  obtain ⟨s, xo, xc, ⟨k0, _, k2, _, k4, _⟩, _⟩ := h.cells
  clear h
  by_cases q : r.how = 0
  · have q2 : (r.how == 0) = true := by simp [q]
    have q3 : decide (r.how = 0) = true := decide_eq_true q
    have he : tru (r.how = 0 ∧ r.view % r.n = r.id) = decide (r.view % r.n = r.id) := by
      by_cases e : r.view % r.n = r.id
      · rw [tru_yes ⟨q, e⟩, decide_eq_true e]
      · rw [tru_no (fun h => e h.2), decide_eq_false e]
    have HE : Hid _ := he
    clear q he
    go_enter Tryz.func49, Tryz.ntmps49
    go_wp2_with fail
    go_quiet (first | (go_at_call 75; refine Calls.quiet_of_same (hp _)))
    go_wp2
    go_ret
    exact ⟨by rw [HE.out]; rfl, _, rfl⟩
  · have q2 : (r.how == 0) = false := by simp [q]
    have q3 : decide (r.how = 0) = false := decide_eq_false q
    have HE : Hid (tru (r.how = 0 ∧ r.view % r.n = r.id) = false) := tru_no (fun h => q h.1)
    clear q
    go_enter Tryz.func49, Tryz.ntmps49
    go_wp2_with fail
    go_quiet (first | (go_at_call 75; refine Calls.quiet_of_same (hp _)))
    go_wp2
    go_ret
    exact ⟨by rw [HE.out]; rfl, _, rfl⟩
/-- May one log stand behind another? -/
def Num.FitP (a b : List Ent) : Prop := a = [] ∨ b = [] ∨ (a.length + b.length ≤ 1000 ∧ ∃ y, b[0]? = some y ∧ lastT a < y.time)
set_option maxHeartbeats 1000000 in
theorem fit_any (a b : List Ent) (ha : a.length ≤ 1000) (hb : b.length ≤ 1000) (ao bo : Option Addr) (ac bc : Nat) (w : World) (hla : LiesE w w.heap.size ao a) (hlb : LiesE w w.heap.size bo b) :
    Calls Tryz.prog 78 #[.slice ao a.length ac, .slice bo b.length bc] w fun e w' => e = .returned (.bool (tru (FitP a b))) ∧ ∃ m, w' = w.drewN m := by
  by_cases q1 : a = []
  · have HE : Hid (tru (FitP a b) = true) := tru_yes (.inl q1)
    have i1 : a.length = 0 := by rw [q1]; rfl
    rw [i1]
    clear q1 hla
    go_enter Tryz.func78, Tryz.ntmps78
    go_wp2
    go_ret
    exact ⟨by rw [HE.out]; rfl, 0, rfl⟩
  · have hpa : 0 < a.length := List.length_pos_iff.2 q1
    by_cases q2 : b = []
    · have HE : Hid (tru (FitP a b) = true) := tru_yes (.inr (.inl q2))
      have i1 : b.length = 0 := by rw [q2]; rfl
      have i2 : ((a.length : Int) == 0) = false := by simp; omega
      have i3 : decide ((a.length : Int) = 0) = false := decide_eq_false (by omega)
      have i4 : ¬ (a.length : Int) = 0 := by omega
      rw [i1]
      clear q1 q2 hla hlb
      go_enter Tryz.func78, Tryz.ntmps78
      go_wp2
      go_ret
      exact ⟨by rw [HE.out]; rfl, 0, rfl⟩
    · have hpb : 0 < b.length := List.length_pos_iff.2 q2
      obtain ⟨y, hy, hye⟩ := lastT_some q1
      have hz := List.getElem?_eq_getElem hpb
      obtain ⟨pa, rfl, _, ca, _⟩ := hla _ y hy
      obtain ⟨pb, rfl, _, cb, _⟩ := hlb _ _ hz
      rw [← hye] at ca
      have he : tru (FitP a b) = (decide ((a.length : Int) + (b.length : Int) ≤ 1000) && decide (lastT a < b[0].time)) := by
        by_cases e1 : (a.length : Int) + (b.length : Int) ≤ 1000
        · by_cases e2 : lastT a < b[0].time
          · rw [tru_yes (.inr (.inr ⟨by omega, _, hz, e2⟩)), decide_eq_true e1, decide_eq_true e2]
            rfl
          · rw [tru_no (fun h => ?_), decide_eq_true e1, decide_eq_false e2]
            · rfl
            · rcases h with h | h | ⟨_, y', h', h''⟩
              · exact q1 h
              · exact q2 h
              · rw [hz] at h'
                cases h'
                exact e2 h''
        · rw [tru_no (fun h => ?_), decide_eq_false e1]
          · rfl
          · rcases h with h | h | ⟨h, _⟩
            · exact q1 h
            · exact q2 h
            · omega
      have HE : Hid _ := he
      clear he
      generalize lastT a = LA at *
      generalize b[0].time = TB at *
      obtain ⟨K, hK⟩ : ∃ K : Nat, a.length - 1 = K := ⟨_, rfl⟩
      rw [hK] at ca
      have i1 : IntKind.i64.wrap ((a.length : Int) - 1) = (K : Int) := by rw [IntKind.wrap_i64]; omega
      have i2 : (a.length : Int) - 1 = (K : Int) := by omega
      have i4 : ¬ (a.length : Int) = 0 := by omega
      have i5 : ¬ (b.length : Int) = 0 := by omega
      have i6 : ((a.length : Int) == 0) = false := by simp; omega
      have i7 : ((b.length : Int) == 0) = false := by simp; omega
      have i8 : (K : Int) < (a.length : Int) := by omega
      have i9 : (0 : Int) < (b.length : Int) := by omega
      have j1 : IntKind.i64.wrap ((a.length : Int) + (b.length : Int)) = (a.length : Int) + (b.length : Int) := by rw [IntKind.wrap_i64]; omega
      have cb' : w.cell? pb = some (.int .i64 TB) := by simpa [Addr.add] using cb
      clear hy hye hz hla hlb q1 q2 hK
      by_cases e1 : (a.length : Int) + (b.length : Int) ≤ 1000
      · have e2 : decide ((a.length : Int) + (b.length : Int) ≤ 1000) = true := decide_eq_true e1
        go_enter Tryz.func78, Tryz.ntmps78
        go_wp2_with fail
        go_quiet (fail)
        go_wp2
        go_ret
        exact ⟨by rw [HE.out, e2, Bool.true_and]; rfl, _, rfl⟩
      · have e2 : decide ((a.length : Int) + (b.length : Int) ≤ 1000) = false := decide_eq_false e1
        go_enter Tryz.func78, Tryz.ntmps78
        go_wp2_with fail
        go_quiet (fail)
        go_wp2
        go_ret
        exact ⟨by rw [HE.out, e2, Bool.false_and]; rfl, _, rfl⟩
set_option maxHeartbeats 1000000 in
theorem raiseM_any (M : Nat × Obj) (B g : Nat) (r : Rep) (o : Msgs) (n : Int) (w : World) (h : TM M B w g r o) :
    Calls Tryz.prog 79 #[.pointer (some ⟨g, 0, none⟩), .int .i64 n] w fun e w' => e = .returned (.tuple #[]) ∧ TM M B w' g (raiseR r n) o ∧ Keep B w w' := by
  obtain ⟨s, xo, xc, ⟨_, _, _, _, _, k5, k6, _⟩, z, _⟩ := h.turn.cells
  obtain ⟨hT, hK⟩ := tm_sets h [(6, .int .i64 (min (max r.commit n) (r.log.length : Int)))] (raiseR r n) (fun _ _ _ _ _ _ f f' e e' => by subst e e'; exact ⟨rfl, rfl, rfl, rfl, rfl, rfl, rfl, rfl, rfl, rfl, rfl, rfl, rfl, rfl⟩) rfl rfl rfl rfl rfl rfl rfl
  simp only [sets] at hT hK
  clear h
  go_enter Tryz.func79, Tryz.ntmps79
  go_wp2
  go_region
  go_end0
  exact ⟨rfl, hT.drew, hK.drew⟩
theorem askM_any (M : Nat × Obj) (B g : Nat) (r : Rep) (o : Msgs) (to i : Int) (w : World) (h : TM M B w g r o) (hol : o.length ≤ 100) :
    Calls Tryz.prog 80 #[.pointer (some ⟨g, 0, none⟩), .int .i64 to, .int .i64 i] w fun e w' => e = .returned (.tuple #[]) ∧ TM M B w' g r (o ++ askM r to i) ∧ Keep B w w' := by
  have hs := sendM_any M B g r o (msg 7 i 0 0 []) none 0 to w h (srcE_nil _ _) (by simp) hol
  clear h
  go_enter Tryz.func80, Tryz.ntmps80
  go_wp2_with (first
    | (go_at_call 76; refine hs.mono ?_; rintro e w1 ⟨rfl, hT1, hK1⟩))
  go_end0
  exact ⟨rfl, hT1, hK1⟩
theorem preM_any (M : Nat × Obj) (B g : Nat) (r : Rep) (o : Msgs) (to : Int) (w : World) (h : TM M B w g r o) (hol : o.length ≤ 100) :
    Calls Tryz.prog 81 #[.pointer (some ⟨g, 0, none⟩), .int .i64 to] w fun e w' => e = .returned (.tuple #[]) ∧ TM M B w' g r (o ++ preM r to) ∧ Keep B w w' := by
  have hs := sendM_any M B g r o (msg 2 (r.log.length : Int) 0 0 []) none 0 to w h (srcE_nil _ _) (by simp) hol
  obtain ⟨s, xo, xc, ⟨_, _, _, _, _, k5, _⟩, z, _⟩ := h.turn.cells
  clear h
  go_enter Tryz.func81, Tryz.ntmps81
  go_wp2_with (first
    | (go_at_call 76; refine hs.mono ?_; rintro e w1 ⟨rfl, hT1, hK1⟩))
  go_end0
  exact ⟨rfl, hT1, hK1⟩
theorem justMost_any (B g : Nat) (r : Rep) (o : Msgs) (n : Nat) (hn : n ≤ 1000) (ao : Option Addr) (c : Nat) (w : World) (h : Turn B w g r o) :
    Calls Tryz.prog 86 #[.pointer (some ⟨g, 0, none⟩), .slice ao n c] w fun e w' => e = .returned (.bool (decide ((n : Int) = mostN r.n))) ∧ w' = w := by
  have hnb := one_bounds h.one
  obtain ⟨s, xo, xc, ⟨_, k1, _⟩, z, _⟩ := h.cells
  have he : Int.tdiv r.n 2 = r.n / 2 := Int.tdiv_eq_ediv_of_nonneg (by omega)
  have hw : IntKind.i64.wrap (r.n / 2 + 1) = r.n / 2 + 1 := by rw [IntKind.wrap_i64]; omega
  unfold mostN
  clear h
  go_enter Tryz.func86, Tryz.ntmps86
  go_wp2
  go_ret
  exact ⟨rfl, rfl⟩
end Go.Proofs.YtajbdffepfjegaaGreat
