/-
  Contracts of the document's own store: Trim (8.4).
-/
import Derived.Test.YtgldgedbinbigaaQPut
namespace Go.Proofs.Ytgldgedbinbigaa
open Go.RowKit Num
open scoped Classical
set_option linter.unusedVariables false

/-- Does a version stay, by the place of the last one? -/
def Num.staysR (l : List Ver) (t : Int) (c : Nat) (v : Ver) : Bool := decide (t < v.time) || (decide (lastJ v.key t l = c + 1) && !v.gone)
def Num.trimPre (l : List Ver) (t : Int) : Nat → List Ver
  | 0 => []
  | c + 1 => match l[c]? with
    | none => trimPre l t c
    | some v => if staysR l t c v = true then trimPre l t c ++ [v] else trimPre l t c
theorem trimPre_next {l : List Ver} {t : Int} {c : Nat} {v : Ver} (h : l[c]? = some v) : trimPre l t (c + 1) = if staysR l t c v = true then trimPre l t c ++ [v] else trimPre l t c := by rw [trimPre, h]
theorem trimPre_len (l : List Ver) (t : Int) : ∀ c, (trimPre l t c).length ≤ c
  | 0 => Nat.le_refl _
  | c + 1 => by
    have ih := trimPre_len l t c
    rw [trimPre]
    split
    · omega
    · split
      · rw [List.length_append]
        simp
        omega
      · omega
theorem verT_nil_iff {l : List Ver} {t : Int} {c : Nat} {v : Ver} (h : l[c]? = some v) (ht : v.time ≤ t) : verT (l.drop (c + 1)) v.key t = [] ↔ lastJ v.key t l = c + 1 := by
  have hv : hitV v.key t v = true := by
    unfold hitV
    rw [isKey_iff.2 rfl, decide_eq_true ht]
    rfl
  rw [verT_hit, List.filter_eq_nil_iff]
  constructor
  · intro h0
    exact lastJ_at h hv (fun y hy => by simpa using h0 y hy)
  · intro h0 y hy
    obtain ⟨_, _, _, hd⟩ := lastJ_succ h0
    rw [hd y hy]
    simp
theorem trimPre_aux (l : List Ver) (t : Int) : ∀ c, c ≤ l.length → trimPre l t c ++ trimAux (l.drop c) t = trimAux l t
  | 0, _ => rfl
  | c + 1, hc => by
    have ih := trimPre_aux l t c (by omega)
    have hx : l[c]? = some (l[c]'(by omega)) := List.getElem?_eq_getElem _
    generalize (l[c]'(by omega)) = v at hx
    rw [trimPre_next hx, ← ih, drop_at hx, trimAux]
    by_cases ht : t < v.time
    · have hs : staysR l t c v = true := by unfold staysR; rw [decide_eq_true ht]; rfl
      rw [if_pos hs, if_pos (.inl ht), List.append_assoc]
      rfl
    · have hiff := verT_nil_iff hx (show v.time ≤ t by omega)
      by_cases hJ : lastJ v.key t l = c + 1
      · cases hg : v.gone with
        | true =>
          have hs : staysR l t c v = false := by unfold staysR; rw [decide_eq_false ht, hg]; simp
          rw [hs, if_neg (by simp), if_neg (by
            rintro (h | h)
            · exact ht h
            · cases h.2)]
        | false =>
          have hs : staysR l t c v = true := by unfold staysR; rw [decide_eq_false ht, hg, decide_eq_true hJ]; rfl
          rw [if_pos hs, if_pos (.inr ⟨hiff.2 hJ, rfl⟩), List.append_assoc]
          rfl
      · have hs : staysR l t c v = false := by unfold staysR; rw [decide_eq_false ht, decide_eq_false hJ]; rfl
        rw [hs, if_neg (by simp), if_neg (by
          rintro (h | h)
          · exact ht h
          · exact hJ (hiff.1 h.1))]
theorem trimPre_all (l : List Ver) (t : Int) : trimPre l t l.length = trimAux l t := by
  have := trimPre_aux l t l.length (Nat.le_refl _)
  rw [List.drop_length] at this
  rw [← this]
  simp [trimAux]
set_option maxRecDepth 100000 in
set_option maxHeartbeats 4000000 in
theorem rtrim_any (B g : Nat) (st : Sto) (t : Int) (hn : st.vs.length ≤ 800) (w : World) (h : HoldR B w g st) :
    Calls Try.prog 31 #[.pointer (some ⟨g, 0, none⟩), .int .i64 t] w fun e w' => e = .returned (.int .i64 (trimS st t).1) ∧ HoldR B w' g (trimS st t).2 ∧ TurnR B w w' := by
  have hgl := h.lt
  have hB : B ≤ w.heap.size := Nat.le_trans hgl.1 (Nat.le_of_lt hgl.2)
  have hla := fun W k (hW : Below w.heap.size w W) => rlast_any B g st k t (by omega) W (h.below hW)
  obtain ⟨ao, cap, hR⟩ := h
  have hRw : ∀ W, Below w.heap.size w W → RefAt B W g st ao cap := fun W hW => hR.below hW
  have hend : ∀ W ao' cap', Below w.heap.size w W → W.ownsRow w.heap.size 77 4 (.slice ao' (trimAux st.vs t).length cap') (trimAux st.vs t).length (rvCells (trimAux st.vs t)) → HoldR B (W.setCell ⟨g, 2, none⟩ (.slice ao' (trimAux st.vs t).length cap')) g (trimS st t).2 ∧ TurnR B w (W.setCell ⟨g, 2, none⟩ (.slice ao' (trimAux st.vs t).length cap')) := by
    intro W ao' cap' hW ho
    obtain ⟨r1, r2⟩ := ref_turn (st' := (trimS st t).2) (ao' := ao') (cap' := cap') (hRw W hW) (grown_set W g 2 _) (set_heap (hRw W hW).box _) (own_mono ho hB) (inv_trim hR.inv t)
    exact ⟨⟨_, _, r1⟩, (Turns.of_below hW hB).trans r2⟩
  have htl := trim_len st.vs t
  have HA : Hid (trimPre st.vs t st.vs.length = trimAux st.vs t) := trimPre_all st.vs t
  have hres : (trimS st t).1 = (st.vs.length : Int) - ((trimAux st.vs t).length : Int) := rfl
  rw [hres]
  generalize (trimS st t).2 = st2 at *
  have hcell : ∀ W, Below w.heap.size w W → W.cell? ⟨g, 2, none⟩ = some (.slice ao st.vs.length cap) ∧ W.frozen? ⟨g, 2, none⟩ = false ∧ LiesR W W.heap.size ao st.vs := fun W hW => ⟨(ref_cells (hRw W hW)).2.2, box_open (hRw W hW).box 2, ref_lies (hRw W hW)⟩
  clear hR hRw hres hB
  generalize st.vs = l at *
  generalize trimAux l t = out at *
  go_enter Try.func31, Try.ntmps31
  go_wp2
  go_loopw [5, 6] (fun v i wr => ∃ (c : Nat) (acc : List Ver), c ≤ l.length ∧ i = .int .i64 (c : Int) ∧ Below w.heap.size w wr ∧ wr.ownsRow w.heap.size 77 4 v acc.length (rvCells acc) ∧ acc.length ≤ c ∧ Hid (acc = trimPre l t c)) (fun _ i _ => l.length - (intOf i).toNat)
  case atStart => exact ⟨0, [], by omega, rfl, Below.refl _ _, World.ownsRow_nil _ _ _ _, Nat.le_refl _, rfl⟩
  case round =>
    obtain ⟨c, acc, hc, rfl, hbel, hown, hac, HF⟩ := hrel
    obtain ⟨k2, f2, hl⟩ := hcell wr hbel
    have hsz := hbel.size
    by_cases hcl : (c : Int) < (l.length : Int)
    · have HX : Hid (l[c]? = some (l[c]'(by omega))) := List.getElem?_eq_getElem _
      obtain ⟨a, rfl, hblk, e0, e1, e2, e3⟩ := hl c _ HX.out
      generalize (l[c]'(by omega)) = v at *
      have HN := trimPre_next (t := t) HX.out
      have hbA : Below w.heap.size w (wr.alloc (boxR v)) := hbel.alloc hsz _
      obtain ⟨k3, _, _⟩ := hcell _ hbA
      have hlv := hla (wr.alloc (boxR v)) v.key hbA
      have HY : Hid (staysR l t c v = true → acc ++ [v] = trimPre l t (c + 1)) := fun h0 => by rw [HN, if_pos h0, HF.out]
      have HZ : Hid (staysR l t c v = false → acc = trimPre l t (c + 1)) := fun h0 => by rw [HN, h0, HF.out]; rfl
      have HS1 : Hid (t < v.time → staysR l t c v = true) := fun h0 => by unfold staysR; rw [decide_eq_true h0]; rfl
      have HS2 : Hid (¬ t < v.time → lastJ v.key t l = c + 1 → staysR l t c v = !v.gone) := fun h0 h1 => by unfold staysR; rw [decide_eq_false h0, decide_eq_true h1]; simp
      have HS3 : Hid (¬ t < v.time → ¬ lastJ v.key t l = c + 1 → staysR l t c v = false) := fun h0 h1 => by unfold staysR; rw [decide_eq_false h0, decide_eq_false h1]; rfl
      obtain ⟨z, hz⟩ : ∃ z : Int, (lastJ v.key t l : Int) - 1 = z := ⟨_, rfl⟩
      rw [hz] at hlv
      obtain ⟨ao3, cap3, rfl, _⟩ := own_liesR hown
      by_cases ht : t < v.time
      · have H2 : Hid (acc ++ [v] = trimPre l t (c + 1)) := HY.out (HS1.out ht)
        clear HY HZ HS1 HS2 HS3 HX HF HN hz hlv hla
        go_wp2_with (first
          | (at_builtin; refine wpList_appX _ rfl _ _ 58 rfl 77 4 48 Try.underlying58 Try.infoRV w.heap.size _ acc.length (rvCells acc) rfl ((hown.alloc _).alloc _) ⟨wr.heap.size + 1, 0, none⟩ 1 (rvC v) rfl rfl (rone4 v) (new_cells _ _ (rvC v) _ (by simp)) ⟨by omega, by decide, by decide, rfl⟩ (by simp; omega) ?_; intro v3 w3 hown3 hbel3 hst3))
        go_roundw
        case rel => exact ⟨c + 1, acc ++ [v], by omega, by go_num, ((hbel.alloc hsz _).alloc (by simp; omega) _).trans hbel3, by rw [List.length_append, rvCells_append]; exact hown3, by simp only [List.length_append, List.length_singleton]; omega, H2.out⟩
        case measure => simp [intOf]; omega
      · have ht2 : decide (t < v.time) = false := decide_eq_false ht
        by_cases hJ : lastJ v.key t l = c + 1
        · have hzc : (c : Int) = z := by omega
          cases hg : v.gone with
          | true =>
            have H2 : Hid (acc = trimPre l t (c + 1)) := HZ.out (by rw [HS2.out ht hJ, hg]; rfl)
            have hbx : (wr.alloc (boxR v)).cell? ⟨wr.heap.size, 3, none⟩ = some (.bool true) := by rw [← hg]; exact box_cell (heap_new wr _) 3 _ rfl
            subst hzc
            have HG : Hid (v.gone = true) := hg
            clear HY HZ HS1 HS2 HS3 HX HF HN hz hla hJ ht hg
            go_wp2_with (first
              | (go_at_call 40; refine hlv.mono ?_; rintro e wn ⟨rfl, hq⟩; have hq' := hq.symm; clear hq; subst hq'))
            go_roundw
            case rel => exact ⟨c + 1, acc, by omega, by go_num, hbA, hown.alloc _, by omega, H2.out⟩
            case measure => simp [intOf]; omega
          | false =>
            have H2 : Hid (acc ++ [v] = trimPre l t (c + 1)) := HY.out (by rw [HS2.out ht hJ, hg]; rfl)
            have hbx : (wr.alloc (boxR v)).cell? ⟨wr.heap.size, 3, none⟩ = some (.bool false) := by rw [← hg]; exact box_cell (heap_new wr _) 3 _ rfl
            have HVC : Hid (rvC v = [.string v.key, .int .i64 v.time, .string v.val, .bool false]) := by unfold Hid rvC; rw [hg]
            subst hzc
            clear HY HZ HS1 HS2 HS3 HX HF HN hz hla hJ ht hg
            go_wp2_with (first
              | (go_at_call 40; refine hlv.mono ?_; rintro e wn ⟨rfl, hq⟩; have hq' := hq.symm; clear hq; subst hq')
              | (at_builtin; refine wpList_appX _ rfl _ _ 58 rfl 77 4 48 Try.underlying58 Try.infoRV w.heap.size _ acc.length (rvCells acc) rfl ((hown.alloc _).alloc _) ⟨wr.heap.size + 1, 0, none⟩ 1 [.string v.key, .int .i64 v.time, .string v.val, .bool false] rfl rfl (by rw [← HVC.out]; exact rone4 v) (new_cells _ _ [.string v.key, .int .i64 v.time, .string v.val, .bool false] _ (by simp)) ⟨by omega, by decide, by decide, rfl⟩ (by simp; omega) ?_; intro v3 w3 hown3 hbel3 hst3))
            go_roundw
            case rel => exact ⟨c + 1, acc ++ [v], by omega, by go_num, ((hbel.alloc hsz _).alloc (by simp; omega) _).trans hbel3, by rw [List.length_append, rvCells_append, show rvCells [v] = rvC v by simp [rvCells], HVC.out]; exact hown3, by simp only [List.length_append, List.length_singleton]; omega, H2.out⟩
            case measure => simp [intOf]; omega
        · have hzc : ¬ z = (c : Int) := by omega
          have H2 : Hid (acc = trimPre l t (c + 1)) := HZ.out (HS3.out ht hJ)
          clear HY HZ HS1 HS2 HS3 HX HF HN hz hla hJ ht
          go_wp2_with (first
            | (go_at_call 40; refine hlv.mono ?_; rintro e wn ⟨rfl, hq⟩; have hq' := hq.symm; clear hq; subst hq'))
          go_roundw
          case rel => exact ⟨c + 1, acc, by omega, by go_num, hbA, hown.alloc _, by omega, H2.out⟩
          case measure => simp [intOf]; omega
    · obtain rfl : c = l.length := by omega
      obtain rfl : acc = out := HF.out.trans HA.out
      obtain ⟨ao3, cap3, rfl, _⟩ := own_liesR hown
      have hz := hend wr ao3 cap3 hbel hown
      clear hend HF HA hla hcell
      go_wp2
      go_ret
      exact ⟨rfl, hz⟩
end Go.Proofs.Ytgldgedbinbigaa
