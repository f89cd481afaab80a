/-
  What ApplyWhole asks, as plain data: writes of unlike keys into an empty store.
-/
import Derived.Test.YtclliljkmmpglaaGreatApV
namespace Go.Proofs.YtclliljkmmpglaaGreat
open Go.RowKit Go.Maps Num
open scoped Classical
set_option linter.unusedVariables false
set_option maxRecDepth 100000

def Num.whC (ws : List Wrt) (dead : Int) : Cmd := ⟨2, 3, 9, 0, [], [], ws, dead, 0, 0, ⟨#[]⟩, 0, []⟩
/-- Those that are put. -/
def Num.putsW (ws : List Wrt) : List Wrt := ws.filter (fun x => !x.del)
/-- The keys are unlike. -/
def Num.Unlike (ws : List Wrt) : Prop := ws.Pairwise (fun x y => x.key ≠ y.key)
theorem wh_needs (t : Int) (ws : List Wrt) : needsN [] t ws = (putsW ws).length := by
  have e : needsW [] t = fun x => !x.del := by
    funext x
    unfold needsW
    rw [get_nil]
    rfl
  unfold needsN putsW
  rw [e]
theorem wh_code (R : Int) (ws : List Wrt) (dead : Int) : codeV (newM R) 4 (whC ws dead) = if dead ≠ 0 ∧ dead < 4 then 14 else if R < ((putsW ws).length : Int) then 4 else 0 := by
  unfold codeV
  rw [if_neg (by show ¬ (4 : Int) ≤ 0; omega)]
  show (if dead ≠ 0 ∧ dead < 4 then 14 else if (4 : Int) < 0 then 15 else if (false || false) = true then 13 else if R - ((0 : Nat) : Int) < (needsN [] 4 ws : Int) then 4 else 0) = _
  rw [wh_needs, if_neg (by decide : ¬ (4 : Int) < 0), if_neg (by decide : ¬ (false || false) = true)]
  simp
theorem lastA_none {l : List Ver} {k : ByteArray} (h : ∀ v ∈ l, v.key ≠ k) : lastA l k = none := by
  have e : l.filter (isKey k) = [] := by
    rw [List.filter_eq_nil_iff]
    intro v hv
    rw [isKey_no (h v hv)]
    decide
  unfold lastA
  rw [e]
  rfl
theorem wh_write (R : Int) : ∀ (ws acc : List Wrt) (top : Int), top ≤ 4 → Unlike (acc ++ ws) → (acc.length : Int) + ((putsW ws).length : Int) ≤ R → ∃ top', top' ≤ 4 ∧ writeS 4 ⟨R, top, acc.map (wrtV 4)⟩ ws = ⟨R, top', (acc ++ putsW ws).map (wrtV 4)⟩
  | [], acc, top, ht, _, _ => ⟨top, ht, by simp [writeS, putsW]⟩
  | x :: ws, acc, top, ht, hu, hl => by
    have hno : ∀ v ∈ acc.map (wrtV 4), v.key ≠ x.key := by
      intro v hv
      obtain ⟨y, hy, rfl⟩ := List.mem_map.1 hv
      rw [wrtV_key]
      exact (List.pairwise_append.1 hu).2.2 y hy x (by simp)
    have hla := lastA_none hno
    show ∃ top', top' ≤ 4 ∧ writeS 4 (putS ⟨R, top, acc.map (wrtV 4)⟩ (wrtV 4 x)).2 ws = _
    cases hd : x.del with
    | true =>
      have e1 : putsW (x :: ws) = putsW ws := by simp [putsW, hd]
      have e2 : wrtV 4 x = ⟨x.key, 4, ⟨#[]⟩, true⟩ := if_pos hd
      have e3 : (putS ⟨R, top, acc.map (wrtV 4)⟩ (wrtV 4 x)).2 = ⟨R, top, acc.map (wrtV 4)⟩ := by
        rw [e2]
        unfold putS
        rw [if_neg (by show ¬ ((4 : Int) < 1 ∨ 1099511627776 ≤ (4 : Int) ∨ (4 : Int) < top); omega), if_pos ⟨rfl, by show noneLeft (lastA (acc.map (wrtV 4)) x.key) = true; rw [hla]; rfl⟩]
      rw [e1] at hl ⊢
      rw [e3]
      refine wh_write R ws acc top ht ?_ hl
      exact List.Pairwise.sublist (List.Sublist.append_left (List.sublist_cons_self x ws) acc) hu
    | false =>
      have e1 : putsW (x :: ws) = x :: putsW ws := by simp [putsW, hd]
      rw [e1] at hl
      simp only [List.length_cons] at hl
      have e2 : wrtV 4 x = ⟨x.key, 4, x.val, false⟩ := if_neg (by rw [hd]; decide)
      have e3 : (putS ⟨R, top, acc.map (wrtV 4)⟩ (wrtV 4 x)).2 = ⟨R, 4, (acc ++ [x]).map (wrtV 4)⟩ := by
        have := put_new ⟨R, top, acc.map (wrtV 4)⟩ (wrtV 4 x) (by rw [wrtV_time]; decide) (by rw [wrtV_time]; decide) (by rw [wrtV_time]; exact ht) (by rw [e2]) (by rw [wrtV_key, hla]; rfl) (by show (((acc.map (wrtV 4)).length : Nat) : Int) < R; rw [List.length_map]; omega)
        rw [this, wrtV_time]
        simp
      rw [e3, e1]
      obtain ⟨top', h1, h2⟩ := wh_write R ws (acc ++ [x]) 4 (Int.le_refl _) (by simpa using hu) (by simp; omega)
      exact ⟨top', h1, by rw [h2]; simp⟩
theorem get_mem {l : List Ver} {v : Ver} {t : Int} (hv : v ∈ l) (ht : v.time ≤ t) (hg : v.gone = false) (hu : ∀ u ∈ l, u.key = v.key → u = v) : getV l v.key t = some v.val := by
  have hm : v ∈ verT l v.key t := List.mem_filter.2 ⟨hv, by rw [isKey_iff.2 rfl, decide_eq_true ht]; rfl⟩
  have hall : ∀ u ∈ verT l v.key t, u = v := fun u hu' => by
    obtain ⟨h1, h2⟩ := List.mem_filter.1 hu'
    have h3 : isKey v.key u = true := (Bool.and_eq_true _ _ ▸ h2).1
    exact hu u h1 (isKey_iff.1 h3)
  unfold getV lastV
  cases hl : (verT l v.key t).getLast? with
  | none =>
    rw [List.getLast?_eq_none_iff] at hl
    rw [hl] at hm
    cases hm
  | some u =>
    rw [hall u (List.mem_of_getLast? hl)]
    simp [hg]
theorem wh_get {ws : List Wrt} (hu : Unlike ws) {x : Wrt} (hx : x ∈ ws) : getV ((putsW ws).map (wrtV 4)) x.key 4 = if x.del = true then none else some x.val := by
  have hone : ∀ y ∈ ws, y.key = x.key → y = x := by
    intro y hy e
    obtain ⟨i, hi⟩ := List.getElem?_of_mem hy
    obtain ⟨j, hj⟩ := List.getElem?_of_mem hx
    obtain ⟨hi1, hi2⟩ := List.getElem?_eq_some_iff.1 hi
    obtain ⟨hj1, hj2⟩ := List.getElem?_eq_some_iff.1 hj
    have hp := List.pairwise_iff_getElem.1 hu
    rcases Nat.lt_trichotomy i j with h | h | h
    · exact absurd (by rw [hi2, hj2]; exact e) (hp i j hi1 hj1 h)
    · subst h
      rw [hi] at hj
      exact Option.some.inj hj
    · exact absurd (by rw [hi2, hj2]; exact e.symm) (hp j i hj1 hi1 h)
  by_cases hd : x.del = true
  · rw [if_pos hd]
    refine get_none fun v hv => ?_
    obtain ⟨y, hy, rfl⟩ := List.mem_map.1 hv
    obtain ⟨h1, h2⟩ := List.mem_filter.1 hy
    rw [wrtV_key]
    intro e
    rw [hone y h1 e, hd] at h2
    simp at h2
  · rw [if_neg hd]
    have hd' : x.del = false := by simpa using hd
    have e2 : wrtV 4 x = ⟨x.key, 4, x.val, false⟩ := if_neg hd
    have := get_mem (l := (putsW ws).map (wrtV 4)) (v := wrtV 4 x) (t := 4) (List.mem_map.2 ⟨x, List.mem_filter.2 ⟨hx, by rw [hd']; rfl⟩, rfl⟩) (by rw [wrtV_time]; decide) (by rw [e2]) (fun u hu' he => by
      obtain ⟨y, hy, rfl⟩ := List.mem_map.1 hu'
      rw [wrtV_key, wrtV_key] at he
      rw [hone y (List.mem_filter.1 hy).1 he])
    rw [wrtV_key] at this
    rw [this, e2]
theorem rises_pair {l : List ByteArray} (h : RisesT l) : l.Pairwise kl := by
  have hone : ∀ i (hi : i + 1 < l.length), kl (l[i]'(by omega)) (l[i + 1]'hi) := by
    intro i hi
    have h1 := (h (i + 1) hi _ (List.getElem?_eq_getElem hi)).2 i _ rfl (List.getElem?_eq_getElem (by omega))
    unfold leqT at h1
    rw [Bool.or_eq_false_iff] at h1
    rcases kl_tri (l[i]'(by omega)) (l[i + 1]'hi) with h2 | h2 | h2
    · exact h2
    · rw [h2] at h1
      simp at h1
    · unfold kl at h2
      exact absurd h2 (by rw [h1.1]; decide)
  rw [List.pairwise_iff_getElem]
  intro i j hi hj hij
  obtain ⟨d, rfl⟩ : ∃ d, j = i + 1 + d := ⟨j - (i + 1), by omega⟩
  induction d with
  | zero => exact hone i hj
  | succ d ih => exact kl_trans (ih (by omega) (by omega)) (hone (i + 1 + d) hj)
theorem wh_rise {ws : List Wrt} (h : WrtsOk ws) : ws.Pairwise (fun x y => kl x.key y.key) := List.pairwise_map.1 (rises_pair h.2.2.2)
theorem wh_unlike {ws : List Wrt} (h : WrtsOk ws) : Unlike ws := (wh_rise h).imp fun h => kl_ne h
def Num.pairsW (ws : List Wrt) : List Pr := (putsW ws).map (fun x => ⟨x.key, x.val⟩)
theorem within_e (k : ByteArray) : withinB k ⟨#[]⟩ ⟨#[]⟩ = true := by
  have e : (⟨#[]⟩ : ByteArray).toList = [] := by rw [Lib.toList_data]
  unfold withinB
  rw [e, bl_nil]
  rfl
theorem wh_scan {ws : List Wrt} (h : WrtsOk ws) : ScanIs ((putsW ws).map (wrtV 4)) 4 ⟨#[]⟩ ⟨#[]⟩ (pairsW ws) := by
  have hu := wh_unlike h
  refine ⟨?_, fun y => ⟨fun hy => ?_, fun hy => ?_⟩⟩
  · unfold Rises pairsW
    rw [List.pairwise_map]
    exact (wh_rise h).filter _
  · obtain ⟨x, hx, rfl⟩ := List.mem_map.1 hy
    obtain ⟨h1, h2⟩ := List.mem_filter.1 hx
    have hd : ¬ x.del = true := by
      intro e
      rw [e] at h2
      simp at h2
    refine ⟨within_e _, ?_⟩
    show getV _ x.key 4 = some x.val
    rw [wh_get hu h1, if_neg hd]
  · obtain ⟨v, hv⟩ := List.exists_mem_of_ne_nil _ (getV_key hy.2)
    obtain ⟨h1, h2⟩ := keyV_mem.1 hv
    obtain ⟨x, hx, rfl⟩ := List.mem_map.1 h1
    rw [wrtV_key] at h2
    obtain ⟨h3, h4⟩ := List.mem_filter.1 hx
    have hd : ¬ x.del = true := by
      intro e
      rw [e] at h4
      simp at h4
    have h5 := wh_get hu h3
    rw [if_neg hd, h2, hy.2] at h5
    have h6 := Option.some.inj h5
    refine List.mem_map.2 ⟨x, hx, ?_⟩
    obtain ⟨yk, yv⟩ := y
    simp only at h2 h6
    rw [h2, h6]
theorem wh_verd (R : Int) (ws : List Wrt) (dead : Int) : verd (newM R) 4 (whC ws dead) 0 = (3, codeV (newM R) 4 (whC ws dead)) := verd_5 (by show ¬ ((4 : Int) ≤ 0 ∨ _); omega) rfl (by show (2 : Int) ≠ 0; decide)
theorem wh_no (R : Int) (ws : List Wrt) (dead : Int) (p : Int) (hp : codeV (newM R) 4 (whC ws dead) = p) (h0 : p ≠ 0) : doneV (newM R) 4 (whC ws dead) 0 = ⟨3, 9, 4, p⟩ ∧ (nextM (newM R) 4 (whC ws dead) 0).st = ⟨R, 0, []⟩ := by
  have hv := wh_verd R ws dead
  rw [hp] at hv
  rw [(next_not h0 hv).1, (next_not h0 hv).2]
  exact ⟨rfl, rfl⟩
theorem wh_yes (R : Int) (ws : List Wrt) (h : WrtsOk ws) (hR : ((putsW ws).length : Int) ≤ R) : doneV (newM R) 4 (whC ws 0) 0 = ⟨3, 9, 4, 0⟩ ∧ (nextM (newM R) 4 (whC ws 0) 0).st.vs = (putsW ws).map (wrtV 4) := by
  have hc : codeV (newM R) 4 (whC ws 0) = 0 := by
    rw [wh_code, if_neg (by simp), if_neg (by omega)]
  have hv := wh_verd R ws 0
  rw [hc] at hv
  rw [(next_ok hv).1, (next_ok hv).2]
  refine ⟨rfl, ?_⟩
  obtain ⟨top', _, h2⟩ := wh_write R ws [] 0 (by decide) (by simpa using wh_unlike h) (by simpa using hR)
  show (writeS 4 ⟨R, 0, []⟩ ws).vs = _
  rw [show (⟨R, 0, []⟩ : Sto) = ⟨R, 0, ([] : List Wrt).map (wrtV 4)⟩ from rfl, h2]
  rfl
theorem wh_form (R : Int) : doneV (newM R) 4 noCmd 3 = ⟨0, 0, 4, 3⟩ := by
  unfold doneV
  rw [verd_2 (by show ¬ ((4 : Int) ≤ 0 ∨ _); omega) (by decide)]
  rfl
theorem get_empty : GetIs ⟨#[]⟩ noCmd 3 := .inr ⟨rfl, rfl, fun y _ _ _ e => by
  have h1 : (str (sealL (cmdB y))).size = 0 := by rw [e]; rfl
  have h2 : (str (sealL (cmdB y))).size = (cmdB y).length + 4 := by
    show (sealL (cmdB y)).length = _
    simp [sealL, be4]
  omega⟩
end Go.Proofs.YtclliljkmmpglaaGreat
