/-
  The document's own pages, step by step (7.2 to 7.4). No program is named here.
-/
import Derived.Test.YtdllfplgenpalaaPGtM
namespace Go.Proofs.Ytdllfplgenpalaa.Num
open Op (bytesLess)

theorem scan_snoc (L : List Pr) (x : Pr) (lo hi : ByteArray) (n : Int) : scanL (L ++ [x]) lo hi n = if withinB x.key lo hi = true ∧ ((scanL L lo hi n).length : Int) < n then scanL L lo hi n ++ [x] else scanL L lo hi n := by
  unfold scanL
  rw [List.filter_append]
  generalize hF : L.filter (fun y => withinB y.key lo hi) = F
  by_cases hw : withinB x.key lo hi = true
  · have e : [x].filter (fun y => withinB y.key lo hi) = [x] := by simp [hw]
    rw [e]
    by_cases hn : ((F.take n.toNat).length : Int) < n
    · rw [if_pos ⟨hw, hn⟩]
      have hl : F.length < n.toNat := by
        rw [List.length_take] at hn
        omega
      rw [List.take_of_length_le (by simp; omega), List.take_of_length_le (by omega)]
    · rw [if_neg (fun h => hn h.2)]
      have hl : n.toNat ≤ F.length := by
        rw [List.length_take] at hn
        omega
      rw [List.take_append_of_le_length hl]
  · have e : [x].filter (fun y => withinB y.key lo hi) = [] := by simp [hw]
    rw [e, List.append_nil, if_neg (fun h => hw h.1)]
theorem scan_stop (L R : List Pr) (lo hi : ByteArray) (n : Int) (h : n ≤ ((scanL L lo hi n).length : Int)) : scanL (L ++ R) lo hi n = scanL L lo hi n := by
  unfold scanL at h ⊢
  rw [List.filter_append]
  generalize L.filter (fun y => withinB y.key lo hi) = F at *
  rw [List.length_take] at h
  rw [List.take_append_of_le_length (by omega)]
theorem scan_len (L : List Pr) (lo hi : ByteArray) (n : Int) : (scanL L lo hi n).length ≤ L.length := by
  unfold scanL
  rw [List.length_take]
  exact Nat.le_trans (Nat.min_le_right _ _) (List.length_filter_le _ _)
/-- Is it a beginning of the whole? -/
theorem ahead_rest {ps : Pages} {k : Nat} {p : List Pr} (hp : ps[k]? = some p) (j : Nat) : (ps.take (k + 1)).flatten = aheadP ps k p j ++ p.drop j := by
  rw [← ahead_end hp]
  unfold aheadP
  rw [List.append_assoc, List.take_append_drop, List.take_length]
/-! into. -/
def IntoS (p : List Pr) (k v : ByteArray) (i : Nat) (put : Bool) (out : List Pr) : Prop := (i ≤ cntK p k ∧ put = false ∧ out = p.take i) ∨ (cntK p k < i ∧ put = true ∧ out = insL (p.take i) k v)
theorem into_start (p : List Pr) (k v : ByteArray) : IntoS p k v 0 false [] := .inl ⟨Nat.zero_le _, rfl, by simp⟩
theorem take_keys {p : List Pr} {k : ByteArray} {i : Nat} (h : i ≤ cntK p k) : ∀ x ∈ p.take i, kl x.key k := by
  intro x hx
  obtain ⟨j, hj⟩ := List.mem_iff_getElem?.1 hx
  rw [List.getElem?_take] at hj
  split at hj
  · exact cntK_no (by omega) hj
  · cases hj
theorem into_same {p : List Pr} (hr : Rises p) {k v : ByteArray} {i : Nat} {put : Bool} {out : List Pr} {x : Pr} (h : IntoS p k v i put out) (hx : p[i]? = some x) (hk : x.key = k) : IntoS p k v (i + 1) true (out ++ [⟨k, v⟩]) := by
  have hil := (List.getElem?_eq_some_iff.1 hx).1
  rcases h with ⟨h1, _, rfl⟩ | ⟨h1, _, rfl⟩
  · right
    have hle : cntK p k ≤ i := by
      rcases Nat.lt_or_ge i (cntK p k) with h2 | h2
      · have := cntK_no h2 hx
        rw [hk, bl_irr] at this
        cases this
      · exact h2
    refine ⟨by omega, rfl, ?_⟩
    rw [take_succ_at hx, insL_left _ _ (take_keys h1), insL, hk, if_neg (by rw [bl_irr]; simp), if_neg (by rw [bl_irr]; simp)]
  · exfalso
    have hc : p[cntK p k]? = some (p[cntK p k]'(by omega)) := List.getElem?_eq_getElem _
    have h2 := cntK_yes hr (Nat.le_refl _) hc
    unfold Rises at hr
    rw [List.pairwise_iff_getElem] at hr
    have h3 := hr (cntK p k) i (by omega) hil h1
    rw [(List.getElem?_eq_some_iff.1 hx).2, hk] at h3
    unfold kl at h3
    rw [h2] at h3
    cases h3
theorem into_above {p : List Pr} {k v : ByteArray} {i : Nat} {out : List Pr} {x : Pr} (h : IntoS p k v i false out) (hx : p[i]? = some x) (hk : kl k x.key) : IntoS p k v (i + 1) true (out ++ [⟨k, v⟩] ++ [x]) := by
  rcases h with ⟨h1, _, rfl⟩ | ⟨_, h2, _⟩
  · right
    have hle : cntK p k ≤ i := by
      rcases Nat.lt_or_ge i (cntK p k) with h2 | h2
      · exact absurd (cntK_no h2 hx) (fun e => kl_asym hk e)
      · exact h2
    refine ⟨by omega, rfl, ?_⟩
    have hk' : bytesLess k.toList x.key.toList = true := hk
    rw [take_succ_at hx, insL_left _ _ (take_keys h1), insL, if_pos hk']
    simp
  · cases h2
theorem into_below {p : List Pr} (hr : Rises p) {k v : ByteArray} {i : Nat} {out : List Pr} {x : Pr} (h : IntoS p k v i false out) (hx : p[i]? = some x) (hk : kl x.key k) : IntoS p k v (i + 1) false (out ++ [x]) := by
  rcases h with ⟨h1, _, rfl⟩ | ⟨_, h2, _⟩
  · left
    refine ⟨?_, rfl, (take_succ_at hx).symm⟩
    rcases Nat.lt_or_ge i (cntK p k) with h2 | h2
    · exact h2
    · have := cntK_yes hr h2 hx
      unfold kl at hk
      rw [this] at hk
      cases hk
  · cases h2
theorem into_put {p : List Pr} (hr : Rises p) {k v : ByteArray} {i : Nat} {out : List Pr} {x : Pr} (h : IntoS p k v i true out) (hx : p[i]? = some x) : IntoS p k v (i + 1) true (out ++ [x]) := by
  rcases h with ⟨_, h2, _⟩ | ⟨h1, _, rfl⟩
  · cases h2
  · right
    refine ⟨by omega, rfl, ?_⟩
    have hil := (List.getElem?_eq_some_iff.1 hx).1
    have hc : p[cntK p k]? = some (p[cntK p k]'(by omega)) := List.getElem?_eq_getElem _
    have h2 := cntK_yes hr (Nat.le_refl _) hc
    have h3 : kl (p[cntK p k]'(by omega)).key x.key := by
      unfold Rises at hr
      rw [List.pairwise_iff_getElem] at hr
      have := hr (cntK p k) i (by omega) hil h1
      rw [(List.getElem?_eq_some_iff.1 hx).2] at this
      exact this
    have h4 : kl k x.key := by
      rcases kl_tri (p[cntK p k]'(by omega)).key k with a | a | a
      · unfold kl at a
        rw [h2] at a
        cases a
      · rw [← a]
        exact h3
      · exact kl_trans a h3
    rw [take_succ_at hx]
    exact (insL_right _ _ (by intro y hy; rw [List.mem_singleton.1 hy]; exact h4)).symm
theorem into_end {p : List Pr} {k v : ByteArray} {put : Bool} {out : List Pr} (h : IntoS p k v p.length put out) : (if put then out else out ++ [⟨k, v⟩]) = insL p k v := by
  rcases h with ⟨h1, rfl, rfl⟩ | ⟨h1, rfl, rfl⟩
  · rw [List.take_length]
    have := insL_left (v := v) p [] (by have h := take_keys h1; rwa [List.take_length] at h)
    rw [List.append_nil] at this
    rw [this]
    rfl
  · rw [List.take_length]
    rfl
/-! Put. -/
def PutS (ps : Pages) (k v : ByteArray) (i : Nat) : Pages := if i ≤ ofP ps k then ps.take i else (match ps[ofP ps k]? with
  | none => []
  | some p => ps.take (ofP ps k) ++ (splitP (insL p k v) ++ (ps.drop (ofP ps k + 1)).take (i - (ofP ps k + 1))))
theorem puts_start (ps : Pages) (k v : ByteArray) : PutS ps k v 0 = [] := by
  unfold PutS
  rw [if_pos (Nat.zero_le _)]
  rfl
theorem puts_other {ps : Pages} {k v : ByteArray} {i : Nat} {q : List Pr} (hq : ps[i]? = some q) (hne : i ≠ ofP ps k) : PutS ps k v (i + 1) = PutS ps k v i ++ [q] := by
  unfold PutS
  have hil := (List.getElem?_eq_some_iff.1 hq).1
  rcases Nat.lt_or_ge i (ofP ps k) with h | h
  · rw [if_pos (by omega), if_pos (by omega), take_succ_at hq]
  · rw [if_neg (by omega), if_neg (by omega)]
    have hp : ps[ofP ps k]? = some (ps[ofP ps k]'(by omega)) := List.getElem?_eq_getElem _
    rw [hp]
    simp only
    have hd : (ps.drop (ofP ps k + 1))[i - (ofP ps k + 1)]? = some q := by
      rw [List.getElem?_drop, show ofP ps k + 1 + (i - (ofP ps k + 1)) = i by omega]
      exact hq
    rw [show i + 1 - (ofP ps k + 1) = (i - (ofP ps k + 1)) + 1 by omega, take_succ_at hd]
    simp
theorem puts_at {ps : Pages} {k v : ByteArray} {p : List Pr} (hp : ps[ofP ps k]? = some p) : PutS ps k v (ofP ps k + 1) = PutS ps k v (ofP ps k) ++ splitP (insL p k v) := by
  unfold PutS
  rw [if_neg (by omega), if_pos (Nat.le_refl _), hp]
  simp
theorem puts_end {ps : Pages} {k v : ByteArray} (hne : ps ≠ []) : PutS ps k v ps.length = putP ps k v := by
  have hof := of_lt k hne
  have hp : ps[ofP ps k]? = some (ps[ofP ps k]'hof) := List.getElem?_eq_getElem hof
  unfold PutS putP
  rw [if_neg (by omega), hp]
  simp only
  rw [show (ps.drop (ofP ps k + 1)).take (ps.length - (ofP ps k + 1)) = ps.drop (ofP ps k + 1) from List.take_of_length_le (by rw [List.length_drop]; omega)]
theorem puts_len {ps : Pages} {k v : ByteArray} {i : Nat} (hi : i ≤ ps.length) : (PutS ps k v i).length ≤ ps.length + 1 := by
  unfold PutS
  split
  · rw [List.length_take]
    omega
  · split
    · simp
    · rename_i p hp
      have hs : (splitP (insL p k v)).length ≤ 2 := by
        unfold splitP
        split <;> simp
      have hil := (List.getElem?_eq_some_iff.1 hp).1
      simp only [List.length_append, List.length_take, List.length_drop]
      omega
/-! The page of a key, told by a loop. -/
theorem of_step {ps : Pages} {k : ByteArray} {i : Nat} : min (i + 1) (cntP ps k) - 1 = if i < cntP ps k then i else min i (cntP ps k) - 1 := by
  split <;> omega
end Go.Proofs.Ytdllfplgenpalaa.Num
