/-
  Joined:
  What was there when, as plain lists of versions: put in, let go, asked as of a time, trimmed (8.2 to 8.4, 8.6). No program is named here.
  A store as a list of versions: what Put and Del make of it, what stays so, scans as the one rising list of what is there (8.2 to 8.4, 8.6). No program is named here.
  Which pages are right, asked pair by pair (7.1). No program is named here.
  The page of a key, and the place in it, as counts (7.1). No program is named here.
  A store's versions key by key: what Put, Del and Trim make of each key's versions; keys as pages; scans (8.2 to 8.4). No program is named here.
  A pair more, by the place of its key (7.2). No program is named here.
  A key less, by its place (7.3). No program is named here.
  What stands at a key, and between two keys (7.4), by places. No program is named here.
-/
import Derived.Test.YtdmkmhjalcfchaaBase
namespace Go.Proofs.Ytdmkmhjalcfchaa.Num
open Op (bytesLess)
set_option linter.unusedVariables false
set_option maxRecDepth 100000

/-- A version. -/
structure Ver where
  key : ByteArray
  time : Int
  val : ByteArray
  gone : Bool
def isKey (k : ByteArray) (v : Ver) : Bool := v.key.toList == k.toList
theorem isKey_iff {k : ByteArray} {v : Ver} : isKey k v = true ↔ v.key = k := by
  unfold isKey
  rw [beq_iff_eq]
  constructor
  · intro h
    rw [Lib.toList_data, Lib.toList_data] at h
    exact ByteArray.ext (Array.ext' h)
  · intro h
    rw [h]
/-- The versions of a key that are not behind a time. -/
def verT (l : List Ver) (k : ByteArray) (t : Int) : List Ver := l.filter (fun v => isKey k v && decide (v.time ≤ t))
/-- The last of them. -/
def lastV (l : List Ver) (k : ByteArray) (t : Int) : Option Ver := (verT l k t).getLast?
/-- What was there (8.3). -/
def getV (l : List Ver) (k : ByteArray) (t : Int) : Option ByteArray := match lastV l k t with
  | none => none
  | some v => if v.gone then none else some v.val
/-- The times do not fall. -/
def Ups (l : List Ver) : Prop := l.Pairwise (fun a b => a.time ≤ b.time)
theorem verT_append (l r : List Ver) (k : ByteArray) (t : Int) : verT (l ++ r) k t = verT l k t ++ verT r k t := List.filter_append _ _
/-- The last version of a key becomes another one. -/
def turnV : List Ver → ByteArray → Ver → List Ver
  | [], _, _ => []
  | x :: l, k, v => if isKey k x && !l.any (isKey k) then v :: l else x :: turnV l k v
theorem turnV_len (l : List Ver) (k : ByteArray) (v : Ver) : (turnV l k v).length = l.length := by
  induction l with
  | nil => rfl
  | cons x l ih =>
    rw [turnV]
    split
    · rfl
    · rw [List.length_cons, List.length_cons, ih]
/-- Where the last version of a key has that time, it is turned there alone. -/
theorem turnV_split {l : List Ver} {k : ByteArray} {x : Ver} (h : (l.filter (isKey k)).getLast? = some x) (v : Ver) : ∃ a b, l = a ++ (x :: b) ∧ turnV l k v = a ++ (v :: b) ∧ isKey k x = true ∧ ∀ y ∈ b, isKey k y = false := by
  induction l with
  | nil => simp at h
  | cons y l ih =>
    by_cases hany : l.any (isKey k) = true
    · have hne : l.filter (isKey k) ≠ [] := by
        obtain ⟨z, hz, hk⟩ := List.any_eq_true.1 hany
        intro e
        have := List.mem_filter.2 ⟨hz, hk⟩
        rw [e] at this
        cases this
      have h' : (l.filter (isKey k)).getLast? = some x := by
        rw [List.filter_cons] at h
        split at h
        · rw [List.getLast?_cons] at h
          cases hq : (l.filter (isKey k)).getLast? with
          | none => rw [List.getLast?_eq_none_iff] at hq; exact absurd hq hne
          | some z => rw [hq] at h; simpa using h
        · exact h
      obtain ⟨a, b, h1, h2, h3, h4⟩ := ih h'
      refine ⟨y :: a, b, by rw [h1]; rfl, ?_, h3, h4⟩
      rw [turnV, if_neg (by rw [hany]; simp), h2]
      rfl
    · have hno : ∀ z ∈ l, isKey k z = false := by
        intro z hz
        rw [Bool.eq_false_iff]
        exact fun e => hany (List.any_eq_true.2 ⟨z, hz, e⟩)
      have hf : l.filter (isKey k) = [] := by
        rw [List.filter_eq_nil_iff]
        intro z hz
        rw [hno z hz]
        simp
      rw [List.filter_cons, hf] at h
      split at h
      · rename_i hk
        simp at h
        subst h
        refine ⟨[], l, rfl, ?_, hk, hno⟩
        rw [turnV, if_pos (by rw [hk, Bool.eq_false_iff.2 hany]; rfl)]
        rfl
      · simp at h
/-- What lies behind a time is not seen at it. -/
theorem verT_behind {v : Ver} {k : ByteArray} {t : Int} (h : t < v.time) : verT [v] k t = [] := by
  unfold verT
  rw [List.filter_eq_nil_iff]
  intro x hx
  rw [List.mem_singleton.1 hx]
  simp
  intro _
  exact h
theorem verT_cons (x : Ver) (l : List Ver) (k : ByteArray) (t : Int) : verT (x :: l) k t = verT [x] k t ++ verT l k t := verT_append [x] l k t
/-- 8.6: a version more, behind a time. -/
theorem past_more (l : List Ver) (v : Ver) {t : Int} (h : t < v.time) (k : ByteArray) : verT (l ++ [v]) k t = verT l k t := by
  rw [verT_append, verT_behind h, List.append_nil]
/-- 8.6: a version turned in place, behind a time. -/
theorem past_turn {l : List Ver} {x v : Ver} (h : (l.filter (isKey v.key)).getLast? = some x) (hx : x.time = v.time) {t : Int} (ht : t < v.time) (k : ByteArray) : verT (turnV l v.key v) k t = verT l k t := by
  obtain ⟨a, b, h1, h2, _, _⟩ := turnV_split h v
  rw [h1] at *
  rw [h2, verT_append, verT_append, verT_cons v, verT_cons x, verT_behind ht, verT_behind (by omega)]
theorem getV_verT {l r : List Ver} {k : ByteArray} {t : Int} (h : verT l k t = verT r k t) : getV l k t = getV r k t := by
  unfold getV lastV
  rw [h]
/-! Trim (8.4). -/
/-- Does a version stay? -/
def stays (l : List Ver) (t : Int) (i : Nat) (v : Ver) : Bool := decide (t < v.time) || ((verT (l.drop (i + 1)) v.key t).isEmpty && !v.gone)
def trimAux (l : List Ver) (t : Int) : List Ver := match l with
  | [] => []
  | v :: l => if t < v.time ∨ (verT l v.key t = [] ∧ v.gone = false) then v :: trimAux l t else trimAux l t
theorem trim_sub (l : List Ver) (t : Int) : ∀ v ∈ trimAux l t, v ∈ l := by
  induction l with
  | nil => intro v hv; cases hv
  | cons x l ih =>
    intro v hv
    rw [trimAux] at hv
    split at hv
    · rcases List.mem_cons.1 hv with rfl | hv
      · simp
      · simp [ih v hv]
    · simp [ih v hv]
theorem trim_ups {l : List Ver} (h : Ups l) (t : Int) : Ups (trimAux l t) := by
  induction l with
  | nil => exact h
  | cons x l ih =>
    unfold Ups at h
    rw [List.pairwise_cons] at h
    rw [trimAux]
    split
    · unfold Ups
      rw [List.pairwise_cons]
      exact ⟨fun v hv => h.1 v (trim_sub l t v hv), ih h.2⟩
    · exact ih h.2
/-- Of a key behind a time what there was stays. -/
theorem trim_behind (l : List Ver) (t : Int) (k : ByteArray) : (trimAux l t).filter (fun v => isKey k v && decide (t < v.time)) = l.filter (fun v => isKey k v && decide (t < v.time)) := by
  induction l with
  | nil => rfl
  | cons x l ih =>
    rw [trimAux]
    split
    · rw [List.filter_cons, List.filter_cons, ih]
    · rename_i h
      rw [List.filter_cons, ih]
      have : decide (t < x.time) = false := by
        rw [decide_eq_false_iff_not]
        exact fun e => h (.inl e)
      rw [this]
      simp
/-- Of a key up to a time the last one stays, unless it is gone. -/
theorem trim_last (l : List Ver) (t : Int) (k : ByteArray) : verT (trimAux l t) k t = match lastV l k t with
    | none => []
    | some v => if v.gone then [] else [v] := by
  induction l with
  | nil => rfl
  | cons x l ih =>
    by_cases hx : (isKey k x && decide (x.time ≤ t)) = true
    · obtain ⟨hk, ht⟩ := Bool.and_eq_true_iff.1 hx
      have ht' := of_decide_eq_true ht
      have hkk := isKey_iff.1 hk
      have hcons : verT (x :: l) k t = x :: verT l k t := by
        unfold verT
        rw [List.filter_cons, if_pos hx]
      have hlast : lastV (x :: l) k t = if verT l k t = [] then some x else lastV l k t := by
        unfold lastV
        rw [hcons]
        split
        · rename_i h0
          rw [h0]
          rfl
        · rename_i h0
          rw [List.getLast?_cons]
          cases hq : (verT l k t).getLast? with
          | none => rw [List.getLast?_eq_none_iff] at hq; exact absurd hq h0
          | some z => rfl
      rw [trimAux, hlast, hkk]
      by_cases h0 : verT l k t = []
      · rw [if_pos h0]
        have ih0 : verT (trimAux l t) k t = [] := by
          rw [ih]
          unfold lastV
          rw [h0]
          rfl
        by_cases hg : x.gone = true
        · rw [if_neg (by
            rintro (h | h)
            · omega
            · rw [hg] at h
              cases h.2)]
          show _ = if x.gone = true then [] else [x]
          rw [if_pos hg]
          exact ih0
        · have hg' : x.gone = false := by simpa using hg
          rw [if_pos (.inr ⟨h0, hg'⟩), verT_cons, ih0, List.append_nil]
          show _ = if x.gone = true then [] else [x]
          rw [if_neg hg]
          unfold verT
          rw [List.filter_cons, if_pos hx]
          rfl
      · rw [if_neg h0, if_neg (by
          rintro (h | h)
          · omega
          · exact h0 h.1)]
        exact ih
    · have hx' : (isKey k x && decide (x.time ≤ t)) = false := Bool.eq_false_iff.2 hx
      have hcons : verT (x :: l) k t = verT l k t := by
        unfold verT
        rw [List.filter_cons, if_neg hx]
      have hlast : lastV (x :: l) k t = lastV l k t := by
        unfold lastV
        rw [hcons]
      rw [hlast, ← ih, trimAux]
      split
      · unfold verT
        rw [List.filter_cons, if_neg hx]
      · rfl
/-- Of a list whose times do not fall, a key's versions up to a later time: those up to a time, then those behind it. -/
theorem verT_two {l : List Ver} (h : Ups l) {t u : Int} (htu : t ≤ u) (k : ByteArray) : verT l k u = verT l k t ++ l.filter (fun v => isKey k v && (decide (t < v.time) && decide (v.time ≤ u))) := by
  induction l with
  | nil => rfl
  | cons x l ih =>
    unfold Ups at h
    rw [List.pairwise_cons] at h
    have ih' := ih h.2
    unfold verT at ih' ⊢
    rw [List.filter_cons, List.filter_cons, List.filter_cons, ih']
    cases hk : isKey k x with
    | false => simp
    | true =>
      by_cases h1 : x.time ≤ t
      · have h2 : x.time ≤ u := by omega
        have h3 : ¬ t < x.time := by omega
        simp [h1, h2, h3]
      · have h3 : t < x.time := by omega
        have hnone : l.filter (fun v => isKey k v && decide (v.time ≤ t)) = [] := by
          rw [List.filter_eq_nil_iff]
          intro y hy
          have := h.1 y hy
          simp
          intro _
          omega
        rw [hnone]
        by_cases h2 : x.time ≤ u
        · simp [h1, h2, h3]
        · simp [h1, h2, h3]
/-- 8.4: behind Trim what is asked as of its time, or later, is as it was. -/
theorem trim_get {l : List Ver} (h : Ups l) {t u : Int} (htu : t ≤ u) (k : ByteArray) : getV (trimAux l t) k u = getV l k u := by
  have e : ∀ m : List Ver, m.filter (fun v => isKey k v && (decide (t < v.time) && decide (v.time ≤ u))) = (m.filter (fun v => isKey k v && decide (t < v.time))).filter (fun v => decide (v.time ≤ u)) := by
    intro m
    rw [List.filter_filter]
    congr 1
    funext v
    cases isKey k v <;> cases decide (t < v.time) <;> cases decide (v.time ≤ u) <;> rfl
  unfold getV lastV
  rw [verT_two (trim_ups h t) htu, verT_two h htu, e, e, trim_behind, trim_last]
  generalize ((l.filter (fun v => isKey k v && decide (t < v.time))).filter (fun v => decide (v.time ≤ u))) = B
  rcases List.eq_nil_or_concat B with rfl | ⟨B', y, rfl⟩
  · rw [List.append_nil, List.append_nil]
    show _ = match lastV l k t with
      | none => none
      | some v => if v.gone then none else some v.val
    cases lastV l k t with
    | none => rfl
    | some v =>
      cases hg : v.gone with
      | true => simp [hg]
      | false => simp [hg]
  · rw [List.concat_eq_append]
    simp
end Go.Proofs.Ytdmkmhjalcfchaa.Num
namespace Go.Proofs.Ytdmkmhjalcfchaa.Num
open Op (bytesLess)
set_option linter.unusedVariables false
set_option maxRecDepth 100000

/-- Two rising lists of the same pairs are one. -/
theorem rises_ext : ∀ {a b : List Pr}, Rises a → Rises b → (∀ x, x ∈ a ↔ x ∈ b) → a = b
  | [], [], _, _, _ => rfl
  | [], y :: b, _, _, h => by
    have := (h y).2 (by simp)
    cases this
  | x :: a, [], _, _, h => by
    have := (h x).1 (by simp)
    cases this
  | x :: a, y :: b, ha, hb, h => by
    unfold Rises at ha hb
    rw [List.pairwise_cons] at ha hb
    have e : x = y := by
      rcases List.mem_cons.1 ((h x).1 (by simp)) with e | hx
      · exact e
      · rcases List.mem_cons.1 ((h y).2 (by simp)) with e | hy
        · exact e.symm
        · exact (kl_asym (hb.1 x hx) (ha.1 y hy)).elim
    subst e
    have := rises_ext (a := a) (b := b) ha.2 hb.2 (fun z => by
      constructor
      · intro hz
        rcases List.mem_cons.1 ((h z).1 (by simp [hz])) with e | hz'
        · subst e
          exact (kl_irr _ (ha.1 z hz)).elim
        · exact hz'
      · intro hz
        rcases List.mem_cons.1 ((h z).2 (by simp [hz])) with e | hz'
        · subst e
          exact (kl_irr _ (hb.1 z hz)).elim
        · exact hz')
    rw [this]
/-- What a scan tells, all of it. -/
def ScanIs (l : List Ver) (t : Int) (lo hi : ByteArray) (r : List Pr) : Prop := Rises r ∧ ∀ x, x ∈ r ↔ withinB x.key lo hi = true ∧ getV l x.key t = some x.val
theorem scan_one {l : List Ver} {t : Int} {lo hi : ByteArray} {a b : List Pr} (ha : ScanIs l t lo hi a) (hb : ScanIs l t lo hi b) : a = b := rises_ext ha.1 hb.1 fun x => (ha.2 x).trans (hb.2 x).symm
theorem scan_same {l m : List Ver} {t : Int} {lo hi : ByteArray} {a : List Pr} (ha : ScanIs l t lo hi a) (h : ∀ k, getV m k t = getV l k t) : ScanIs m t lo hi a := ⟨ha.1, fun x => by rw [h]; exact ha.2 x⟩
/-- The last version of a key. -/
def lastA (l : List Ver) (k : ByteArray) : Option Ver := (l.filter (isKey k)).getLast?
theorem lastA_mem {l : List Ver} {k : ByteArray} {x : Ver} (h : lastA l k = some x) : x ∈ l ∧ x.key = k := by
  have := List.mem_of_getLast? h
  obtain ⟨h1, h2⟩ := List.mem_filter.1 this
  exact ⟨h1, isKey_iff.1 h2⟩
/-- A store: its room, the greatest time that was ever put in, its versions. -/
structure Sto where
  room : Int
  top : Int
  vs : List Ver
def noneLeft (o : Option Ver) : Bool := match o with | none => true | some x => x.gone
def lastAt (o : Option Ver) (t : Int) : Bool := match o with | none => false | some x => decide (x.time = t)
theorem lastAt_iff {o : Option Ver} {t : Int} (h : lastAt o t = true) : ∃ x, o = some x ∧ x.time = t := by
  cases o with
  | none => cases h
  | some x => exact ⟨x, rfl, of_decide_eq_true h⟩
/-- 8.2: the error's number, and what there is then. -/
def putS (s : Sto) (v : Ver) : Int × Sto :=
  if v.time < 1 ∨ 1099511627776 ≤ v.time ∨ v.time < s.top then (1, s)
  else if v.gone = true ∧ noneLeft (lastA s.vs v.key) = true then (0, s)
  else if lastAt (lastA s.vs v.key) v.time = true then (0, ⟨s.room, v.time, turnV s.vs v.key v⟩)
  else if s.room ≤ (s.vs.length : Int) then (4, s)
  else (0, ⟨s.room, v.time, s.vs ++ [v]⟩)
def InvS (s : Sto) : Prop := Ups s.vs ∧ (∀ v ∈ s.vs, 1 ≤ v.time ∧ v.time ≤ s.top) ∧ (s.vs.length : Int) ≤ s.room ∧ 0 ≤ s.top ∧ s.top < 1099511627776
theorem inv_new (room : Int) (h : 0 ≤ room) : InvS ⟨room, 0, []⟩ := ⟨by simp [Ups], by simp, by simpa using h, Int.le_refl 0, by show (0 : Int) < 1099511627776; decide⟩
theorem ups_turn {l : List Ver} {k : ByteArray} {x v : Ver} (hu : Ups l) (h : lastA l k = some x) (ht : x.time = v.time) : Ups (turnV l k v) := by
  obtain ⟨a, b, h1, h2, _, _⟩ := turnV_split h v
  rw [h2]
  rw [h1] at hu
  unfold Ups at hu ⊢
  rw [List.pairwise_append, List.pairwise_cons] at hu ⊢
  refine ⟨hu.1, ⟨fun y hy => by rw [← ht]; exact hu.2.1.1 y hy, hu.2.1.2⟩, fun y hy z hz => ?_⟩
  rcases List.mem_cons.1 hz with rfl | hz
  · rw [← ht]
    exact hu.2.2 y hy x (by simp)
  · exact hu.2.2 y hy z (by simp [hz])
theorem turn_mem {l : List Ver} {k : ByteArray} {x v : Ver} (h : lastA l k = some x) {y : Ver} (hy : y ∈ turnV l k v) : y = v ∨ y ∈ l := by
  obtain ⟨a, b, h1, h2, _, _⟩ := turnV_split h v
  rw [h2] at hy
  rw [h1]
  rcases List.mem_append.1 hy with hy | hy
  · exact .inr (by simp [hy])
  · rcases List.mem_cons.1 hy with hy | hy
    · exact .inl hy
    · exact .inr (by simp [hy])
theorem inv_put {s : Sto} (h : InvS s) (v : Ver) : InvS (putS s v).2 := by
  obtain ⟨h1, h2, h3, h4, h5⟩ := h
  unfold putS
  split
  · exact ⟨h1, h2, h3, h4, h5⟩
  · rename_i ht
    split
    · exact ⟨h1, h2, h3, h4, h5⟩
    · split
      · rename_i hm
        obtain ⟨x, hx, hm⟩ := lastAt_iff hm
        refine ⟨ups_turn h1 hx hm, fun y hy => ?_, by rw [turnV_len]; exact h3, by simp only; omega, by simp only; omega⟩
        rcases turn_mem hx hy with rfl | hy
        · simp only
          omega
        · have := h2 y hy
          simp only
          omega
      · split
        · exact ⟨h1, h2, h3, h4, h5⟩
        · rename_i hr
          refine ⟨?_, fun y hy => ?_, ?_, by simp only; omega, by simp only; omega⟩
          · unfold Ups at h1 ⊢
            simp only
            rw [List.pairwise_append]
            refine ⟨h1, by simp, fun a ha b hb => ?_⟩
            rw [List.mem_singleton.1 hb]
            have := h2 a ha
            omega
          · simp only at hy ⊢
            rcases List.mem_append.1 hy with hy | hy
            · have := h2 y hy
              omega
            · rw [List.mem_singleton.1 hy]
              omega
          · simp only [List.length_append, List.length_singleton]
            omega
/-- 8.6: what was there at a time stays there, whatever is put in behind it. -/
theorem put_past (s : Sto) (v : Ver) {t : Int} (ht : t < v.time) (k : ByteArray) : getV (putS s v).2.vs k t = getV s.vs k t := by
  unfold putS
  split
  · rfl
  · split
    · rfl
    · split
      · rename_i hm
        obtain ⟨x, hx, hm⟩ := lastAt_iff hm
        exact getV_verT (past_turn hx hm ht k)
      · split
        · rfl
        · exact getV_verT (past_more _ _ ht k)
theorem put_room (s : Sto) (v : Ver) : (putS s v).2.room = s.room := by
  unfold putS
  split
  · rfl
  · split
    · rfl
    · split
      · rfl
      · split <;> rfl
/-- 8.4. -/
def trimS (s : Sto) (t : Int) : Int × Sto := ((s.vs.length : Int) - ((trimAux s.vs t).length : Int), ⟨s.room, s.top, trimAux s.vs t⟩)
theorem trim_len (l : List Ver) (t : Int) : (trimAux l t).length ≤ l.length := by
  induction l with
  | nil => simp [trimAux]
  | cons x l ih =>
    rw [trimAux]
    split
    · simp only [List.length_cons]
      omega
    · simp only [List.length_cons]
      omega
theorem inv_trim {s : Sto} (h : InvS s) (t : Int) : InvS (trimS s t).2 := by
  obtain ⟨h1, h2, h3, h4, h5⟩ := h
  have := trim_len s.vs t
  exact ⟨trim_ups h1 t, fun v hv => h2 v (trim_sub _ _ v hv), by show ((trimAux s.vs t).length : Int) ≤ s.room; omega, h4, h5⟩
/-- What is trimmed once is trimmed. -/
theorem trim_twice (l : List Ver) (t : Int) : trimAux (trimAux l t) t = trimAux l t := by
  induction l with
  | nil => rfl
  | cons x l ih =>
    have e : trimAux (x :: l) t = if t < x.time ∨ (verT l x.key t = [] ∧ x.gone = false) then x :: trimAux l t else trimAux l t := rfl
    rw [e]
    split
    · rename_i h
      have h' : t < x.time ∨ (verT (trimAux l t) x.key t = [] ∧ x.gone = false) := by
        rcases h with h | ⟨h1, h2⟩
        · exact .inl h
        · refine .inr ⟨?_, h2⟩
          rw [trim_last]
          unfold lastV
          rw [h1]
          rfl
      rw [trimAux, if_pos h', ih]
    · exact ih
end Go.Proofs.Ytdmkmhjalcfchaa.Num
namespace Go.Proofs.Ytdmkmhjalcfchaa.Num

/-- The last key, or an empty one. -/
def lastK (L : List Pr) : ByteArray := match L.getLast? with
  | none => ⟨#[]⟩
  | some x => x.key
theorem lastK_snoc (L : List Pr) (x : Pr) : lastK (L ++ [x]) = x.key := by simp [lastK]
theorem rises_snoc (L : List Pr) (x : Pr) : Rises (L ++ [x]) ↔ Rises L ∧ (L = [] ∨ kl (lastK L) x.key) := by
  unfold Rises
  rw [List.pairwise_append]
  constructor
  · rintro ⟨h1, _, h3⟩
    refine ⟨h1, ?_⟩
    rcases List.eq_nil_or_concat L with rfl | ⟨L', y, rfl⟩
    · exact .inl rfl
    · right
      rw [List.concat_eq_append, lastK_snoc]
      exact h3 y (by simp) x (by simp)
  · rintro ⟨h1, h2⟩
    refine ⟨h1, by simp, fun a ha b hb => ?_⟩
    rw [List.mem_singleton.1 hb]
    rcases List.eq_nil_or_concat L with rfl | ⟨L', y, rfl⟩
    · cases ha
    · rw [List.concat_eq_append] at *
      have hy : kl y.key x.key := by
        rcases h2 with h2 | h2
        · simp at h2
        · rwa [lastK_snoc] at h2
      rcases List.mem_append.1 ha with ha | ha
      · exact kl_trans ((List.pairwise_append.1 h1).2.2 a ha y (by simp)) hy
      · rw [List.mem_singleton.1 ha]
        exact hy
/-- What stands ahead of a pair. -/
def aheadP (ps : Pages) (k : Nat) (p : List Pr) (j : Nat) : List Pr := (ps.take k).flatten ++ p.take j
theorem flat_pos {ps : Pages} {k : Nat} {p : List Pr} (hp : ps[k]? = some p) {j : Nat} {x : Pr} (hx : p[j]? = some x) : ps.flatten = (aheadP ps k p j ++ [x]) ++ (p.drop (j + 1) ++ (ps.drop (k + 1)).flatten) := by
  have e : p = p.take j ++ (x :: p.drop (j + 1)) := by
    have hj := (List.getElem?_eq_some_iff.1 hx).1
    rw [← (List.getElem?_eq_some_iff.1 hx).2, ← List.drop_eq_getElem_cons hj, List.take_append_drop]
  rw [flat_at3 ps k p hp]
  unfold aheadP
  conv => lhs; rw [e]
  simp
theorem right_no_len {ps : Pages} {k : Nat} {p : List Pr} (hp : ps[k]? = some p) (h : p.length < 1 ∨ 8 < p.length) : ¬ RightP ps := fun hr => by
  have := hr.1 p (List.mem_of_getElem? hp)
  omega
theorem right_no_key {ps : Pages} {k : Nat} {p : List Pr} (hp : ps[k]? = some p) {j : Nat} {x : Pr} (hx : p[j]? = some x) (hL : aheadP ps k p j ≠ []) (h : ¬ kl (lastK (aheadP ps k p j)) x.key) : ¬ RightP ps := fun hr => by
  have h2 := hr.2
  rw [flat_pos hp hx] at h2
  unfold Rises at h2
  have h3 := (List.pairwise_append.1 h2).1
  rcases ((rises_snoc _ _).1 h3).2 with h4 | h4
  · exact hL h4
  · exact h h4
/-- So many pages are right. -/
def UpP (ps : Pages) (k : Nat) : Prop := (∀ i q, i < k → ps[i]? = some q → 1 ≤ q.length ∧ q.length ≤ 8) ∧ Rises (ps.take k).flatten
theorem up_zero (ps : Pages) : UpP ps 0 := ⟨fun i q h => absurd h (Nat.not_lt_zero _), by simp [Rises]⟩
theorem up_all {ps : Pages} (h : UpP ps ps.length) : RightP ps := by
  refine ⟨fun p hp => ?_, by simpa using h.2⟩
  obtain ⟨i, hi⟩ := List.mem_iff_getElem?.1 hp
  exact h.1 i p (List.getElem?_eq_some_iff.1 hi).1 hi
theorem ahead_nil {ps : Pages} {k : Nat} {p : List Pr} (hp : ps[k]? = some p) (h : UpP ps k) {j : Nat} (hj : j ≤ p.length) : aheadP ps k p j = [] ↔ k + j = 0 := by
  unfold aheadP
  rw [List.append_eq_nil_iff]
  constructor
  · rintro ⟨h1, h2⟩
    have hk : k = 0 := by
      rcases Nat.eq_zero_or_pos k with h0 | h0
      · exact h0
      · have hkl := (List.getElem?_eq_some_iff.1 hp).1
        have h3 : ps[0]? = some (ps[0]'(by omega)) := List.getElem?_eq_getElem _
        have h4 := (h.1 0 _ h0 h3).1
        rw [List.flatten_eq_nil_iff] at h1
        have h5 := h1 (ps[0]'(by omega)) (by
          rw [List.mem_iff_getElem?]
          exact ⟨0, by rw [List.getElem?_take, if_pos h0, h3]⟩)
        rw [h5] at h4
        simp at h4
    have : (p.take j).length = 0 := by rw [h2]; rfl
    rw [List.length_take] at this
    omega
  · intro h0
    obtain ⟨rfl, rfl⟩ : k = 0 ∧ j = 0 := by omega
    simp
theorem take_succ_at {α : Type} {l : List α} {k : Nat} {x : α} (h : l[k]? = some x) : l.take (k + 1) = l.take k ++ [x] := by
  have hk := (List.getElem?_eq_some_iff.1 h).1
  rw [← (List.getElem?_eq_some_iff.1 h).2]
  exact List.take_succ_eq_append_getElem hk
theorem ahead_succ {ps : Pages} {k : Nat} {p : List Pr} {j : Nat} {x : Pr} (hx : p[j]? = some x) : aheadP ps k p (j + 1) = aheadP ps k p j ++ [x] := by
  unfold aheadP
  rw [take_succ_at hx, List.append_assoc]
theorem ahead_end {ps : Pages} {k : Nat} {p : List Pr} (hp : ps[k]? = some p) : aheadP ps k p p.length = (ps.take (k + 1)).flatten := by
  unfold aheadP
  rw [take_succ_at hp, List.flatten_append]
  simp
theorem ahead_zero (ps : Pages) (k : Nat) (p : List Pr) : aheadP ps k p 0 = (ps.take k).flatten := by simp [aheadP]
theorem up_succ {ps : Pages} {k : Nat} {p : List Pr} (hp : ps[k]? = some p) (h : UpP ps k) (h1 : 1 ≤ p.length ∧ p.length ≤ 8) (h2 : Rises (aheadP ps k p p.length)) : UpP ps (k + 1) := by
  refine ⟨fun i q hi hq => ?_, by rw [← ahead_end hp]; exact h2⟩
  rcases Nat.lt_or_ge i k with h3 | h3
  · exact h.1 i q h3 hq
  · obtain rfl : i = k := by omega
    rw [hp] at hq
    cases hq
    exact h1
end Go.Proofs.Ytdmkmhjalcfchaa.Num
namespace Go.Proofs.Ytdmkmhjalcfchaa.Num
open Op (bytesLess)

/-- How many keys of a page, from its first on, are below k. -/
def cntK (p : List Pr) (k : ByteArray) : Nat := (p.takeWhile (fun x => bytesLess x.key.toList k.toList)).length
theorem tw_lt {α : Type} (f : α → Bool) (l : List α) : ∀ (i : Nat) x, i < (l.takeWhile f).length → l[i]? = some x → f x = true := by
  intro i x hi hx
  have h1 : (l.takeWhile f)[i]? = some x := by
    obtain ⟨r, hr⟩ := List.takeWhile_prefix (l := l) f
    rw [← hr, List.getElem?_append_left hi] at hx
    exact hx
  exact tw_all f l x (List.mem_of_getElem? h1)
theorem tw_at {α : Type} (f : α → Bool) : ∀ (l : List α) x, l[(l.takeWhile f).length]? = some x → f x = false
  | [], x, h => by simp at h
  | y :: l, x, h => by
    rw [List.takeWhile_cons] at h
    split at h
    · rename_i hy
      exact tw_at f l x (by simpa using h)
    · rename_i hy
      simp at h
      subst h
      simpa using hy
theorem tw_len {α : Type} (f : α → Bool) (l : List α) : (l.takeWhile f).length ≤ l.length := (List.takeWhile_prefix (l := l) f).length_le
theorem cnt_le (ps : Pages) (k : ByteArray) : cntP ps k ≤ ps.length := tw_len _ _
theorem cntK_le (p : List Pr) (k : ByteArray) : cntK p k ≤ p.length := tw_len _ _
/-- Two pages in their order. -/
theorem right_pages {ps : Pages} (h : RightP ps) {i j : Nat} {p q : List Pr} (hp : ps[i]? = some p) (hq : ps[j]? = some q) (hij : i < j) : ∀ x ∈ p, ∀ y ∈ q, kl x.key y.key := by
  intro x hx y hy
  have hr := h.2
  unfold Rises at hr
  rw [flat_at3 ps i p hp, List.pairwise_append] at hr
  have h2 := (List.pairwise_append.1 hr.2.1).2.2 x hx
  refine h2 y (List.mem_flatten.2 ⟨q, ?_, hy⟩)
  rw [List.mem_iff_getElem?]
  refine ⟨j - (i + 1), ?_⟩
  rw [List.getElem?_drop, show i + 1 + (j - (i + 1)) = j by omega]
  exact hq
theorem right_page {ps : Pages} (h : RightP ps) {i : Nat} {p : List Pr} (hp : ps[i]? = some p) : Rises p := by
  have hr := h.2
  unfold Rises at hr ⊢
  rw [flat_at3 ps i p hp, List.pairwise_append] at hr
  exact (List.pairwise_append.1 hr.2.1).1
/-- Ahead of the count a page's first key is not above k. -/
theorem cnt_no {ps : Pages} {k : ByteArray} {i : Nat} (hi : i < cntP ps k) {p : List Pr} {x : Pr} (hp : ps[i]? = some p) (hx : p[0]? = some x) : bytesLess k.toList x.key.toList = false := by
  have h := tw_lt _ ps i p hi hp
  cases p with
  | nil => simp at hx
  | cons y p =>
    simp at hx
    subst hx
    simpa [firstLe] using h
/-- From the count on it is. -/
theorem cnt_yes {ps : Pages} (h : RightP ps) {k : ByteArray} {i : Nat} (hi : cntP ps k ≤ i) {p : List Pr} {x : Pr} (hp : ps[i]? = some p) (hx : p[0]? = some x) : bytesLess k.toList x.key.toList = true := by
  have hil := (List.getElem?_eq_some_iff.1 hp).1
  have hq : ps[cntP ps k]? = some (ps[cntP ps k]'(by omega)) := List.getElem?_eq_getElem _
  have hqf := tw_at _ ps _ hq
  have hq1 := (h.1 _ (List.mem_of_getElem? hq)).1
  generalize (ps[cntP ps k]'(by omega)) = q at *
  cases q with
  | nil => simp at hq1
  | cons y q =>
    have hy : kl k y.key := by simpa [firstLe, kl] using hqf
    rcases Nat.lt_or_ge (cntP ps k) i with hlt | hge
    · exact kl_trans hy (right_pages h hq hp hlt y (by simp) x (List.mem_of_getElem? hx))
    · have e : cntP ps k = i := by omega
      rw [e, hp] at hq
      cases hq
      simp at hx
      subst hx
      exact hy
theorem cntK_no {p : List Pr} {k : ByteArray} {i : Nat} (hi : i < cntK p k) {x : Pr} (hx : p[i]? = some x) : bytesLess x.key.toList k.toList = true := tw_lt _ p i x hi hx
theorem cntK_yes {p : List Pr} (h : Rises p) {k : ByteArray} {i : Nat} (hi : cntK p k ≤ i) {x : Pr} (hx : p[i]? = some x) : bytesLess x.key.toList k.toList = false := by
  have hil := (List.getElem?_eq_some_iff.1 hx).1
  have hq : p[cntK p k]? = some (p[cntK p k]'(by omega)) := List.getElem?_eq_getElem _
  have hqf := tw_at _ p _ hq
  rcases Nat.lt_or_ge (cntK p k) i with hlt | hge
  · rw [Bool.eq_false_iff]
    intro hb
    have h2 : kl (p[cntK p k]'(by omega)).key x.key := by
      unfold Rises at h
      rw [List.pairwise_iff_getElem] at h
      have := h (cntK p k) i (by omega) hil hlt
      rw [(List.getElem?_eq_some_iff.1 hx).2] at this
      exact this
    rw [Bool.eq_false_iff] at hqf
    exact hqf (kl_trans h2 hb)
  · have e : cntK p k = i := by omega
    refine tw_at (fun x => bytesLess x.key.toList k.toList) p x ?_
    show p[cntK p k]? = _
    rw [e]
    exact hx
/-- What find's functions tell. -/
def headLess (ps : Pages) (k : ByteArray) (i : Nat) : Bool := match ps[i]? with
  | none => false
  | some p => match p[0]? with
    | none => false
    | some x => bytesLess k.toList x.key.toList
def notLess (p : List Pr) (k : ByteArray) (i : Nat) : Bool := match p[i]? with
  | none => false
  | some x => !bytesLess x.key.toList k.toList
/-- Is the key there? -/
def hasK (p : List Pr) (k : ByteArray) : Bool := match p[cntK p k]? with
  | none => false
  | some x => x.key.toList == k.toList
end Go.Proofs.Ytdmkmhjalcfchaa.Num
namespace Go.Proofs.Ytdmkmhjalcfchaa.Num
open Op (bytesLess)
set_option linter.unusedVariables false
set_option maxRecDepth 100000

/-- A key's versions. -/
def keyV (l : List Ver) (k : ByteArray) : List Ver := l.filter (isKey k)
theorem keyV_mem {l : List Ver} {k : ByteArray} {v : Ver} : v ∈ keyV l k ↔ v ∈ l ∧ v.key = k := by
  unfold keyV
  rw [List.mem_filter, isKey_iff]
theorem lastA_key (l : List Ver) (k : ByteArray) : lastA l k = (keyV l k).getLast? := rfl
theorem verT_key (l : List Ver) (k : ByteArray) (t : Int) : verT l k t = (keyV l k).filter (fun v => decide (v.time ≤ t)) := by
  unfold verT keyV
  rw [List.filter_filter]
  congr 1
  funext v
  exact Bool.and_comm _ _
theorem keyV_ups {l : List Ver} (h : Ups l) (k : ByteArray) : Ups (keyV l k) := List.Pairwise.filter _ h
theorem isKey_no {k : ByteArray} {v : Ver} (h : v.key ≠ k) : isKey k v = false := by
  rw [Bool.eq_false_iff]
  exact fun e => h (isKey_iff.1 e)
theorem keyV_snoc (l : List Ver) (v : Ver) (k : ByteArray) : keyV (l ++ [v]) k = if v.key = k then keyV l k ++ [v] else keyV l k := by
  unfold keyV
  rw [List.filter_append]
  split
  · rename_i h
    rw [List.filter_cons, if_pos (isKey_iff.2 h)]
    rfl
  · rename_i h
    rw [List.filter_cons, isKey_no h]
    simp
theorem keyV_none {b : List Ver} {k : ByteArray} (h : ∀ y ∈ b, isKey k y = false) : keyV b k = [] := by
  unfold keyV
  rw [List.filter_eq_nil_iff]
  intro y hy
  rw [h y hy]
  simp
theorem keyV_append (a b : List Ver) (k : ByteArray) : keyV (a ++ b) k = keyV a k ++ keyV b k := List.filter_append _ _
theorem keyV_turn {l : List Ver} {x v : Ver} (h : lastA l v.key = some x) (k : ByteArray) : keyV (turnV l v.key v) k = if v.key = k then (keyV l k).dropLast ++ [v] else keyV l k := by
  obtain ⟨a, b, h1, h2, h3, h4⟩ := turnV_split h v
  have e : ∀ (y : Ver) (m : List Ver), y :: m = [y] ++ m := fun _ _ => rfl
  rw [h2, h1, e v, e x, keyV_append, keyV_append, keyV_append, keyV_append]
  have hx := isKey_iff.1 h3
  split
  · rename_i hk
    subst hk
    have hxf : keyV [x] v.key = [x] := by
      unfold keyV
      rw [List.filter_cons, if_pos h3]
      rfl
    have hvf : keyV [v] v.key = [v] := by
      unfold keyV
      rw [List.filter_cons, if_pos (isKey_iff.2 rfl)]
      rfl
    rw [keyV_none h4, hxf, hvf, List.append_nil, List.append_nil, List.dropLast_concat]
  · rename_i hk
    have hxf : keyV [x] k = [] := keyV_none (by
      intro y hy
      rw [List.mem_singleton.1 hy]
      exact isKey_no (by rw [hx]; exact hk))
    have hvf : keyV [v] k = [] := keyV_none (by
      intro y hy
      rw [List.mem_singleton.1 hy]
      exact isKey_no hk)
    rw [hxf, hvf]
/-- How many of a key's versions are not behind a time. -/
def upN (q : List Ver) (t : Int) : Nat := (q.takeWhile (fun v => decide (v.time ≤ t))).length
theorem upN_le (q : List Ver) (t : Int) : upN q t ≤ q.length := tw_len _ _
theorem up_no {q : List Ver} {t : Int} {i : Nat} (hi : i < upN q t) {v : Ver} (hv : q[i]? = some v) : v.time ≤ t := of_decide_eq_true (tw_lt _ q i v hi hv)
theorem up_yes {q : List Ver} (h : Ups q) {t : Int} {i : Nat} (hi : upN q t ≤ i) {v : Ver} (hv : q[i]? = some v) : t < v.time := by
  have hil := (List.getElem?_eq_some_iff.1 hv).1
  have hn : q[upN q t]? = some (q[upN q t]'(by omega)) := List.getElem?_eq_getElem _
  have h1 := tw_at _ q _ hn
  have h2 : t < (q[upN q t]'(by omega)).time := by
    have := of_decide_eq_false h1
    omega
  rcases Nat.eq_or_lt_of_le hi with e | hlt
  · have e2 := hv
    rw [← e, hn] at e2
    cases e2
    exact h2
  · have h3 := List.pairwise_iff_getElem.1 h (upN q t) i (by omega) hil hlt
    have e2 := (List.getElem?_eq_some_iff.1 hv).2
    rw [e2] at h3
    omega
theorem filter_up {q : List Ver} (h : Ups q) (t : Int) : q.filter (fun v => decide (v.time ≤ t)) = q.takeWhile (fun v => decide (v.time ≤ t)) := by
  induction q with
  | nil => rfl
  | cons x q ih =>
    unfold Ups at h
    rw [List.pairwise_cons] at h
    rw [List.filter_cons, List.takeWhile_cons]
    by_cases hx : x.time ≤ t
    · rw [if_pos (decide_eq_true hx), if_pos (decide_eq_true hx), ih h.2]
    · rw [if_neg (by simpa using hx), if_neg (by simpa using hx), List.filter_eq_nil_iff]
      intro y hy
      have := h.1 y hy
      simp
      omega
theorem take_up (q : List Ver) (t : Int) : q.takeWhile (fun v => decide (v.time ≤ t)) = q.take (upN q t) := List.prefix_iff_eq_take.1 (List.takeWhile_prefix _)
theorem verT_up {l : List Ver} (h : Ups l) (k : ByteArray) (t : Int) : verT l k t = (keyV l k).take (upN (keyV l k) t) := by rw [verT_key, filter_up (keyV_ups h k), take_up]
theorem lastV_none {l : List Ver} (h : Ups l) {k : ByteArray} {t : Int} (hn : upN (keyV l k) t = 0) : lastV l k t = none := by
  unfold lastV
  rw [verT_up h, hn]
  rfl
theorem lastV_some {l : List Ver} (h : Ups l) {k : ByteArray} {t : Int} {n : Nat} (hn : upN (keyV l k) t = n + 1) {v : Ver} (hv : (keyV l k)[n]? = some v) : lastV l k t = some v := by
  unfold lastV
  rw [verT_up h, hn, List.getLast?_take, if_neg (by omega), Nat.add_sub_cancel, hv]
  rfl
theorem getV_none {l : List Ver} (h : Ups l) {k : ByteArray} {t : Int} (hn : upN (keyV l k) t = 0) : getV l k t = none := by
  unfold getV
  rw [lastV_none h hn]
theorem getV_some {l : List Ver} (h : Ups l) {k : ByteArray} {t : Int} {n : Nat} (hn : upN (keyV l k) t = n + 1) {v : Ver} (hv : (keyV l k)[n]? = some v) : getV l k t = if v.gone then none else some v.val := by
  unfold getV
  rw [lastV_some h hn hv]
/-! Trim, of some keys. -/
def trimSet (S : ByteArray → Bool) (t : Int) : List Ver → List Ver
  | [] => []
  | v :: l => if S v.key = false ∨ t < v.time ∨ (verT l v.key t = [] ∧ v.gone = false) then v :: trimSet S t l else trimSet S t l
theorem trimSet_all {S : ByteArray → Bool} {t : Int} : ∀ {l : List Ver}, (∀ v ∈ l, S v.key = true) → trimSet S t l = trimAux l t
  | [], _ => rfl
  | x :: l, h => by
    have ih := trimSet_all (S := S) (t := t) (l := l) (fun v hv => h v (by simp [hv]))
    rw [trimSet, trimAux, ih]
    have hx := h x (by simp)
    by_cases hc : t < x.time ∨ (verT l x.key t = [] ∧ x.gone = false)
    · rw [if_pos (.inr hc), if_pos hc]
    · rw [if_neg (by
        rintro (h1 | h1)
        · rw [hx] at h1
          cases h1
        · exact hc h1), if_neg hc]
theorem trimSet_none (t : Int) : ∀ l : List Ver, trimSet (fun _ => false) t l = l
  | [] => rfl
  | x :: l => by
    rw [trimSet, if_pos (.inl rfl), trimSet_none t l]
theorem trimSet_sub (S : ByteArray → Bool) (t : Int) : ∀ (l : List Ver) (v : Ver), v ∈ trimSet S t l → v ∈ l
  | [], _, h => by cases h
  | x :: l, v, h => by
    rw [trimSet] at h
    split at h
    · rcases List.mem_cons.1 h with rfl | h
      · simp
      · simp [trimSet_sub S t l v h]
    · simp [trimSet_sub S t l v h]
theorem trimSet_other {S : ByteArray → Bool} {k : ByteArray} (hk : S k = false) (t : Int) : ∀ l : List Ver, keyV (trimSet S t l) k = keyV l k
  | [] => rfl
  | x :: l => by
    have ih := trimSet_other hk t l
    rw [trimSet]
    have e : ∀ (y : Ver) (m : List Ver), keyV (y :: m) k = keyV [y] k ++ keyV m k := fun y m => keyV_append [y] m k
    by_cases hx : x.key = k
    · rw [if_pos (.inl (by rw [hx]; exact hk)), e, e x l, ih]
    · have hx0 : keyV [x] k = [] := keyV_none (by
        intro y hy
        rw [List.mem_singleton.1 hy]
        exact isKey_no hx)
      rw [e x l, hx0, List.nil_append, ← ih]
      split
      · rw [e, hx0, List.nil_append]
      · rfl
theorem trimSet_verT {S : ByteArray → Bool} {k : ByteArray} (hk : S k = false) (t u : Int) (l : List Ver) : verT (trimSet S t l) k u = verT l k u := by rw [verT_key, verT_key, trimSet_other hk]
/-- One key. -/
def onlyK (k x : ByteArray) : Bool := x.toList == k.toList
theorem onlyK_iff {k x : ByteArray} : onlyK k x = true ↔ x = k := by
  unfold onlyK
  rw [beq_iff_eq]
  constructor
  · intro h
    rw [Lib.toList_data, Lib.toList_data] at h
    exact ByteArray.ext (Array.ext' h)
  · intro h
    rw [h]
theorem onlyK_no {k x : ByteArray} (h : x ≠ k) : onlyK k x = false := by
  rw [Bool.eq_false_iff]
  exact fun e => h (onlyK_iff.1 e)
theorem trimSet_comp {S : ByteArray → Bool} {k : ByteArray} (hk : S k = false) (t : Int) : ∀ l : List Ver, trimSet (onlyK k) t (trimSet S t l) = trimSet (fun x => S x || onlyK k x) t l
  | [] => rfl
  | x :: l => by
    have ih := trimSet_comp hk t l
    rw [trimSet, trimSet]
    by_cases hx : x.key = k
    · have hS : S x.key = false := by rw [hx]; exact hk
      have hO : onlyK k x.key = true := onlyK_iff.2 hx
      rw [if_pos (.inl hS), trimSet, ih, hS, hO, hx, trimSet_verT hk]
      rfl
    · have hO : onlyK k x.key = false := onlyK_no hx
      rw [hO, Bool.or_false]
      split
      · rw [trimSet, if_pos (.inl hO), ih]
      · exact ih
theorem trimSet_key (k : ByteArray) (t : Int) : ∀ l : List Ver, keyV (trimSet (onlyK k) t l) k = trimAux (keyV l k) t
  | [] => rfl
  | x :: l => by
    have ih := trimSet_key k t l
    have e : ∀ (y : Ver) (m : List Ver), keyV (y :: m) k = keyV [y] k ++ keyV m k := fun y m => keyV_append [y] m k
    by_cases hx : x.key = k
    · have hx1 : keyV [x] k = [x] := by
        unfold keyV
        rw [List.filter_cons, if_pos (isKey_iff.2 hx)]
        rfl
      have hv : verT (keyV l k) k t = verT l k t := by
        rw [verT_key, verT_key]
        unfold keyV
        rw [List.filter_filter]
        simp
      rw [e x l, hx1, List.singleton_append, trimAux, trimSet, hx, hv]
      have hO : onlyK k k = true := onlyK_iff.2 rfl
      rw [hO]
      by_cases hc : t < x.time ∨ (verT l k t = [] ∧ x.gone = false)
      · rw [if_pos (.inr hc), if_pos hc, e, hx1, ih]
        rfl
      · rw [if_neg (by
          rintro (h | h)
          · cases h
          · exact hc h), if_neg hc, ih]
    · have hx0 : keyV [x] k = [] := keyV_none (by
        intro y hy
        rw [List.mem_singleton.1 hy]
        exact isKey_no hx)
      rw [trimSet, if_pos (.inl (onlyK_no hx)), e x l, e x (trimSet _ t l), hx0, ih]
      rfl
/-- How many of a key's versions go. -/
def trimN (q : List Ver) (t : Int) : Nat := match upN q t with
  | 0 => 0
  | n + 1 => match q[n]? with
    | none => n + 1
    | some v => if v.gone then n + 1 else n
theorem trimN_le (q : List Ver) (t : Int) : trimN q t ≤ q.length := by
  have h := upN_le q t
  unfold trimN
  split
  · omega
  · rename_i n hn
    rw [hn] at h
    split
    · omega
    · split <;> omega
theorem trimAux_behind {t : Int} : ∀ {q : List Ver}, (∀ v ∈ q, t < v.time) → trimAux q t = q
  | [], _ => rfl
  | x :: q, h => by
    rw [trimAux, if_pos (.inl (h x (by simp))), trimAux_behind (fun v hv => h v (by simp [hv]))]
theorem trim_drop {k : ByteArray} {t : Int} : ∀ {q : List Ver}, (∀ v ∈ q, v.key = k) → Ups q → trimAux q t = q.drop (trimN q t)
  | [], _, _ => rfl
  | x :: q, hk, hu => by
    have hq := hk x (by simp)
    have hkq : ∀ v ∈ q, v.key = k := fun v hv => hk v (by simp [hv])
    have hu' := hu
    unfold Ups at hu
    rw [List.pairwise_cons] at hu
    have ih := trim_drop (t := t) hkq hu.2
    have hkv : keyV q k = q := by
      unfold keyV
      rw [List.filter_eq_self]
      exact fun v hv => isKey_iff.2 (hkq v hv)
    by_cases hx : x.time ≤ t
    · have hup : upN (x :: q) t = upN q t + 1 := by
        unfold upN
        rw [List.takeWhile_cons, if_pos (decide_eq_true hx)]
        rfl
      have hv : verT q k t = q.take (upN q t) := by
        have := verT_up hu.2 k t
        rw [hkv] at this
        exact this
      rw [trimAux, hq, hv]
      cases hn : upN q t with
      | zero =>
        have hq0 : trimAux q t = q := trimAux_behind (fun v hv' => by
          obtain ⟨i, hi⟩ := List.mem_iff_getElem?.1 hv'
          exact up_yes hu.2 (by omega) hi)
        have htn : trimN (x :: q) t = if x.gone then 1 else 0 := by
          unfold trimN
          rw [hup, hn]
          rfl
        rw [htn, hq0, List.take_zero]
        cases hg : x.gone with
        | true =>
          rw [if_neg (by
            rintro (h | h)
            · omega
            · cases h.2)]
          rfl
        | false =>
          rw [if_pos (.inr ⟨rfl, rfl⟩)]
          rfl
      | succ n =>
        have hnl := upN_le q t
        have hne : q.take (n + 1) ≠ [] := by
          intro e
          have := congrArg List.length e
          simp at this
          rw [hn] at hnl
          rw [this] at hnl
          simp at hnl
        have htn : trimN (x :: q) t = trimN q t + 1 := by
          unfold trimN
          rw [hup, hn]
          show (match q[n]? with | none => n + 1 + 1 | some v => if v.gone = true then n + 1 + 1 else n + 1) = _
          cases hqn : q[n]? with
          | none => simp [hqn]
          | some v =>
            simp only [hqn]
            split <;> rfl
        rw [if_neg (by
          rintro (h | h)
          · omega
          · exact hne h.1), htn, ih]
        rfl
    · have hall : ∀ v ∈ x :: q, t < v.time := by
        intro v hv
        rcases List.mem_cons.1 hv with rfl | hv
        · omega
        · have := hu.1 v hv
          omega
      have hup : upN (x :: q) t = 0 := by
        unfold upN
        rw [List.takeWhile_cons, if_neg (by simpa using hx)]
        rfl
      have htn : trimN (x :: q) t = 0 := by
        unfold trimN
        rw [hup]
      rw [trimAux_behind hall, htn]
      rfl
theorem trim_one {l : List Ver} (h : Ups l) (k : ByteArray) (t : Int) : keyV (trimSet (onlyK k) t l) k = (keyV l k).drop (trimN (keyV l k) t) := by
  rw [trimSet_key]
  exact trim_drop (fun v hv => (keyV_mem.1 hv).2) (keyV_ups h k)
theorem trimSet_ups {S : ByteArray → Bool} {t : Int} : ∀ {l : List Ver}, Ups l → Ups (trimSet S t l)
  | [], h => h
  | x :: l, h => by
    unfold Ups at h
    rw [List.pairwise_cons] at h
    rw [trimSet]
    split
    · unfold Ups
      rw [List.pairwise_cons]
      exact ⟨fun v hv => h.1 v (trimSet_sub S t l v hv), trimSet_ups h.2⟩
    · exact trimSet_ups h.2
theorem len_parts (l : List Ver) (k : ByteArray) : l.length = (keyV l k).length + (l.filter (fun v => !isKey k v)).length := by
  induction l with
  | nil => rfl
  | cons x l ih =>
    unfold keyV at ih ⊢
    rw [List.filter_cons, List.filter_cons]
    cases isKey k x <;> simp <;> omega
theorem trimSet_rest (k : ByteArray) (t : Int) : ∀ l : List Ver, (trimSet (onlyK k) t l).filter (fun v => !isKey k v) = l.filter (fun v => !isKey k v)
  | [] => rfl
  | x :: l => by
    have ih := trimSet_rest k t l
    rw [trimSet]
    by_cases hx : x.key = k
    · rw [List.filter_cons (x := x), isKey_iff.2 hx, ← ih]
      split
      · rw [List.filter_cons, isKey_iff.2 hx]
      · simp
    · rw [if_pos (.inl (onlyK_no hx)), List.filter_cons, List.filter_cons, ih]
theorem trim_size {l : List Ver} (h : Ups l) (k : ByteArray) (t : Int) : (trimSet (onlyK k) t l).length + trimN (keyV l k) t = l.length := by
  have h1 := len_parts (trimSet (onlyK k) t l) k
  have h2 := len_parts l k
  rw [trimSet_rest, trim_one h, List.length_drop] at h1
  have h3 := trimN_le (keyV l k) t
  omega
/-! Keys as pages. -/
/-- The pages have just the keys that there are. -/
def KeysOk (ps : Pages) (l : List Ver) : Prop := RightP ps ∧ ∀ x : Pr, x ∈ ps.flatten ↔ x.val = ⟨#[]⟩ ∧ keyV l x.key ≠ []
theorem insL_perm {k v : ByteArray} : ∀ {l : List Pr}, (∀ x ∈ l, x.key ≠ k) → (insL l k v).Perm (⟨k, v⟩ :: l)
  | [], _ => List.Perm.refl _
  | x :: l, h => by
    have ih := insL_perm (v := v) (fun y hy => h y (List.mem_cons_of_mem x hy))
    rw [insL]
    split
    · exact List.Perm.refl _
    · split
      · exact (List.Perm.cons x ih).trans (List.Perm.swap _ _ _)
      · rename_i h1 h2
        exfalso
        rcases kl_tri x.key k with h3 | h3 | h3
        · exact h2 h3
        · exact h x (by simp) h3
        · exact h1 h3
theorem keys_new {ps : Pages} {l l' : List Ver} {k : ByteArray} (h : KeysOk ps l) (h0 : keyV l k = []) (h1 : keyV l' k ≠ []) (h2 : ∀ x, x ≠ k → keyV l' x = keyV l x) : KeysOk (putP ps k ⟨#[]⟩) l' ∧ (putP ps k ⟨#[]⟩).flatten.length = ps.flatten.length + 1 := by
  have hno : ∀ x ∈ ps.flatten, x.key ≠ k := by
    intro x hx e
    have := ((h.2 x).1 hx).2
    rw [e] at this
    exact this h0
  have hp := insL_perm (v := ⟨#[]⟩) hno
  have hf := put_flat h.1 k ⟨#[]⟩
  refine ⟨⟨put_right h.1 k _, fun x => ?_⟩, ?_⟩
  · rw [hf, hp.mem_iff, List.mem_cons, h.2]
    constructor
    · rintro (rfl | ⟨e, hx⟩)
      · exact ⟨rfl, h1⟩
      · refine ⟨e, ?_⟩
        by_cases hk : x.key = k
        · rw [hk]
          exact h1
        · rw [h2 _ hk]
          exact hx
    · rintro ⟨e, hx⟩
      by_cases hk : x.key = k
      · left
        cases x
        simp_all
      · rw [h2 _ hk] at hx
        exact .inr ⟨e, hx⟩
  · rw [hf, hp.length_eq]
    rfl
theorem delL_len {k : ByteArray} : ∀ {l : List Pr}, Rises l → (∃ x ∈ l, x.key = k) → (delL l k).length + 1 = l.length
  | [], _, h => by
    obtain ⟨x, hx, _⟩ := h
    cases hx
  | y :: l, hr, h => by
    unfold Rises at hr
    rw [List.pairwise_cons] at hr
    have e : delL (y :: l) k = delL [y] k ++ delL l k := delL_app [y] l k
    by_cases hy : y.key = k
    · have h1 : delL [y] k = [] := by
        unfold delL
        rw [List.filter_eq_nil_iff]
        intro z hz
        rw [List.mem_singleton.1 hz, hy, bl_irr]
        simp
      have h2 : delL l k = l := delL_same (fun z hz e => by
        have := hr.1 z hz
        rw [hy, e] at this
        exact kl_irr k this)
      rw [e, h1, h2]
      rfl
    · have h1 : delL [y] k = [y] := delL_same (fun z hz => by
        rw [List.mem_singleton.1 hz]
        exact hy)
      have ih := delL_len (k := k) hr.2 (by
        obtain ⟨x, hx, hk⟩ := h
        rcases List.mem_cons.1 hx with rfl | hx
        · exact absurd hk hy
        · exact ⟨x, hx, hk⟩)
      rw [e, h1, List.length_append, List.length_cons]
      simp
      omega
theorem keys_gone {ps : Pages} {l l' : List Ver} {k : ByteArray} (h : KeysOk ps l) (h0 : keyV l k ≠ []) (h1 : keyV l' k = []) (h2 : ∀ x, x ≠ k → keyV l' x = keyV l x) : KeysOk (delP ps k) l' ∧ (delP ps k).flatten.length + 1 = ps.flatten.length := by
  have hf := del_flat h.1 k
  refine ⟨⟨del_right h.1 k, fun x => ?_⟩, ?_⟩
  · rw [hf, delL_mem, h.2]
    constructor
    · rintro ⟨⟨e, hx⟩, hk⟩
      exact ⟨e, by rw [h2 _ hk]; exact hx⟩
    · rintro ⟨e, hx⟩
      have hk : x.key ≠ k := by
        intro hk
        rw [hk] at hx
        exact hx h1
      exact ⟨⟨e, by rw [← h2 _ hk]; exact hx⟩, hk⟩
  · rw [hf]
    exact delL_len h.1.2 ⟨⟨k, ⟨#[]⟩⟩, (h.2 _).2 ⟨rfl, h0⟩, rfl⟩
theorem keys_same {ps : Pages} {l l' : List Ver} (h : KeysOk ps l) (h2 : ∀ x, keyV l' x = [] ↔ keyV l x = []) : KeysOk ps l' := ⟨h.1, fun x => by rw [h.2, Ne, Ne, h2]⟩
/-- The keys between two. -/
def betw (ps : Pages) (lo hi : ByteArray) : List Pr := ps.flatten.filter (fun x => withinB x.key lo hi)
theorem betw_scan (ps : Pages) (lo hi : ByteArray) (n : Int) (hn : (ps.flatten.length : Int) ≤ n) : scanL ps.flatten lo hi n = betw ps lo hi := by
  unfold scanL betw
  have := List.length_filter_le (fun x : Pr => withinB x.key lo hi) ps.flatten
  exact List.take_of_length_le (by omega)
/-! Scan. -/
def pairV (l : List Ver) (t : Int) (x : Pr) : Option Pr := match getV l x.key t with
  | none => none
  | some v => some ⟨x.key, v⟩
def scanV (l : List Ver) (t : Int) (xs : List Pr) : List Pr := xs.filterMap (pairV l t)
theorem getV_key {l : List Ver} {k : ByteArray} {t : Int} {v : ByteArray} (h : getV l k t = some v) : keyV l k ≠ [] := by
  intro e
  unfold getV lastV at h
  rw [verT_key, e] at h
  simp at h
theorem scan_is {ps : Pages} {l : List Ver} (h : KeysOk ps l) (t : Int) (lo hi : ByteArray) : ScanIs l t lo hi (scanV l t (betw ps lo hi)) := by
  constructor
  · unfold scanV Rises
    rw [List.pairwise_filterMap]
    refine List.Pairwise.imp ?_ (List.Pairwise.filter _ h.1.2)
    intro a b hab x hx y hy
    unfold pairV at hx hy
    split at hx
    · cases hx
    · split at hy
      · cases hy
      · cases hx
        cases hy
        exact hab
  · intro x
    unfold scanV betw
    rw [List.mem_filterMap]
    constructor
    · rintro ⟨y, hy, e⟩
      obtain ⟨_, hw⟩ := List.mem_filter.1 hy
      unfold pairV at e
      split at e
      · cases e
      · rename_i v hv
        cases e
        exact ⟨hw, hv⟩
    · rintro ⟨hw, hv⟩
      refine ⟨⟨x.key, ⟨#[]⟩⟩, List.mem_filter.2 ⟨(h.2 _).2 ⟨rfl, getV_key hv⟩, hw⟩, ?_⟩
      unfold pairV
      simp only [hv]
theorem scanV_snoc (l : List Ver) (t : Int) (xs : List Pr) (x : Pr) : scanV l t (xs ++ [x]) = scanV l t xs ++ (match getV l x.key t with | none => [] | some v => [⟨x.key, v⟩]) := by
  unfold scanV
  rw [List.filterMap_append]
  congr 1
  unfold pairV
  rw [List.filterMap_cons]
  cases getV l x.key t <;> rfl
theorem scanV_take (l : List Ver) (t : Int) (xs : List Pr) (i : Nat) : ∃ r, scanV l t xs = scanV l t (xs.take i) ++ r := by
  refine ⟨scanV l t (xs.drop i), ?_⟩
  unfold scanV
  rw [← List.filterMap_append, List.take_append_drop]
/-! Since. -/
def sinceV (l : List Ver) (lo hi : ByteArray) (t : Int) : Bool := l.any (fun v => decide (t < v.time) && withinB v.key lo hi)
def lastT (l : List Ver) (k : ByteArray) : Int := match lastA l k with
  | none => 0
  | some v => v.time
theorem last_max {q : List Ver} (h : Ups q) {u : Ver} (hu : q.getLast? = some u) : ∀ v ∈ q, v.time ≤ u.time := by
  intro v hv
  obtain ⟨r, rfl⟩ := List.getLast?_eq_some_iff.1 hu
  unfold Ups at h
  rw [List.pairwise_append] at h
  rcases List.mem_append.1 hv with hv | hv
  · exact h.2.2 v hv u (by simp)
  · rw [List.mem_singleton.1 hv]
    omega
theorem since_any {ps : Pages} {l : List Ver} (h : KeysOk ps l) (hu : Ups l) (t : Int) (lo hi : ByteArray) : (betw ps lo hi).any (fun x => decide (t < lastT l x.key)) = sinceV l lo hi t := by
  rw [Bool.eq_iff_iff]
  unfold sinceV betw
  rw [List.any_eq_true, List.any_eq_true]
  constructor
  · rintro ⟨x, hx, ht⟩
    obtain ⟨hx1, hw⟩ := List.mem_filter.1 hx
    have hne := ((h.2 x).1 hx1).2
    have ht := of_decide_eq_true ht
    unfold lastT at ht
    cases hl : lastA l x.key with
    | none =>
      rw [lastA_key, List.getLast?_eq_none_iff] at hl
      exact absurd hl hne
    | some v =>
      rw [hl] at ht
      obtain ⟨h1, h2⟩ := lastA_mem hl
      exact ⟨v, h1, by rw [h2, hw, decide_eq_true ht]; rfl⟩
  · rintro ⟨v, hv, ht⟩
    obtain ⟨ht, hw⟩ := Bool.and_eq_true_iff.1 ht
    have ht := of_decide_eq_true ht
    have hvk : v ∈ keyV l v.key := keyV_mem.2 ⟨hv, rfl⟩
    have hne : keyV l v.key ≠ [] := by
      intro e
      rw [e] at hvk
      cases hvk
    refine ⟨⟨v.key, ⟨#[]⟩⟩, List.mem_filter.2 ⟨(h.2 _).2 ⟨rfl, hne⟩, hw⟩, ?_⟩
    apply decide_eq_true
    unfold lastT
    cases hl : lastA l v.key with
    | none =>
      rw [lastA_key, List.getLast?_eq_none_iff] at hl
      exact absurd hl hne
    | some u =>
      have := last_max (keyV_ups hu v.key) hl v hvk
      show t < u.time
      omega
end Go.Proofs.Ytdmkmhjalcfchaa.Num
namespace Go.Proofs.Ytdmkmhjalcfchaa.Num
open Op (bytesLess)

theorem cntK_take {p : List Pr} {k : ByteArray} : ∀ x ∈ p.take (cntK p k), kl x.key k := by
  intro x hx
  obtain ⟨i, hi⟩ := List.mem_iff_getElem?.1 hx
  rw [List.getElem?_take] at hi
  split at hi
  · rename_i hlt
    exact cntK_no hlt hi
  · cases hi
theorem hasK_yes {p : List Pr} {k : ByteArray} (h : hasK p k = true) : ∃ x, p[cntK p k]? = some x ∧ x.key = k := by
  unfold hasK at h
  cases hx : p[cntK p k]? with
  | none => rw [hx] at h; cases h
  | some x =>
    rw [hx] at h
    refine ⟨x, rfl, ?_⟩
    simp only [beq_iff_eq] at h
    rw [Lib.toList_data, Lib.toList_data] at h
    exact ByteArray.ext (Array.ext' h)
theorem hasK_no {p : List Pr} (hr : Rises p) {k : ByteArray} (h : hasK p k = false) {x : Pr} (hx : p[cntK p k]? = some x) : kl k x.key := by
  have h1 := cntK_yes hr (Nat.le_refl _) hx
  unfold hasK at h
  rw [hx] at h
  rcases kl_tri x.key k with a | a | a
  · unfold kl at a
    rw [h1] at a
    cases a
  · simp only [a] at h
    simp at h
  · exact a
theorem drop_at {α : Type} {l : List α} {i : Nat} {x : α} (h : l[i]? = some x) : l.drop i = x :: l.drop (i + 1) := by
  have hi := (List.getElem?_eq_some_iff.1 h).1
  rw [← (List.getElem?_eq_some_iff.1 h).2]
  exact List.drop_eq_getElem_cons hi
theorem ins_has {p : List Pr} {k v : ByteArray} {x : Pr} (hx : p[cntK p k]? = some x) (hk : x.key = k) : insL p k v = p.set (cntK p k) ⟨x.key, v⟩ := by
  have h1 : insL p k v = p.take (cntK p k) ++ insL (p.drop (cntK p k)) k v := by
    conv => lhs; rw [← List.take_append_drop (cntK p k) p]
    exact insL_left _ _ cntK_take
  have hi := (List.getElem?_eq_some_iff.1 hx).1
  rw [h1, drop_at hx, insL, hk, if_neg (by rw [bl_irr]; simp), if_neg (by rw [bl_irr]; simp), List.set_eq_take_append_cons_drop, if_pos hi]
theorem ins_new {p : List Pr} (hr : Rises p) {k v : ByteArray} (h : hasK p k = false) : insL p k v = p.take (cntK p k) ++ [⟨k, v⟩] ++ p.drop (cntK p k) := by
  have h1 : insL p k v = p.take (cntK p k) ++ insL (p.drop (cntK p k)) k v := by
    conv => lhs; rw [← List.take_append_drop (cntK p k) p]
    exact insL_left _ _ cntK_take
  rw [h1]
  cases hx : p[cntK p k]? with
  | none =>
    rw [List.drop_eq_nil_of_le (by rw [List.getElem?_eq_none_iff] at hx; exact hx)]
    simp [insL]
  | some x =>
    have h2 : bytesLess k.toList x.key.toList = true := hasK_no hr h hx
    rw [drop_at hx, insL, if_pos h2]
    simp
theorem put_at {ps : Pages} {k v : ByteArray} {p : List Pr} (hp : ps[ofP ps k]? = some p) : putP ps k v = ps.take (ofP ps k) ++ (splitP (insL p k v) ++ ps.drop (ofP ps k + 1)) := by
  unfold putP
  rw [hp]
theorem set_at {α : Type} {l : List α} {i : Nat} {x y : α} (h : l[i]? = some x) : l.set i y = l.take i ++ (y :: l.drop (i + 1)) := by
  have hi := (List.getElem?_eq_some_iff.1 h).1
  rw [List.set_eq_take_append_cons_drop, if_pos hi]
theorem put_short {ps : Pages} {k v : ByteArray} {p : List Pr} (hp : ps[ofP ps k]? = some p) (h : (insL p k v).length ≤ 8) : putP ps k v = ps.set (ofP ps k) (insL p k v) := by
  rw [put_at hp, set_at hp, splitP, if_neg (by omega)]
  rfl
theorem put_long {ps : Pages} {k v : ByteArray} {p : List Pr} (hp : ps[ofP ps k]? = some p) (h : 8 < (insL p k v).length) : putP ps k v = ps.take (ofP ps k) ++ ((insL p k v).take 4 :: (insL p k v).drop 4 :: ps.drop (ofP ps k + 1)) := by
  rw [put_at hp, splitP, if_pos h]
  rfl
end Go.Proofs.Ytdmkmhjalcfchaa.Num
namespace Go.Proofs.Ytdmkmhjalcfchaa.Num
open Op (bytesLess)

theorem delL_at {p : List Pr} (hr : Rises p) {k : ByteArray} {x : Pr} (hx : p[cntK p k]? = some x) (hk : x.key = k) : delL p k = p.take (cntK p k) ++ p.drop (cntK p k + 1) := by
  have e : p = p.take (cntK p k) ++ (x :: p.drop (cntK p k + 1)) := by rw [← drop_at hx, List.take_append_drop]
  have h1 : delL p k = delL (p.take (cntK p k)) k ++ delL (x :: p.drop (cntK p k + 1)) k := by
    conv => lhs; rw [e]
    exact delL_app _ _ _
  have h2 : delL (x :: p.drop (cntK p k + 1)) k = delL (p.drop (cntK p k + 1)) k := by
    unfold delL
    rw [List.filter_cons, hk, bl_irr]
    rfl
  have h3 : ∀ y ∈ p.drop (cntK p k + 1), kl k y.key := by
    intro y hy
    unfold Rises at hr
    rw [e, List.pairwise_append] at hr
    rw [← hk]
    exact (List.pairwise_cons.1 hr.2.1).1 y hy
  rw [h1, h2, delL_same (fun y hy => kl_ne (cntK_take y hy)), delL_same (fun y hy e => kl_ne (h3 y hy) e.symm)]
theorem delL_none {p : List Pr} (hr : Rises p) {k : ByteArray} (h : hasK p k = false) : delL p k = p := by
  refine delL_same fun x hx => ?_
  obtain ⟨i, hi⟩ := List.mem_iff_getElem?.1 hx
  rcases Nat.lt_trichotomy i (cntK p k) with hlt | he | hgt
  · exact kl_ne (cntK_no hlt hi)
  · subst he
    exact fun e => kl_ne (hasK_no hr h hi) e.symm
  · have hil := (List.getElem?_eq_some_iff.1 hi).1
    have hc : p[cntK p k]? = some (p[cntK p k]'(by omega)) := List.getElem?_eq_getElem _
    have h1 := hasK_no hr h hc
    have h2 : kl (p[cntK p k]'(by omega)).key x.key := by
      unfold Rises at hr
      rw [List.pairwise_iff_getElem] at hr
      have := hr (cntK p k) i (by omega) hil hgt
      rw [(List.getElem?_eq_some_iff.1 hi).2] at this
      exact this
    exact fun e => kl_ne (kl_trans h1 h2) e.symm
/-- Two neighbours become one, if they are short. -/
def joinP (ps : Pages) (i : Nat) : Pages := match ps[i]?, ps[i + 1]? with
  | some p, some q => if p.length + q.length ≤ 4 then ps.take i ++ ((p ++ q) :: ps.drop (i + 2)) else ps
  | _, _ => ps
/-- What joined does. -/
def joinedP (ps : Pages) (i : Nat) : Pages := if i + 1 = ps.length then (if i = 0 then ps else joinP ps (i - 1)) else joinP ps i
theorem del_gone {ps : Pages} {k : ByteArray} {p : List Pr} (hp : ps[ofP ps k]? = some p) (h : delL p k = []) : delP ps k = ps.take (ofP ps k) ++ ps.drop (ofP ps k + 1) := by
  unfold delP
  rw [hp]
  simp only
  rw [if_pos h]
theorem del_not {ps : Pages} (hr : RightP ps) {k : ByteArray} {p : List Pr} (hp : ps[ofP ps k]? = some p) (h : hasK p k = false) : delP ps k = ps := by
  have h1 := delL_none (right_page hr hp) h
  have h2 := (hr.1 p (List.mem_of_getElem? hp)).1
  unfold delP
  rw [hp]
  simp only
  rw [h1, if_neg (by rintro rfl; simp at h2), if_pos rfl]
theorem set_get {α : Type} {l : List α} {i j : Nat} {x : α} : (l.set i x)[j]? = if i = j then (if i < l.length then some x else none) else l[j]? := by
  by_cases h : i = j
  · subst h
    rw [if_pos rfl]
    by_cases hi : i < l.length
    · rw [if_pos hi, List.getElem?_set_self hi]
    · rw [if_neg hi, List.getElem?_eq_none (by simp; omega)]
  · rw [if_neg h, List.getElem?_set_ne h]
theorem del_less {ps : Pages} {k : ByteArray} {p : List Pr} (hp : ps[ofP ps k]? = some p) (h0 : delL p k ≠ []) (h1 : (delL p k).length ≠ p.length) : delP ps k = joinedP (ps.set (ofP ps k) (delL p k)) (ofP ps k) := by
  have hil := (List.getElem?_eq_some_iff.1 hp).1
  unfold delP
  rw [hp]
  simp only
  rw [if_neg h0, if_neg h1]
  generalize ofP ps k = i at *
  generalize delL p k = d at *
  have hset : ps.set i d = ps.take i ++ (d :: ps.drop (i + 1)) := set_at hp
  unfold joinedP joinP
  rw [List.length_set]
  by_cases hlast : i + 1 = ps.length
  · rw [if_pos hlast, List.getElem?_eq_none (by omega)]
    simp only
    have hd1 : ps.drop (i + 1) = [] := List.drop_eq_nil_of_le (by omega)
    by_cases hz : i = 0
    · subst hz
      rw [if_pos rfl, hset, hd1]
      split
      · rw [if_neg (by omega)]
      · rfl
    · rw [if_neg hz]
      have hq : ps[i - 1]? = some (ps[i - 1]'(by omega)) := List.getElem?_eq_getElem _
      rw [hq, set_get, set_get, if_neg (by omega), if_pos (by omega), if_pos hil, hq]
      simp only
      by_cases h4 : d.length + (ps[i - 1]'(by omega)).length ≤ 4
      · rw [if_pos ⟨by omega, h4⟩, if_pos (by omega), List.take_set_of_le (by omega), List.drop_eq_nil_of_le (by simp; omega)]
      · rw [if_neg (fun h => h4 h.2), if_neg (by omega), hset, hd1]
  · rw [if_neg hlast]
    have hq : ps[i + 1]? = some (ps[i + 1]'(by omega)) := List.getElem?_eq_getElem _
    rw [hq, set_get, set_get, if_pos rfl, if_pos hil, if_neg (by omega), hq]
    simp only
    by_cases h4 : d.length + (ps[i + 1]'(by omega)).length ≤ 4
    · rw [if_pos h4, if_pos h4, List.take_set_of_le (Nat.le_refl _), List.drop_set_of_lt (by omega)]
    · rw [if_neg h4, if_neg h4, hset]
end Go.Proofs.Ytdmkmhjalcfchaa.Num
namespace Go.Proofs.Ytdmkmhjalcfchaa.Num
open Op (bytesLess)
set_option linter.unusedVariables false
set_option maxRecDepth 100000

theorem key_eq {a b : ByteArray} (h : (a.toList == b.toList) = true) : a = b := by
  simp only [beq_iff_eq] at h
  rw [Lib.toList_data, Lib.toList_data] at h
  exact ByteArray.ext (Array.ext' h)
theorem key_ne {a b : ByteArray} (h : a ≠ b) : (a.toList == b.toList) = false := by
  rw [Bool.eq_false_iff]
  exact fun e => h (key_eq e)
theorem find_skip {k : ByteArray} : ∀ (a l : List Pr), (∀ x ∈ a, x.key ≠ k) → (a ++ l).find? (fun x => x.key.toList == k.toList) = l.find? (fun x => x.key.toList == k.toList)
  | [], l, _ => rfl
  | y :: a, l, h => by
    rw [List.cons_append, List.find?_cons, key_ne (h y (by simp))]
    exact find_skip a l fun x hx => h x (by simp [hx])
theorem ahead_keys {ps : Pages} (h : RightP ps) {k : ByteArray} {p : List Pr} (hp : ps[ofP ps k]? = some p) : ∀ x ∈ aheadP ps (ofP ps k) p (cntK p k), kl x.key k := by
  intro x hx
  rcases List.mem_append.1 hx with hx | hx
  · exact (of_sides h k).1 x hx
  · exact cntK_take x hx
theorem look_yes {ps : Pages} (h : RightP ps) {k : ByteArray} {p : List Pr} (hp : ps[ofP ps k]? = some p) {x : Pr} (hx : p[cntK p k]? = some x) (hk : x.key = k) : lookP ps.flatten k = some x.val := by
  unfold lookP
  rw [flat_pos hp hx, List.append_assoc, find_skip _ _ (fun y hy => kl_ne (ahead_keys h hp y hy)), List.singleton_append, List.find?_cons, hk]
  simp
theorem behind_keys {ps : Pages} (h : RightP ps) {k : ByteArray} {p : List Pr} (hp : ps[ofP ps k]? = some p) : ∀ x ∈ p.drop (cntK p k) ++ (ps.drop (ofP ps k + 1)).flatten, ¬ kl x.key k := by
  intro x hx hlt
  rcases List.mem_append.1 hx with hx | hx
  · obtain ⟨i, hi⟩ := List.mem_iff_getElem?.1 hx
    rw [List.getElem?_drop] at hi
    have := cntK_yes (right_page h hp) (Nat.le_add_right _ i) hi
    unfold kl at hlt
    rw [this] at hlt
    cases hlt
  · exact kl_asym hlt ((of_sides h k).2 x hx)
theorem flat_two {ps : Pages} {k : ByteArray} {p : List Pr} (hp : ps[ofP ps k]? = some p) : ps.flatten = aheadP ps (ofP ps k) p (cntK p k) ++ (p.drop (cntK p k) ++ (ps.drop (ofP ps k + 1)).flatten) := by
  rw [flat_at3 ps _ p hp]
  unfold aheadP
  rw [List.append_assoc, ← List.append_assoc (p.take (cntK p k)), List.take_append_drop]
theorem look_no {ps : Pages} (h : RightP ps) {k : ByteArray} {p : List Pr} (hp : ps[ofP ps k]? = some p) (hh : hasK p k = false) : lookP ps.flatten k = none := by
  unfold lookP
  rw [flat_two hp, find_skip _ _ (fun y hy => kl_ne (ahead_keys h hp y hy))]
  have hall : ∀ y ∈ p.drop (cntK p k) ++ (ps.drop (ofP ps k + 1)).flatten, y.key ≠ k := by
    intro y hy
    rcases List.mem_append.1 hy with hy | hy
    · have hyp := List.mem_of_mem_drop hy
      have h1 := delL_none (right_page h hp) hh
      rw [← h1] at hyp
      exact (delL_mem.1 hyp).2
    · exact fun e => kl_ne ((of_sides h k).2 y hy) e.symm
  have := find_skip (k := k) _ [] hall
  rw [List.append_nil] at this
  rw [this]
  rfl
/-- Is a key below the end? -/
def hiOk (hi : ByteArray) (x : Pr) : Bool := hi.toList.isEmpty || bytesLess x.key.toList hi.toList
theorem within_lo {x : Pr} {lo hi : ByteArray} (h : kl x.key lo) : withinB x.key lo hi = false := by
  unfold withinB
  have : bytesLess x.key.toList lo.toList = true := h
  rw [this]
  rfl
theorem within_hi {x : Pr} {lo hi : ByteArray} (h : ¬ kl x.key lo) : withinB x.key lo hi = hiOk hi x := by
  unfold withinB hiOk
  have : bytesLess x.key.toList lo.toList = false := Bool.eq_false_iff.2 h
  rw [this]
  simp
theorem scan_of {A acc rem : List Pr} {lo hi : ByteArray} {n : Int} (hA : ∀ x ∈ A, kl x.key lo) (hR : ∀ x ∈ acc ++ rem, ¬ kl x.key lo) (hacc : ∀ x ∈ acc, hiOk hi x = true) (hlen : acc = [] ∨ (acc.length : Int) ≤ n) (hend : n ≤ (acc.length : Int) ∨ ∀ x ∈ rem, hiOk hi x = false) : scanL (A ++ (acc ++ rem)) lo hi n = acc := by
  unfold scanL
  rw [List.filter_append, List.filter_append]
  have e1 : A.filter (fun x => withinB x.key lo hi) = [] := by
    rw [List.filter_eq_nil_iff]
    intro x hx
    rw [within_lo (hA x hx)]
    simp
  have e2 : acc.filter (fun x => withinB x.key lo hi) = acc := by
    rw [List.filter_eq_self]
    intro x hx
    rw [within_hi (hR x (by simp [hx]))]
    exact hacc x hx
  rw [e1, e2, List.nil_append]
  rcases hend with h | h
  · rcases hlen with rfl | h2
    · have : n.toNat = 0 := by simp at h; omega
      rw [this]
      rfl
    · have : n.toNat = acc.length := by omega
      rw [this, List.take_left]
  · have e3 : rem.filter (fun x => withinB x.key lo hi) = [] := by
      rw [List.filter_eq_nil_iff]
      intro x hx
      rw [within_hi (hR x (by simp [hx])), h x hx]
      simp
    rw [e3, List.append_nil]
    rcases hlen with rfl | h2
    · simp
    · exact List.take_of_length_le (by omega)
/-- Behind one that is not below the end none is. -/
theorem hi_rest {l : List Pr} {x : Pr} {hi : ByteArray} (hr : Rises (x :: l)) (h : hiOk hi x = false) : ∀ y ∈ x :: l, hiOk hi y = false := by
  intro y hy
  rcases List.mem_cons.1 hy with rfl | hy
  · exact h
  · unfold hiOk at h ⊢
    rw [Bool.or_eq_false_iff] at h ⊢
    refine ⟨h.1, ?_⟩
    rw [Bool.eq_false_iff]
    intro hb
    unfold Rises at hr
    have := kl_trans ((List.pairwise_cons.1 hr).1 y hy) hb
    unfold kl at this
    rw [h.2] at this
    cases this
/-- What is left from a place on. -/
def remP (ps : Pages) (i j : Nat) : List Pr := match ps[i]? with
  | none => []
  | some p => p.drop j ++ (ps.drop (i + 1)).flatten
theorem rem_next {ps : Pages} {i : Nat} {p : List Pr} (hp : ps[i]? = some p) : remP ps i p.length = remP ps (i + 1) 0 := by
  unfold remP
  rw [hp]
  simp only
  rw [List.drop_length, List.nil_append]
  cases h : ps[i + 1]? with
  | none =>
    rw [List.drop_eq_nil_of_le (by rw [List.getElem?_eq_none_iff] at h; exact h)]
    rfl
  | some q =>
    simp only
    rw [drop_at h]
    simp
theorem rem_step {ps : Pages} {i j : Nat} {p : List Pr} {x : Pr} (hp : ps[i]? = some p) (hx : p[j]? = some x) : remP ps i j = x :: remP ps i (j + 1) := by
  unfold remP
  rw [hp]
  simp only
  rw [drop_at hx]
  rfl
theorem rem_end {ps : Pages} {i j : Nat} (h : ps.length ≤ i) : remP ps i j = [] := by
  unfold remP
  rw [List.getElem?_eq_none h]
/-- Where a scan stands. -/
structure ScanS (ps : Pages) (lo hi : ByteArray) (n : Int) (i j : Nat) (acc : List Pr) : Prop where
  split : ∃ A, ps.flatten = A ++ (acc ++ remP ps i j) ∧ (∀ x ∈ A, kl x.key lo) ∧ ∀ x ∈ acc ++ remP ps i j, ¬ kl x.key lo
  ok : ∀ x ∈ acc, hiOk hi x = true
  len : acc = [] ∨ (acc.length : Int) ≤ n
theorem scan_start {ps : Pages} (h : RightP ps) {lo : ByteArray} {p : List Pr} (hp : ps[ofP ps lo]? = some p) (hi : ByteArray) (n : Int) : ScanS ps lo hi n (ofP ps lo) (cntK p lo) [] := by
  have e : remP ps (ofP ps lo) (cntK p lo) = p.drop (cntK p lo) ++ (ps.drop (ofP ps lo + 1)).flatten := by
    unfold remP
    rw [hp]
  refine ⟨⟨_, by rw [List.nil_append, e]; exact flat_two hp, ahead_keys h hp, by rw [List.nil_append, e]; exact behind_keys h hp⟩, by simp, .inl rfl⟩
theorem scan_more {ps : Pages} {lo hi : ByteArray} {n : Int} {i j : Nat} {acc p : List Pr} {x : Pr} (h : ScanS ps lo hi n i j acc) (hp : ps[i]? = some p) (hx : p[j]? = some x) (hn : (acc.length : Int) < n) (hok : hiOk hi x = true) : ScanS ps lo hi n i (j + 1) (acc ++ [x]) := by
  obtain ⟨⟨A, h1, h2, h3⟩, h4, h5⟩ := h
  rw [rem_step hp hx] at h1 h3
  refine ⟨⟨A, by rw [h1]; simp, h2, by simpa using h3⟩, ?_, ?_⟩
  · intro y hy
    rcases List.mem_append.1 hy with hy | hy
    · exact h4 y hy
    · rw [List.mem_singleton.1 hy]
      exact hok
  · right
    rw [List.length_append]
    simp
    omega
theorem scan_page {ps : Pages} {lo hi : ByteArray} {n : Int} {i : Nat} {acc p : List Pr} (h : ScanS ps lo hi n i p.length acc) (hp : ps[i]? = some p) : ScanS ps lo hi n (i + 1) 0 acc := by
  obtain ⟨h1, h4, h5⟩ := h
  rw [rem_next hp] at h1
  exact ⟨h1, h4, h5⟩
theorem scan_full {ps : Pages} {lo hi : ByteArray} {n : Int} {i j : Nat} {acc : List Pr} (h : ScanS ps lo hi n i j acc) (hn : n ≤ (acc.length : Int)) : scanL ps.flatten lo hi n = acc := by
  obtain ⟨⟨A, h1, h2, h3⟩, h4, h5⟩ := h
  rw [h1]
  exact scan_of h2 h3 h4 h5 (.inl hn)
theorem scan_over {ps : Pages} (hr : RightP ps) {lo hi : ByteArray} {n : Int} {i j : Nat} {acc p : List Pr} {x : Pr} (h : ScanS ps lo hi n i j acc) (hp : ps[i]? = some p) (hx : p[j]? = some x) (hok : hiOk hi x = false) : scanL ps.flatten lo hi n = acc := by
  obtain ⟨⟨A, h1, h2, h3⟩, h4, h5⟩ := h
  have hrr := hr.2
  rw [h1] at hrr ⊢
  rw [rem_step hp hx] at hrr
  unfold Rises at hrr
  have h6 := (List.pairwise_append.1 (List.pairwise_append.1 hrr).2.1).2.1
  refine scan_of h2 h3 h4 h5 (.inr ?_)
  rw [rem_step hp hx]
  exact hi_rest h6 hok
theorem scan_end {ps : Pages} {lo hi : ByteArray} {n : Int} {i j : Nat} {acc : List Pr} (h : ScanS ps lo hi n i j acc) (hi' : ps.length ≤ i) : scanL ps.flatten lo hi n = acc := by
  obtain ⟨⟨A, h1, h2, h3⟩, h4, h5⟩ := h
  rw [h1]
  refine scan_of h2 h3 h4 h5 (.inr ?_)
  rw [rem_end hi']
  simp
end Go.Proofs.Ytdmkmhjalcfchaa.Num
