/-
  What ApplyTimes asks, as plain data: a machine with one write, maybe a second one; what becomes of a command that read behind the first.
-/
import Derived.Test.YtclliljkmmpglaaGreatApT
namespace Go.Proofs.YtclliljkmmpglaaGreat
open Go.RowKit Go.Maps Num
open scoped Classical
set_option linter.unusedVariables false
set_option maxRecDepth 100000

theorem next_ok {m : Mac} {t : Int} {c : Cmd} (hv : verd m t c 0 = (3, 0)) : nextM m t c 0 = ⟨m.room, t, writeS t m.st c.wrts, m.dones ++ [⟨c.client, c.seq, t, 0⟩], keepL m.last c.client (c.seq, 0), m.lim + 1⟩ ∧ doneV m t c 0 = ⟨c.client, c.seq, t, 0⟩ := by
  unfold nextM doneV
  rw [hv]
  simp only [if_neg (by decide : ¬ (3 : Int) = 1), if_neg (by decide : ¬ (3 : Int) = 2), if_pos]
  exact ⟨trivial, trivial⟩
theorem next_not {m : Mac} {t : Int} {c : Cmd} {p : Int} (hp : p ≠ 0) (hv : verd m t c 0 = (3, p)) : nextM m t c 0 = ⟨m.room, t, m.st, m.dones ++ [⟨c.client, c.seq, t, p⟩], keepL m.last c.client (c.seq, p), m.lim + 1⟩ ∧ doneV m t c 0 = ⟨c.client, c.seq, t, p⟩ := by
  unfold nextM doneV
  rw [hv]
  simp only [if_neg (by decide : ¬ (3 : Int) = 1), if_neg (by decide : ¬ (3 : Int) = 2), if_neg hp]
  exact ⟨trivial, trivial⟩
theorem put_new (s : Sto) (v : Ver) (h1 : 1 ≤ v.time) (h2 : v.time < 1099511627776) (h3 : s.top ≤ v.time) (hg : v.gone = false) (hl : lastAt (lastA s.vs v.key) v.time = false) (hr : (s.vs.length : Int) < s.room) : (putS s v).2 = ⟨s.room, v.time, s.vs ++ [v]⟩ := by
  unfold putS
  rw [if_neg (by omega), if_neg (by rw [hg]; simp), if_neg (by rw [hl]; decide), if_neg (by omega)]
theorem last_early {l : List Ver} {k : ByteArray} {t : Int} (h : ∀ x ∈ l, x.time ≠ t) : lastAt (lastA l k) t = false := by
  cases hl : lastA l k with
  | none => rfl
  | some x => exact decide_eq_false (h x (lastA_mem hl).1)
theorem get_snoc {l : List Ver} {v : Ver} {t : Int} (h : v.time ≤ t) (hg : v.gone = false) : getV (l ++ [v]) v.key t = some v.val := by
  have e : verT [v] v.key t = [v] := by
    have h1 : isKey v.key v = true := isKey_iff.2 rfl
    simp [verT, h1, h]
  unfold getV lastV
  rw [verT_append, e]
  simp [hg]
theorem get_none {l : List Ver} {k : ByteArray} {t : Int} (h : ∀ x ∈ l, x.key ≠ k) : getV l k t = none := by
  have e : verT l k t = [] := by
    unfold verT
    rw [List.filter_eq_nil_iff]
    intro x hx
    rw [isKey_no (h x hx)]
    simp
  unfold getV lastV
  rw [e]
  rfl
def Num.tmA : Cmd := oneC 0 0 0 [] [] ⟨⟨#[97]⟩, ⟨#[49]⟩, false⟩ 0 0
def Num.tmB (k : ByteArray) : Cmd := oneC 0 0 4 [] [] ⟨k, ⟨#[50]⟩, false⟩ 0 0
def Num.tmC (dead aft : Int) : Cmd := oneC 0 0 4 [⟨#[97]⟩] [⟨⟨#[98]⟩, ⟨#[99]⟩⟩] ⟨⟨#[122]⟩, ⟨#[57]⟩, false⟩ dead aft
def Num.tm1 : Mac := ⟨500, 3, ⟨500, 3, [⟨⟨#[97]⟩, 3, ⟨#[49]⟩, false⟩]⟩, [⟨0, 0, 3, 0⟩], fun _ => none, 1⟩
def Num.tm2 (k : ByteArray) : Mac := ⟨500, 5, ⟨500, 5, [⟨⟨#[97]⟩, 3, ⟨#[49]⟩, false⟩, ⟨k, 5, ⟨#[50]⟩, false⟩]⟩, [⟨0, 0, 3, 0⟩, ⟨0, 0, 5, 0⟩], fun _ => none, 2⟩
theorem tmA_ok : CmdOk tmA ∧ (cmdB tmA).length ≤ 19996 := ⟨one_ok (by omega) (timeC_small (by omega)) (timeC_small (by omega)) (timeC_small (by omega)) (timeC_small (by omega)) (by simp) (fun k hk => by cases hk) (by simp) (fun r hr => by cases hr) ⟨by decide, by decide, rfl⟩, one_len (by simp) (fun k hk => by cases hk) (by simp) (fun r hr => by cases hr) ⟨by decide, by decide, rfl⟩⟩
theorem tmB_ok {k : ByteArray} (hk : k.size ≤ 10) : CmdOk (tmB k) ∧ (cmdB (tmB k)).length ≤ 19996 := ⟨one_ok (by omega) (timeC_small (by omega)) (timeC_small (by omega)) (timeC_small (by omega)) (timeC_small (by omega)) (by simp) (fun k hk => by cases hk) (by simp) (fun r hr => by cases hr) ⟨hk, (by decide : (⟨#[50]⟩ : ByteArray).size ≤ 10), rfl⟩, one_len (by simp) (fun k hk => by cases hk) (by simp) (fun r hr => by cases hr) ⟨hk, (by decide : (⟨#[50]⟩ : ByteArray).size ≤ 10), rfl⟩⟩
theorem tmC_ok {dead aft : Int} (h1 : 0 ≤ dead ∧ dead ≤ 1000) (h2 : 0 ≤ aft ∧ aft ≤ 1000) : CmdOk (tmC dead aft) ∧ (cmdB (tmC dead aft)).length ≤ 19996 := by
  have hk : ∀ k ∈ ([⟨#[97]⟩] : List ByteArray), k.size ≤ 10 := fun k hk => by
    have e : k = ⟨#[97]⟩ := by simpa using hk
    subst e
    decide
  have hr : ∀ r ∈ ([⟨⟨#[98]⟩, ⟨#[99]⟩⟩] : List Rng), r.lo.size ≤ 10 ∧ r.hi.size ≤ 10 := fun r hr => by
    have e : r = ⟨⟨#[98]⟩, ⟨#[99]⟩⟩ := by simpa using hr
    subst e
    decide
  exact ⟨one_ok (by omega) (timeC_small (by omega)) (timeC_small (by omega)) (timeC_small h1) (timeC_small h2) (by simp) hk (by simp) hr ⟨by decide, by decide, rfl⟩, one_len (by simp) hk (by simp) hr ⟨by decide, by decide, rfl⟩⟩
theorem tm_next1 : nextM (newM 500) 3 tmA 0 = tm1 := by
  have hv : verd (newM 500) 3 tmA 0 = (3, 0) := by
    rw [verd_5 (by show ¬ ((3 : Int) ≤ 0 ∨ _); omega) rfl (by decide)]
    congr 1
  rw [(next_ok hv).1]
  have e : writeS 3 (newM 500).st tmA.wrts = ⟨500, 3, [⟨⟨#[97]⟩, 3, ⟨#[49]⟩, false⟩]⟩ := put_one 500 (by decide) ⟨⟨#[97]⟩, 3, ⟨#[49]⟩, false⟩ (by decide) (by decide) rfl
  rw [e]
  rfl
theorem tm_next2 (k : ByteArray) : nextM tm1 5 (tmB k) 0 = tm2 k := by
  have hv : verd tm1 5 (tmB k) 0 = (3, 0) := by
    rw [verd_5 (by show ¬ ((5 : Int) ≤ 3 ∨ _); omega) rfl (by show (2 : Int) ≠ 0; decide)]
    have hn := needs_le tm1.st.vs 5 (tmB k).wrts
    have hn2 : (tmB k).wrts.length = 1 := rfl
    unfold codeV
    rw [if_neg (by show ¬ (5 : Int) ≤ 4; omega), if_neg (by show ¬ ((0 : Int) ≠ 0 ∧ _); simp), if_neg (by show ¬ (5 : Int) < 0; omega), if_neg (by show ¬ (false || false) = true; decide), if_neg (by show ¬ (500 : Int) - ((1 : Nat) : Int) < _; omega)]
  rw [(next_ok hv).1]
  have e : writeS 5 tm1.st (tmB k).wrts = ⟨500, 5, [⟨⟨#[97]⟩, 3, ⟨#[49]⟩, false⟩, ⟨k, 5, ⟨#[50]⟩, false⟩]⟩ := put_new tm1.st ⟨k, 5, ⟨#[50]⟩, false⟩ (by show (1 : Int) ≤ 5; decide) (by show (5 : Int) < 1099511627776; decide) (by show (3 : Int) ≤ 5; decide) rfl (last_early (by
    intro x hx
    have e : x = ⟨⟨#[97]⟩, 3, ⟨#[49]⟩, false⟩ := by simpa [tm1] using hx
    subst e
    show (3 : Int) ≠ 5
    decide)) (by decide)
  rw [e]
  rfl
/-- What becomes of the last command, and what stands at its key then. -/
theorem tm_last (m : Mac) (t dead aft : Int) (touched : Bool) (ht : 10 ≤ t ∧ t ≤ 300) (hm : m.time ≤ 5) (hs : m.st.top ≤ 5 ∧ m.st.room = 500 ∧ m.room = 500 ∧ m.st.vs.length ≤ 2 ∧ (∀ x ∈ m.st.vs, x.time ≤ 5 ∧ x.key ≠ ⟨#[122]⟩) ∧ m.last 0 = none) (htu : turnedB m.st.vs 4 [⟨#[97]⟩] [⟨⟨#[98]⟩, ⟨#[99]⟩⟩] = touched) (W : Int) (hW : W = if dead ≠ 0 ∧ dead < t then 14 else if t < aft then 15 else if touched = true then 13 else 0) :
    (doneV m t (tmC dead aft) 0).code = W ∧ lookB (getV (nextM m t (tmC dead aft) 0).st.vs ⟨#[122]⟩ t) = decide (W = 0) := by
  obtain ⟨h1, h2, h3, h4, h5, h6⟩ := hs
  have hn := needs_le m.st.vs t (tmC dead aft).wrts
  have hn2 : (tmC dead aft).wrts.length = 1 := rfl
  have hag : (againV (m.last (tmC dead aft).client) (tmC dead aft).seq).1 = 0 := by
    show (againV (m.last 0) 0).1 = 0
    rw [h6]
    rfl
  have hcode : codeV m t (tmC dead aft) = W := by
    unfold codeV
    rw [hW, if_neg (by show ¬ t ≤ 4; omega)]
    show (if dead ≠ 0 ∧ dead < t then _ else if t < aft then _ else if turnedB m.st.vs 4 [⟨#[97]⟩] [⟨⟨#[98]⟩, ⟨#[99]⟩⟩] = true then _ else _) = _
    rw [htu, if_neg (show ¬ m.room - (m.st.vs.length : Int) < _ by rw [h3]; omega)]
  have hv : verd m t (tmC dead aft) 0 = (3, W) := by
    rw [verd_5 (by omega) hag (by show (2 : Int) ≠ 0; decide), hcode]
  have hno : getV m.st.vs ⟨#[122]⟩ t = none := get_none fun x hx => (h5 x hx).2
  by_cases hz : W = 0
  · rw [hz] at hv
    rw [(next_ok hv).1, (next_ok hv).2, hz]
    refine ⟨rfl, ?_⟩
    have e : writeS t m.st (tmC dead aft).wrts = ⟨m.st.room, t, m.st.vs ++ [⟨⟨#[122]⟩, t, ⟨#[57]⟩, false⟩]⟩ := put_new m.st ⟨⟨#[122]⟩, t, ⟨#[57]⟩, false⟩ (by show 1 ≤ t; omega) (by show t < _; omega) (by show m.st.top ≤ t; omega) rfl (last_early (fun x hx => by have := (h5 x hx).1; show x.time ≠ t; omega)) (by rw [h2]; omega)
    rw [e]
    show lookB (getV (m.st.vs ++ [⟨⟨#[122]⟩, t, ⟨#[57]⟩, false⟩]) ⟨#[122]⟩ t) = _
    rw [get_snoc (v := ⟨⟨#[122]⟩, t, ⟨#[57]⟩, false⟩) (Int.le_refl t) rfl]
    rfl
  · rw [(next_not hz hv).1, (next_not hz hv).2]
    refine ⟨rfl, ?_⟩
    show lookB (getV m.st.vs ⟨#[122]⟩ t) = _
    rw [hno, decide_eq_false hz]
    rfl
theorem tm1_facts : tm1.time ≤ 5 ∧ (tm1.st.top ≤ 5 ∧ tm1.st.room = 500 ∧ tm1.room = 500 ∧ tm1.st.vs.length ≤ 2 ∧ (∀ x ∈ tm1.st.vs, x.time ≤ 5 ∧ x.key ≠ ⟨#[122]⟩) ∧ tm1.last 0 = none) ∧ turnedB tm1.st.vs 4 [⟨#[97]⟩] [⟨⟨#[98]⟩, ⟨#[99]⟩⟩] = false := by
  refine ⟨by decide, ⟨by decide, rfl, rfl, by decide, ?_, rfl⟩, by decide +kernel⟩
  intro x hx
  have e : x = ⟨⟨#[97]⟩, 3, ⟨#[49]⟩, false⟩ := by simpa [tm1] using hx
  subst e
  exact ⟨by decide, by decide⟩
theorem tm2_facts (k : ByteArray) (hk : k = ⟨#[97]⟩ ∨ k = ⟨#[98]⟩ ∨ k = ⟨#[98, 98]⟩) : (tm2 k).time ≤ 5 ∧ ((tm2 k).st.top ≤ 5 ∧ (tm2 k).st.room = 500 ∧ (tm2 k).room = 500 ∧ (tm2 k).st.vs.length ≤ 2 ∧ (∀ x ∈ (tm2 k).st.vs, x.time ≤ 5 ∧ x.key ≠ ⟨#[122]⟩) ∧ (tm2 k).last 0 = none) ∧ turnedB (tm2 k).st.vs 4 [⟨#[97]⟩] [⟨⟨#[98]⟩, ⟨#[99]⟩⟩] = true := by
  refine ⟨Int.le_refl _, ⟨Int.le_refl _, rfl, rfl, Nat.le_refl _, ?_, rfl⟩, ?_⟩
  · intro x hx
    have e : x = ⟨⟨#[97]⟩, 3, ⟨#[49]⟩, false⟩ ∨ x = ⟨k, 5, ⟨#[50]⟩, false⟩ := by simpa [tm2] using hx
    rcases e with rfl | rfl
    · exact ⟨by decide, by decide⟩
    · refine ⟨Int.le_refl _, ?_⟩
      rcases hk with rfl | rfl | rfl <;> decide
  · rcases hk with rfl | rfl | rfl <;> decide +kernel
end Go.Proofs.YtclliljkmmpglaaGreat
