/-
  Tokens stand where they say. No program is named here.
-/
import Derived.Test.YtfgphcleilpelaaDoorLxI
import Derived.Lib.Strings
namespace Go.Proofs.YtfgphcleilpelaaDoor.Num

/-- From a place on tokens stand in order, with blanks between, to the text's end. -/
def Cov (s : ByteArray) : Nat → List Tok → Prop
  | e, [] => e = s.size
  | e, x :: r => e ≤ x.p ∧ x.p + x.t.size ≤ s.size ∧ s.extract x.p (x.p + x.t.size) = x.t ∧ (∀ k (h : k < s.size), e ≤ k → k < x.p → blankB s[k] = true) ∧ (x.k = 0 ↔ r = []) ∧ Cov s (x.p + x.t.size) r
theorem tokL_kind {l : List UInt8} {x : Tk} (h : tokL l = some x) : x.1 ≠ 0 := by
  cases l with
  | nil => simp [tokL] at h
  | cons c r =>
    rw [tokL] at h
    split at h
    · unfold bytesT at h
      split at h
      · split at h
        · obtain rfl := Option.some.inj h
          show (3 : Int) ≠ 0
          omega
        · cases h
      · cases h
    · split at h
      · unfold floatT at h
        split at h
        · split at h
          · obtain rfl := Option.some.inj h
            show (3 : Int) ≠ 0
            omega
          · cases h
        · cases h
      · split at h
        · unfold nameT at h
          split at h
          · obtain rfl := Option.some.inj h
            show (if _ then (1 : Int) else 2) ≠ 0
            split <;> omega
          · cases h
        · split at h
          · unfold intT at h
            split at h
            · split at h
              · obtain rfl := Option.some.inj h
                show (3 : Int) ≠ 0
                omega
              · cases h
            · cases h
          · split at h
            · unfold textT at h
              split at h
              · split at h
                · obtain rfl := Option.some.inj h
                  show (3 : Int) ≠ 0
                  omega
                · cases h
              · cases h
            · split at h
              · obtain rfl := Option.some.inj h
                show (4 : Int) ≠ 0
                omega
              · cases h
theorem lexAt_cov (s : ByteArray) : ∀ (n p : Nat), s.size - p = n → p ≤ s.size →
    ((lexAt s p).1 = none → p ≤ (lexAt s p).2 ∧ (lexAt s p).2 ≤ s.size) ∧ (∀ L, (lexAt s p).1 = some L → L ≠ [] ∧ Cov s p L) := by
  intro n
  induction n using Nat.strongRecOn with
  | ind n ih =>
    intro p hn hp
    have hd : s.data.toList.length = s.size := rfl
    by_cases he : s.size ≤ p
    · rw [lexAt_end s p he]
      refine ⟨fun h => (by cases h), fun L h => ?_⟩
      obtain rfl := Option.some.inj h
      refine ⟨by simp, Nat.le_refl _, ?_, ?_, fun k h h1 h2 => ?_, by simp, ?_⟩
      · show p + 0 ≤ s.size
        omega
      · show s.extract p (p + 0) = ⟨#[]⟩
        rw [ByteArray.ext_iff]
        simp
      · have h2 : k < p := h2
        omega
      · show p + 0 = s.size
        omega
    · have hlt : p < s.size := by omega
      cases hb : blankB s[p] with
      | true =>
        rw [lexAt_blank s p hlt hb]
        obtain ⟨h1, h2⟩ := ih (s.size - (p + 1)) (by omega) (p + 1) rfl (by omega)
        refine ⟨fun h => ?_, fun L h => ?_⟩
        · have := h1 h
          omega
        · obtain ⟨hne, hc⟩ := h2 L h
          refine ⟨hne, ?_⟩
          cases L with
          | nil => exact absurd rfl hne
          | cons x r =>
            obtain ⟨c1, c2, c3, c4, c5, c6⟩ := hc
            refine ⟨by omega, c2, c3, fun k hk h3 h4 => ?_, c5, c6⟩
            by_cases e : k = p
            · subst e
              exact hb
            · exact c4 k hk (by omega) h4
      | false =>
        cases ht : tokL (s.data.toList.drop p) with
        | none =>
          rw [lexAt_bad s p hlt hb ht]
          exact ⟨fun _ => ⟨Nat.le_refl _, hp⟩, fun L h => by cases h⟩
        | some x =>
          obtain ⟨k, m, v⟩ := x
          have hm := tokL_len _ _ ht
          have hk := tokL_kind ht
          rw [List.length_drop, hd] at hm
          have hm : 1 ≤ m ∧ m ≤ s.size - p := hm
          rw [lexAt_tok s p hlt hb k m v ht]
          obtain ⟨h1, h2⟩ := ih (s.size - (p + m)) (by omega) (p + m) rfl (by omega)
          refine ⟨fun h => ?_, fun L h => ?_⟩
          · have h : (lexAt s (p + m)).1.map ([(⟨k, str ((s.data.toList.drop p).take m), v, p⟩ : Tok)] ++ ·) = none := h
            have := h1 (by simpa using h)
            show p ≤ (lexAt s (p + m)).2 ∧ (lexAt s (p + m)).2 ≤ s.size
            omega
          · have h : (lexAt s (p + m)).1.map ([(⟨k, str ((s.data.toList.drop p).take m), v, p⟩ : Tok)] ++ ·) = some L := h
            cases hL : (lexAt s (p + m)).1 with
            | none => rw [hL] at h; cases h
            | some L' =>
              rw [hL] at h
              have h := Option.some.inj h
              subst h
              obtain ⟨hne, hc⟩ := h2 L' hL
              have hts : (str ((s.data.toList.drop p).take m)).size = m := by
                show ((s.data.toList.drop p).take m).length = m
                rw [List.length_take, List.length_drop, hd]
                omega
              refine ⟨by simp, Nat.le_refl _, ?_, ?_, fun k h h1 h2 => ?_, ?_, ?_⟩
              · show p + (str ((s.data.toList.drop p).take m)).size ≤ s.size
                rw [hts]
                omega
              · show s.extract p (p + (str ((s.data.toList.drop p).take m)).size) = str ((s.data.toList.drop p).take m)
                rw [hts]
                have e := Go.Lib.extract_data s p (p + m)
                have e2 : (str ((s.data.toList.drop p).take m)).data.toList = (s.data.toList.drop p).take m := by simp [str]
                apply ByteArray.ext
                apply Array.toList_inj.1
                rw [e, e2]
                congr 1
                omega
              · have h2 : k < p := h2
                have h1 : p ≤ k := h1
                omega
              · exact ⟨fun e => absurd e hk, fun e => absurd e hne⟩
              · show Cov s (p + (str ((s.data.toList.drop p).take m)).size) L'
                rw [hts]
                exact hc
end Go.Proofs.YtfgphcleilpelaaDoor.Num
