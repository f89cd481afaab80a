/-
  What the walks of package seal share: memory that is new alone; 'string(b)' of bytes in memory; the sum's turns as the walk spells them.
-/
import Derived.Test.YtiajlhjjmlakmaaGreatDoorRows
import Derived.Test.YtiajlhjjmlakmaaGreatDoorSSumM
import Derived.WalkKit
import Derived.ProofKit
import Derived.WalkSpells
import Derived.WalkLawsBesides
import Derived.BigQuiet
import Derived.WalkSmall
import Derived.Laws.IdiomStrings
import Derived.Laws.BitsAllLaws
namespace Go.Proofs.YtiajlhjjmlakmaaGreatDoor
open Go.RowKit Num

theorem below_next {B : Nat} {a w w' : World} (h : Below B a w) (hB : B ≤ a.heap.size) (h2 : Below w.heap.size w w') : Below B a w' := h.trans (h2.mono (Nat.le_trans hB h.size))

theorem shN_succ : ∀ (n x : Nat), shN (n + 1) x = sh (shN n x)
  | 0, _ => rfl
  | n + 1, x => by
    show shN (n + 1) (sh x) = sh (shN n (sh x))
    exact shN_succ n (sh x)
theorem stS_snoc : ∀ (l : List UInt8) (h : Nat) (b : UInt8), stS h (l ++ [b]) = shN 8 (stS h l ^^^ b.toNat)
  | [], _, _ => rfl
  | _ :: r, _, b => stS_snoc r _ b
theorem take_next (s : ByteArray) (k : Nat) (hk : k < s.size) : s.data.toList.take (k + 1) = s.data.toList.take k ++ [s[k]] := by
  have hd : s.data.toList.length = s.size := rfl
  rw [List.take_succ_eq_append_getElem (by omega)]
  rfl
theorem st_next (s : ByteArray) (k : Nat) (hk : k < s.size) (h : Nat) : stS h (s.data.toList.take (k + 1)) = shN 8 (stS h (s.data.toList.take k) ^^^ s[k].toNat) := by
  rw [take_next s k hk, stS_snoc]
/-- A turn, as the walk spells it. -/
theorem and_low (Y : Nat) (hY : Y < 4294967296) : bits .and .u32 (Y : Int) 1 = ((Y % 2 : Nat) : Int) := by
  have h := u32_and_nat Y 1 hY (by omega)
  rw [Nat.and_one_is_mod] at h
  exact h
theorem turn_odd (Y : Nat) (hY : Y < 4294967296) (h : Y % 2 = 1) : bits .xor .u32 ((Y : Int) / 2) 2197175160 = ((sh Y : Nat) : Int) := by
  have h2 := u32_xor_nat (Y / 2) 2197175160 (by omega) (by omega)
  have e : sh Y = Y / 2 ^^^ 2197175160 := by unfold sh; rw [if_pos h]
  rw [e, ← h2]
  rfl
theorem turn_even (Y : Nat) (h : Y % 2 = 0) : ((Y : Int) / 2) = ((sh Y : Nat) : Int) := by
  have e : sh Y = Y / 2 := by unfold sh; rw [if_neg (by omega)]
  rw [e]
  rfl
theorem not_sum (l : List UInt8) : bits .xor .u32 IntKind.u32.max ((stS 4294967295 l : Nat) : Int) = ((sumL l : Nat) : Int) := by
  have h := u32_xor_nat 4294967295 (stS 4294967295 l) (by omega) (stS_lt l (by omega))
  unfold sumL
  rw [Nat.xor_comm, ← h]
  rfl
end Go.Proofs.YtiajlhjjmlakmaaGreatDoor
