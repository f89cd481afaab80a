/-
  Contracts: which values may be.
-/
import Derived.Test.YtiajlhjjmlakmaaGreatDoorRef
import Derived.Test.YtiajlhjjmlakmaaGreatDoorVDef
import Derived.BigQuiet
import Derived.WalkSmall
namespace Go.Proofs.YtiajlhjjmlakmaaGreatDoor
open Go.RowKit Num

theorem may_float_yes (f : Nat) (hc : canon f = f) (s : ByteArray) (w : World) :
    Calls Tryz.prog 112 #[.agg #[.int .i64 3, .int .i64 0, .int .u64 (f : Int), .string s]] w fun e w' => e = .returned (.bool (s.toList.isEmpty)) ∧ Below w.heap.size w w' := by
  have hcf : ∀ w, Calls Tryz.prog 93 #[.int .u64 (f : Int)] w fun e w' => e = .returned (.int .u64 (f : Nat)) ∧ w' = w := fun w => by have := canon_any f w; rw [hc] at this; exact this
  clear hc
  go_enter Tryz.func112, Tryz.ntmps112
  go_wp2_with fail
  go_quiet ((go_at_call 93; refine Calls.quiet_of_same (hcf _)))
  go_wp2
  go_ret
  exact ⟨rfl, below_drewN (Below.alloc (Below.refl _ _) (Nat.le_refl _) _) _⟩
theorem may_float_no (f : Nat) (hc : ¬ canon f = f) (s : ByteArray) (w : World) :
    Calls Tryz.prog 112 #[.agg #[.int .i64 3, .int .i64 0, .int .u64 (f : Int), .string s]] w fun e w' => e = .returned (.bool false) ∧ Below w.heap.size w w' := by
  have hd : (((canon f : Nat) : Int) == (f : Int)) = false := by simp; omega
  have hd2 : decide (((canon f : Nat) : Int) = (f : Int)) = false := by simp; omega
  go_enter Tryz.func112, Tryz.ntmps112
  go_wp2_with fail
  go_quiet ((go_at_call 93; refine Calls.quiet_of_same (canon_any f _)))
  go_wp2
  go_ret
  exact ⟨rfl, below_drewN (Below.alloc (Below.refl _ _) (Nat.le_refl _) _) _⟩
theorem may_float_n (n : Int) (hn : ¬ n = 0) (f : Nat) (s : ByteArray) (w : World) :
    Calls Tryz.prog 112 #[.agg #[.int .i64 3, .int .i64 n, .int .u64 (f : Int), .string s]] w fun e w' => e = .returned (.bool false) ∧ Below w.heap.size w w' := by
  have hd : (n == 0) = false := by simp; omega
  have hd2 : decide (n = 0) = false := by simp; omega
  go_enter Tryz.func112, Tryz.ntmps112
  go_wp2_with fail
  go_quiet (fail)
  go_wp2
  go_ret
  exact ⟨rfl, below_drewN (Below.alloc (Below.refl _ _) (Nat.le_refl _) _) _⟩
theorem may_any (k n : Int) (f : Nat) (s : ByteArray) (w : World) :
    Calls Tryz.prog 112 #[.agg #[.int .i64 k, .int .i64 n, .int .u64 (f : Int), .string s]] w fun e w' => e = .returned (.bool (may k n f s)) ∧ Below w.heap.size w w' := by
  by_cases h3 : k = 3
  · subst h3
    by_cases hn : n = 0
    · subst hn
      by_cases hc : canon f = f
      · have e : may 3 0 f s = s.toList.isEmpty := by simp [may, hc]
        rw [e]
        exact may_float_yes f hc s w
      · have e : may 3 0 f s = false := by simp [may, hc]
        rw [e]
        exact may_float_no f hc s w
    · have e : may 3 n f s = false := by simp [may, hn]
      rw [e]
      exact may_float_n n hn f s w
  · go_enter Tryz.func112, Tryz.ntmps112
    go_wp2_with fail
    all_goals go_ret
    all_goals first
      | (rw [show may k n f s = s.toList.isEmpty by simp_all [may]]; exact ⟨rfl, Below.alloc (Below.refl _ _) (Nat.le_refl _) _⟩)
      | (rw [show may k n f s = decide ((s.size : Int) ≤ 40) by simp_all [may]]; exact ⟨rfl, Below.alloc (Below.refl _ _) (Nat.le_refl _) _⟩)
      | (rw [show may k n f s = false by simp_all [may]]; exact ⟨rfl, Below.alloc (Below.refl _ _) (Nat.le_refl _) _⟩)
end Go.Proofs.YtiajlhjjmlakmaaGreatDoor
