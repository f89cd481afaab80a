/-
  Contracts: has it more than a statement goes through? An error's number.
-/
import Derived.Test.YtpimkfichadiiaaMsMem
namespace Go.Proofs.Ytpimkfichadiiaa
open Go.RowKit Num
set_option linter.unusedVariables false

theorem num_any (n : Int) (w : World) : Calls Try.prog 14 #[.int .i64 n] w fun e w' => e = .returned (.int .i64 n) ∧ w' = w := by
  go_enter Try.func14, Try.ntmps14
  go_wp2
  go_ret
  exact ⟨rfl, rfl⟩
/-- What is not too much. -/
def Num.SmallM (l : Msgs) : Prop := l.length ≤ 1000 ∧ ∀ m ∈ l, m.log.length ≤ 1000
def Num.HeavyTells (l : Msgs) (e : Ending) : Prop := ∃ b : Bool, e = .returned (.bool b) ∧ (b = false → SmallM l)
set_option maxRecDepth 100000 in
set_option maxHeartbeats 2000000 in
theorem heavy_any (l : Msgs) (ao : Option Addr) (cap : Nat) (w : World) (hl : LiesM w w.heap.size ao l) :
    Calls Try.prog 7 #[.slice ao l.length cap] w fun e w' => HeavyTells l e ∧ w' = w := by
  go_enter Try.func7, Try.ntmps7
  go_wp2
  go_loop [3, 4] (fun v i => ∃ (k n : Nat), k ≤ l.length ∧ k ≤ 1000 ∧ n ≤ k * 1001 ∧ i = .int .i64 (k : Int) ∧ v = .int .i64 (n : Int) ∧ Hid (n ≤ 1000 → ∀ j m, j < k → l[j]? = some m → m.log.length ≤ 1000)) (fun _ i => l.length - (intOf i).toNat)
  case atStart => exact ⟨0, 0, by omega, by omega, by omega, rfl, rfl, fun _ j p h => absurd h (Nat.not_lt_zero _)⟩
  case round =>
    obtain ⟨k, n, hk, hk1, hn8, rfl, rfl, HK⟩ := hrel
    by_cases hkl : k < l.length
    · by_cases hk2 : (k : Int) < 1000
      · have HP : Hid (l[k]? = some l[k]) := List.getElem?_eq_getElem hkl
        obtain ⟨a, rfl, hblk, _, _, _, _, _, _, _, bo, c, c0, hl2⟩ := hl k l[k] HP.out
        have i1 : (k : Int) < (l.length : Int) := by omega
        generalize l[k] = y at *
        obtain ⟨M, hM⟩ : ∃ M : Nat, M = min y.log.length 1000 := ⟨_, rfl⟩
        have hmin : min (y.log.length : Int) 1000 = (M : Int) := by omega
        have HK2 : Hid (n + 1 + M ≤ 1000 → ∀ j m, j < k + 1 → l[j]? = some m → m.log.length ≤ 1000) := by
          intro h j m hj hm
          rcases Nat.lt_or_ge j k with h3 | h3
          · exact HK.out (by omega) j m h3 hm
          · obtain rfl : j = k := by omega
            rw [HP.out] at hm
            cases hm
            omega
        have hMM : M ≤ 1000 := by omega
        clear HK hM
        go_wp2
        go_round
        case rel => exact ⟨k + 1, n + 1 + M, by omega, by omega, by omega, by go_num, by go_num, HK2⟩
        case measure => simp [intOf]; omega
      · by_cases hn1 : 1000 < (n : Int)
        · go_wp2
          go_ret
          exact ⟨⟨true, rfl, fun h => by cases h⟩, rfl⟩
        · have hk3 : k = 1000 := by omega
          have hl3 : 1000 < (l.length : Int) := by omega
          go_wp2
          go_ret
          exact ⟨⟨true, rfl, fun h => by cases h⟩, rfl⟩
    · have hke : k = l.length := by omega
      have hfin : n ≤ 1000 → SmallM l := fun hn => ⟨by omega, fun m hm => by
        obtain ⟨j, hj⟩ := List.mem_iff_getElem?.1 hm
        exact HK.out hn j m (by have := (List.getElem?_eq_some_iff.1 hj).1; omega) hj⟩
      have hl3 : ¬ 1000 < (l.length : Int) := by omega
      clear HK
      by_cases hn1 : 1000 < (n : Int)
      · go_wp2
        go_ret
        exact ⟨⟨true, rfl, fun h => by cases h⟩, rfl⟩
      · have hf2 := hfin (by omega)
        go_wp2
        go_ret
        exact ⟨⟨false, rfl, fun _ => hf2⟩, rfl⟩
end Go.Proofs.Ytpimkfichadiiaa
