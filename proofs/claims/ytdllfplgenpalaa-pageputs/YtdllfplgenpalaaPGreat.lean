/-
  Contracts: has it more than a statement goes through?
-/
import Derived.Test.YtdllfplgenpalaaPMem
import Derived.Test.YtdllfplgenpalaaPRgM
namespace Go.Proofs.Ytdllfplgenpalaa
open Go.RowKit Num
set_option linter.unusedVariables false

/-- What is not too much. -/
def Num.SmallQ (ps : Pages) : Prop := ps.length ≤ 400 ∧ (∀ p ∈ ps, p.length ≤ 400) ∧ ps.flatten.length ≤ 400
def Num.GreatTells (ps : Pages) (e : Ending) : Prop := ∃ b : Bool, e = .returned (.bool b) ∧ (b = false → SmallQ ps)
set_option maxRecDepth 100000 in
set_option maxHeartbeats 2000000 in
theorem great_sum (ps : Pages) (ao : Option Addr) (cap : Nat) (w : World) (hl : LiesPg w w.heap.size ao ps) :
    Calls Try.prog 8 #[.slice ao ps.length cap] w fun e w' => GreatTells ps e ∧ w' = w := by
  go_enter Try.func8, Try.ntmps8
  go_wp2
  go_loop [3, 4] (fun v i => ∃ (k n : Nat), k ≤ ps.length ∧ k ≤ n ∧ n ≤ 801 ∧ i = .int .i64 (k : Int) ∧ v = .int .i64 (n : Int) ∧ Hid (n ≤ 400 → (∀ j p, j < k → ps[j]? = some p → p.length ≤ 400) ∧ n = k + (ps.take k).flatten.length)) (fun _ i => ps.length - (intOf i).toNat)
  case atStart => exact ⟨0, 0, by omega, by omega, by omega, rfl, rfl, fun _ => ⟨fun j p h => absurd h (Nat.not_lt_zero _), by simp⟩⟩
  case round =>
    obtain ⟨k, n, hk, hkn, hn8, rfl, rfl, HK⟩ := hrel
    by_cases hkl : k < ps.length
    · by_cases hn : (n : Int) ≤ 400
      · have HP : Hid (ps[k]? = some ps[k]) := List.getElem?_eq_getElem hkl
        obtain ⟨a, rfl, hblk, bo, c, c0, hl2, hcap⟩ := hl k ps[k] HP.out
        rw [Nat.mul_one] at c0
        generalize ps[k] = p at *
        by_cases hp : (p.length : Int) ≤ 400
        · have HK2 : Hid (n + 1 + p.length ≤ 400 → (∀ j p, j < k + 1 → ps[j]? = some p → p.length ≤ 400) ∧ n + 1 + p.length = k + 1 + (ps.take (k + 1)).flatten.length) := by
            intro h
            obtain ⟨h1, h2⟩ := HK.out (by omega)
            refine ⟨fun j q hj hq => ?_, ?_⟩
            · rcases Nat.lt_or_ge j k with h3 | h3
              · exact h1 j q h3 hq
              · obtain rfl : j = k := by omega
                rw [HP.out] at hq
                cases hq
                omega
            · rw [take_succ_at HP.out, List.flatten_append, List.length_append, show ([p] : Pages).flatten = p by simp]
              omega
          have hmin : min (p.length : Int) 400 = (p.length : Int) := by omega
          clear HK
          go_wp2
          go_loop [5] (fun i => ∃ (j : Nat), j ≤ p.length ∧ i = .int .i64 (j : Int)) (fun i => p.length - (intOf i).toNat)
          case atStart => exact ⟨0, by omega, rfl⟩
          case round =>
            obtain ⟨j, hj, rfl⟩ := hrel
            by_cases hjl : j < p.length
            · by_cases hn2 : (n : Int) + 1 + (p.length : Int) ≤ 400
              · obtain ⟨a2, rfl, hblk2, e0, e1⟩ := hl2 j p[j] (List.getElem?_eq_getElem hjl)
                generalize p[j] = x at *
                by_cases r1 : 1000 < (x.key.size : Int)
                · go_wp2
                  go_ret
                  exact ⟨⟨true, rfl, fun h => by cases h⟩, rfl⟩
                · by_cases r2 : 1000 < (x.val.size : Int)
                  · go_wp2
                    go_ret
                    exact ⟨⟨true, rfl, fun h => by cases h⟩, rfl⟩
                  · go_wp2
                    go_round
                    case rel => exact ⟨j + 1, by omega, by go_num⟩
                    case measure => simp [intOf]; omega
              · go_wp2
                go_round
                case rel => exact ⟨k + 1, n + 1 + p.length, by omega, by omega, by omega, by go_num, by go_num, HK2⟩
                case measure => simp [intOf]; omega
            · go_wp2
              go_round
              case rel => exact ⟨k + 1, n + 1 + p.length, by omega, by omega, by omega, by go_num, by go_num, HK2⟩
              case measure => simp [intOf]; omega
        · have HK2 : Hid (n + 1 + 400 ≤ 400 → (∀ j p, j < k + 1 → ps[j]? = some p → p.length ≤ 400) ∧ n + 1 + 400 = k + 1 + (ps.take (k + 1)).flatten.length) := fun h => by omega
          have hmin : min (p.length : Int) 400 = 400 := by omega
          clear HK
          have hn2 : ¬ (n : Int) + 1 + 400 ≤ 400 := by omega
          have hpos : (0 : Int) < (p.length : Int) := by omega
          go_wp2
          go_loop [5] (fun i => i = .int .i64 0) (fun i => 0)
          case atStart => rfl
          case round =>
            obtain rfl := hrel
            go_wp2
            go_round
            case rel => exact ⟨k + 1, n + 1 + 400, by omega, by omega, by omega, by go_num, by go_num, HK2⟩
            case measure => simp [intOf]; omega
      · have hg : (400 : Int) < (n : Int) := by omega
        go_wp2
        go_ret
        exact ⟨⟨true, rfl, fun h => by cases h⟩, rfl⟩
    · obtain rfl : k = ps.length := by omega
      by_cases hg : (400 : Int) < (n : Int)
      · go_wp2
        go_ret
        exact ⟨⟨true, rfl, fun h => by cases h⟩, rfl⟩
      · have HS : Hid (SmallQ ps) := by
          obtain ⟨h1, h2⟩ := HK.out (by omega)
          rw [List.take_length] at h2
          refine ⟨by omega, fun p hp => ?_, by omega⟩
          obtain ⟨i, hi⟩ := List.mem_iff_getElem?.1 hp
          exact h1 i p (List.getElem?_eq_some_iff.1 hi).1 hi
        go_wp2
        go_ret
        exact ⟨⟨false, rfl, fun _ => HS.out⟩, rfl⟩
end Go.Proofs.Ytdllfplgenpalaa
