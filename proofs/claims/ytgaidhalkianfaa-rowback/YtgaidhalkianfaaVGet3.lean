/-
  Contracts: the document's own text behind its head.
-/
import Derived.Test.YtgaidhalkianfaaVGet2
namespace Go.Proofs.Ytgaidhalkianfaa
open Go.RowKit Num
set_option linter.unusedVariables false

/-- What the document's own text returns. -/
def Num.textR (l : List UInt8) : Value := match textL l with
  | some p => .tuple #[.string (str p.1), .int .i64 (p.2 : Int), .bool true]
  | none => .tuple #[.string ⟨#[]⟩, .int .i64 0, .bool false]
theorem textR_none {l : List UInt8} (h : textL l = none) : textR l = .tuple #[.string ⟨#[]⟩, .int .i64 0, .bool false] := by unfold textR; rw [h]
theorem textR_some {l B : List UInt8} {n : Nat} (h : textL l = some (B, n)) : textR l = .tuple #[.string (str B), .int .i64 (n : Int), .bool true] := by unfold textR; rw [h]

theorem refText_any (s : ByteArray) (hs : s.size ≤ 1000000 - 10) (w : World) :
    Calls Try.prog 46 #[.string s] w fun e w' => e = .returned (textR (allL s)) ∧ Below w.heap.size w w' := by
  go_enter Try.func46, Try.ntmps46
  go_wp2
  go_loopw [5, 6] (fun v i wr => ∃ (k n : Nat) (B : List UInt8), k ≤ s.size ∧ n ≤ k ∧ i = .int .i64 (k : Int) ∧ Hid (ReadTo (allL s) (allL s) B k) ∧ wr.ownsRow w.heap.size 5 1 v n (cellsOf B) ∧ Below w.heap.size w wr) (fun _ i _ => s.size + 1 - (intOf i).toNat)
  case atStart => exact ⟨0, 0, [], by omega, by omega, rfl, start_all s, World.ownsRow_nil _ _ _ _, Below.refl _ _⟩
  case round =>
    obtain ⟨k, n, B, hk, hn, rfl, HR, hown, hbel⟩ := hrel
    have hsz := hbel.size
    by_cases hks : k < s.size
    · by_cases hb : s[k] = 0
      · by_cases hks2 : k + 1 < s.size
        · by_cases hd : s[k + 1] = 1
          · have hres : Hid (textR (allL s) = .tuple #[.string (str B), .int .i64 ((k + 2 : Nat) : Int), .bool true]) := textR_some (end_all HR.out hks2 hb hd)
            have hconv := conv_own _ _ _ _ _ hown
            clear HR
            go_wp2
            rw [hres.out]
            go_ret3
            exact ⟨by simp; omega, hbel⟩
          · have hdi := byte_ne s[k + 1] 1 1 rfl hd
            by_cases hc : s[k + 1] = 255
            · have HR2 : Hid (ReadTo (allL s) (allL s) (B ++ [0]) (k + 2)) := zero_all HR.out hks2 hb hc
              clear HR hd
              go_wp2_with (first
                | (at_builtin; refine wpList_app _ rfl (.tmp 42) _ rfl w.heap.size _ n _ rfl (World.ownsRow.alloc hown _) _ _ _ [0] rfl rfl (one_new _ _ _ _ rfl) (by omega) (by simp; omega) ?_; intro v3 w3 hown3 hbel3))
              go_roundw
              case rel => exact ⟨k + 2, n + 1, _, by omega, by omega, by go_num, HR2, hown3, (hbel.alloc hsz _).trans hbel3⟩
              case measure => simp [intOf]; omega
            · have hres : Hid (textR (allL s) = .tuple #[.string ⟨#[]⟩, .int .i64 0, .bool false]) := textR_none (wrong_all HR.out hks2 hb hd hc)
              have hci := byte_ne s[k + 1] 255 255 rfl hc
              clear HR hd hc
              go_wp2
              rw [hres.out]
              go_ret3
              exact ⟨rfl, hbel⟩
        · have hres : Hid (textR (allL s) = .tuple #[.string ⟨#[]⟩, .int .i64 0, .bool false]) := textR_none (last_all HR.out hks hks2 hb)
          clear HR
          go_wp2
          rw [hres.out]
          go_ret3
          exact ⟨rfl, hbel⟩
      · have hbi := byte_ne s[k] 0 0 rfl hb
        have HR2 : Hid (ReadTo (allL s) (allL s) (B ++ [s[k]]) (k + 1)) := other_all HR.out hks hb
        clear HR hb
        go_wp2_with (first
          | (at_builtin; refine wpList_app _ rfl (.tmp 17) _ rfl w.heap.size _ n _ rfl (World.ownsRow.alloc hown _) _ _ _ [s[k]] rfl rfl (one_new _ _ _ _ rfl) (by omega) (by simp; omega) ?_; intro v3 w3 hown3 hbel3))
        go_roundw
        case rel => exact ⟨k + 1, n + 1, _, by omega, by omega, by go_num, HR2, hown3, (hbel.alloc hsz _).trans hbel3⟩
        case measure => simp [intOf]; omega
    · have hres : Hid (textR (allL s) = .tuple #[.string ⟨#[]⟩, .int .i64 0, .bool false]) := textR_none (over_all HR.out hks)
      clear HR
      go_wp2
      rw [hres.out]
      go_ret3
      exact ⟨rfl, hbel⟩
end Go.Proofs.Ytgaidhalkianfaa
