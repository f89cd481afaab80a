/-
  Contracts: a text behind its head, each byte 00 as 00 ff, and 00 01 at the end.
-/
import Derived.Test.YtgaidhalkianfaaVWord
namespace Go.Proofs.Ytgaidhalkianfaa
open Go.RowKit Num

theorem esc_append (a b : List UInt8) : esc (a ++ b) = esc a ++ esc b := by
  induction a with
  | nil => rfl
  | cons x r ih =>
    simp only [List.cons_append, esc]
    split <;> simp [ih]
theorem esc_zero : esc [0] = [0, 255] := rfl
theorem esc_other (b : UInt8) (h : ¬ b = 0) : esc [b] = [b] := by simp [esc, h]
theorem esc_take (s : ByteArray) (k : Nat) (hk : k < s.size) : esc (s.data.toList.take (k + 1)) = esc (s.data.toList.take k) ++ esc [s[k]] := by
  rw [← esc_append]
  congr 1
  have hk' : k < s.data.toList.length := by simpa using hk
  rw [List.take_add_one, List.getElem?_eq_getElem hk']
  rfl
theorem esc_length (l : List UInt8) : (esc l).length ≤ 2 * l.length := by
  induction l with
  | nil => simp [esc]
  | cons x r ih =>
    simp only [esc]
    split <;> simp <;> omega

theorem putText_any (c : UInt8) (s : ByteArray) (hs : s.size ≤ 40) (w : World) :
    Calls Try.prog 37 #[.int .u8 (c.toNat : Int), .string s] w fun e w' => e = .returned (.string (str (c :: (esc s.data.toList ++ [0, 1])))) ∧ Below w.heap.size w w' := by
  obtain ⟨i0, hi, hz0, hz1, hz2⟩ := info_parts Try.infoU8
  go_enter Try.func37, Try.ntmps37
  go_wp2_with (first
    | (at_make; refine wpList_make_own _ rfl _ _ 53 rfl w.heap.size 5 i0 (.int .u8 0) 1 Try.underlying53 hi hz0 hz1 _ _ _ (s.size + 3) rfl rfl (by omega) (by rw [hz2]; omega) (by unfold maxLen; omega) (Nat.le_refl _) ?_; intro w1 hown1 hgrow1)
    | (at_builtin; refine wpList_app _ rfl _ _ rfl w.heap.size _ 0 [] rfl (World.ownsRow.alloc hown1 _) _ _ _ [c] rfl rfl (one_new _ _ _ _ rfl) (by omega) (by have := hgrow1.size; simp; omega) ?_; intro v2 w2 hown2 hbel2))
  have hb2 : Below w.heap.size w w2 := ((Below.refl _ _).grown hgrow1 (Nat.le_refl _) (by simp)).trans (((Below.refl _ _).alloc hgrow1.size _).trans hbel2)
  clear hgrow1 hbel2 hown1
  go_loopw [5, 17] (fun v i wr => ∃ k n : Nat, k ≤ s.size ∧ i = .int .i64 (k : Int) ∧ n ≤ 1 + 2 * k ∧ wr.ownsRow w.heap.size 5 1 v n (cellsOf (c :: esc (s.data.toList.take k))) ∧ Below w.heap.size w wr) (fun _ i _ => s.size - (intOf i).toNat)
  case atStart => exact ⟨0, 1, by omega, rfl, by omega, hown2, hb2⟩
  case round =>
    obtain ⟨k, n, hk, rfl, hn, hown, hbel⟩ := hrel
    clear hown2 hb2
    have hsz := hbel.size
    by_cases hks : k < s.size
    · have hstep := esc_take s k hks
      by_cases hz : s[k] = 0
      · rw [hz, esc_zero] at hstep
        go_wp2_with (first
          | (at_builtin; refine wpList_app _ rfl (.tmp 20) _ rfl w.heap.size _ n _ rfl (World.ownsRow.alloc hown _) _ _ _ [0] rfl rfl (one_new _ _ _ _ rfl) (by omega) (by simp; omega) ?_; intro v3 w3 hown3 hbel3)
          | (at_builtin; refine wpList_app _ rfl (.tmp 30) _ rfl w.heap.size _ (n + 1) _ rfl (World.ownsRow.alloc hown3 _) _ _ _ [255] rfl rfl (one_new _ _ _ _ rfl) (by omega) (by have := hbel3.size; simp at this ⊢; omega) ?_; intro v4 w4 hown4 hbel4))
        have hb3 : Below w.heap.size w w3 := (hbel.alloc hsz _).trans hbel3
        have hb4 : Below w.heap.size w w4 := (hb3.alloc hb3.size _).trans hbel4
        rw [List.append_assoc, List.cons_append] at hown4
        rw [show ([0] : List UInt8) ++ [255] = [0, 255] from rfl, ← hstep] at hown4
        go_roundw
        case rel => exact ⟨k + 1, n + 1 + 1, by omega, by go_num, by omega, hown4, hb4⟩
        case measure => simp [intOf]; omega
      · rw [esc_other _ hz] at hstep
        have hz1 : ¬ ((s[k].toNat : Nat) : Int) = 0 := by
          intro h
          exact hz (UInt8.toNat_inj.1 (by simpa using h))
        go_wp2_with (first
          | (at_builtin; refine wpList_app _ rfl (.tmp 20) _ rfl w.heap.size _ n _ rfl (World.ownsRow.alloc hown _) _ _ _ [s[k]] rfl rfl (one_new _ _ _ _ rfl) (by omega) (by simp; omega) ?_; intro v3 w3 hown3 hbel3))
        have hb3 : Below w.heap.size w w3 := (hbel.alloc hsz _).trans hbel3
        rw [List.cons_append, ← hstep] at hown3
        go_roundw
        case rel => exact ⟨k + 1, n + 1, by omega, by go_num, by omega, hown3, hb3⟩
        case measure => simp [intOf]; omega
    · have hlen : s.data.toList.length = s.size := rfl
      have hks2 : s.data.toList.take k = s.data.toList := List.take_of_length_le (by omega)
      clear hlen
      rw [hks2] at hown
      have hke : k = s.size := by omega
      subst hke
      go_wp2_with (first
        | (at_builtin; refine wpList_app _ rfl (.tmp 34) _ rfl w.heap.size _ n _ rfl (World.ownsRow.alloc hown _) _ _ _ [0, 1] rfl rfl (two_new _ _ _ _ _ _ rfl rfl) (by omega) (by simp; omega) ?_; intro v3 w3 hown3 hbel3; have hconv := conv_own _ _ _ _ _ hown3))
      go_ret
      exact ⟨rfl, (hbel.alloc hsz _).trans hbel3⟩
end Go.Proofs.Ytgaidhalkianfaa
