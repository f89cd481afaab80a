/-
  Floats and bytes as they are told, read again. No program is named here.
-/
import Derived.Test.YtiajlhjjmlakmaaGreatDoorLxH
import Derived.Test.YtiajlhjjmlakmaaGreatDoorLxI
import Derived.Test.YtiajlhjjmlakmaaGreatDoorVBackM
namespace Go.Proofs.YtiajlhjjmlakmaaGreatDoor
open Num

theorem hx_fin : ∀ n : Fin 16, hexB (hx n.val) = true ∧ nib (hx n.val) = n.val := by decide
theorem hexL_all (l : List UInt8) : ∀ c ∈ hexL l, hexB c = true := by
  intro c hc
  unfold hexL at hc
  obtain ⟨b, _, hb⟩ := List.mem_flatMap.1 hc
  have h := b.toNat_lt
  simp only [List.mem_cons, List.not_mem_nil, or_false] at hb
  rcases hb with rfl | rfl
  · exact (hx_fin ⟨b.toNat / 16, by omega⟩).1
  · exact (hx_fin ⟨b.toNat % 16, by omega⟩).1
theorem hexL_snoc (l : List UInt8) (b : UInt8) : hexL (l ++ [b]) = hexL l ++ [hx (b.toNat / 16), hx (b.toNat % 16)] := by simp [hexL]
theorem fold_hex : ∀ (l : List UInt8) (a : Nat), (hexL l).foldl (fun n c => n * 16 + nib c) a = l.foldl (fun a b => a * 256 + b.toNat) a
  | [], _ => rfl
  | b :: l, a => by
    have h := b.toNat_lt
    have e1 := (hx_fin ⟨b.toNat / 16, by omega⟩).2
    have e2 := (hx_fin ⟨b.toNat % 16, by omega⟩).2
    simp only at e1 e2
    show (hexL l).foldl (fun n c => n * 16 + nib c) ((a * 16 + nib (hx (b.toNat / 16))) * 16 + nib (hx (b.toNat % 16))) = _
    rw [e1, e2, fold_hex l, List.foldl_cons]
    congr 1
    omega
theorem hexNum_hexL (l : List UInt8) : hexNum (hexL l) = numOf l := fold_hex l 0
theorem pairs_hexL : ∀ l : List UInt8, pairsL (hexL l) = l
  | [] => rfl
  | b :: l => by
    have h := b.toNat_lt
    have e1 := (hx_fin ⟨b.toNat / 16, by omega⟩).2
    have e2 := (hx_fin ⟨b.toNat % 16, by omega⟩).2
    simp only at e1 e2
    show UInt8.ofNat (nib (hx (b.toNat / 16)) * 16 + nib (hx (b.toNat % 16))) :: pairsL (hexL l) = b :: l
    rw [e1, e2, pairs_hexL l, show b.toNat / 16 * 16 + b.toNat % 16 = b.toNat by omega, UInt8.ofNat_toNat]
theorem digsG_of (d : List UInt8) (h : ∀ c ∈ d, hexB c = true) : digsG (d ++ [39]) = some d := by
  have hr : runL hexB (d ++ [39]) = d.length := by
    refine runL_at hexB _ d.length (by simp) (fun j hj hjk => ?_) ?_
    · rw [List.getElem_append_left hjk]
      exact h _ (List.getElem_mem hjk)
    · rw [List.getElem_append_right (Nat.le_refl _)]
      simp only [Nat.sub_self, List.getElem_cons_zero]
      decide
  unfold digsG
  rw [hr, List.drop_left, List.take_left]
  rfl
theorem tok_float (d : List UInt8) : tokL (102 :: 39 :: d) = floatT d := by
  rw [tokL, if_neg (fun h => absurd h.1 (by decide)), if_pos ⟨rfl, rfl⟩]
  rfl
theorem tok_bytes (d : List UInt8) : tokL (120 :: 39 :: d) = bytesT d := by
  rw [tokL, if_pos ⟨rfl, rfl⟩]
  rfl
theorem lex_float (f : Nat) (hf : f < 18446744073709551616) : lexAt (str (102 :: 39 :: (hexL (be8 f) ++ [39]))) 0 = (some [⟨3, str (102 :: 39 :: (hexL (be8 f) ++ [39])), ⟨3, 0, canon f, ⟨#[]⟩⟩, 0⟩, ⟨0, ⟨#[]⟩, noV, 19⟩], 0) := by
  have hl : (hexL (be8 f)).length = 16 := by rw [hexL_len]; rfl
  have hlen : (102 :: 39 :: (hexL (be8 f) ++ [39])).length = 19 := by simp [hl]
  have ht : tokL (102 :: 39 :: (hexL (be8 f) ++ [39])) = some (3, (102 :: 39 :: (hexL (be8 f) ++ [39])).length, ⟨3, 0, canon f, ⟨#[]⟩⟩) := by
    rw [tok_float, floatT, digsG_of _ (hexL_all _), hlen]
    simp only
    rw [if_pos hl, hexNum_hexL, numOf_be8 f hf]
  have := lex_one (l := 102 :: 39 :: (hexL (be8 f) ++ [39])) (by simp) rfl ht
  rw [hlen] at this
  exact this
theorem lex_float_short (f : Nat) : lexAt (str ((102 :: 39 :: (hexL (be8 f) ++ [39])).take 17 ++ [39])) 0 = (none, 0) := by
  have hl : (hexL (be8 f)).length = 16 := by rw [hexL_len]; rfl
  have e : (102 :: 39 :: (hexL (be8 f) ++ [39])).take 17 ++ [39] = 102 :: 39 :: ((hexL (be8 f)).take 15 ++ [39]) := by
    rw [List.take_succ_cons, List.take_succ_cons, List.take_append_of_le_length (by omega)]
    rfl
  rw [e]
  refine lex_none (by simp) rfl ?_
  rw [tok_float, floatT, digsG_of _ fun c hc => hexL_all _ c (List.mem_of_mem_take hc)]
  simp only
  rw [if_neg (by rw [List.length_take]; omega)]
theorem lex_bytes (b : List UInt8) (hb : b.length ≤ 40) : lexAt (str (120 :: 39 :: (hexL b ++ [39]))) 0 = (some [⟨3, str (120 :: 39 :: (hexL b ++ [39])), ⟨4, 0, 0, str b⟩, 0⟩, ⟨0, ⟨#[]⟩, noV, (120 :: 39 :: (hexL b ++ [39])).length⟩], 0) := by
  have hl := hexL_len b
  refine lex_one (l := 120 :: 39 :: (hexL b ++ [39])) (by simp) rfl ?_
  rw [tok_bytes, bytesT, digsG_of _ (hexL_all _)]
  simp only
  rw [if_pos ⟨by omega, by omega⟩, pairs_hexL]
  simp
theorem lex_bytes_long (b : List UInt8) (hb : ¬ b.length ≤ 40) : lexAt (str (120 :: 39 :: (hexL b ++ [39]))) 0 = (none, 0) := by
  have hl := hexL_len b
  refine lex_none (by simp) rfl ?_
  rw [tok_bytes, bytesT, digsG_of _ (hexL_all _)]
  simp only
  rw [if_neg (by omega)]
end Go.Proofs.YtiajlhjjmlakmaaGreatDoor
