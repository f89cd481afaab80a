/-
  Contracts: the document's example, in part.
-/
import Derived.Test.YthnbaijkhhbelaaGreatRpPro
import Derived.Test.YthnbaijkhhbelaaGreatRpTfa
import Derived.Test.YthnbaijkhhbelaaGreatRpSame
namespace Go.Proofs.YthnbaijkhhbelaaGreat
open Go.RowKit Num
open scoped Classical
set_option linter.unusedVariables false
set_option maxRecDepth 100000

theorem new_may : May (newR 0 3) :=
  ⟨⟨.inr (.inl rfl), Int.le_refl _, by show (0 : Int) < 3; omega⟩, ⟨⟨Int.le_refl _, by show (0 : Int) < _; omega⟩, ⟨Int.le_refl _, Int.le_refl _⟩, .inl rfl, fun _ => rfl⟩, ⟨Nat.zero_le _, fun i x hx => by simp [newR, rep0] at hx⟩, ⟨Int.le_refl _, by show (0 : Int) ≤ _; simp [newR, rep0]⟩, ⟨rfl, fun i x hx => by
    have h0 : x = 0 := by
      have hm := List.mem_of_getElem? hx
      have hm2 : x ∈ List.replicate 3 (0 : Int) := hm
      exact (List.mem_replicate.1 hm2).2
    subst h0
    exact ⟨Int.le_refl _, by simp [newR, rep0]⟩⟩, fun i x hx => by simp [newR, rep0] at hx, fun i x hx => by simp [newR, rep0] at hx, ⟨⟨Nat.zero_le _, fun i x hx => by simp [newR, rep0] at hx⟩, ⟨Int.le_refl _, by show (-1 : Int) < _; omega⟩, ⟨Int.le_refl _, by simp [newR, rep0]⟩⟩⟩
theorem awake_key (d : ByteArray) (hd : d.size ≤ 20000) : ∃ (q r' : Rep) (o' : Msgs), q = newR 0 3 ∧ SmallR q ∧ May q ∧ r'.log.length = 1 ∧ r'.commit = 0 ∧ o'.length = 2 ∧ ∀ (B g : Nat) (W : World), Turn B W g q [] → Calls Tryz.prog 76 #[.pointer (some ⟨g, 0, none⟩), .int .i64 5, .string d] W fun e W' => e = .returned (.int .i64 1) ∧ Turn B W' g r' o' ∧ Below B W W' := by
  refine ⟨newR 0 3, propR (newR 0 3) ⟨5, d⟩, propM (newR 0 3) ⟨5, d⟩, rfl, ⟨Nat.zero_le _, Nat.zero_le _, by simp [newR], Nat.zero_le _, Nat.zero_le _⟩, new_may, rfl, rfl, rfl, fun B g W h => ?_⟩
  exact prop_yesa B g (newR 0 3) 5 0 d W h ⟨Int.le_refl _, by show (0 : Int) < _; omega⟩ rfl ⟨Int.le_refl _, by omega⟩ ⟨⟨by omega, by omega⟩, hd⟩ ⟨rfl, rfl⟩ (by omega) (by omega) (by simp [newR, rep0]) (by omega)
end Go.Proofs.YthnbaijkhhbelaaGreat
