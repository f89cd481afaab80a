/-
  Contracts: the document's example, in part.
-/
import Derived.Test.YtgdehjdajjhjpaaRpPro
import Derived.Test.YtgdehjdajjhjpaaRpTfa
import Derived.Test.YtgdehjdajjhjpaaRpSame
namespace Go.Proofs.Ytgdehjdajjhjpaa
open Go.RowKit Num
open scoped Classical
set_option linter.unusedVariables false

theorem new_may : May (newR 0 3) :=
  ⟨⟨.inr (.inl rfl), Int.le_refl _, by show (0 : Int) < 3; omega⟩, ⟨⟨Int.le_refl _, by show (0 : Int) < _; omega⟩, ⟨Int.le_refl _, Int.le_refl _⟩, .inl rfl, fun _ => rfl⟩, ⟨Nat.zero_le _, fun i x hx => by simp [newR, rep0] at hx⟩, ⟨Int.le_refl _, by show (0 : Int) ≤ _; simp [newR, rep0]⟩, ⟨rfl, fun i x hx => by
    have h0 : x = 0 := by
      have hm := List.mem_of_getElem? hx
      have hm2 : x ∈ List.replicate 3 (0 : Int) := hm
      exact (List.mem_replicate.1 hm2).2
    subst h0
    exact ⟨Int.le_refl _, by simp [newR, rep0]⟩⟩, fun i x hx => by simp [newR, rep0] at hx, fun i x hx => by simp [newR, rep0] at hx, ⟨⟨Nat.zero_le _, fun i x hx => by simp [newR, rep0] at hx⟩, ⟨Int.le_refl _, by show (-1 : Int) < _; omega⟩, ⟨Int.le_refl _, by simp [newR, rep0]⟩⟩⟩
theorem awake_key (d : ByteArray) (hd : d.size ≤ 20000) : ∃ (q r' : Rep) (o' : Msgs), q = newR 0 3 ∧ SmallR q ∧ May q ∧ r'.log.length = 1 ∧ r'.commit = 0 ∧ o'.length = 2 ∧ ∀ (B g : Nat) (W : World), Turn B W g q [] → Calls Try.prog 39 #[.pointer (some ⟨g, 0, none⟩), .int .i64 5, .string d] W fun e W' => e = .returned (.int .i64 1) ∧ Turn B W' g r' o' ∧ Below B W W' := by
  refine ⟨newR 0 3, propR (newR 0 3) ⟨5, d⟩, propM (newR 0 3) ⟨5, d⟩, rfl, ⟨Nat.zero_le _, Nat.zero_le _, by simp [newR], Nat.zero_le _, Nat.zero_le _⟩, new_may, rfl, rfl, rfl, fun B g W h => ?_⟩
  exact prop_yesa B g (newR 0 3) 5 0 d W h ⟨Int.le_refl _, by show (0 : Int) < _; omega⟩ rfl ⟨Int.le_refl _, by omega⟩ ⟨⟨by omega, by omega⟩, hd⟩ ⟨rfl, rfl⟩ (by omega) (by omega) (by simp [newR, rep0]) (by omega)
set_option maxRecDepth 100000 in
set_option maxHeartbeats 1000000 in
theorem awake_any (w : World) : Calls Try.prog 11 #[] w fun e w' => e = .returned (.bool true) ∧ Below w.heap.size w w' := by
  obtain ⟨q, r', o', hq, hsm, hmay, hl1, hc0, ho2, hdo⟩ := awake_key { data := #[120] } (by decide)
  have hnew := fun W => new_yes 0 3 ⟨.inr (.inl rfl), by omega, by omega⟩ W
  rw [← hq] at hnew
  have hnum := fun n W => num_any n W
  have hpro := fun s W hl => propose_ok q s 5 { data := #[120] } hsm hmay r' o' 1 hdo W hl
  have i1 : ((r'.log.length : Nat) : Int) = 1 := by omega
  have i2 : ((o'.length : Nat) : Int) = 2 := by omega
  clear hq hsm hmay hdo hl1 ho2
  go_enter Try.func11, Try.ntmps11
  go_wp2_with (first
    | (go_at_call 7; refine (hnew _).mono ?_; rintro e w1 ⟨s1, rfl, hl1, hb1⟩; have hp := fun ob : Obj => hpro s1 (w1.alloc ob) (liesR_next hl1 ((Below.refl _ w1).alloc (Nat.le_refl _) ob) ((Below.refl _ w1).alloc (Nat.le_refl _) ob).size); clear hnew hpro)
    | (go_at_call 16; refine (hp _).mono ?_; rintro e w2 ⟨s2, xo, xc, rfl, _, _, hb2⟩; clear hp)
    | (go_at_call 10; refine (hnum _ _).mono ?_; rintro e wn ⟨rfl, hq⟩; have hq' := hq.symm; clear hq; subst hq'))
  go_ret
  exact ⟨rfl, (below_next (below_next hb1 (Nat.le_refl _) ((Below.refl _ w1).alloc (Nat.le_refl _) _)) (Nat.le_refl _) hb2).alloc (Nat.le_trans hb1.size (Nat.le_trans (by simp) hb2.size)) _⟩
end Go.Proofs.Ytgdehjdajjhjpaa
