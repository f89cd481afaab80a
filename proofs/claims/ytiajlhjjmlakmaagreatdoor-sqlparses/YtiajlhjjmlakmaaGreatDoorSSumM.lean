/-
  The sum over a text (5.1) on natural numbers: it is one to one in what differs close together. No program is named here.
-/
import Derived.Test.YtiajlhjjmlakmaaGreatDoorVByt
namespace Go.Proofs.YtiajlhjjmlakmaaGreatDoor.Num

/-- One turn. -/
def sh (x : Nat) : Nat := if x % 2 = 1 then x / 2 ^^^ 2197175160 else x / 2
/-- So many turns. -/
def shN : Nat → Nat → Nat
  | 0, x => x
  | n + 1, x => shN n (sh x)
/-- The state behind a text. -/
def stS : Nat → List UInt8 → Nat
  | h, [] => h
  | h, b :: r => stS (shN 8 (h ^^^ b.toNat)) r
/-- The sum of a text (5.1). -/
def sumL (l : List UInt8) : Nat := stS 4294967295 l ^^^ 4294967295

theorem sh_lt {x : Nat} (h : x < 4294967296) : sh x < 4294967296 := by
  unfold sh
  split
  · exact Nat.xor_lt_two_pow (n := 32) (by omega) (by omega)
  · omega
theorem shN_lt : ∀ (n : Nat) {x : Nat}, x < 4294967296 → shN n x < 4294967296
  | 0, _, h => h
  | n + 1, _, h => shN_lt n (sh_lt h)
theorem xor_byte_lt {h : Nat} (hh : h < 4294967296) (b : UInt8) : h ^^^ b.toNat < 4294967296 :=
  Nat.xor_lt_two_pow (n := 32) hh (by have := b.toNat_lt; omega)
theorem stS_lt : ∀ (l : List UInt8) {h : Nat}, h < 4294967296 → stS h l < 4294967296
  | [], _, hh => hh
  | b :: r, _, hh => stS_lt r (shN_lt 8 (xor_byte_lt hh b))
theorem sumL_lt (l : List UInt8) : sumL l < 4294967296 := Nat.xor_lt_two_pow (n := 32) (stS_lt l (by omega)) (by omega)

theorem xor_half (a b : Nat) : (a ^^^ b) / 2 = a / 2 ^^^ b / 2 := by
  apply Nat.eq_of_testBit_eq
  intro i
  simp [Nat.testBit_div_two]
theorem xor_mod (a b : Nat) : (a ^^^ b) % 2 = (a % 2 + b % 2) % 2 := by
  have h := Nat.xor_mod_two_pow (a := a) (b := b) (n := 1)
  rw [Nat.pow_one] at h
  rw [h]
  rcases Nat.mod_two_eq_zero_or_one a with ha | ha <;> rcases Nat.mod_two_eq_zero_or_one b with hb | hb <;> rw [ha, hb] <;> rfl
theorem xor_same {a b : Nat} (h : a ^^^ b = 0) : a = b := by
  have e : a ^^^ b ^^^ b = b := by rw [h, Nat.zero_xor]
  rw [Nat.xor_assoc, Nat.xor_self, Nat.xor_zero] at e
  exact e
theorem sh_xor (a b : Nat) : sh (a ^^^ b) = sh a ^^^ sh b := by
  unfold sh
  rw [xor_half, xor_mod]
  rcases Nat.mod_two_eq_zero_or_one a with ha | ha <;> rcases Nat.mod_two_eq_zero_or_one b with hb | hb
  · simp [ha, hb]
  · simp [ha, hb, Nat.xor_assoc]
  · simp [ha, hb, Nat.xor_assoc, Nat.xor_comm (b / 2)]
  · simp only [ha, hb]
    simp
    rw [Nat.xor_assoc, Nat.xor_comm 2197175160 (b / 2 ^^^ 2197175160), Nat.xor_assoc, Nat.xor_self, Nat.xor_zero]
theorem shN_xor : ∀ (n a b : Nat), shN n (a ^^^ b) = shN n a ^^^ shN n b
  | 0, _, _ => rfl
  | n + 1, a, b => by
    show shN n (sh (a ^^^ b)) = shN n (sh a) ^^^ shN n (sh b)
    rw [sh_xor, shN_xor n]
theorem sh_zero : sh 0 = 0 := rfl
theorem shN_zero : ∀ n, shN n 0 = 0
  | 0 => rfl
  | n + 1 => shN_zero n
theorem sh_ne {x : Nat} (h : x < 4294967296) (hx : x ≠ 0) : sh x ≠ 0 := by
  unfold sh
  split
  · intro e
    have e2 : x / 2 = 2197175160 := xor_same e
    omega
  · omega
theorem shN_ne : ∀ (n : Nat) {x : Nat}, x < 4294967296 → x ≠ 0 → shN n x ≠ 0
  | 0, _, _, hx => hx
  | n + 1, _, h, hx => shN_ne n (sh_lt h) (sh_ne h hx)

/-- What differs, carried on. -/
def dif : Nat → List UInt8 → List UInt8 → Nat
  | d, a :: s, b :: t => dif (shN 8 (d ^^^ (a.toNat ^^^ b.toNat))) s t
  | d, _, _ => d
theorem dif_st : ∀ (s t : List UInt8) (h h' : Nat), s.length = t.length → stS h s ^^^ stS h' t = dif (h ^^^ h') s t
  | [], [], _, _, _ => rfl
  | a :: s, b :: t, h, h', e => by
    have ih := dif_st s t (shN 8 (h ^^^ a.toNat)) (shN 8 (h' ^^^ b.toNat)) (by simpa using e)
    show stS (shN 8 (h ^^^ a.toNat)) s ^^^ stS (shN 8 (h' ^^^ b.toNat)) t = dif (shN 8 ((h ^^^ h') ^^^ (a.toNat ^^^ b.toNat))) s t
    rw [ih, ← shN_xor]
    congr 2
    rw [Nat.xor_assoc, Nat.xor_assoc, ← Nat.xor_assoc a.toNat, Nat.xor_comm a.toNat h', Nat.xor_assoc h']
  | [], _ :: _, _, _, e => by simp at e
  | _ :: _, [], _, _, e => by simp at e
/-- Behind what differs nothing is made good. -/
theorem dif_same : ∀ (s : List UInt8) (d : Nat), d < 4294967296 → d ≠ 0 → dif d s s ≠ 0
  | [], _, _, hd => hd
  | a :: s, d, h, hd => by
    show dif (shN 8 (d ^^^ (a.toNat ^^^ a.toNat))) s s ≠ 0
    rw [Nat.xor_self, Nat.xor_zero]
    exact dif_same s _ (shN_lt 8 h) (shN_ne 8 h hd)
theorem dif_front : ∀ (p s t : List UInt8), dif 0 (p ++ s) (p ++ t) = dif 0 s t
  | [], _, _ => rfl
  | a :: p, s, t => by
    show dif (shN 8 (0 ^^^ (a.toNat ^^^ a.toNat))) (p ++ s) (p ++ t) = _
    rw [Nat.xor_self, Nat.xor_zero, shN_zero]
    exact dif_front p s t
theorem sum_ne {s t : List UInt8} (e : s.length = t.length) (h : dif 0 s t ≠ 0) : sumL s ≠ sumL t := by
  intro he
  have h1 : stS 4294967295 s ^^^ stS 4294967295 t = 0 := by
    have h2 : sumL s ^^^ sumL t = 0 := by rw [he, Nat.xor_self]
    unfold sumL at h2
    rw [Nat.xor_assoc, Nat.xor_comm 4294967295 (stS 4294967295 t ^^^ 4294967295), Nat.xor_assoc, Nat.xor_self, Nat.xor_zero] at h2
    exact h2
  rw [dif_st s t _ _ e, Nat.xor_self] at h1
  exact h h1
/-- One byte that differs. -/
theorem sum_one (p r : List UInt8) (a b : UInt8) (h : a ≠ b) : sumL (p ++ a :: r) ≠ sumL (p ++ b :: r) := by
  refine sum_ne (by simp) ?_
  rw [dif_front]
  have hx : a.toNat ^^^ b.toNat ≠ 0 := fun e => h (UInt8.toNat_inj.1 (xor_same e))
  have hlt : a.toNat ^^^ b.toNat < 4294967296 := Nat.xor_lt_two_pow (n := 32) (by have := a.toNat_lt; omega) (by have := b.toNat_lt; omega)
  show dif (shN 8 (0 ^^^ (a.toNat ^^^ b.toNat))) r r ≠ 0
  rw [Nat.zero_xor]
  exact dif_same r _ (shN_lt 8 hlt) (shN_ne 8 hlt hx)

/-! Four bytes that differ: the bits of one number, eight by eight. -/
theorem shN_even : ∀ (n x : Nat), shN n (2 ^ n * x) = x
  | 0, x => by simp [shN]
  | n + 1, x => by
    show shN n (sh (2 ^ (n + 1) * x)) = x
    have e : sh (2 ^ (n + 1) * x) = 2 ^ n * x := by
      unfold sh
      rw [Nat.pow_succ, Nat.mul_comm (2 ^ n) 2, Nat.mul_assoc, if_neg (by omega), Nat.mul_div_cancel_left _ (by omega)]
    rw [e, shN_even n x]
/-- Eight turns take the lowest byte off. -/
theorem shN_low (x : Nat) : shN 8 x = shN 8 (x % 256) ^^^ x / 256 := by
  have e : x = x % 256 ^^^ 2 ^ 8 * (x / 256) := by
    have h := Nat.two_pow_add_eq_or_of_lt (i := 8) (b := x % 256) (by omega) (x / 256)
    have h2 : 2 ^ 8 * (x / 256) ^^^ x % 256 = 2 ^ 8 * (x / 256) ||| x % 256 := by
      apply Nat.eq_of_testBit_eq
      intro i
      rw [Nat.testBit_xor, Nat.testBit_or]
      by_cases hi : i < 8
      · have : (2 ^ 8 * (x / 256)).testBit i = false := by rw [Nat.testBit_two_pow_mul]; simp; omega
        simp [this]
      · have : (x % 256).testBit i = false := by
          rw [show (256 : Nat) = 2 ^ 8 from rfl, Nat.testBit_mod_two_pow]
          simp [hi]
        simp [this]
    rw [Nat.xor_comm, h2, ← h]
    omega
  conv => lhs; rw [e]
  rw [shN_xor, shN_even]
theorem shN_step (S X : Nat) : shN 8 (S ^^^ X) = shN 8 (S ^^^ X % 256) ^^^ X / 256 := by
  rw [shN_xor, shN_low X, shN_xor, Nat.xor_assoc]
theorem dif_four (D : Nat) (a0 a1 a2 a3 b0 b1 b2 b3 : UInt8) (s t : List UInt8)
    (h0 : a0.toNat ^^^ b0.toNat = D % 256) (h1 : a1.toNat ^^^ b1.toNat = D / 256 % 256) (h2 : a2.toNat ^^^ b2.toNat = D / 65536 % 256) (h3 : a3.toNat ^^^ b3.toNat = D / 16777216 % 256) (hD : D < 4294967296) :
    dif 0 (a0 :: a1 :: a2 :: a3 :: s) (b0 :: b1 :: b2 :: b3 :: t) = dif (shN 8 (shN 8 (shN 8 (shN 8 D)))) s t := by
  show dif (shN 8 (shN 8 (shN 8 (shN 8 (0 ^^^ (a0.toNat ^^^ b0.toNat)) ^^^ (a1.toNat ^^^ b1.toNat)) ^^^ (a2.toNat ^^^ b2.toNat)) ^^^ (a3.toNat ^^^ b3.toNat))) s t = _
  rw [h0, h1, h2, h3, Nat.zero_xor]
  have g1 := shN_low D
  have g2 := shN_step (shN 8 (D % 256)) (D / 256)
  rw [show D / 256 / 256 = D / 65536 by omega] at g2
  have g3 := shN_step (shN 8 (shN 8 (D % 256) ^^^ D / 256 % 256)) (D / 65536)
  rw [show D / 65536 / 256 = D / 16777216 by omega] at g3
  have g4 := shN_step (shN 8 (shN 8 (shN 8 (D % 256) ^^^ D / 256 % 256) ^^^ D / 65536 % 256)) (D / 16777216)
  rw [show D / 16777216 / 256 = 0 by omega, Nat.xor_zero] at g4
  rw [g1, g2, g3, g4]
/-- Four bytes that differ in some bits. -/
theorem sum_four (p r : List UInt8) (D : Nat) (hD : D < 4294967296) (hD0 : D ≠ 0) (a0 a1 a2 a3 b0 b1 b2 b3 : UInt8)
    (h0 : a0.toNat ^^^ b0.toNat = D % 256) (h1 : a1.toNat ^^^ b1.toNat = D / 256 % 256) (h2 : a2.toNat ^^^ b2.toNat = D / 65536 % 256) (h3 : a3.toNat ^^^ b3.toNat = D / 16777216 % 256) :
    sumL (p ++ a0 :: a1 :: a2 :: a3 :: r) ≠ sumL (p ++ b0 :: b1 :: b2 :: b3 :: r) := by
  refine sum_ne (by simp) ?_
  rw [dif_front, dif_four D a0 a1 a2 a3 b0 b1 b2 b3 r r h0 h1 h2 h3 hD]
  have e1 := shN_lt 8 hD
  have e2 := shN_lt 8 e1
  have e3 := shN_lt 8 e2
  exact dif_same r _ (shN_lt 8 e3) (shN_ne 8 e3 (shN_ne 8 e2 (shN_ne 8 e1 (shN_ne 8 hD hD0))))
/-- The sum in four bytes, the highest first. -/
def be4 (n : Nat) : List UInt8 := [byteAt n 3, byteAt n 2, byteAt n 1, byteAt n 0]
theorem be4_inj {m n : Nat} (hm : m < 4294967296) (hn : n < 4294967296) (h : be4 m = be4 n) : m = n := by
  unfold be4 at h
  simp only [List.cons.injEq, and_true] at h
  obtain ⟨h3, h2, h1, h0⟩ := h
  have g : ∀ i, (byteAt m i).toNat = (byteAt n i).toNat → m / 2 ^ (8 * i) % 256 = n / 2 ^ (8 * i) % 256 := by
    intro i hi
    simp only [byteAt, UInt8.toNat_ofNat'] at hi
    omega
  have g3 := g 3 (by rw [h3])
  have g2 := g 2 (by rw [h2])
  have g1 := g 1 (by rw [h1])
  have g0 := g 0 (by rw [h0])
  simp at g3 g2 g1 g0
  omega
/-- A text with its sum (5.2). -/
def sealL (s : List UInt8) : List UInt8 := s ++ be4 (sumL s)
/-- What is ahead of a sum (5.2). -/
def openL (s : List UInt8) : Option (List UInt8) := if s.length < 4 then none else if s = sealL (s.take (s.length - 4)) then some (s.take (s.length - 4)) else none
theorem sealL_len (s : List UInt8) : (sealL s).length = s.length + 4 := by simp [sealL, be4]
theorem open_seal (s : List UInt8) : openL (sealL s) = some s := by
  have e : (sealL s).take ((sealL s).length - 4) = s := by
    rw [sealL_len, Nat.add_sub_cancel]
    unfold sealL
    exact List.take_left
  unfold openL
  rw [if_neg (by rw [sealL_len]; omega), e, if_pos rfl]
/-- One byte turned: refused (5.3). -/
theorem open_turned (s : List UInt8) (k : Nat) (hk : k < (sealL s).length) (c : UInt8) (hc : c ≠ (sealL s)[k]) : openL ((sealL s).set k c) = none := by
  have hl : ((sealL s).set k c).length = s.length + 4 := by rw [List.length_set, sealL_len]
  unfold openL
  rw [if_neg (by rw [hl]; omega), hl, Nat.add_sub_cancel, if_neg]
  intro h
  have hkl : k < s.length + 4 := by rw [← sealL_len s]; exact hk
  by_cases hks : k < s.length
  · have et : ((sealL s).set k c).take s.length = s.set k c := by
      rw [List.take_set]
      congr 1
      exact List.take_left
    rw [et] at h
    have e1 : (sealL s).set k c = s.set k c ++ be4 (sumL s) := by
      unfold sealL
      rw [List.set_append_left _ _ hks]
    rw [e1] at h
    have h2 : be4 (sumL s) = be4 (sumL (s.set k c)) := List.append_cancel_left h
    have hsk : (sealL s)[k] = s[k] := List.getElem_append_left hks
    have e3 : sumL s = sumL (s.set k c) := be4_inj (sumL_lt _) (sumL_lt _) h2
    have e4 : s = s.take k ++ s[k] :: s.drop (k + 1) := by
      rw [← List.drop_eq_getElem_cons hks, List.take_append_drop]
    have e5 : s.set k c = s.take k ++ c :: s.drop (k + 1) := List.set_eq_take_append_cons_drop.trans (if_pos hks)
    have e6 := sum_one (s.take k) (s.drop (k + 1)) s[k] c (by rw [← hsk]; exact fun e => hc e.symm)
    rw [← e4, ← e5] at e6
    exact e6 e3
  · have et : ((sealL s).set k c).take s.length = s := by
      rw [List.take_set, List.set_eq_of_length_le (by simp [sealL]; omega)]
      exact List.take_left
    rw [et] at h
    have e6 : ((sealL s).set k c)[k]? = some c := by rw [List.getElem?_set_self hk]
    rw [h, List.getElem?_eq_getElem hk] at e6
    cases e6
    exact hc rfl
end Go.Proofs.YtiajlhjjmlakmaaGreatDoor.Num
