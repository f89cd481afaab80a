/-
  Proved: for every text, place and number of 32 bits the law SealTwo returns true: two texts of one length that differ in the bits of a number that is not nought, in four bytes that stand together, have unlike sums by seal.Sum (5.1), and the document's examples hold; the text reads behind the call as before. No condition.
-/
import Derived.Test.YtcjjjhmnkmmecaaRows
import Derived.Test.YtcjjjhmnkmmecaaSAwake
import Derived.Test.YtcjjjhmnkmmecaaSPut
import Derived.Test.YtcjjjhmnkmmecaaSByt
import Derived.WalkKit
import Derived.ProofKit
import Derived.OpenShut
import Derived.ShutString
import Derived.Lib.SmallJoins
namespace Go.Proofs.Ytcjjjhmnkmmecaa.sealTwo
open Go.ChangeShapes Go.WideShapes Go.ChangeAt Go.RowKit Go.Joins Num
open Go.ChangeMaps (open_string shut_string)
set_option linter.unusedVariables false

theorem own : ownKnob Try.prog.godebug = none := by kernel_rfl

/-- So many of four bytes turned. -/
def xorL (D k : Nat) : Nat → List UInt8 → List UInt8
  | 0, l => l
  | i + 1, l => (xorL D k i l).set (k + i) ((xorL D k i l).getD (k + i) 0 ^^^ byteAt D i)
theorem xorL_len (D k : Nat) : ∀ (i : Nat) (l : List UInt8), (xorL D k i l).length = l.length
  | 0, _ => rfl
  | i + 1, l => by
    show ((xorL D k i l).set _ _).length = _
    rw [List.length_set, xorL_len D k i l]
theorem xorL_four (D : Nat) (p r : List UInt8) (a0 a1 a2 a3 : UInt8) :
    xorL D p.length 4 (p ++ a0 :: a1 :: a2 :: a3 :: r) = p ++ (a0 ^^^ byteAt D 0) :: (a1 ^^^ byteAt D 1) :: (a2 ^^^ byteAt D 2) :: (a3 ^^^ byteAt D 3) :: r := by
  simp [xorL]
theorem xor_back (a b : UInt8) : a.toNat ^^^ (a ^^^ b).toNat = b.toNat := by
  rw [UInt8.toNat_xor, ← Nat.xor_assoc, Nat.xor_self, Nat.zero_xor]
theorem byteAt_nat (D i : Nat) : (byteAt D i).toNat = D / 2 ^ (8 * i) % 256 := by
  simp only [byteAt, UInt8.toNat_ofNat']
  omega
theorem unlike (D k : Nat) (hD : D < 4294967296) (hD0 : D ≠ 0) (l : List UInt8) (hk : k + 4 ≤ l.length) : sumL (xorL D k 4 l) ≠ sumL l := by
  obtain ⟨p, r, a0, a1, a2, a3, rfl, rfl⟩ : ∃ p r a0 a1 a2 a3, l = p ++ a0 :: a1 :: a2 :: a3 :: r ∧ p.length = k := by
    refine ⟨l.take k, l.drop (k + 4), l[k], l[k + 1], l[k + 2], l[k + 3], ?_, by rw [List.length_take]; omega⟩
    rw [← List.drop_eq_getElem_cons, ← List.drop_eq_getElem_cons, ← List.drop_eq_getElem_cons, ← List.drop_eq_getElem_cons, List.take_append_drop]
  rw [xorL_four]
  refine fun e => sum_four p r D hD hD0 a0 a1 a2 a3 _ _ _ _ ?_ ?_ ?_ ?_ e.symm
  · rw [xor_back, byteAt_nat]; simp
  · rw [xor_back, byteAt_nat]
  · rw [xor_back, byteAt_nat]
  · rw [xor_back, byteAt_nat]
theorem xor_b (c b : UInt8) (x : Int) (hx : x = (b.toNat : Int)) : bits .xor .u8 (c.toNat : Int) x = ((c ^^^ b).toNat : Int) := by
  subst hx
  rw [u8_xor_nat c.toNat b.toNat c.toNat_lt b.toNat_lt, UInt8.toNat_xor]
theorem byte_pow (n j : Nat) : ((n : Int) / 2 ^ (8 * j) % 256) = ((byteAt n j).toNat : Int) := by
  have h := byte_div n j (2 ^ (8 * j)) rfl
  rw [Int.natCast_pow] at h
  exact h
theorem byt_next {W : World} {g D k i : Nat} {l : List UInt8} (h : Byt W g (xorL D k i l)) (hk : k + i < l.length) :
    ∃ c : UInt8, W.cell? ⟨g, k + i, none⟩ = some (.int .u8 (c.toNat : Int)) ∧ W.frozen? ⟨g, k + i, none⟩ = false ∧ Byt (W.setCell ⟨g, k + i, none⟩ (.int .u8 ((c ^^^ byteAt D i).toNat : Int))) g (xorL D k (i + 1) l) := by
  have hl : k + i < (xorL D k i l).length := by rw [xorL_len]; exact hk
  refine ⟨(xorL D k i l)[k + i], (h _ hl).1, (h _ hl).2, ?_⟩
  have e : (xorL D k i l).getD (k + i) 0 = (xorL D k i l)[k + i] := by simp [List.getD, List.getElem?_eq_getElem hl]
  have h2 := h.set (k + i) hl ((xorL D k i l)[k + i] ^^^ byteAt D i) _ rfl
  show Byt _ g ((xorL D k i l).set (k + i) ((xorL D k i l).getD (k + i) 0 ^^^ byteAt D i))
  rw [e]
  exact h2
theorem core (s0 : ByteArray) (h4 : ¬ s0.size < 4) (hl : ¬ 20000 < (s0.size : Int)) (a1 : Int) (D : Nat) (hD : D < 4294967296) (hD0 : D ≠ 0) (w : World) :
    Calls Try.prog 7 #[.string s0, .int .i64 a1, .int .u32 (D : Int)] w fun e w' => e = .returned (.bool true) ∧ Below w.heap.size w w' := by
  have hd : s0.data.toList.length = s0.size := rfl
  obtain ⟨m, hm⟩ : ∃ m : Nat, (s0.size : Int) - 3 = (m : Int) := ⟨s0.size - 3, by omega⟩
  obtain ⟨u, k, hu, hk, hkm⟩ := place_mod a1 m (by omega)
  have hkl : k + 4 ≤ s0.data.toList.length := by omega
  have hd1 : decide ((s0.size : Int) < 4) = false := decide_eq_false (by omega)
  have hd2 : ((D : Int) == 0) = false := by simp; omega
  have hne := unlike D k hD hD0 s0.data.toList hkl
  have hs1 := sum_any (str (xorL D k 4 s0.data.toList)) (by rw [str_size, xorL_len]; omega)
  rw [str_data] at hs1
  have hs2 := sum_any s0 (by omega)
  have hne2 : (((sumL (xorL D k 4 s0.data.toList) : Nat) : Int) != ((sumL s0.data.toList : Nat) : Int)) = true := by simp; omega
  generalize sumL (xorL D k 4 s0.data.toList) = S1 at *
  generalize sumL s0.data.toList = S2 at *
  obtain ⟨cap, W, hcv, hbW, hby⟩ := bytes_fresh s0 w
  go_enter Try.func7, Try.ntmps7
  go_wp2
  go_loopw [9] (fun i wr => ∃ t : Nat, t ≤ 4 ∧ i = .int .i64 (t : Int) ∧ Byt wr w.heap.size (xorL D k t s0.data.toList) ∧ Below w.heap.size w wr) (fun i _ => 4 - (intOf i).toNat)
  case atStart => exact ⟨0, by omega, rfl, hby, hbW⟩
  case round =>
    obtain ⟨t, ht, rfl, hbt, hbel⟩ := hrel
    clear hby hbW hcv
    by_cases ht4 : t < 4
    · obtain ⟨c, hc1, hc2, hnx⟩ := byt_next hbt (by omega)
      have hb3 := hbel.setCell (p := ⟨w.heap.size, k + t, none⟩) (Nat.le_refl _) (.int .u8 ((c ^^^ byteAt D t).toNat : Int))
      have hx := xor_b c (byteAt D t) _ (byte_pow D t)
      clear hbt
      go_wp2
      go_roundw
      case rel => exact ⟨t + 1, by omega, by go_num, hnx, hb3⟩
      case measure => simp [intOf]; omega
    · have hte : t = 4 := by omega
      subst hte
      have hconv := hbt.conv cap s0.size (by rw [xorL_len, hd])
      clear hbt
      go_wp2_with (first
        | (go_at_call 8; refine (hs1 _).mono ?_; rintro e w4 ⟨rfl, rfl⟩; clear hs1)
        | (go_at_call 8; refine (hs2 _).mono ?_; rintro e w5 ⟨rfl, rfl⟩)
        | (go_at_call 10; refine (awake_any _).mono ?_; rintro e w6 ⟨rfl, rfl⟩))
      go_ret
      exact ⟨rfl, hbel⟩

theorem walk (s0 : ByteArray) (ws0 : s0.size ≤ maxLen) (a1 : Int) (ha1 : -9223372036854775808 ≤ a1 ∧ a1 ≤ 9223372036854775807) (f2 : Nat) (hf2 : f2 < 4294967296) (w : World) :
    Calls Try.prog 7 #[.string s0, .int .i64 a1, .int .u32 (f2 : Int)] w fun e w' => e = .returned (.bool true) ∧ Below w.heap.size w w' := by
  by_cases h4 : s0.size < 4
  · have hd1 : decide ((s0.size : Int) < 4) = true := decide_eq_true (by omega)
    go_enter Try.func7, Try.ntmps7
    go_wp2_with (first
      | (go_at_call 10; refine (awake_any _).mono ?_; rintro e w3 ⟨rfl, rfl⟩))
    go_ret
    exact ⟨rfl, Below.refl _ _⟩
  · have hd1 : decide ((s0.size : Int) < 4) = false := decide_eq_false (by omega)
    by_cases hl : 20000 < (s0.size : Int)
    · have hd2 : decide (20000 < (s0.size : Int)) = true := decide_eq_true hl
      go_enter Try.func7, Try.ntmps7
      go_wp2_with (first
        | (go_at_call 10; refine (awake_any _).mono ?_; rintro e w3 ⟨rfl, rfl⟩))
      go_ret
      exact ⟨rfl, Below.refl _ _⟩
    · by_cases h0 : f2 = 0
      · subst h0
        have hd2 : decide (20000 < (s0.size : Int)) = false := decide_eq_false hl
        go_enter Try.func7, Try.ntmps7
        go_wp2_with (first
          | (go_at_call 10; refine (awake_any _).mono ?_; rintro e w3 ⟨rfl, rfl⟩))
        go_ret
        exact ⟨rfl, Below.refl _ _⟩
      · exact core s0 h4 hl a1 f2 hf2 h0 w

set_option maxRecDepth 100000 in
theorem lifted (os : Os) (started : os.Started) (H : Type) (enc : TypeId × Value → H) :
    ReturnsInHanded {} Try.checked os 7 .any (Rows.sealTwoSpec.pre6 enc Try.prog Try.f7 Rows.sealTwoRow.domain false) (Rows.sealTwoSpec.post enc Try.prog Try.f7 false true false false) := by
  refine returnsInHanded_of_change (C := Try.checked) own started (by kernel_rfl) Try.func7
    (ChangeSpec.witness6 (enc := enc) (C := Try.checked) false ⟨#[], #[.string ByteArray.empty, .int .i64 0, .int .u32 0], []⟩ 8 (by kernel_rfl) (by kernel_rfl) (by kernel_rfl) (by kernel_rfl)) ?_
  intro W base args ds gs before hval0 hW hcnd _
  have hval : ∀ (j : Nat) t v, Try.f7.params[j]? = some t → args[j]? = some v → Value.okWide Try.prog W .any base t v := hval0
  have hW' := hW
  have hWk := hW
  obtain ⟨p, q, hA0, hV, rfl, hfz, hnd⟩ := hW
  have hA : DataW.TrodAll enc Try.prog W 0 (fun _ => true) true Try.f7.params.toList args.toList ds p := hA0
  rw [Try.params7] at hA hval
  obtain ⟨v0, vs0, d0, ds0, p0, q0, hargs, rfl, rfl, h0, r0⟩ := trodAll_cons hA
  obtain ⟨v1, vs1, d1, ds1, p1, q1, rfl, rfl, rfl, h1, r1⟩ := trodAll_cons r0
  obtain ⟨v2, vs2, d2, ds2, p2, q2, rfl, rfl, rfl, h2, r2⟩ := trodAll_cons r1
  obtain ⟨rfl, rfl, rfl⟩ := trodAll_nil r2
  obtain rfl : args = #[v0, v1, v2] := by cases args; simp_all
  obtain ⟨rfl, rfl⟩ := trodVars_none hV
  obtain ⟨s0, rfl, rfl, rfl, ws0⟩ := open_string Try.underlying9 (hval 0 9 v0 rfl rfl) h0
  obtain ⟨a1, rfl, rfl, rfl, wa1⟩ := open_int Try.underlying3 (hval 1 3 v1 rfl rfl) h1
  have ba1 := bounds_i64 wa1
  obtain ⟨g2, rfl, rfl, rfl, wf2⟩ := open_int Try.underlying22 (hval 2 22 v2 rfl rfl) h2
  have bf2 := bounds_u32 wf2
  obtain ⟨f2, rfl⟩ := Int.eq_ofNat_of_zero_le bf2.1
  clear hA0 hval0
  simp only [List.append_nil] at hW'

  refine (walk s0 ws0 a1 (by omega) f2 (by omega) W).mono fun e W' ⟨he, hg⟩ => ?_
  subst he
  exact ⟨_, rfl, _, _, _, [], _, [], hW', trodAll_cons_mk (shut_bool Try.underlying4 _) trodAll_mk0, (trodAll_cons_mk (shut_string Try.underlying9 ws0) (trodAll_cons_mk (shut_int Try.underlying3 wa1) (trodAll_cons_mk (shut_int Try.underlying22 wf2) trodAll_mk0))), rfl, hg.frame _, fun h => by cases h⟩

theorem over : Rows.sealTwoRow.holds Try.pinned (OpenSpec.ofChange Rows.sealTwoSpec) :=
  OpenClaim.holds_of_wide 7 Try.f7 rfl rfl rfl rfl rfl rfl rfl ⟨rfl, rfl, rfl, rfl, rfl⟩ rfl rfl rfl rfl rfl (by kernel_rfl) Try.func7 (by kernel_rfl)
    (of_decide_eq_true (by kernel_rfl)) (by unfold Func.isWrapper; first | (rw [if_pos (by decide +kernel)]; kernel_rfl) | (rw [if_neg (by decide +kernel)]; exact ⟨rfl, rfl⟩))
    (fun os started H enc _ => lifted os started H enc)

theorem proved : Rows.SealTwoSaid :=
  over
#print axioms proved
end Go.Proofs.Ytcjjjhmnkmmecaa.sealTwo
