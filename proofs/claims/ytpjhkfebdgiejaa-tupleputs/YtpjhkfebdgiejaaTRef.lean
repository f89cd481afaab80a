/-
  Contracts: the document's own bytes of a tuple; the examples; what is too long.
-/
import Derived.Test.YtpjhkfebdgiejaaTPut
import Derived.Test.YtpjhkfebdgiejaaTAfter
import Derived.Test.YtpjhkfebdgiejaaVRef
namespace Go.Proofs.Ytpjhkfebdgiejaa
open Go.RowKit Num
set_option linter.unusedVariables false

theorem refPut_may (x : Val) (hx : x.ok) (hm : x.may = true) (w : World) :
    Calls Try.prog 21 #[.agg #[.int .i64 x.k, .int .i64 x.n, .int .u64 (x.f : Int), .string x.s]] w fun e w' => e = .returned (.tuple #[.string (str x.put), .int .i64 0]) ∧ Below w.heap.size w w' := by
  have h := refPut_any x.k x.n hx.1 x.f hx.2 x.s w
  rw [show putT x.k x.n x.f x.s = x.put from if_pos hm, show putE x.k x.n x.f x.s = 0 from if_pos hm] at h
  exact h
theorem refPut_not (x : Val) (hx : x.ok) (hm : x.may = false) (w : World) :
    Calls Try.prog 21 #[.agg #[.int .i64 x.k, .int .i64 x.n, .int .u64 (x.f : Int), .string x.s]] w fun e w' => e = .returned (.tuple #[.string (str []), .int .i64 1]) ∧ Below w.heap.size w w' := by
  have h := refPut_any x.k x.n hx.1 x.f hx.2 x.s w
  have hm' : may x.k x.n x.f x.s = false := hm
  rw [show putT x.k x.n x.f x.s = [] by simp [putT, hm'], show putE x.k x.n x.f x.s = 1 by simp [putE, hm']] at h
  exact h
theorem refTuple_any (ao : Option Addr) (cap : Nat) (l : List Val) (hok : ∀ x ∈ l, x.ok) (w : World) (hl : Lies w w.heap.size ao l) :
    Calls Try.prog 12 #[.slice ao l.length cap] w fun e w' => e = .returned (.tuple #[.string (str (tupT l)), .int .i64 (tupE l)]) ∧ Below w.heap.size w w' := by
  by_cases h16 : 16 < l.length
  · rw [(tup_long h16).1, (tup_long h16).2]
    go_enter Try.func12, Try.ntmps12
    go_wp2
    go_ret2
    exact ⟨rfl, Below.refl _ _⟩
  · go_enter Try.func12, Try.ntmps12
    go_wp2
    go_loopw [4, 5] (fun v i wr => ∃ k n : Nat, k ≤ l.length ∧ i = .int .i64 (k : Int) ∧ n ≤ 83 * k ∧ Hid (mayAll (l.take k) = true) ∧ wr.ownsRow w.heap.size 5 1 v n (cellsOf (putAll (l.take k))) ∧ Below w.heap.size w wr) (fun _ i _ => l.length - (intOf i).toNat)
    case atStart => exact ⟨0, 0, by omega, rfl, by omega, rfl, World.ownsRow_nil _ _ _ _, Below.refl _ _⟩
    case round =>
      obtain ⟨k, n, hk, rfl, hn, HM, hown, hbel⟩ := hrel
      have hsz := hbel.size
      by_cases hkl : k < l.length
      · obtain ⟨a, rfl, hblk, c0, c1, c2, c3⟩ := (hl.below hbel) k l[k] (List.getElem?_eq_getElem hkl)
        have hx := hok l[k] (List.getElem_mem hkl)
        cases hm : (l[k]).may with
        | true =>
          have hp := refPut_may l[k] hx hm
          have HM2 : Hid (mayAll (l.take (k + 1)) = true) := by
            unfold Hid
            rw [mayAll_snoc l k hkl, HM.out, hm]
            rfl
          have hlen := length_put _ hm
          have hcat := putAll_snoc l k hkl
          clear HM hm hx
          generalize (l[k]).put = T at hp hlen hcat
          go_wp2_with (first
            | (go_at_call 21; refine (hp _).mono ?_; rintro e w1 ⟨rfl, hb1⟩)
            | (at_builtin; refine wpList_apps _ rfl _ _ rfl w.heap.size _ n _ rfl (own_below hown hb1) T rfl (by omega) (by have := hb1.size; omega) ?_; intro v3 w3 hown3 hbel3))
          rw [← hcat] at hown3
          go_roundw
          case rel => exact ⟨k + 1, n + T.length, by omega, by go_num, by omega, HM2, hown3, (hbel.trans (hb1.mono hsz)).trans hbel3⟩
          case measure => simp [intOf]; omega
        | false =>
          have hp := refPut_not l[k] hx hm
          have hbad := mayAll_bad l k hkl hm
          clear HM hm hx
          go_wp2_with (first
            | (go_at_call 21; refine (hp _).mono ?_; rintro e w1 ⟨rfl, hb1⟩))
          go_ret2
          rw [(tup_bad h16 hbad).1, (tup_bad h16 hbad).2]
          exact ⟨rfl, hbel.trans (hb1.mono hsz)⟩
      · have hke : k = l.length := by omega
        subst hke
        rw [List.take_length] at hown HM
        have hconv := conv_own wr _ _ _ _ hown
        go_wp2
        go_ret2
        rw [(tup_ok h16 HM.out).1, (tup_ok h16 HM.out).2]
        exact ⟨rfl, hbel⟩
end Go.Proofs.Ytpjhkfebdgiejaa
