/-
  Contracts: what stands at a key, and between two keys (7.4).
-/
import Derived.Test.YtdllfplgenpalaaPDelB
import Derived.Test.YtdllfplgenpalaaPGtM
namespace Go.Proofs.Ytdllfplgenpalaa
open Go.RowKit Num
open scoped Classical
set_option linter.unusedVariables false

/-- 7.4, of whatever pages. -/
def Num.lookA (ps : Pages) (k : ByteArray) [Decidable (RightP ps)] : Option ByteArray := if RightP ps then lookP ps.flatten k else none
def Num.lookS (o : Option ByteArray) : ByteArray := match o with
  | none => ⟨#[]⟩
  | some v => v
def Num.lookB (o : Option ByteArray) : Bool := match o with
  | none => false
  | some _ => true
theorem lookA_yes {ps : Pages} {k : ByteArray} (h : RightP ps) : lookA ps k = lookP ps.flatten k := if_pos h
theorem lookA_no {ps : Pages} {k : ByteArray} (h : ¬ RightP ps) : lookA ps k = none := if_neg h
def Num.scanA (ps : Pages) (lo hi : ByteArray) (n : Int) [Decidable (RightP ps)] : List Pr := if RightP ps then scanL ps.flatten lo hi n else []
theorem scanA_yes {ps : Pages} {lo hi : ByteArray} {n : Int} (h : RightP ps) : scanA ps lo hi n = scanL ps.flatten lo hi n := if_pos h
theorem scanA_no {ps : Pages} {lo hi : ByteArray} {n : Int} (h : ¬ RightP ps) : scanA ps lo hi n = [] := if_neg h
theorem right_calls (ps : Pages) (ao : Option Addr) (cap : Nat) (h900 : ps.length ≤ 900) (hp4 : ∀ p ∈ ps, p.length ≤ 1000) (hr : RightP ps) (w : World) (hl : LiesPg w w.heap.size ao ps) : Calls Try.prog 9 #[.slice ao ps.length cap] w (fun e w' => e = .returned (.bool true) ∧ Below w.heap.size w w') := by
  have h := right_any ps ao cap (by omega) hp4 w hl
  rw [tru_yes hr] at h
  exact h
set_option maxRecDepth 100000 in
set_option maxHeartbeats 1000000 in
theorem get_any (ps : Pages) (ao : Option Addr) (cap : Nat) (k : ByteArray) (h900 : ps.length ≤ 900) (hp4 : ∀ p ∈ ps, p.length ≤ 1000) (w : World) (hl : LiesPg w w.heap.size ao ps) :
    Calls Try.prog 18 #[.slice ao ps.length cap, .string k] w fun e w' => e = .returned (.tuple #[.string (lookS (lookA ps k)), .bool (lookB (lookA ps k))]) ∧ Below w.heap.size w w' := by
  by_cases hr : RightP ps
  · rw [lookA_yes hr]
    have hright := right_calls ps ao cap h900 hp4 hr w hl
    by_cases hne : ps = []
    · subst hne
      rw [show lookP (List.flatten []) k = none from rfl]
      clear hr
      go_enter Try.func18, Try.ntmps18
      go_wp2_with (first
        | (go_at_call 9; refine hright.mono ?_; rintro e w1 ⟨rfl, hb1⟩)
        | (go_at_call 24; refine (find_none ao cap k w1).mono ?_; rintro e w3 ⟨rfl, hb3⟩))
      go_ret2
      exact ⟨rfl, below_next hb1 (Nat.le_refl _) hb3⟩
    · have hof := of_lt k hne
      have hp : ps[ofP ps k]? = some (ps[ofP ps k]'hof) := List.getElem?_eq_getElem hof
      generalize (ps[ofP ps k]'hof) = p at *
      have hp8 := hr.1 p (List.mem_of_getElem? hp)
      have hfind := fun w2 (hb : Below w.heap.size w w2) => find_any ps hr ao cap k (by omega) p hp w2 (liesPg_next hl hb hb.size)
      cases hh : hasK p k with
      | true =>
        obtain ⟨x, hx, hxk⟩ := hasK_yes hh
        rw [look_yes hr hp hx hxk]
        rw [hh] at hfind
        have hjl := (List.getElem?_eq_some_iff.1 hx).1
        obtain ⟨a, rfl, hblk, bo, c, c0, hl2, hcap⟩ := hl (ofP ps k) p hp
        rw [Nat.mul_one] at c0
        obtain ⟨a2, rfl, hblk2, e0, e1⟩ := hl2 (cntK p k) x hx
        have f1 : ((ofP ps k : Nat) : Int) < (ps.length : Int) := by omega
        have f2 : ((cntK p k : Nat) : Int) < (p.length : Int) := by omega
        have kk : ∀ w2, Below w.heap.size w w2 → w2.cell? (a.add (ofP ps k)) = some (.slice (some a2) p.length c) ∧ w2.cell? ⟨(a2.add (cntK p k * 2)).block, (a2.add (cntK p k * 2)).off + 1, none⟩ = some (.string x.val) := fun w2 hb => ⟨(hb.cell (cell_lt c0)).trans c0, (hb.cell (cell_lt e1)).trans e1⟩
        clear hr hh hxk hl hl2 c0 e0 e1 hx hp
        generalize ofP ps k = M at *
        generalize cntK p k = J at *
        go_enter Try.func18, Try.ntmps18
        go_wp2_with (first
          | (go_at_call 9; refine hright.mono ?_; rintro e w1 ⟨rfl, hb1⟩)
          | (go_at_call 24; refine (hfind w1 hb1).mono ?_; rintro e w3 ⟨rfl, hb3⟩
             obtain ⟨k1, k2⟩ := kk w3 (below_next hb1 (Nat.le_refl _) hb3)))
        go_ret2
        exact ⟨rfl, below_next hb1 (Nat.le_refl _) hb3⟩
      | false =>
        rw [look_no hr hp hh]
        rw [hh] at hfind
        clear hr hh hp
        go_enter Try.func18, Try.ntmps18
        go_wp2_with (first
          | (go_at_call 9; refine hright.mono ?_; rintro e w1 ⟨rfl, hb1⟩)
          | (go_at_call 24; refine (hfind w1 hb1).mono ?_; rintro e w3 ⟨rfl, hb3⟩))
        go_ret2
        exact ⟨rfl, below_next hb1 (Nat.le_refl _) hb3⟩
  · have hright := right_any ps ao cap (by omega) hp4 w hl
    rw [tru_no hr] at hright
    rw [lookA_no hr]
    clear hr
    go_enter Try.func18, Try.ntmps18
    go_wp2_with (first
      | (go_at_call 9; refine hright.mono ?_; rintro e w1 ⟨rfl, hb1⟩))
    go_ret2
    exact ⟨rfl, hb1⟩
end Go.Proofs.Ytdllfplgenpalaa
