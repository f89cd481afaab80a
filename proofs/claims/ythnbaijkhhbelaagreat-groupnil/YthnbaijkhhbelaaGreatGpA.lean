/-
  Contracts: a group's member, a member that runs, how many messages are under way; of a group that there is not.
-/
import Derived.Test.YthnbaijkhhbelaaGreatGpMem
namespace Go.Proofs.YthnbaijkhhbelaaGreat
open Go.RowKit Num
open scoped Classical
set_option linter.unusedVariables false
set_option maxRecDepth 100000

theorem member_at (g b cap n i : Nat) (hi : i < n) (hn : n ≤ 5) (w : World) (c0 : w.cell? ⟨g, 0, none⟩ = some (.slice (some ⟨b, 0, none⟩) n cap)) :
    Calls Tryz.prog 51 #[.pointer (some ⟨g, 0, none⟩), .int .i64 (i : Int)] w fun e w' => e = .returned (.tuple #[.pointer (some ⟨b, i * 14, none⟩), .int .i64 0]) ∧ w' = w := by
  have i1 : ¬ (i : Int) < 0 := by omega
  have i2 : (i : Int) < (n : Int) := by omega
  have i3 : ¬ (n : Int) ≤ (i : Int) := by omega
  go_enter Tryz.func51, Tryz.ntmps51
  go_wp2
  refine bodyPost_ret (v := .tuple #[.pointer (some ⟨b, i * 14, none⟩), .int .i64 0]) (by simp [results, Tryz.results51, go_sem]) rfl ⟨rfl, rfl⟩
theorem member_out (g b cap n : Nat) (i : Int) (hi : i < 0 ∨ (n : Int) ≤ i) (hn : n ≤ 5) (w : World) (c0 : w.cell? ⟨g, 0, none⟩ = some (.slice (some ⟨b, 0, none⟩) n cap)) :
    Calls Tryz.prog 51 #[.pointer (some ⟨g, 0, none⟩), .int .i64 i] w fun e w' => e = .returned (.tuple #[.pointer none, .int .i64 20]) ∧ w' = w := by
  by_cases h0 : i < 0
  · clear hi
    go_enter Tryz.func51, Tryz.ntmps51
    go_wp2
    refine bodyPost_ret (v := .tuple #[.pointer none, .int .i64 20]) (by simp [results, Tryz.results51, go_sem]) rfl ⟨rfl, rfl⟩
  · have i1 : (n : Int) ≤ i := by omega
    clear hi
    go_enter Tryz.func51, Tryz.ntmps51
    go_wp2
    refine bodyPost_ret (v := .tuple #[.pointer none, .int .i64 20]) (by simp [results, Tryz.results51, go_sem]) rfl ⟨rfl, rfl⟩
theorem member_nil (i : Int) (w : World) :
    Calls Tryz.prog 51 #[.pointer none, .int .i64 i] w fun e w' => e = .returned (.tuple #[.pointer none, .int .i64 20]) ∧ w' = w := by
  go_enter Tryz.func51, Tryz.ntmps51
  go_wp2
  refine bodyPost_ret (v := .tuple #[.pointer none, .int .i64 20]) (by simp [results, Tryz.results51, go_sem]) rfl ⟨rfl, rfl⟩
theorem running_of (gv : Option Addr) (i : Int) (w : World) (hm : Calls Tryz.prog 51 #[.pointer gv, .int .i64 i] w fun e w' => e = .returned (.tuple #[.pointer none, .int .i64 20]) ∧ w' = w) :
    Calls Tryz.prog 46 #[.pointer gv, .int .i64 i] w fun e w' => e = .returned (.tuple #[.pointer none, .int .i64 20]) ∧ w' = w := by
  go_enter Tryz.func46, Tryz.ntmps46
  go_wp2_with (first
    | (go_at_call 51; refine hm.mono ?_; rintro e wn ⟨rfl, hq⟩; have hq' := hq.symm; clear hq; subst hq'))
  refine bodyPost_ret (v := .tuple #[.pointer none, .int .i64 20]) (by simp [results, Tryz.results46, go_sem]) rfl ⟨rfl, rfl⟩
theorem running_at (g b cap n i : Nat) (hi : i < n) (hn : n ≤ 5) (up : Bool) (w : World) (c0 : w.cell? ⟨g, 0, none⟩ = some (.slice (some ⟨b, 0, none⟩) n cap)) (c1 : w.cell? ⟨b, i * 14 + 13, none⟩ = some (.bool up)) :
    Calls Tryz.prog 46 #[.pointer (some ⟨g, 0, none⟩), .int .i64 (i : Int)] w fun e w' => e = .returned (if up then .tuple #[.pointer (some ⟨b, i * 14, none⟩), .int .i64 0] else .tuple #[.pointer none, .int .i64 19]) ∧ w' = w := by
  have hm := member_at g b cap n i hi hn w c0
  clear c0
  cases up
  · go_enter Tryz.func46, Tryz.ntmps46
    go_wp2_with (first
      | (go_at_call 51; refine hm.mono ?_; rintro e wn ⟨rfl, hq⟩; have hq' := hq.symm; clear hq; subst hq'))
    refine bodyPost_ret (v := .tuple #[.pointer none, .int .i64 19]) (by simp [results, Tryz.results46, go_sem]) rfl ⟨rfl, rfl⟩
  · go_enter Tryz.func46, Tryz.ntmps46
    go_wp2_with (first
      | (go_at_call 51; refine hm.mono ?_; rintro e wn ⟨rfl, hq⟩; have hq' := hq.symm; clear hq; subst hq'))
    refine bodyPost_ret (v := .tuple #[.pointer (some ⟨b, i * 14, none⟩), .int .i64 0]) (by simp [results, Tryz.results46, go_sem]) rfl ⟨rfl, rfl⟩
/-- Is there a replica i that runs? -/
def Num.runsG (ms : List Mbr) (i : Int) : Option Mbr := if i < 0 then none else ms[i.toNat]?
/-- What 'running' answers: where the member lies; or why not. -/
def Num.runV (b : Nat) (ms : List Mbr) (i : Int) : Value := match runsG ms i with
  | none => .tuple #[.pointer none, .int .i64 20]
  | some m => if m.up then .tuple #[.pointer (some ⟨b, i.toNat * 14, none⟩), .int .i64 0] else .tuple #[.pointer none, .int .i64 19]
theorem runs_lt {ms : List Mbr} {i : Int} {m : Mbr} (h : runsG ms i = some m) : ∃ k : Nat, i = (k : Int) ∧ ms[k]? = some m ∧ k < ms.length := by
  unfold runsG at h
  by_cases h0 : i < 0
  · rw [if_pos h0] at h
    cases h
  · rw [if_neg h0] at h
    exact ⟨i.toNat, by omega, h, (List.getElem?_eq_some_iff.1 h).1⟩
theorem runs_none {ms : List Mbr} {i : Int} (h : runsG ms i = none) : i < 0 ∨ (ms.length : Int) ≤ i := by
  unfold runsG at h
  by_cases h0 : i < 0
  · exact .inl h0
  · rw [if_neg h0] at h
    have := List.getElem?_eq_none_iff.1 h
    right
    omega
theorem running_any {B : Nat} {w : World} {g b cap : Nat} {no : Option Addr} {nc : Nat} {ms : List Mbr} {net : Msgs} (h : GrpAt B w g b cap no nc ms net) (hn : ms.length ≤ 5) (i : Int) :
    Calls Tryz.prog 46 #[.pointer (some ⟨g, 0, none⟩), .int .i64 i] w fun e w' => e = .returned (runV b ms i) ∧ w' = w := by
  unfold runV
  cases hr : runsG ms i with
  | none => exact running_of _ i w (member_out g b cap ms.length i (runs_none hr) hn w h.cells.1)
  | some m =>
    obtain ⟨k, rfl, hk, hkl⟩ := runs_lt hr
    rw [Int.toNat_natCast]
    exact running_at g b cap ms.length k hkl hn m.up w h.cells.1 ((h.at hk).1 13 _ (by omega) rfl)
theorem runs_any {B : Nat} {w : World} {g b cap : Nat} {no : Option Addr} {nc : Nat} {ms : List Mbr} {net : Msgs} (h : GrpAt B w g b cap no nc ms net) (hn : ms.length ≤ 5) (i : Int) :
    Calls Tryz.prog 26 #[.pointer (some ⟨g, 0, none⟩), .int .i64 i] w fun e w' => e = .returned (.bool (match runsG ms i with | none => false | some m => m.up)) ∧ w' = w := by
  have hr := running_any h hn i
  clear h
  unfold runV at hr
  cases hq : runsG ms i with
  | none =>
    rw [hq] at hr
    clear hq
    go_enter Tryz.func26, Tryz.ntmps26
    go_wp2_with (first
      | (go_at_call 46; refine hr.mono ?_; rintro e wn ⟨rfl, hq⟩; have hq' := hq.symm; clear hq; subst hq'))
    go_ret
    exact ⟨rfl, rfl⟩
  | some m =>
    rw [hq] at hr
    clear hq
    obtain ⟨r, s, up⟩ := m
    cases up
    all_goals
      go_enter Tryz.func26, Tryz.ntmps26
      go_wp2_with (first
        | (go_at_call 46; refine hr.mono ?_; rintro e wn ⟨rfl, hq⟩; have hq' := hq.symm; clear hq; subst hq'))
      go_ret
      exact ⟨rfl, rfl⟩
theorem under_any {B : Nat} {w : World} {g b cap : Nat} {no : Option Addr} {nc : Nat} {ms : List Mbr} {net : Msgs} (h : GrpAt B w g b cap no nc ms net) :
    Calls Tryz.prog 22 #[.pointer (some ⟨g, 0, none⟩)] w fun e w' => e = .returned (.int .i64 (net.length : Int)) ∧ w' = w := by
  have c1 := h.cells.2.1
  clear h
  go_enter Tryz.func22, Tryz.ntmps22
  go_wp2
  go_ret
  exact ⟨rfl, rfl⟩
end Go.Proofs.YthnbaijkhhbelaaGreat
