/-
  Contracts: the law's own: the document's example (awake).
-/
import Derived.Test.YtdmkmhjalcfchaaTxH
import Derived.Test.YtdmkmhjalcfchaaTxK
namespace Go.Proofs.Ytdmkmhjalcfchaa
open Go.RowKit Go.Maps Num
open scoped Classical
set_option linter.unusedVariables false
set_option maxRecDepth 100000

/-! A version behind all others. -/
theorem put_app {s : Sto} {v : Ver} (hi : InvS s) (h1 : 1 ≤ v.time) (h2 : v.time < 1099511627776) (h3 : s.top < v.time) (hg : v.gone = false) (hr : (s.vs.length : Int) < s.room) : putS s v = (0, ⟨s.room, v.time, s.vs ++ [v]⟩) := by
  unfold putS
  rw [if_neg (by omega), if_neg (by rw [hg]; simp), if_neg ?_, if_neg (by omega)]
  intro h
  cases hl : lastA s.vs v.key with
  | none =>
    rw [hl] at h
    cases h
  | some x =>
    rw [hl] at h
    have ht : x.time = v.time := of_decide_eq_true h
    have hm := List.mem_of_getLast? hl
    have := (hi.2.1 x (List.mem_filter.1 hm).1).2
    omega
/-! The document's example, plainly. -/
abbrev Num.kA : ByteArray := ⟨#[97]⟩
abbrev Num.kB : ByteArray := ⟨#[98]⟩
abbrev Num.kC : ByteArray := ⟨#[99]⟩
abbrev Num.xA : Pr := ⟨kA, ⟨#[49]⟩⟩
abbrev Num.xC : Pr := ⟨kC, ⟨#[51]⟩⟩
theorem kl_ab : kl kA kB := by
  unfold kl
  rw [Lib.toList_data, Lib.toList_data]
  rfl
theorem kl_bc : kl kB kC := by
  unfold kl
  rw [Lib.toList_data, Lib.toList_data]
  rfl
theorem kl_ac : kl kA kC := kl_trans kl_ab kl_bc
abbrev Num.exV : List Ver := [⟨kA, 1, ⟨#[49]⟩, false⟩, ⟨kC, 2, ⟨#[51]⟩, false⟩]
theorem one_full (n : UInt8) : ((⟨#[n]⟩ : ByteArray).toList == []) = false := by
  rw [Lib.toList_data]
  rfl
theorem ex_both : bothS [xA, xC] = ⟨1000, 2, exV⟩ := by
  have e : bothS [xA, xC] = bothN [xA, xC] 2 := rfl
  have h0 : bothN [xA, xC] 0 = ⟨1000, 0, []⟩ := rfl
  have hA : verB xA (((0 : Nat) : Int) + 1) = ⟨kA, 1, ⟨#[49]⟩, false⟩ := by
    unfold verB
    rw [one_full]
    rfl
  have hC : verB xC (((1 : Nat) : Int) + 1) = ⟨kC, 2, ⟨#[51]⟩, false⟩ := by
    unfold verB
    rw [one_full]
    rfl
  have i0 := (both_ok [xA, xC] 0).inv
  have i1 := (both_ok [xA, xC] 1).inv
  have h1 : bothN [xA, xC] 1 = ⟨1000, 1, [⟨kA, 1, ⟨#[49]⟩, false⟩]⟩ := by
    rw [both_put (x := xA) rfl (by decide), hA, put_app i0 (by decide) (by decide) (by decide) rfl (by decide)]
    rfl
  rw [h1] at i1
  rw [e, both_put (x := xC) rfl (by decide), hC, h1, put_app i1 (by decide) (by decide) (by decide) rfl (by decide)]
  rfl
theorem ex_get (k : ByteArray) : getV exV k 5 = if k = kA then some ⟨#[49]⟩ else if k = kC then some ⟨#[51]⟩ else none := by
  by_cases hA : k = kA
  · subst hA
    have h2 : isKey kA (⟨kC, 2, ⟨#[51]⟩, false⟩ : Ver) = false := isKey_no (fun e => kl_ne kl_ac e.symm)
    have h1 : isKey kA (⟨kA, 1, ⟨#[49]⟩, false⟩ : Ver) = true := isKey_iff.2 rfl
    simp [getV, lastV, verT, h1, h2]
  · by_cases hC : k = kC
    · subst hC
      have h1 : isKey kC (⟨kA, 1, ⟨#[49]⟩, false⟩ : Ver) = false := isKey_no (kl_ne kl_ac)
      have h2 : isKey kC (⟨kC, 2, ⟨#[51]⟩, false⟩ : Ver) = true := isKey_iff.2 rfl
      simp [getV, lastV, verT, h1, h2, hA]
    · have h1 : isKey k (⟨kA, 1, ⟨#[49]⟩, false⟩ : Ver) = false := isKey_no (fun e => hA e.symm)
      have h2 : isKey k (⟨kC, 2, ⟨#[51]⟩, false⟩ : Ver) = false := isKey_no (fun e => hC e.symm)
      simp [getV, lastV, verT, h1, h2, hA, hC]
theorem ex_scan : ScanIs exV 5 ⟨#[]⟩ ⟨#[]⟩ [xA, xC] := by
  refine ⟨by simp [Rises, kl_ac], fun x => ?_⟩
  rw [withinB_all, ex_get]
  obtain ⟨k, v⟩ := x
  constructor
  · intro h
    rcases List.mem_cons.1 h with e | h
    · cases e
      exact ⟨rfl, if_pos rfl⟩
    · have e := List.mem_singleton.1 h
      cases e
      exact ⟨rfl, by rw [if_neg (fun e => kl_ne kl_ac e.symm), if_pos rfl]⟩
  · rintro ⟨_, h⟩
    split at h
    · rename_i e
      cases h
      simp only at e
      subst e
      simp
    · split at h
      · rename_i e
        cases h
        simp only at e
        subst e
        simp
      · cases h
def Num.exS : Sto := ⟨1000, 2, exV⟩
def Num.exT2 : Tx := ⟨exS, 5, [], [], [], 0⟩
def Num.exT : Tx := ⟨⟨1000, 2, exV⟩, 5, [], [], [⟨kB, ⟨#[50]⟩, false⟩], 1⟩
theorem ex_told : scanX exT ⟨#[]⟩ ⟨#[]⟩ 10 [xA, xC] = [xA, ⟨kB, ⟨#[50]⟩⟩, xC] := by
  unfold scanX exT
  simp only
  rw [ownW_all, mrg_gt kl_ab, mrg_lt kl_bc, mrg_own]
  rfl
theorem tnew_some (B : Nat) (s : Nat) (B0 : Nat) (st : Sto) (snap : Int) (hn : st.vs.length ≤ 500) (hks : ∀ v ∈ st.vs, v.key.size ≤ 900000) (w : World) (hB : B = w.heap.size) (h : HoldP B0 w s st) :
    Calls Try.prog 11 #[.pointer (some ⟨s, 0, none⟩), .int .i64 snap] w fun e w' => e = .returned (.pointer (some ⟨w.heap.size, 0, none⟩)) ∧ HoldT B w' w.heap.size ⟨st, snap, [], [], [], 0⟩ (some s) (fun i => i = w.heap.size) ∧ Below w.heap.size w w' :=
  tnew_any B (some s) st snap hn h.inv.1 hks w (Nat.le_of_eq hB) (.inr ⟨s, B0, w, rfl, h, Nat.le_of_eq hB.symm, Below.refl _ _⟩)
def Num.exT4 : Tx := scanN exT ⟨#[]⟩ ⟨#[]⟩ 10 [xA, xC]
theorem ex_new (s B0 : Nat) (w : World) (h : HoldP B0 w s exS) :
    Calls Try.prog 11 #[.pointer (some ⟨s, 0, none⟩), .int .i64 5] w fun e w' => e = .returned (.pointer (some ⟨w.heap.size, 0, none⟩)) ∧ HoldT w.heap.size w' w.heap.size exT2 (some s) (fun i => i = w.heap.size) ∧ Below w.heap.size w w' :=
  tnew_some w.heap.size s B0 exS 5 (by decide) (by intro v hv; simp [exS] at hv; rcases hv with rfl | rfl <;> decide) w rfl h
theorem ex_write : writeN exT2 ⟨kB, ⟨#[50]⟩, false⟩ = exT := rfl
theorem ex_put (B g : Nat) (so : Option Nat) (F : Nat → Prop) (w : World) (h : HoldT B w g exT2 so F) :
    Calls Try.prog 18 #[.pointer (some ⟨g, 0, none⟩), .string ⟨#[98]⟩, .string ⟨#[50]⟩] w fun e w' => e = .returned (.tuple #[]) ∧ HoldT B w' g exT so (Grw F w w') ∧ Out F w w' := by
  have := tput_any B g exT2 so kB ⟨#[50]⟩ (by decide) (by decide) F w h
  rw [ex_write] at this
  exact this
theorem ex_tell (B g : Nat) (so : Option Nat) (F : Nat → Prop) (w : World) (h : HoldT B w g exT so F) :
    Calls Try.prog 16 #[.pointer (some ⟨g, 0, none⟩), .string ⟨#[]⟩, .string ⟨#[]⟩, .int .i64 10] w fun e w' => ∃ a cap, e = .returned (.slice (some a) 3 cap) ∧ w'.cell? ⟨a.block, a.off + 3, none⟩ = some (.string ⟨#[50]⟩) ∧ HoldT B w' g exT4 so (Grw F w w') ∧ Out F w w' := by
  have hc := tscan_yes B g exT so ⟨#[]⟩ ⟨#[]⟩ 10 (by decide) (by decide) [xA, xC] ex_scan F w h
  rw [ex_told] at hc
  refine hc.mono ?_
  rintro e w4 ⟨ao4, cap4, rfl, hrow4, hT4, ho4⟩
  obtain ⟨ao4', cap4', e4, hl4, _⟩ := own_lies hrow4
  cases e4
  obtain ⟨a, rfl, _, _, q1⟩ := hl4 1 _ rfl
  exact ⟨a, _, rfl, q1, hT4, ho4⟩
theorem ex_cmd (B g : Nat) (so : Option Nat) (F : Nat → Prop) (w : World) (h : HoldT B w g exT4 so F) :
    Calls Try.prog 23 #[.pointer (some ⟨g, 0, none⟩)] w fun e w' => ∃ ko kn kc ro rc wo wn wc, e = .returned (.agg #[.int .i64 0, .int .i64 0, .int .i64 0, .int .i64 5, .slice ko kn kc, .slice ro 1 rc, .slice wo wn wc, .int .i64 0, .int .i64 0, .int .i64 0, .string ⟨#[]⟩, .int .i64 0, .slice none 0 0]) ∧ Below w.heap.size w w' := by
  refine (tcmd_any B g exT4 so F w h).mono ?_
  rintro e w5 ⟨ko, kc, ro, rc, wo, wc, rfl, _, _, _, hb5, _⟩
  exact ⟨ko, _, kc, ro, rc, wo, _, wc, rfl, hb5⟩
theorem ex_all (w : World) (g : Nat) (cap : Nat) (hl : LiesPr w w.heap.size (some ⟨g, 0, none⟩) [xA, xC]) :
    Calls Try.prog 10 #[.slice (some ⟨g, 0, none⟩) 2 cap] w fun e w' => ∃ gs gr, e = .returned (.tuple #[.pointer (some ⟨gs, 0, none⟩), .pointer (some ⟨gr, 0, none⟩)]) ∧ (∃ B1, HoldP B1 w' gs exS) ∧ Below w.heap.size w w' := by
  have hb := both_any [xA, xC] (some ⟨g, 0, none⟩) cap w hl
  rw [ex_both] at hb
  refine hb.mono ?_
  rintro e w' ⟨gs, gr, rfl, h1, _, h2⟩
  exact ⟨gs, gr, rfl, h1, h2⟩
theorem field_rngs (s : Int) (ko ro wo : Option Addr) (kn kc rn rc wn wc : Nat) (W : World) : (Instr.field 48 (.agg #[.int .i64 0, .int .i64 0, .int .i64 0, .int .i64 s, .slice ko kn kc, .slice ro rn rc, .slice wo wn wc, .int .i64 0, .int .i64 0, .int .i64 0, .string ⟨#[]⟩, .int .i64 0, .slice none 0 0]) 5).run Try.prog W = .ok (.slice ro rn rc) W := by kernel_rfl
theorem field_keys (s : Int) (ko ro wo : Option Addr) (kn kc rn rc wn wc : Nat) (W : World) : (Instr.field 48 (.agg #[.int .i64 0, .int .i64 0, .int .i64 0, .int .i64 s, .slice ko kn kc, .slice ro rn rc, .slice wo wn wc, .int .i64 0, .int .i64 0, .int .i64 0, .string ⟨#[]⟩, .int .i64 0, .slice none 0 0]) 4).run Try.prog W = .ok (.slice ko kn kc) W := by kernel_rfl
set_option maxRecDepth 100000 in
set_option maxHeartbeats 2000000 in
theorem awake15_any (w : World) : Calls Try.prog 9 #[] w fun e w' => e = .returned (.bool true) ∧ Below w.heap.size w w' := by
  obtain ⟨W, hW⟩ : ∃ W, w.alloc (.cells #[.string ⟨#[97]⟩, .string ⟨#[49]⟩, .string ⟨#[99]⟩, .string ⟨#[51]⟩] 52) = W := ⟨_, rfl⟩
  have hbW : Below w.heap.size w W := by rw [← hW]; exact (Below.refl _ w).alloc (Nat.le_refl _) _
  have hbx : W.heap[w.heap.size]? = some (.cells #[.string ⟨#[97]⟩, .string ⟨#[49]⟩, .string ⟨#[99]⟩, .string ⟨#[51]⟩] 52 (0, 0)) := by rw [← hW]; exact heap_new w _
  have hlies : LiesPr W W.heap.size (some ⟨w.heap.size, 0, none⟩) [xA, xC] := by
    intro i x hx
    have hlt : w.heap.size < W.heap.size := (Array.getElem?_eq_some_iff.1 hbx).1
    match i, hx with
    | 0, hx =>
      cases hx
      exact ⟨_, rfl, hlt, box_cell hbx 0 _ rfl, box_cell hbx 1 _ rfl⟩
    | 1, hx =>
      cases hx
      exact ⟨_, rfl, hlt, box_cell hbx 2 _ rfl, box_cell hbx 3 _ rfl⟩
    | n + 2, hx => simp at hx
  have hboth := ex_all W w.heap.size 2 hlies
  have hfield := field_rngs
  clear hbx hlies
  go_enter Try.func9, Try.ntmps9
  go_wp2_with (first
    | (go_at_call 10; (try rw [hW]); refine hboth.mono ?_; rintro e w1 ⟨gs, gr, rfl, ⟨B1, hP⟩, hb1⟩
       have hbw1 := below_next hbW (Nat.le_refl _) hb1)
    | (go_at_call 11; refine (ex_new gs B1 w1 hP).mono ?_; rintro e w2 ⟨rfl, hT2, hb2⟩
       have hbw2 := below_next hbw1 (Nat.le_refl _) hb2)
    | (go_at_call 18; refine (ex_put _ _ _ _ _ hT2).mono ?_; rintro e w3 ⟨rfl, hT3, ho3⟩
       have hbw3 : Below w.heap.size w w3 := hbw2.trans (ho3.below (fun i hi => by rw [hi]; exact hbw1.size) hbw2.size))
    | (go_at_call 16; refine (ex_tell _ _ _ _ _ hT3).mono ?_; rintro e w4 ⟨a, cap4, rfl, q1, hT4, ho4⟩
       have hbw4 : Below w.heap.size w w4 := hbw3.trans (ho4.below (fun i hi => Nat.le_trans hbw1.size (hT3.2 i hi).1) hbw3.size))
    | (go_at_call 23; refine (ex_cmd _ _ _ _ _ hT4).mono ?_; rintro e w5 ⟨ko, kn, kc, ro, rc, wo, wn, wc, rfl, hb5⟩
       have hbw5 := below_next hbw4 (Nat.le_refl _) hb5))
  go_ret
  exact ⟨rfl, hbw5⟩
end Go.Proofs.Ytdmkmhjalcfchaa
