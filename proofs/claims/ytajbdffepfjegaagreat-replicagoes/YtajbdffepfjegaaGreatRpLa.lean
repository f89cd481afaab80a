/-
  Contract: the program's Take (what is made of MsgPrepared handed in from outside).
-/
import Derived.Test.YtajbdffepfjegaaGreatRpKy
import Derived.Test.YtajbdffepfjegaaGreatRpG16
import Derived.Test.YtajbdffepfjegaaGreatRpKu
import Derived.Test.YtajbdffepfjegaaGreatRpKo
import Derived.Test.YtajbdffepfjegaaGreatRpKg
namespace Go.Proofs.YtajbdffepfjegaaGreat
open Go.RowKit Num
open scoped Classical
set_option linter.unusedVariables false
set_option maxRecDepth 100000
/-- What is made of a message that may come. -/
def Num.takeH (r : Rep) (m : Msg) [∀ l, Decidable (LogOk l)] : Rep × Msgs := if m.a0 = 1 then prepareH r m else if m.a0 = 2 then preparedH r m else if m.a0 = 3 then commitH r m else if m.a0 = 4 then changeH r m else if m.a0 = 5 then stateH r m else if m.a0 = 6 then viewH r m else if m.a0 = 7 then askH r m else logH r m
/-- What Take answers. -/
def Num.takR (r : Rep) (m : Msg) [∀ q, Decidable (May q)] [∀ q p, Decidable (MsgOk q p)] [∀ l, Decidable (LogOk l)] : Rep × Msgs × Int :=
  if May r then
    if (1 ≤ m.a0 ∧ m.a0 ≤ 8) ∧ MsgOk r m then ((takeH r m).1, (takeH r m).2, 0) else (r, [], 1)
  else (r, [], 1)
/-- MsgPrepared is taken as it should be. -/
def Num.PrepC : Prop := ∀ (B g : Nat) (r : Rep) (m : Msg) (bo : Option Addr) (c : Nat), May r → MsgOk r m → ∀ w, Turn B w g r [] → SrcE B w bo c m.log →
  Calls Tryz.prog 60 #[.pointer (some ⟨g, 0, none⟩), msV m bo c] w fun e w' => e = .returned (.tuple #[]) ∧ Turn B w' g (preparedH r m).1 (preparedH r m).2 ∧ Below B w w'
set_option maxHeartbeats 1000000 in
theorem turn_take (hP : PrepC) (B g : Nat) (r : Rep) (m : Msg) (bo : Option Addr) (c : Nat) (hmay : May r) (hsm : SmallR r) (hk8 : 1 ≤ m.a0 ∧ m.a0 ≤ 8) (hok : MsgOk r m) (hmc : m.log.length ≤ c) (w : World) (h : Turn B w g r []) (hs : SrcE B w bo c m.log) :
    Calls Tryz.prog 24 #[.pointer (some ⟨g, 0, none⟩), msV m bo c] w fun e w' => e = .returned (.tuple #[]) ∧ Turn B w' g (takeH r m).1 (takeH r m).2 ∧ Below B w w' := by
  have h8 : m.a0 = 1 ∨ m.a0 = 2 ∨ m.a0 = 3 ∨ m.a0 = 4 ∨ m.a0 = 5 ∨ m.a0 = 6 ∨ m.a0 = 7 ∨ m.a0 = 8 := by omega
  rcases h8 with hk | hk | hk | hk | hk | hk | hk | hk
  · have e1 : takeH r m = prepareH r m := by
      unfold takeH
      exact if_pos hk
    rw [e1]
    exact take_prepare B g r _ _ m bo c hk hok w h hs fun W hT hS => prepare_any B g r m bo c ⟨hok.nums.1.1, by have := hok.nums.1.2; omega⟩ (hok.pre.resolve_left (fun h => h hk)) hok.log hmay.log W hT hS
  · have e1 : takeH r m = preparedH r m := by
      unfold takeH
      rw [if_neg (by omega : ¬ m.a0 = 1)]; exact if_pos hk
    rw [e1]
    exact take_prepared B g r _ _ m bo c hk hok w h hs fun W hT hS => hP B g r m bo c hmay hok W hT hS
  · have e1 : takeH r m = commitH r m := by
      unfold takeH
      rw [if_neg (by omega : ¬ m.a0 = 1)]; rw [if_neg (by omega : ¬ m.a0 = 2)]; exact if_pos hk
    rw [e1]
    exact take_commit B g r _ _ m bo c hk hok w h hs fun W hT hS => (commit_any B g r [] m bo c ⟨hok.nums.1.1, by have := hok.nums.1.2; omega⟩ (by simp) W hT hS).mono fun e w1 h1 => ⟨h1.1, h1.2.1, h1.2.2.low⟩
  · have e1 : takeH r m = changeH r m := by
      unfold takeH
      rw [if_neg (by omega : ¬ m.a0 = 1)]; rw [if_neg (by omega : ¬ m.a0 = 2)]; rw [if_neg (by omega : ¬ m.a0 = 3)]; exact if_pos hk
    rw [e1]
    exact take_change B g r _ _ m bo c hk hok w h hs fun W hT hS => (change_any B g r [] m bo c ⟨hok.nums.1.1, by have := hok.nums.1.2; omega⟩ hmay.views.1 hmay.votes hmay.voters hok.oth hmay.one.2 (by have := hsm.votes; omega) (by have := hsm.voters; omega) (by simp) W hT hS).mono fun e w1 h1 => ⟨h1.1, h1.2.1, h1.2.2.low⟩
  · have e1 : takeH r m = stateH r m := by
      unfold takeH
      rw [if_neg (by omega : ¬ m.a0 = 1)]; rw [if_neg (by omega : ¬ m.a0 = 2)]; rw [if_neg (by omega : ¬ m.a0 = 3)]; rw [if_neg (by omega : ¬ m.a0 = 4)]; exact if_pos hk
    rw [e1]
    exact take_state B g r _ _ m bo c hk hok w h hs fun W hT hS => (state_any B g r [] m bo c ⟨hok.nums.1.1, by have := hok.nums.1.2; omega⟩ hmay.voters (by have := hsm.voters; omega) hok.log.1 (by simp) W hT hS).mono fun e w1 h1 => ⟨h1.1, h1.2.1, h1.2.2.low⟩
  · have e1 : takeH r m = viewH r m := by
      unfold takeH
      rw [if_neg (by omega : ¬ m.a0 = 1)]; rw [if_neg (by omega : ¬ m.a0 = 2)]; rw [if_neg (by omega : ¬ m.a0 = 3)]; rw [if_neg (by omega : ¬ m.a0 = 4)]; rw [if_neg (by omega : ¬ m.a0 = 5)]; exact if_pos hk
    rw [e1]
    exact take_view B g r _ _ m bo c hk hok w h hs fun W hT hS => (view_any B g r [] m bo c ⟨hok.nums.1.1, by have := hok.nums.1.2; omega⟩ hok.log.1 (by simp) W hT hS).mono fun e w1 h1 => ⟨h1.1, h1.2.1, h1.2.2.low⟩
  · have e1 : takeH r m = askH r m := by
      unfold takeH
      rw [if_neg (by omega : ¬ m.a0 = 1)]; rw [if_neg (by omega : ¬ m.a0 = 2)]; rw [if_neg (by omega : ¬ m.a0 = 3)]; rw [if_neg (by omega : ¬ m.a0 = 4)]; rw [if_neg (by omega : ¬ m.a0 = 5)]; rw [if_neg (by omega : ¬ m.a0 = 6)]; exact if_pos hk
    rw [e1]
    exact take_ask B g r _ _ m bo c hk hok w h hs fun W hT hS => (ask_any B g r [] m bo c hok.nums.2.1.1 (by simp) W hT hS).mono fun e w1 h1 => ⟨h1.1, h1.2.1, h1.2.2.low⟩
  · have e1 : takeH r m = logH r m := by
      unfold takeH
      rw [if_neg (by omega : ¬ m.a0 = 1)]; rw [if_neg (by omega : ¬ m.a0 = 2)]; rw [if_neg (by omega : ¬ m.a0 = 3)]; rw [if_neg (by omega : ¬ m.a0 = 4)]; rw [if_neg (by omega : ¬ m.a0 = 5)]; rw [if_neg (by omega : ¬ m.a0 = 6)]; rw [if_neg (by omega : ¬ m.a0 = 7)]
    rw [e1]
    exact take_log B g r _ _ m bo c hk hok w h hs fun W hT hS => log_any B g r m bo c ⟨hok.nums.2.1.1, by have := hok.nums.2.1.2; omega⟩ hmay.views.1 hmay.com hmay.log hok.log hmc W hT hS
set_option maxHeartbeats 1000000 in
theorem take_any (hP : PrepC) (r : Rep) (s : Sl) (m : Msg) (bo : Option Addr) (c : Nat) (hsm : SmallR r) (hmc : m.log.length ≤ c) (w : World) (hl : LiesR w w.heap.size s r) (hm : LiesE w w.heap.size bo m.log) :
    Calls Tryz.prog 12 #[repV r s, msV m bo c] w fun x w' => ∃ s' xo xc, x = .returned (.tuple #[repV (takR r m).1 s', .slice xo (takR r m).2.1.length xc, .int .i64 (takR r m).2.2]) ∧ LiesR w' w'.heap.size s' (takR r m).1 ∧ LiesM w' w'.heap.size xo (takR r m).2.1 ∧ Below w.heap.size w w' := by
  refine take_of r s m bo c _ _ _ (fun W b hW hM hb => ?_) w hl hm
  have hbl := (Array.getElem?_eq_some_iff.1 hb).1
  unfold takR
  by_cases h1 : May r
  · rw [if_pos h1]
    by_cases h2 : (1 ≤ m.a0 ∧ m.a0 ≤ 8) ∧ MsgOk r m
    · rw [if_pos h2]
      refine (face_yes_take r s hsm h1 _ (takeH r m).1 (takeH r m).2 none (fun _ => True) W (by simp) hW fun W1 g hb1 hT => (doTake_yes g b m bo c _ W1 ((hb1.block b hbl).trans hb) (turn_take hP _ g r m bo c h1 hsm h2.1 h2.2 hmc W1 hT (.inl (liesE_next hM hb1 (by omega))))).mono ?_).mono ?_
      · rintro e W2 ⟨rfl, hT2, hb2⟩
        exact ⟨rfl, hT2, LowB.of_below hb2 none, by simp⟩
      · rintro x W2 ⟨s', xo, xc, rfl, hR, hO, hL, _⟩
        exact ⟨s', xo, xc, rfl, hR, hO, hL.below⟩
    · rw [if_neg h2]
      by_cases h3 : 1 ≤ m.a0 ∧ m.a0 ≤ 8
      · refine (face_no_take r s hsm h1 _ 1 none W (by simp) hW fun W1 g hb1 hT => (doTake_no g b m bo c _ W1 ((hb1.block b hbl).trans hb) (take_bad2 _ g r m bo c h3 (fun h => h2 ⟨h3, h⟩) W1 hT (.inl (liesE_next hM hb1 (by omega))))).mono ?_).mono fun x W2 h => says_refused h
        rintro e W2 ⟨rfl, hb2⟩
        exact ⟨rfl, LowB.of_below hb2 none, by simp⟩
      · refine (face_no_take r s hsm h1 _ 1 none W (by simp) hW fun W1 g hb1 hT => (doTake_no g b m bo c _ W1 ((hb1.block b hbl).trans hb) (take_bad1 _ g r m bo c h3 W1 hT (.inl (liesE_next hM hb1 (by omega))))).mono ?_).mono fun x W2 h => says_refused h
        rintro e W2 ⟨rfl, hb2⟩
        exact ⟨rfl, LowB.of_below hb2 none, by simp⟩
  · rw [if_neg h1]
    exact (face_arg r s hsm h1 _ none W hW).mono fun x W2 h => says_refused h
end Go.Proofs.YtajbdffepfjegaaGreat
