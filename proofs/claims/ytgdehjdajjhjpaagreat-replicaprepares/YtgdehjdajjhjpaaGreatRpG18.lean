/-
  Joined:
  Contract: the document's own Take, by what is made of its message.
  What Take tells is small.
-/
import Derived.Test.YtgdehjdajjhjpaaGreatRpG16
import Derived.Test.YtgdehjdajjhjpaaGreatRpSu
import Derived.Test.YtgdehjdajjhjpaaGreatRpG5
namespace Go.Proofs.YtgdehjdajjhjpaaGreat
open Go.RowKit Num
open scoped Classical
set_option linter.unusedVariables false
set_option maxRecDepth 100000
theorem msgD_iff {r : Rep} {m : Msg} (h : May r) : MsgD r m ↔ (1 ≤ m.a0 ∧ m.a0 ≤ 8) ∧ MsgOk r m := by
  have h1 := h.one
  constructor
  · rintro ⟨a, b, c, d, e1, e2, e3, e4, f, g⟩
    exact ⟨a, ⟨⟨⟨e1.1, by omega⟩, ⟨e2.1, by omega⟩, ⟨e3.1, by omega⟩, ⟨e4.1, by omega⟩⟩, ⟨h1.1, b⟩, c, d, f, g⟩⟩
  · rintro ⟨a, ⟨e1, e2, e3, e4⟩, b, c, d, f, g⟩
    exact ⟨a, b.2, c, d, ⟨e1.1, by have := e1.2; omega⟩, ⟨e2.1, by have := e2.2; omega⟩, ⟨e3.1, by have := e3.2; omega⟩, ⟨e4.1, by have := e4.2; omega⟩, f, g⟩
theorem rtakeG_1 (r : Rep) (s : Sl) (m : Msg) (bo : Option Addr) (c : Nat) (hsm : SmallR r) (hk : m.a0 = 1) (q : Rep × Msgs) (hF : May r → MsgOk r m → ∀ (B g : Nat) (W : World), TurnR B W g r → SrcE B W bo c m.log → Calls Tryz.prog 27 #[.pointer (some ⟨g, 0, none⟩), msV m bo c] W fun e w' => ∃ v, e = .returned v ∧ OwnO B w' v q.2 ∧ TurnR B w' g q.1 ∧ Below B W w')
    (w : World) (hl : LiesR w w.heap.size s r) (hm : LiesE w w.heap.size bo m.log) :
    Calls Tryz.prog 13 #[repV r s, msV m bo c] w fun x w' => ∃ s' xo xc, x = .returned (.tuple #[repV (takG r m q).1 s', .slice xo (takG r m q).2.1.length xc, .int .i64 (takG r m q).2.2]) ∧ LiesR w' w'.heap.size s' (takG r m q).1 ∧ LiesM w' w'.heap.size xo (takG r m q).2.1 ∧ Below w.heap.size w w' := by
  unfold takG
  by_cases h1 : May r
  · rw [if_pos h1]
    by_cases h2 : MsgD r m
    · rw [if_pos ((msgD_iff h1).1 h2)]
      exact rtake_1 r s m bo c hsm h1 h2 hk q.1 q.2 (hF h1 ((msgD_iff h1).1 h2).2) w hl hm
    · rw [if_neg (fun h => h2 ((msgD_iff h1).2 h))]
      exact rtake_bad2 r s m bo c hsm h1 h2 w hl hm
  · rw [if_neg h1]
    exact rtake_bad1 r s m bo c hsm h1 w hl hm
theorem rtakeG_2 (r : Rep) (s : Sl) (m : Msg) (bo : Option Addr) (c : Nat) (hsm : SmallR r) (hk : m.a0 = 2) (q : Rep × Msgs) (hF : May r → MsgOk r m → ∀ (B g : Nat) (W : World), TurnR B W g r → SrcE B W bo c m.log → Calls Tryz.prog 28 #[.pointer (some ⟨g, 0, none⟩), msV m bo c] W fun e w' => ∃ v, e = .returned v ∧ OwnO B w' v q.2 ∧ TurnR B w' g q.1 ∧ Below B W w')
    (w : World) (hl : LiesR w w.heap.size s r) (hm : LiesE w w.heap.size bo m.log) :
    Calls Tryz.prog 13 #[repV r s, msV m bo c] w fun x w' => ∃ s' xo xc, x = .returned (.tuple #[repV (takG r m q).1 s', .slice xo (takG r m q).2.1.length xc, .int .i64 (takG r m q).2.2]) ∧ LiesR w' w'.heap.size s' (takG r m q).1 ∧ LiesM w' w'.heap.size xo (takG r m q).2.1 ∧ Below w.heap.size w w' := by
  unfold takG
  by_cases h1 : May r
  · rw [if_pos h1]
    by_cases h2 : MsgD r m
    · rw [if_pos ((msgD_iff h1).1 h2)]
      exact rtake_2 r s m bo c hsm h1 h2 hk q.1 q.2 (hF h1 ((msgD_iff h1).1 h2).2) w hl hm
    · rw [if_neg (fun h => h2 ((msgD_iff h1).2 h))]
      exact rtake_bad2 r s m bo c hsm h1 h2 w hl hm
  · rw [if_neg h1]
    exact rtake_bad1 r s m bo c hsm h1 w hl hm
theorem rtakeG_3 (r : Rep) (s : Sl) (m : Msg) (bo : Option Addr) (c : Nat) (hsm : SmallR r) (hk : m.a0 = 3) (q : Rep × Msgs) (hF : May r → MsgOk r m → ∀ (B g : Nat) (W : World), TurnR B W g r → SrcE B W bo c m.log → Calls Tryz.prog 27 #[.pointer (some ⟨g, 0, none⟩), msV m bo c] W fun e w' => ∃ v, e = .returned v ∧ OwnO B w' v q.2 ∧ TurnR B w' g q.1 ∧ Below B W w')
    (w : World) (hl : LiesR w w.heap.size s r) (hm : LiesE w w.heap.size bo m.log) :
    Calls Tryz.prog 13 #[repV r s, msV m bo c] w fun x w' => ∃ s' xo xc, x = .returned (.tuple #[repV (takG r m q).1 s', .slice xo (takG r m q).2.1.length xc, .int .i64 (takG r m q).2.2]) ∧ LiesR w' w'.heap.size s' (takG r m q).1 ∧ LiesM w' w'.heap.size xo (takG r m q).2.1 ∧ Below w.heap.size w w' := by
  unfold takG
  by_cases h1 : May r
  · rw [if_pos h1]
    by_cases h2 : MsgD r m
    · rw [if_pos ((msgD_iff h1).1 h2)]
      exact rtake_3 r s m bo c hsm h1 h2 hk q.1 q.2 (hF h1 ((msgD_iff h1).1 h2).2) w hl hm
    · rw [if_neg (fun h => h2 ((msgD_iff h1).2 h))]
      exact rtake_bad2 r s m bo c hsm h1 h2 w hl hm
  · rw [if_neg h1]
    exact rtake_bad1 r s m bo c hsm h1 w hl hm
theorem rtakeG_4 (r : Rep) (s : Sl) (m : Msg) (bo : Option Addr) (c : Nat) (hsm : SmallR r) (hk : m.a0 = 4) (q : Rep × Msgs) (hF : May r → MsgOk r m → ∀ (B g : Nat) (W : World), TurnR B W g r → SrcE B W bo c m.log → Calls Tryz.prog 24 #[.pointer (some ⟨g, 0, none⟩), msV m bo c] W fun e w' => ∃ v, e = .returned v ∧ OwnO B w' v q.2 ∧ TurnR B w' g q.1 ∧ Below B W w')
    (w : World) (hl : LiesR w w.heap.size s r) (hm : LiesE w w.heap.size bo m.log) :
    Calls Tryz.prog 13 #[repV r s, msV m bo c] w fun x w' => ∃ s' xo xc, x = .returned (.tuple #[repV (takG r m q).1 s', .slice xo (takG r m q).2.1.length xc, .int .i64 (takG r m q).2.2]) ∧ LiesR w' w'.heap.size s' (takG r m q).1 ∧ LiesM w' w'.heap.size xo (takG r m q).2.1 ∧ Below w.heap.size w w' := by
  unfold takG
  by_cases h1 : May r
  · rw [if_pos h1]
    by_cases h2 : MsgD r m
    · rw [if_pos ((msgD_iff h1).1 h2)]
      exact rtake_4 r s m bo c hsm h1 h2 hk q.1 q.2 (hF h1 ((msgD_iff h1).1 h2).2) w hl hm
    · rw [if_neg (fun h => h2 ((msgD_iff h1).2 h))]
      exact rtake_bad2 r s m bo c hsm h1 h2 w hl hm
  · rw [if_neg h1]
    exact rtake_bad1 r s m bo c hsm h1 w hl hm
theorem rtakeG_5 (r : Rep) (s : Sl) (m : Msg) (bo : Option Addr) (c : Nat) (hsm : SmallR r) (hk : m.a0 = 5) (q : Rep × Msgs) (hF : May r → MsgOk r m → ∀ (B g : Nat) (W : World), TurnR B W g r → SrcE B W bo c m.log → Calls Tryz.prog 25 #[.pointer (some ⟨g, 0, none⟩), msV m bo c] W fun e w' => ∃ v, e = .returned v ∧ OwnO B w' v q.2 ∧ TurnR B w' g q.1 ∧ Below B W w')
    (w : World) (hl : LiesR w w.heap.size s r) (hm : LiesE w w.heap.size bo m.log) :
    Calls Tryz.prog 13 #[repV r s, msV m bo c] w fun x w' => ∃ s' xo xc, x = .returned (.tuple #[repV (takG r m q).1 s', .slice xo (takG r m q).2.1.length xc, .int .i64 (takG r m q).2.2]) ∧ LiesR w' w'.heap.size s' (takG r m q).1 ∧ LiesM w' w'.heap.size xo (takG r m q).2.1 ∧ Below w.heap.size w w' := by
  unfold takG
  by_cases h1 : May r
  · rw [if_pos h1]
    by_cases h2 : MsgD r m
    · rw [if_pos ((msgD_iff h1).1 h2)]
      exact rtake_5 r s m bo c hsm h1 h2 hk q.1 q.2 (hF h1 ((msgD_iff h1).1 h2).2) w hl hm
    · rw [if_neg (fun h => h2 ((msgD_iff h1).2 h))]
      exact rtake_bad2 r s m bo c hsm h1 h2 w hl hm
  · rw [if_neg h1]
    exact rtake_bad1 r s m bo c hsm h1 w hl hm
theorem rtakeG_6 (r : Rep) (s : Sl) (m : Msg) (bo : Option Addr) (c : Nat) (hsm : SmallR r) (hk : m.a0 = 6) (q : Rep × Msgs) (hF : May r → MsgOk r m → ∀ (B g : Nat) (W : World), TurnR B W g r → SrcE B W bo c m.log → Calls Tryz.prog 26 #[.pointer (some ⟨g, 0, none⟩), msV m bo c] W fun e w' => ∃ v, e = .returned v ∧ OwnO B w' v q.2 ∧ TurnR B w' g q.1 ∧ Below B W w')
    (w : World) (hl : LiesR w w.heap.size s r) (hm : LiesE w w.heap.size bo m.log) :
    Calls Tryz.prog 13 #[repV r s, msV m bo c] w fun x w' => ∃ s' xo xc, x = .returned (.tuple #[repV (takG r m q).1 s', .slice xo (takG r m q).2.1.length xc, .int .i64 (takG r m q).2.2]) ∧ LiesR w' w'.heap.size s' (takG r m q).1 ∧ LiesM w' w'.heap.size xo (takG r m q).2.1 ∧ Below w.heap.size w w' := by
  unfold takG
  by_cases h1 : May r
  · rw [if_pos h1]
    by_cases h2 : MsgD r m
    · rw [if_pos ((msgD_iff h1).1 h2)]
      exact rtake_6 r s m bo c hsm h1 h2 hk q.1 q.2 (hF h1 ((msgD_iff h1).1 h2).2) w hl hm
    · rw [if_neg (fun h => h2 ((msgD_iff h1).2 h))]
      exact rtake_bad2 r s m bo c hsm h1 h2 w hl hm
  · rw [if_neg h1]
    exact rtake_bad1 r s m bo c hsm h1 w hl hm
theorem rtakeG_8 (r : Rep) (s : Sl) (m : Msg) (bo : Option Addr) (c : Nat) (hsm : SmallR r) (hk : m.a0 = 8) (q : Rep × Msgs) (hF : May r → MsgOk r m → ∀ (B g : Nat) (W : World), TurnR B W g r → SrcE B W bo c m.log → Calls Tryz.prog 30 #[.pointer (some ⟨g, 0, none⟩), msV m bo c] W fun e w' => ∃ v, e = .returned v ∧ OwnO B w' v q.2 ∧ TurnR B w' g q.1 ∧ Below B W w')
    (w : World) (hl : LiesR w w.heap.size s r) (hm : LiesE w w.heap.size bo m.log) :
    Calls Tryz.prog 13 #[repV r s, msV m bo c] w fun x w' => ∃ s' xo xc, x = .returned (.tuple #[repV (takG r m q).1 s', .slice xo (takG r m q).2.1.length xc, .int .i64 (takG r m q).2.2]) ∧ LiesR w' w'.heap.size s' (takG r m q).1 ∧ LiesM w' w'.heap.size xo (takG r m q).2.1 ∧ Below w.heap.size w w' := by
  unfold takG
  by_cases h1 : May r
  · rw [if_pos h1]
    by_cases h2 : MsgD r m
    · rw [if_pos ((msgD_iff h1).1 h2)]
      exact rtake_8 r s m bo c hsm h1 h2 hk q.1 q.2 (hF h1 ((msgD_iff h1).1 h2).2) w hl hm
    · rw [if_neg (fun h => h2 ((msgD_iff h1).2 h))]
      exact rtake_bad2 r s m bo c hsm h1 h2 w hl hm
  · rw [if_neg h1]
    exact rtake_bad1 r s m bo c hsm h1 w hl hm
end Go.Proofs.YtgdehjdajjhjpaaGreat
namespace Go.Proofs.YtgdehjdajjhjpaaGreat
open Go.RowKit Num
open scoped Classical
set_option linter.unusedVariables false
set_option maxRecDepth 100000
theorem sz_takG {r : Rep} {m : Msg} {q : Rep × Msgs} (h : SmallR r) (hq : May r → Sz 1000000 q.1 ∧ SzM 1000000 q.2) : Sz 1000000 (takG r m q).1 ∧ SzM 1000000 (takG r m q).2.1 := by
  have h0 : Sz 1000000 r := ⟨by have := h.log; omega, by have := h.best; omega, by have := h.ack; omega, by have := h.votes; omega, by have := h.voters; omega⟩
  unfold takG
  split
  · rename_i hmay
    split
    · exact hq hmay
    · exact ⟨h0, szM_nil _⟩
  · exact ⟨h0, szM_nil _⟩
theorem sz_small {r : Rep} (h : SmallR r) : Sz 100000 r := ⟨by have := h.log; omega, by have := h.best; omega, by have := h.ack; omega, by have := h.votes; omega, by have := h.voters; omega⟩
end Go.Proofs.YtgdehjdajjhjpaaGreat
