/-
  Contract of the statements: what is made of MsgAsk is the document's.
-/
import Derived.Test.YtgdehjdajjhjpabGreatRpLl
import Derived.Test.YtgdehjdajjhjpabGreatRpG18
import Derived.Test.YtgdehjdajjhjpabGreatRpKy
import Derived.Test.YtgdehjdajjhjpabGreatRpKh
import Derived.Test.YtgdehjdajjhjpabGreatRpSv
import Derived.Test.YtgdehjdajjhjpabGreatRpSw
namespace Go.Proofs.YtgdehjdajjhjpabGreat
open Go.RowKit Num
open scoped Classical
set_option linter.unusedVariables false
set_option maxRecDepth 100000
theorem rtakeG_7 (r : Rep) (s : Sl) (m : Msg) (bo : Option Addr) (c : Nat) (hsm : SmallR r) (hk : m.a0 = 7) (w : World) (hl : LiesR w w.heap.size s r) (hm : LiesE w w.heap.size bo m.log) :
    Calls Tryz.prog 17 #[repV r s, msV m bo c] w fun x w' => ∃ s' xo xc, x = .returned (.tuple #[repV (takG r m (askH r m)).1 s', .slice xo (takG r m (askH r m)).2.1.length xc, .int .i64 (takG r m (askH r m)).2.2]) ∧ LiesR w' w'.heap.size s' (takG r m (askH r m)).1 ∧ LiesM w' w'.heap.size xo (takG r m (askH r m)).2.1 ∧ Below w.heap.size w w' := by
  unfold takG
  by_cases h1 : May r
  · rw [if_pos h1]
    by_cases h2 : MsgD r m
    · rw [if_pos ((msgD_iff h1).1 h2)]
      unfold askH
      by_cases a1 : m.a3 = r.view
      · by_cases a2 : r.how = 0
        · by_cases a3 : m.a4 ≤ (r.log.length : Int)
          · rw [if_pos ⟨a1, a2, a3⟩]
            exact rask_y r s m bo c hsm h1 h2 hk a1 a2 a3 h2.2.2.2.2.2.1.1 w hl hm
          · rw [if_neg (fun q => a3 q.2.2)]
            exact rask_c r s m bo c hsm h1 h2 hk a1 a2 a3 w hl hm
        · rw [if_neg (fun q => a2 q.2.1)]
          exact rask_b r s m bo c hsm h1 h2 hk a1 a2 w hl hm
      · rw [if_neg (fun q => a1 q.1)]
        exact rask_a r s m bo c hsm h1 h2 hk a1 w hl hm
    · rw [if_neg (fun h => h2 ((msgD_iff h1).2 h))]
      exact rtake_bad2 r s m bo c hsm h1 h2 w hl hm
  · rw [if_neg h1]
    exact rtake_bad1 r s m bo c hsm h1 w hl hm
theorem takes_k7 (r : Rep) (s : Sl) (m : Msg) (bo : Option Addr) (c : Nat) (hk : m.a0 = 7) (w : World) (hl : LiesR w w.heap.size s r) (hm : LiesE w w.heap.size bo m.log) :
    Calls Tryz.prog 10 #[repV r s, msV m bo c] w fun e w' => e = .returned (.bool true) ∧ Below w.heap.size w w' :=
  takes_by r s m bo c (takG r m (askH r m))
    (fun hsm W hl hm => takeG_any r s m bo c hsm (askH r m) (fun hmay h8 hok B g W hT hS => take_ask B g r _ _ m bo c hk hok W hT hS fun W hT hS => (ask_any B g r [] m bo c hok.nums.2.1.1 (by simp) W hT hS).mono fun e w1 h1 => ⟨h1.1, h1.2.1, h1.2.2.low⟩) W hl hm)
    (fun hsm W hl hm => rtakeG_7 r s m bo c hsm hk W hl hm)
    (fun hsm hml => sz_takG hsm fun hmay => sz_askH hmay.one (sz_small hsm) hml) w hl hm
end Go.Proofs.YtgdehjdajjhjpabGreat
