/-
  Contract of the statements: what is made of a message of kind 4 is the document's.
-/
import Derived.Test.YtgdehjdajjhjpabGreatRpLl
import Derived.Test.YtgdehjdajjhjpabGreatRpG18
import Derived.Test.YtgdehjdajjhjpabGreatRpKy
import Derived.Test.YtgdehjdajjhjpabGreatRpKC
import Derived.Test.YtgdehjdajjhjpabGreatRpSq
import Derived.Test.YtgdehjdajjhjpabGreatRpLj
namespace Go.Proofs.YtgdehjdajjhjpabGreat
open Go.RowKit Num
open scoped Classical
set_option linter.unusedVariables false
set_option maxRecDepth 100000
theorem takes_k4 (r : Rep) (s : Sl) (m : Msg) (bo : Option Addr) (c : Nat) (hk : m.a0 = 4) (w : World) (hl : LiesR w w.heap.size s r) (hm : LiesE w w.heap.size bo m.log) :
    Calls Tryz.prog 10 #[repV r s, msV m bo c] w fun e w' => e = .returned (.bool true) ∧ Below w.heap.size w w' :=
  takes_by r s m bo c (takG r m (changeH r m))
    (fun hsm W hl hm => takeG_any r s m bo c hsm (changeH r m) (fun hmay h8 hok B g W hT hS => take_change B g r _ _ m bo c hk hok W hT hS fun W hT hS => (change_any B g r [] m bo c ⟨hok.nums.1.1, by have := hok.nums.1.2; omega⟩ hmay.views.1 hmay.votes hmay.voters hok.oth hmay.one.2 (by have := hsm.votes; omega) (by have := hsm.voters; omega) (by simp) W hT hS).mono fun e w1 h1 => ⟨h1.1, h1.2.1, h1.2.2.low⟩) W hl hm)
    (fun hsm W hl hm => rtakeG_4 r s m bo c hsm hk (changeH r m) (fun hmay hok B g W hT hS => rchange_any B g r m bo c ⟨hok.nums.1.1, by have := hok.nums.1.2; omega⟩ hmay.views.1 hsm.votes hsm.voters hok.oth W hT hS) W hl hm)
    (fun hsm hml => sz_takG hsm fun hmay => sz_changeH hmay.one (sz_small hsm) hml) w hl hm
end Go.Proofs.YtgdehjdajjhjpabGreat
