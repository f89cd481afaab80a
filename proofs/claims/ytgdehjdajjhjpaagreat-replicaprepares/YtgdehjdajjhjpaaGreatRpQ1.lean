/-
  Contract of the statements: what is made of a message of kind 1 is the document's.
-/
import Derived.Test.YtgdehjdajjhjpaaGreatRpLl
import Derived.Test.YtgdehjdajjhjpaaGreatRpG18
import Derived.Test.YtgdehjdajjhjpaaGreatRpKy
import Derived.Test.YtgdehjdajjhjpaaGreatRpKf
import Derived.Test.YtgdehjdajjhjpaaGreatRpSr
namespace Go.Proofs.YtgdehjdajjhjpaaGreat
open Go.RowKit Num
open scoped Classical
set_option linter.unusedVariables false
set_option maxRecDepth 100000
theorem takes_k1 (r : Rep) (s : Sl) (m : Msg) (bo : Option Addr) (c : Nat) (hk : m.a0 = 1) (w : World) (hl : LiesR w w.heap.size s r) (hm : LiesE w w.heap.size bo m.log) :
    Calls Tryz.prog 5 #[repV r s, msV m bo c] w fun e w' => e = .returned (.bool true) ∧ Below w.heap.size w w' :=
  takes_by r s m bo c (takG r m (prepareH r m))
    (fun hsm W hl hm => takeG_any r s m bo c hsm (prepareH r m) (fun hmay h8 hok B g W hT hS => take_prepare B g r _ _ m bo c hk hok W hT hS fun W hT hS => prepare_any B g r m bo c ⟨hok.nums.1.1, by have := hok.nums.1.2; omega⟩ (hok.pre.resolve_left (fun h => h hk)) hok.log hmay.log W hT hS) W hl hm)
    (fun hsm W hl hm => rtakeG_1 r s m bo c hsm hk (prepareH r m) (fun hmay hok B g W hT hS => rprepare_any B g r m bo c ⟨hok.nums.1.1, by have := hok.nums.1.2; omega⟩ hk (hok.pre.resolve_left (fun h => h hk)) W hT hS) W hl hm)
    (fun hsm hml => sz_takG hsm fun hmay => sz_prepareH hmay.one (sz_small hsm) hml) w hl hm
end Go.Proofs.YtgdehjdajjhjpaaGreat
