/-
  Contracts: what the document's own functions (one form, place, float of a place, which is below) return, for every word that they are called with.
-/
import Derived.Test.YtpgpmnecggllcabFlo
namespace Go.Proofs.Ytpgpmnecggllcab
open Go.RowKit Num




end Go.Proofs.Ytpgpmnecggllcab
