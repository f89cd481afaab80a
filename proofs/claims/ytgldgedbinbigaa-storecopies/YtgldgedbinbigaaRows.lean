/-
  No cell of these rows narrows 'for every input' (looked for: loops, veiled, ifaces, maps, wideKeys, modest, calm, conditions, laid).
  DERIVED. THE GIVEN ROWS OF THIS SEAT. 6 by the template 'for every input the law returns true; each argument reads behind the call as it read before'; 0 by the template 'total and deterministic' (their statements: YtgldgedbinbigaaTotals.lean).
  GIVEN WITH THE SEED: the statements are not yours to turn. If you find one false, say at which input.
  Laid BY PROGRAM, IN A SANDBOX (cutbox-rows.mjs): the forced cells as the released guide's own fill.sh prints them over the translation 32d445e141a46b35… (all of the seat's roots in one cut). By AI agents, Wed Nov 11 2026. No macro, syntax, notation, axiom, sorry.
-/
import Derived.Test.YtgldgedbinbigaaChecked
import GoSem.Claim
import GoSem.ClaimJoined
import GoSem.ClaimMapViews
import Derived.JoinedTies
import Derived.KernelRfl
namespace Go.Proofs.Ytgldgedbinbigaa
/- THE CELL 'sum', in the pinned program and in every row, IS THE sha256 OF THE DUMP (.gsa) THAT YtgldgedbinbigaaProg.lean LOADS. Nothing in Lean hashes anything: it is a label: what it is worth is what the hold of that sum in a sandbox is worth. -/
noncomputable def Try.pinned : Pinned := { name := "ytgldgedbinbigaa", sum := "32d445e141a46b35f8dfdbce5a44b62253f56cecab56142738fb2952d9f49b96", checked := Try.checked }
namespace Rows
def none {H : Type} : Left H := { results := [], args := [] }

/-- 'falseworklaw8.StoreRuns': WHATEVER THE INPUT: true; the input reads as it did. -/
def storeRunsSpec : ChangeSpec := { name := "storeRuns", fn := fun _ => fun
  | [d1, d2] => { results := [.lit (.bool true)], args := [d1, d2] }
  | _ => none }
def storeRunsRow : OpenClaim := { program := "ytgldgedbinbigaa", sum := "32d445e141a46b35f8dfdbce5a44b62253f56cecab56142738fb2952d9f49b96", func := "falsework/falseworklaw8.StoreRuns", spec := "storeRuns", inPlace := ["slices.overlaps[falsework/api.Pair]", "slices.overlaps[[]falsework/api.Pair]"], unfollowed := true, recurses := true, apart := false }
def StoreRunsSaid : Prop := storeRunsRow.holds Try.pinned (OpenSpec.ofChange storeRunsSpec)

/-- ITS FALSE NEIGHBOUR: 'it returns false'. Refute it at one input. -/
def storeRunsWrong : ChangeSpec := { name := "storeRuns", fn := fun _ => fun
  | [d1, d2] => { results := [.lit (.bool false)], args := [d1, d2] }
  | _ => none }
def StoreRunsWrongFalsely : Prop := storeRunsRow.holds Try.pinned (OpenSpec.ofChange storeRunsWrong)

/-- 'falseworklaw8.StorePast': WHATEVER THE INPUT: true; the input reads as it did. -/
def storePastSpec : ChangeSpec := { name := "storePast", fn := fun _ => fun
  | [d1, d2] => { results := [.lit (.bool true)], args := [d1, d2] }
  | _ => none }
def storePastRow : OpenClaim := { program := "ytgldgedbinbigaa", sum := "32d445e141a46b35f8dfdbce5a44b62253f56cecab56142738fb2952d9f49b96", func := "falsework/falseworklaw8.StorePast", spec := "storePast", inPlace := ["slices.overlaps[falsework/api.Pair]", "slices.overlaps[[]falsework/api.Pair]"], unfollowed := true, recurses := true, apart := false }
def StorePastSaid : Prop := storePastRow.holds Try.pinned (OpenSpec.ofChange storePastSpec)

/-- ITS FALSE NEIGHBOUR: 'it returns false'. Refute it at one input. -/
def storePastWrong : ChangeSpec := { name := "storePast", fn := fun _ => fun
  | [d1, d2] => { results := [.lit (.bool false)], args := [d1, d2] }
  | _ => none }
def StorePastWrongFalsely : Prop := storePastRow.holds Try.pinned (OpenSpec.ofChange storePastWrong)

/-- 'falseworklaw8.StoreTrims': WHATEVER THE INPUT: true; the input reads as it did. -/
def storeTrimsSpec : ChangeSpec := { name := "storeTrims", fn := fun _ => fun
  | [d1, d2, d3] => { results := [.lit (.bool true)], args := [d1, d2, d3] }
  | _ => none }
def storeTrimsRow : OpenClaim := { program := "ytgldgedbinbigaa", sum := "32d445e141a46b35f8dfdbce5a44b62253f56cecab56142738fb2952d9f49b96", func := "falsework/falseworklaw8.StoreTrims", spec := "storeTrims", inPlace := ["slices.overlaps[falsework/api.Pair]", "slices.overlaps[[]falsework/api.Pair]"], unfollowed := true, recurses := true, apart := false }
def StoreTrimsSaid : Prop := storeTrimsRow.holds Try.pinned (OpenSpec.ofChange storeTrimsSpec)

/-- ITS FALSE NEIGHBOUR: 'it returns false'. Refute it at one input. -/
def storeTrimsWrong : ChangeSpec := { name := "storeTrims", fn := fun _ => fun
  | [d1, d2, d3] => { results := [.lit (.bool false)], args := [d1, d2, d3] }
  | _ => none }
def StoreTrimsWrongFalsely : Prop := storeTrimsRow.holds Try.pinned (OpenSpec.ofChange storeTrimsWrong)

/-- 'falseworklaw8.StoreFulls': WHATEVER THE INPUT: true; the input reads as it did. -/
def storeFullsSpec : ChangeSpec := { name := "storeFulls", fn := fun _ => fun
  | [d1, d2] => { results := [.lit (.bool true)], args := [d1, d2] }
  | _ => none }
def storeFullsRow : OpenClaim := { program := "ytgldgedbinbigaa", sum := "32d445e141a46b35f8dfdbce5a44b62253f56cecab56142738fb2952d9f49b96", func := "falsework/falseworklaw8.StoreFulls", spec := "storeFulls", inPlace := ["slices.overlaps[falsework/api.Pair]", "slices.overlaps[[]falsework/api.Pair]"], unfollowed := true, recurses := true, apart := false }
def StoreFullsSaid : Prop := storeFullsRow.holds Try.pinned (OpenSpec.ofChange storeFullsSpec)

/-- ITS FALSE NEIGHBOUR: 'it returns false'. Refute it at one input. -/
def storeFullsWrong : ChangeSpec := { name := "storeFulls", fn := fun _ => fun
  | [d1, d2] => { results := [.lit (.bool false)], args := [d1, d2] }
  | _ => none }
def StoreFullsWrongFalsely : Prop := storeFullsRow.holds Try.pinned (OpenSpec.ofChange storeFullsWrong)

/-- 'falseworklaw8.StoreCopies': WHATEVER THE INPUT: true; the input reads as it did. -/
def storeCopiesSpec : ChangeSpec := { name := "storeCopies", fn := fun _ => fun
  | [d1, d2] => { results := [.lit (.bool true)], args := [d1, d2] }
  | _ => none }
def storeCopiesRow : OpenClaim := { program := "ytgldgedbinbigaa", sum := "32d445e141a46b35f8dfdbce5a44b62253f56cecab56142738fb2952d9f49b96", func := "falsework/falseworklaw8.StoreCopies", spec := "storeCopies", inPlace := ["slices.overlaps[falsework/api.Pair]", "slices.overlaps[[]falsework/api.Pair]"], unfollowed := true, recurses := true, apart := false }
def StoreCopiesSaid : Prop := storeCopiesRow.holds Try.pinned (OpenSpec.ofChange storeCopiesSpec)

/-- ITS FALSE NEIGHBOUR: 'it returns false'. Refute it at one input. -/
def storeCopiesWrong : ChangeSpec := { name := "storeCopies", fn := fun _ => fun
  | [d1, d2] => { results := [.lit (.bool false)], args := [d1, d2] }
  | _ => none }
def StoreCopiesWrongFalsely : Prop := storeCopiesRow.holds Try.pinned (OpenSpec.ofChange storeCopiesWrong)

/-- 'falseworklaw8.StoreNil': WHATEVER THE INPUT: true; the input reads as it did. -/
def storeNilSpec : ChangeSpec := { name := "storeNil", fn := fun _ => fun
  | [d1, d2, d3, d4] => { results := [.lit (.bool true)], args := [d1, d2, d3, d4] }
  | _ => none }
def storeNilRow : OpenClaim := { program := "ytgldgedbinbigaa", sum := "32d445e141a46b35f8dfdbce5a44b62253f56cecab56142738fb2952d9f49b96", func := "falsework/falseworklaw8.StoreNil", spec := "storeNil", inPlace := ["slices.overlaps[falsework/api.Pair]", "slices.overlaps[[]falsework/api.Pair]"], unfollowed := true, recurses := true, apart := false }
def StoreNilSaid : Prop := storeNilRow.holds Try.pinned (OpenSpec.ofChange storeNilSpec)

/-- ITS FALSE NEIGHBOUR: 'it returns false'. Refute it at one input. -/
def storeNilWrong : ChangeSpec := { name := "storeNil", fn := fun _ => fun
  | [d1, d2, d3, d4] => { results := [.lit (.bool false)], args := [d1, d2, d3, d4] }
  | _ => none }
def StoreNilWrongFalsely : Prop := storeNilRow.holds Try.pinned (OpenSpec.ofChange storeNilWrong)

/- THE SECOND FORM. 'bulk': how many values and letters a reading holds, each counted each time it is reached (what is shared counts as often as it is met; a slice's spare places count too). A statement '..UptoSaid' is the law's where the arguments, and the package variables that the reading takes, are together of bulk at most 1048576: NARROWER than '..Said'. Prove '..Said' where nothing that the law and all that it calls make is longer than what came in: it says more and counts as full. Else prove '..UptoSaid'. A law counts once. -/
mutual
def uptoBulk {H : Type} : DataW H → Nat
  | .lit (.string bytes) => bytes.length + 1
  | .lit _ => 1
  | .nil => 1
  | .ptr d => uptoBulk d + 1
  | .slice elems spare => uptoBulkAll elems + uptoBulkAll spare + 1
  | .agg parts => uptoBulkAll parts + 1
  | .iface _ d => uptoBulk d + 1
  | .map entries => uptoBulkEntries entries + 1
  | .held _ => 1
def uptoBulkAll {H : Type} : List (DataW H) → Nat
  | [] => 0
  | d :: r => uptoBulk d + uptoBulkAll r
def uptoBulkEntries {H : Type} : List (Lit × DataW H) → Nat
  | [] => 0
  | x :: r => uptoBulkEntry x + uptoBulkEntries r
def uptoBulkEntry {H : Type} : Lit × DataW H → Nat
  | (.string bytes, d) => bytes.length + uptoBulk d + 1
  | (_, d) => uptoBulk d + 1
 end
def uptoSmall : (H : Type) → List (DataW H) → Bool := fun _ ds => decide (uptoBulkAll ds ≤ 1048576)
def OpenSpec.upto (s : _root_.Go.ChangeSpec) : _root_.Go.OpenSpec := { _root_.Go.OpenSpec.ofChange s with cond := some uptoSmall }

/-- 'falseworklaw8.StoreRuns', WHERE WHAT IT READS IS OF BULK AT MOST 1048576: true; the input reads as it did. -/
def storeRunsUptoRow : OpenClaim := { program := "ytgldgedbinbigaa", sum := "32d445e141a46b35f8dfdbce5a44b62253f56cecab56142738fb2952d9f49b96", func := "falsework/falseworklaw8.StoreRuns", spec := "storeRuns", inPlace := ["slices.overlaps[falsework/api.Pair]", "slices.overlaps[[]falsework/api.Pair]"], unfollowed := true, recurses := true, apart := false, narrowed := true }
def StoreRunsUptoSaid : Prop := storeRunsUptoRow.holds Try.pinned (OpenSpec.upto storeRunsSpec)

/-- 'falseworklaw8.StorePast', WHERE WHAT IT READS IS OF BULK AT MOST 1048576: true; the input reads as it did. -/
def storePastUptoRow : OpenClaim := { program := "ytgldgedbinbigaa", sum := "32d445e141a46b35f8dfdbce5a44b62253f56cecab56142738fb2952d9f49b96", func := "falsework/falseworklaw8.StorePast", spec := "storePast", inPlace := ["slices.overlaps[falsework/api.Pair]", "slices.overlaps[[]falsework/api.Pair]"], unfollowed := true, recurses := true, apart := false, narrowed := true }
def StorePastUptoSaid : Prop := storePastUptoRow.holds Try.pinned (OpenSpec.upto storePastSpec)

/-- 'falseworklaw8.StoreTrims', WHERE WHAT IT READS IS OF BULK AT MOST 1048576: true; the input reads as it did. -/
def storeTrimsUptoRow : OpenClaim := { program := "ytgldgedbinbigaa", sum := "32d445e141a46b35f8dfdbce5a44b62253f56cecab56142738fb2952d9f49b96", func := "falsework/falseworklaw8.StoreTrims", spec := "storeTrims", inPlace := ["slices.overlaps[falsework/api.Pair]", "slices.overlaps[[]falsework/api.Pair]"], unfollowed := true, recurses := true, apart := false, narrowed := true }
def StoreTrimsUptoSaid : Prop := storeTrimsUptoRow.holds Try.pinned (OpenSpec.upto storeTrimsSpec)

/-- 'falseworklaw8.StoreFulls', WHERE WHAT IT READS IS OF BULK AT MOST 1048576: true; the input reads as it did. -/
def storeFullsUptoRow : OpenClaim := { program := "ytgldgedbinbigaa", sum := "32d445e141a46b35f8dfdbce5a44b62253f56cecab56142738fb2952d9f49b96", func := "falsework/falseworklaw8.StoreFulls", spec := "storeFulls", inPlace := ["slices.overlaps[falsework/api.Pair]", "slices.overlaps[[]falsework/api.Pair]"], unfollowed := true, recurses := true, apart := false, narrowed := true }
def StoreFullsUptoSaid : Prop := storeFullsUptoRow.holds Try.pinned (OpenSpec.upto storeFullsSpec)

/-- 'falseworklaw8.StoreCopies', WHERE WHAT IT READS IS OF BULK AT MOST 1048576: true; the input reads as it did. -/
def storeCopiesUptoRow : OpenClaim := { program := "ytgldgedbinbigaa", sum := "32d445e141a46b35f8dfdbce5a44b62253f56cecab56142738fb2952d9f49b96", func := "falsework/falseworklaw8.StoreCopies", spec := "storeCopies", inPlace := ["slices.overlaps[falsework/api.Pair]", "slices.overlaps[[]falsework/api.Pair]"], unfollowed := true, recurses := true, apart := false, narrowed := true }
def StoreCopiesUptoSaid : Prop := storeCopiesUptoRow.holds Try.pinned (OpenSpec.upto storeCopiesSpec)

/-- 'falseworklaw8.StoreNil', WHERE WHAT IT READS IS OF BULK AT MOST 1048576: true; the input reads as it did. -/
def storeNilUptoRow : OpenClaim := { program := "ytgldgedbinbigaa", sum := "32d445e141a46b35f8dfdbce5a44b62253f56cecab56142738fb2952d9f49b96", func := "falsework/falseworklaw8.StoreNil", spec := "storeNil", inPlace := ["slices.overlaps[falsework/api.Pair]", "slices.overlaps[[]falsework/api.Pair]"], unfollowed := true, recurses := true, apart := false, narrowed := true }
def StoreNilUptoSaid : Prop := storeNilUptoRow.holds Try.pinned (OpenSpec.upto storeNilSpec)

end Rows
end Go.Proofs.Ytgldgedbinbigaa
