/-
  No cell of these rows narrows 'for every input' (looked for: loops, veiled, ifaces, maps, wideKeys, modest, calm, conditions, laid).
  DERIVED. THE GIVEN ROWS OF THIS SEAT. 6 by the template 'for every input the law returns true; each argument reads behind the call as it read before'; 0 by the template 'total and deterministic' (their statements: YtndppffcladalaaTotals.lean).
  GIVEN WITH THE SEED: the statements are not yours to turn. If you find one false, say at which input.
  Laid BY PROGRAM, IN A SANDBOX (cutbox-rows.mjs): the forced cells as the released guide's own fill.sh prints them over the translation 6f4f62d176344a87… (all of the seat's roots in one cut). By AI agents, Wed Nov 11 2026. No macro, syntax, notation, axiom, sorry.
-/
import Derived.Test.YtndppffcladalaaChecked
import GoSem.Claim
import GoSem.ClaimJoined
import GoSem.ClaimMapViews
import Derived.JoinedTies
import Derived.KernelRfl
namespace Go.Proofs.Ytndppffcladalaa
/- THE CELL 'sum', in the pinned program and in every row, IS THE sha256 OF THE DUMP (.gsa) THAT YtndppffcladalaaProg.lean LOADS. Nothing in Lean hashes anything: it is a label: what it is worth is what the hold of that sum in a sandbox is worth. -/
noncomputable def Try.pinned : Pinned := { name := "ytndppffcladalaa", sum := "6f4f62d176344a8791e03e9418a52b88956efba046acb35acc4f6312e769350f", checked := Try.checked }
namespace Rows
def none {H : Type} : Left H := { results := [], args := [] }

/-- 'falseworklaw6.DescNames': WHATEVER THE INPUT: true; the input reads as it did. -/
def descNamesSpec : ChangeSpec := { name := "descNames", fn := fun _ => fun
  | [d] => { results := [.lit (.bool true)], args := [d] }
  | _ => none }
def descNamesRow : OpenClaim := { program := "ytndppffcladalaa", sum := "6f4f62d176344a8791e03e9418a52b88956efba046acb35acc4f6312e769350f", func := "falsework/falseworklaw6.DescNames", spec := "descNames", inPlace := ["math.Float64frombits"], unfollowed := true, recurses := true, apart := false }
def DescNamesSaid : Prop := descNamesRow.holds Try.pinned (OpenSpec.ofChange descNamesSpec)

/-- ITS FALSE NEIGHBOUR: 'it returns false'. Refute it at one input. -/
def descNamesWrong : ChangeSpec := { name := "descNames", fn := fun _ => fun
  | [d] => { results := [.lit (.bool false)], args := [d] }
  | _ => none }
def DescNamesWrongFalsely : Prop := descNamesRow.holds Try.pinned (OpenSpec.ofChange descNamesWrong)

/-- 'falseworklaw6.DescMays': WHATEVER THE INPUT: true; the input reads as it did. -/
def descMaysSpec : ChangeSpec := { name := "descMays", fn := fun _ => fun
  | [d] => { results := [.lit (.bool true)], args := [d] }
  | _ => none }
def descMaysRow : OpenClaim := { program := "ytndppffcladalaa", sum := "6f4f62d176344a8791e03e9418a52b88956efba046acb35acc4f6312e769350f", func := "falsework/falseworklaw6.DescMays", spec := "descMays", inPlace := ["math.Float64frombits"], unfollowed := true, recurses := true, apart := false }
def DescMaysSaid : Prop := descMaysRow.holds Try.pinned (OpenSpec.ofChange descMaysSpec)

/-- ITS FALSE NEIGHBOUR: 'it returns false'. Refute it at one input. -/
def descMaysWrong : ChangeSpec := { name := "descMays", fn := fun _ => fun
  | [d] => { results := [.lit (.bool false)], args := [d] }
  | _ => none }
def DescMaysWrongFalsely : Prop := descMaysRow.holds Try.pinned (OpenSpec.ofChange descMaysWrong)

/-- 'falseworklaw6.DescPuts': WHATEVER THE INPUT: true; the input reads as it did. -/
def descPutsSpec : ChangeSpec := { name := "descPuts", fn := fun _ => fun
  | [d] => { results := [.lit (.bool true)], args := [d] }
  | _ => none }
def descPutsRow : OpenClaim := { program := "ytndppffcladalaa", sum := "6f4f62d176344a8791e03e9418a52b88956efba046acb35acc4f6312e769350f", func := "falsework/falseworklaw6.DescPuts", spec := "descPuts", inPlace := ["math.Float64frombits"], unfollowed := true, recurses := true, apart := false }
def DescPutsSaid : Prop := descPutsRow.holds Try.pinned (OpenSpec.ofChange descPutsSpec)

/-- ITS FALSE NEIGHBOUR: 'it returns false'. Refute it at one input. -/
def descPutsWrong : ChangeSpec := { name := "descPuts", fn := fun _ => fun
  | [d] => { results := [.lit (.bool false)], args := [d] }
  | _ => none }
def DescPutsWrongFalsely : Prop := descPutsRow.holds Try.pinned (OpenSpec.ofChange descPutsWrong)

/-- 'falseworklaw6.DescGets': WHATEVER THE INPUT: true; the input reads as it did. -/
def descGetsSpec : ChangeSpec := { name := "descGets", fn := fun _ => fun
  | [d] => { results := [.lit (.bool true)], args := [d] }
  | _ => none }
def descGetsRow : OpenClaim := { program := "ytndppffcladalaa", sum := "6f4f62d176344a8791e03e9418a52b88956efba046acb35acc4f6312e769350f", func := "falsework/falseworklaw6.DescGets", spec := "descGets", inPlace := ["math.Float64frombits"], unfollowed := true, recurses := true, apart := false }
def DescGetsSaid : Prop := descGetsRow.holds Try.pinned (OpenSpec.ofChange descGetsSpec)

/-- ITS FALSE NEIGHBOUR: 'it returns false'. Refute it at one input. -/
def descGetsWrong : ChangeSpec := { name := "descGets", fn := fun _ => fun
  | [d] => { results := [.lit (.bool false)], args := [d] }
  | _ => none }
def DescGetsWrongFalsely : Prop := descGetsRow.holds Try.pinned (OpenSpec.ofChange descGetsWrong)

/-- 'falseworklaw6.DescBack': WHATEVER THE INPUT: true; the input reads as it did. -/
def descBackSpec : ChangeSpec := { name := "descBack", fn := fun _ => fun
  | [d] => { results := [.lit (.bool true)], args := [d] }
  | _ => none }
def descBackRow : OpenClaim := { program := "ytndppffcladalaa", sum := "6f4f62d176344a8791e03e9418a52b88956efba046acb35acc4f6312e769350f", func := "falsework/falseworklaw6.DescBack", spec := "descBack", inPlace := ["math.Float64frombits"], unfollowed := true, recurses := true, apart := false }
def DescBackSaid : Prop := descBackRow.holds Try.pinned (OpenSpec.ofChange descBackSpec)

/-- ITS FALSE NEIGHBOUR: 'it returns false'. Refute it at one input. -/
def descBackWrong : ChangeSpec := { name := "descBack", fn := fun _ => fun
  | [d] => { results := [.lit (.bool false)], args := [d] }
  | _ => none }
def DescBackWrongFalsely : Prop := descBackRow.holds Try.pinned (OpenSpec.ofChange descBackWrong)

/-- 'falseworklaw6.DescTurned': WHATEVER THE INPUT: true; the input reads as it did. -/
def descTurnedSpec : ChangeSpec := { name := "descTurned", fn := fun _ => fun
  | [d1, d2, d3] => { results := [.lit (.bool true)], args := [d1, d2, d3] }
  | _ => none }
def descTurnedRow : OpenClaim := { program := "ytndppffcladalaa", sum := "6f4f62d176344a8791e03e9418a52b88956efba046acb35acc4f6312e769350f", func := "falsework/falseworklaw6.DescTurned", spec := "descTurned", inPlace := ["math.Float64frombits"], unfollowed := true, recurses := true, apart := false }
def DescTurnedSaid : Prop := descTurnedRow.holds Try.pinned (OpenSpec.ofChange descTurnedSpec)

/-- ITS FALSE NEIGHBOUR: 'it returns false'. Refute it at one input. -/
def descTurnedWrong : ChangeSpec := { name := "descTurned", fn := fun _ => fun
  | [d1, d2, d3] => { results := [.lit (.bool false)], args := [d1, d2, d3] }
  | _ => none }
def DescTurnedWrongFalsely : Prop := descTurnedRow.holds Try.pinned (OpenSpec.ofChange descTurnedWrong)

/- THE SECOND FORM. 'bulk': how many values and letters a reading holds, each counted each time it is reached (what is shared counts as often as it is met; a slice's spare places count too). A statement '..UptoSaid' is the law's where the arguments, and the package variables that the reading takes, are together of bulk at most 1048576: NARROWER than '..Said'. Prove '..Said' where nothing that the law and all that it calls make is longer than what came in: it says more and counts as full. Else prove '..UptoSaid'. A law counts once. -/
mutual
def uptoBulk {H : Type} : DataW H → Nat
  | .lit (.string bytes) => bytes.length + 1
  | .lit _ => 1
  | .nil => 1
  | .ptr d => uptoBulk d + 1
  | .slice elems spare => uptoBulkAll elems + uptoBulkAll spare + 1
  | .agg parts => uptoBulkAll parts + 1
  | .iface _ d => uptoBulk d + 1
  | .map entries => uptoBulkEntries entries + 1
  | .held _ => 1
def uptoBulkAll {H : Type} : List (DataW H) → Nat
  | [] => 0
  | d :: r => uptoBulk d + uptoBulkAll r
def uptoBulkEntries {H : Type} : List (Lit × DataW H) → Nat
  | [] => 0
  | x :: r => uptoBulkEntry x + uptoBulkEntries r
def uptoBulkEntry {H : Type} : Lit × DataW H → Nat
  | (.string bytes, d) => bytes.length + uptoBulk d + 1
  | (_, d) => uptoBulk d + 1
 end
def uptoSmall : (H : Type) → List (DataW H) → Bool := fun _ ds => decide (uptoBulkAll ds ≤ 1048576)
def OpenSpec.upto (s : _root_.Go.ChangeSpec) : _root_.Go.OpenSpec := { _root_.Go.OpenSpec.ofChange s with cond := some uptoSmall }

/-- 'falseworklaw6.DescNames', WHERE WHAT IT READS IS OF BULK AT MOST 1048576: true; the input reads as it did. -/
def descNamesUptoRow : OpenClaim := { program := "ytndppffcladalaa", sum := "6f4f62d176344a8791e03e9418a52b88956efba046acb35acc4f6312e769350f", func := "falsework/falseworklaw6.DescNames", spec := "descNames", inPlace := ["math.Float64frombits"], unfollowed := true, recurses := true, apart := false, narrowed := true }
def DescNamesUptoSaid : Prop := descNamesUptoRow.holds Try.pinned (OpenSpec.upto descNamesSpec)

/-- 'falseworklaw6.DescMays', WHERE WHAT IT READS IS OF BULK AT MOST 1048576: true; the input reads as it did. -/
def descMaysUptoRow : OpenClaim := { program := "ytndppffcladalaa", sum := "6f4f62d176344a8791e03e9418a52b88956efba046acb35acc4f6312e769350f", func := "falsework/falseworklaw6.DescMays", spec := "descMays", inPlace := ["math.Float64frombits"], unfollowed := true, recurses := true, apart := false, narrowed := true }
def DescMaysUptoSaid : Prop := descMaysUptoRow.holds Try.pinned (OpenSpec.upto descMaysSpec)

/-- 'falseworklaw6.DescPuts', WHERE WHAT IT READS IS OF BULK AT MOST 1048576: true; the input reads as it did. -/
def descPutsUptoRow : OpenClaim := { program := "ytndppffcladalaa", sum := "6f4f62d176344a8791e03e9418a52b88956efba046acb35acc4f6312e769350f", func := "falsework/falseworklaw6.DescPuts", spec := "descPuts", inPlace := ["math.Float64frombits"], unfollowed := true, recurses := true, apart := false, narrowed := true }
def DescPutsUptoSaid : Prop := descPutsUptoRow.holds Try.pinned (OpenSpec.upto descPutsSpec)

/-- 'falseworklaw6.DescGets', WHERE WHAT IT READS IS OF BULK AT MOST 1048576: true; the input reads as it did. -/
def descGetsUptoRow : OpenClaim := { program := "ytndppffcladalaa", sum := "6f4f62d176344a8791e03e9418a52b88956efba046acb35acc4f6312e769350f", func := "falsework/falseworklaw6.DescGets", spec := "descGets", inPlace := ["math.Float64frombits"], unfollowed := true, recurses := true, apart := false, narrowed := true }
def DescGetsUptoSaid : Prop := descGetsUptoRow.holds Try.pinned (OpenSpec.upto descGetsSpec)

/-- 'falseworklaw6.DescBack', WHERE WHAT IT READS IS OF BULK AT MOST 1048576: true; the input reads as it did. -/
def descBackUptoRow : OpenClaim := { program := "ytndppffcladalaa", sum := "6f4f62d176344a8791e03e9418a52b88956efba046acb35acc4f6312e769350f", func := "falsework/falseworklaw6.DescBack", spec := "descBack", inPlace := ["math.Float64frombits"], unfollowed := true, recurses := true, apart := false, narrowed := true }
def DescBackUptoSaid : Prop := descBackUptoRow.holds Try.pinned (OpenSpec.upto descBackSpec)

/-- 'falseworklaw6.DescTurned', WHERE WHAT IT READS IS OF BULK AT MOST 1048576: true; the input reads as it did. -/
def descTurnedUptoRow : OpenClaim := { program := "ytndppffcladalaa", sum := "6f4f62d176344a8791e03e9418a52b88956efba046acb35acc4f6312e769350f", func := "falsework/falseworklaw6.DescTurned", spec := "descTurned", inPlace := ["math.Float64frombits"], unfollowed := true, recurses := true, apart := false, narrowed := true }
def DescTurnedUptoSaid : Prop := descTurnedUptoRow.holds Try.pinned (OpenSpec.upto descTurnedSpec)

end Rows
end Go.Proofs.Ytndppffcladalaa
