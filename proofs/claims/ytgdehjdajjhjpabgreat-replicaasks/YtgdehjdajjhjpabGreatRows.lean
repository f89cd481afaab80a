/-
  No cell of these rows narrows 'for every input' (looked for: loops, veiled, ifaces, maps, wideKeys, modest, calm, conditions, laid).
  DERIVED. THE GIVEN ROWS OF THIS SEAT. 6 by the template 'for every input the law returns true; each argument reads behind the call as it read before'; 0 by the template 'total and deterministic' (their statements: YtgdehjdajjhjpabGreatTotals.lean).
  GIVEN WITH THE SEED: the statements are not yours to turn. If you find one false, say at which input.
  Laid BY PROGRAM, IN A SANDBOX (cutbox-rows.mjs): the forced cells as the released guide's own fill.sh prints them over the translation b71e2e56b435ca97… (all of the seat's roots in one cut). By AI agents, Wed Nov 11 2026. No macro, syntax, notation, axiom, sorry.
-/
import Derived.Test.YtgdehjdajjhjpabGreatChecked
import GoSem.Claim
import GoSem.ClaimJoined
import GoSem.ClaimMapViews
import Derived.JoinedTies
import Derived.KernelRfl
namespace Go.Proofs.YtgdehjdajjhjpabGreat
/- THE CELL 'sum', in the pinned program and in every row, IS THE sha256 OF THE DUMP (.gsa) THAT YtgdehjdajjhjpabGreatProg.lean LOADS. Nothing in Lean hashes anything: it is a label: what it is worth is what the hold of that sum in a sandbox is worth. -/
noncomputable def Tryz.pinned : Pinned := { name := "ytgdehjdajjhjpabgreat", sum := "b71e2e56b435ca9756ce83253431c18d3ad208379e4ab867c3744ac27d2f6b94", checked := Tryz.checked }
namespace Rows
def none {H : Type} : Left H := { results := [], args := [] }

/-- 'falseworklaw11.ReplicaPrepareds': WHATEVER THE INPUT: true; the input reads as it did. -/
def replicaPreparedsSpec : ChangeSpec := { name := "replicaPrepareds", fn := fun _ => fun
  | [d1, d2] => { results := [.lit (.bool true)], args := [d1, d2] }
  | _ => none }
def replicaPreparedsRow : OpenClaim := { program := "ytgdehjdajjhjpabgreat", sum := "b71e2e56b435ca9756ce83253431c18d3ad208379e4ab867c3744ac27d2f6b94", func := "falsework/falseworklaw11.ReplicaPrepareds", spec := "replicaPrepareds", inPlace := ["slices.overlaps[int]"], unfollowed := true, recurses := true, apart := false }
def ReplicaPreparedsSaid : Prop := replicaPreparedsRow.holds Tryz.pinned (OpenSpec.ofChange replicaPreparedsSpec)

/-- ITS FALSE NEIGHBOUR: 'it returns false'. Refute it at one input. -/
def replicaPreparedsWrong : ChangeSpec := { name := "replicaPrepareds", fn := fun _ => fun
  | [d1, d2] => { results := [.lit (.bool false)], args := [d1, d2] }
  | _ => none }
def ReplicaPreparedsWrongFalsely : Prop := replicaPreparedsRow.holds Tryz.pinned (OpenSpec.ofChange replicaPreparedsWrong)

/-- 'falseworklaw11.ReplicaCommits': WHATEVER THE INPUT: true; the input reads as it did. -/
def replicaCommitsSpec : ChangeSpec := { name := "replicaCommits", fn := fun _ => fun
  | [d1, d2] => { results := [.lit (.bool true)], args := [d1, d2] }
  | _ => none }
def replicaCommitsRow : OpenClaim := { program := "ytgdehjdajjhjpabgreat", sum := "b71e2e56b435ca9756ce83253431c18d3ad208379e4ab867c3744ac27d2f6b94", func := "falsework/falseworklaw11.ReplicaCommits", spec := "replicaCommits", inPlace := ["slices.overlaps[int]"], unfollowed := true, recurses := true, apart := false }
def ReplicaCommitsSaid : Prop := replicaCommitsRow.holds Tryz.pinned (OpenSpec.ofChange replicaCommitsSpec)

/-- ITS FALSE NEIGHBOUR: 'it returns false'. Refute it at one input. -/
def replicaCommitsWrong : ChangeSpec := { name := "replicaCommits", fn := fun _ => fun
  | [d1, d2] => { results := [.lit (.bool false)], args := [d1, d2] }
  | _ => none }
def ReplicaCommitsWrongFalsely : Prop := replicaCommitsRow.holds Tryz.pinned (OpenSpec.ofChange replicaCommitsWrong)

/-- 'falseworklaw11.ReplicaChanges': WHATEVER THE INPUT: true; the input reads as it did. -/
def replicaChangesSpec : ChangeSpec := { name := "replicaChanges", fn := fun _ => fun
  | [d1, d2] => { results := [.lit (.bool true)], args := [d1, d2] }
  | _ => none }
def replicaChangesRow : OpenClaim := { program := "ytgdehjdajjhjpabgreat", sum := "b71e2e56b435ca9756ce83253431c18d3ad208379e4ab867c3744ac27d2f6b94", func := "falsework/falseworklaw11.ReplicaChanges", spec := "replicaChanges", inPlace := ["slices.overlaps[int]"], unfollowed := true, recurses := true, apart := false }
def ReplicaChangesSaid : Prop := replicaChangesRow.holds Tryz.pinned (OpenSpec.ofChange replicaChangesSpec)

/-- ITS FALSE NEIGHBOUR: 'it returns false'. Refute it at one input. -/
def replicaChangesWrong : ChangeSpec := { name := "replicaChanges", fn := fun _ => fun
  | [d1, d2] => { results := [.lit (.bool false)], args := [d1, d2] }
  | _ => none }
def ReplicaChangesWrongFalsely : Prop := replicaChangesRow.holds Tryz.pinned (OpenSpec.ofChange replicaChangesWrong)

/-- 'falseworklaw11.ReplicaStates': WHATEVER THE INPUT: true; the input reads as it did. -/
def replicaStatesSpec : ChangeSpec := { name := "replicaStates", fn := fun _ => fun
  | [d1, d2] => { results := [.lit (.bool true)], args := [d1, d2] }
  | _ => none }
def replicaStatesRow : OpenClaim := { program := "ytgdehjdajjhjpabgreat", sum := "b71e2e56b435ca9756ce83253431c18d3ad208379e4ab867c3744ac27d2f6b94", func := "falsework/falseworklaw11.ReplicaStates", spec := "replicaStates", inPlace := ["slices.overlaps[int]"], unfollowed := true, recurses := true, apart := false }
def ReplicaStatesSaid : Prop := replicaStatesRow.holds Tryz.pinned (OpenSpec.ofChange replicaStatesSpec)

/-- ITS FALSE NEIGHBOUR: 'it returns false'. Refute it at one input. -/
def replicaStatesWrong : ChangeSpec := { name := "replicaStates", fn := fun _ => fun
  | [d1, d2] => { results := [.lit (.bool false)], args := [d1, d2] }
  | _ => none }
def ReplicaStatesWrongFalsely : Prop := replicaStatesRow.holds Tryz.pinned (OpenSpec.ofChange replicaStatesWrong)

/-- 'falseworklaw11.ReplicaViews': WHATEVER THE INPUT: true; the input reads as it did. -/
def replicaViewsSpec : ChangeSpec := { name := "replicaViews", fn := fun _ => fun
  | [d1, d2] => { results := [.lit (.bool true)], args := [d1, d2] }
  | _ => none }
def replicaViewsRow : OpenClaim := { program := "ytgdehjdajjhjpabgreat", sum := "b71e2e56b435ca9756ce83253431c18d3ad208379e4ab867c3744ac27d2f6b94", func := "falsework/falseworklaw11.ReplicaViews", spec := "replicaViews", inPlace := ["slices.overlaps[int]"], unfollowed := true, recurses := true, apart := false }
def ReplicaViewsSaid : Prop := replicaViewsRow.holds Tryz.pinned (OpenSpec.ofChange replicaViewsSpec)

/-- ITS FALSE NEIGHBOUR: 'it returns false'. Refute it at one input. -/
def replicaViewsWrong : ChangeSpec := { name := "replicaViews", fn := fun _ => fun
  | [d1, d2] => { results := [.lit (.bool false)], args := [d1, d2] }
  | _ => none }
def ReplicaViewsWrongFalsely : Prop := replicaViewsRow.holds Tryz.pinned (OpenSpec.ofChange replicaViewsWrong)

/-- 'falseworklaw11.ReplicaAsks': WHATEVER THE INPUT: true; the input reads as it did. -/
def replicaAsksSpec : ChangeSpec := { name := "replicaAsks", fn := fun _ => fun
  | [d1, d2] => { results := [.lit (.bool true)], args := [d1, d2] }
  | _ => none }
def replicaAsksRow : OpenClaim := { program := "ytgdehjdajjhjpabgreat", sum := "b71e2e56b435ca9756ce83253431c18d3ad208379e4ab867c3744ac27d2f6b94", func := "falsework/falseworklaw11.ReplicaAsks", spec := "replicaAsks", inPlace := ["slices.overlaps[int]"], unfollowed := true, recurses := true, apart := false }
def ReplicaAsksSaid : Prop := replicaAsksRow.holds Tryz.pinned (OpenSpec.ofChange replicaAsksSpec)

/-- ITS FALSE NEIGHBOUR: 'it returns false'. Refute it at one input. -/
def replicaAsksWrong : ChangeSpec := { name := "replicaAsks", fn := fun _ => fun
  | [d1, d2] => { results := [.lit (.bool false)], args := [d1, d2] }
  | _ => none }
def ReplicaAsksWrongFalsely : Prop := replicaAsksRow.holds Tryz.pinned (OpenSpec.ofChange replicaAsksWrong)

/- THE SECOND FORM. 'bulk': how many values and letters a reading holds, each counted each time it is reached (what is shared counts as often as it is met; a slice's spare places count too). A statement '..UptoSaid' is the law's where the arguments, and the package variables that the reading takes, are together of bulk at most 1048576: NARROWER than '..Said'. Prove '..Said' where nothing that the law and all that it calls make is longer than what came in: it says more and counts as full. Else prove '..UptoSaid'. A law counts once. -/
mutual
def uptoBulk {H : Type} : DataW H → Nat
  | .lit (.string bytes) => bytes.length + 1
  | .lit _ => 1
  | .nil => 1
  | .ptr d => uptoBulk d + 1
  | .slice elems spare => uptoBulkAll elems + uptoBulkAll spare + 1
  | .agg parts => uptoBulkAll parts + 1
  | .iface _ d => uptoBulk d + 1
  | .map entries => uptoBulkEntries entries + 1
  | .held _ => 1
def uptoBulkAll {H : Type} : List (DataW H) → Nat
  | [] => 0
  | d :: r => uptoBulk d + uptoBulkAll r
def uptoBulkEntries {H : Type} : List (Lit × DataW H) → Nat
  | [] => 0
  | x :: r => uptoBulkEntry x + uptoBulkEntries r
def uptoBulkEntry {H : Type} : Lit × DataW H → Nat
  | (.string bytes, d) => bytes.length + uptoBulk d + 1
  | (_, d) => uptoBulk d + 1
 end
def uptoSmall : (H : Type) → List (DataW H) → Bool := fun _ ds => decide (uptoBulkAll ds ≤ 1048576)
def OpenSpec.upto (s : _root_.Go.ChangeSpec) : _root_.Go.OpenSpec := { _root_.Go.OpenSpec.ofChange s with cond := some uptoSmall }

/-- 'falseworklaw11.ReplicaPrepareds', WHERE WHAT IT READS IS OF BULK AT MOST 1048576: true; the input reads as it did. -/
def replicaPreparedsUptoRow : OpenClaim := { program := "ytgdehjdajjhjpabgreat", sum := "b71e2e56b435ca9756ce83253431c18d3ad208379e4ab867c3744ac27d2f6b94", func := "falsework/falseworklaw11.ReplicaPrepareds", spec := "replicaPrepareds", inPlace := ["slices.overlaps[int]"], unfollowed := true, recurses := true, apart := false, narrowed := true }
def ReplicaPreparedsUptoSaid : Prop := replicaPreparedsUptoRow.holds Tryz.pinned (OpenSpec.upto replicaPreparedsSpec)

/-- 'falseworklaw11.ReplicaCommits', WHERE WHAT IT READS IS OF BULK AT MOST 1048576: true; the input reads as it did. -/
def replicaCommitsUptoRow : OpenClaim := { program := "ytgdehjdajjhjpabgreat", sum := "b71e2e56b435ca9756ce83253431c18d3ad208379e4ab867c3744ac27d2f6b94", func := "falsework/falseworklaw11.ReplicaCommits", spec := "replicaCommits", inPlace := ["slices.overlaps[int]"], unfollowed := true, recurses := true, apart := false, narrowed := true }
def ReplicaCommitsUptoSaid : Prop := replicaCommitsUptoRow.holds Tryz.pinned (OpenSpec.upto replicaCommitsSpec)

/-- 'falseworklaw11.ReplicaChanges', WHERE WHAT IT READS IS OF BULK AT MOST 1048576: true; the input reads as it did. -/
def replicaChangesUptoRow : OpenClaim := { program := "ytgdehjdajjhjpabgreat", sum := "b71e2e56b435ca9756ce83253431c18d3ad208379e4ab867c3744ac27d2f6b94", func := "falsework/falseworklaw11.ReplicaChanges", spec := "replicaChanges", inPlace := ["slices.overlaps[int]"], unfollowed := true, recurses := true, apart := false, narrowed := true }
def ReplicaChangesUptoSaid : Prop := replicaChangesUptoRow.holds Tryz.pinned (OpenSpec.upto replicaChangesSpec)

/-- 'falseworklaw11.ReplicaStates', WHERE WHAT IT READS IS OF BULK AT MOST 1048576: true; the input reads as it did. -/
def replicaStatesUptoRow : OpenClaim := { program := "ytgdehjdajjhjpabgreat", sum := "b71e2e56b435ca9756ce83253431c18d3ad208379e4ab867c3744ac27d2f6b94", func := "falsework/falseworklaw11.ReplicaStates", spec := "replicaStates", inPlace := ["slices.overlaps[int]"], unfollowed := true, recurses := true, apart := false, narrowed := true }
def ReplicaStatesUptoSaid : Prop := replicaStatesUptoRow.holds Tryz.pinned (OpenSpec.upto replicaStatesSpec)

/-- 'falseworklaw11.ReplicaViews', WHERE WHAT IT READS IS OF BULK AT MOST 1048576: true; the input reads as it did. -/
def replicaViewsUptoRow : OpenClaim := { program := "ytgdehjdajjhjpabgreat", sum := "b71e2e56b435ca9756ce83253431c18d3ad208379e4ab867c3744ac27d2f6b94", func := "falsework/falseworklaw11.ReplicaViews", spec := "replicaViews", inPlace := ["slices.overlaps[int]"], unfollowed := true, recurses := true, apart := false, narrowed := true }
def ReplicaViewsUptoSaid : Prop := replicaViewsUptoRow.holds Tryz.pinned (OpenSpec.upto replicaViewsSpec)

/-- 'falseworklaw11.ReplicaAsks', WHERE WHAT IT READS IS OF BULK AT MOST 1048576: true; the input reads as it did. -/
def replicaAsksUptoRow : OpenClaim := { program := "ytgdehjdajjhjpabgreat", sum := "b71e2e56b435ca9756ce83253431c18d3ad208379e4ab867c3744ac27d2f6b94", func := "falsework/falseworklaw11.ReplicaAsks", spec := "replicaAsks", inPlace := ["slices.overlaps[int]"], unfollowed := true, recurses := true, apart := false, narrowed := true }
def ReplicaAsksUptoSaid : Prop := replicaAsksUptoRow.holds Tryz.pinned (OpenSpec.upto replicaAsksSpec)

end Rows
end Go.Proofs.YtgdehjdajjhjpabGreat
