/-
  No cell of these rows narrows 'for every input' (looked for: loops, veiled, ifaces, maps, wideKeys, modest, calm, conditions, laid).
  DERIVED. THE GIVEN ROWS OF THIS SEAT. 4 by the template 'for every input the law returns true; each argument reads behind the call as it read before'; 0 by the template 'total and deterministic' (their statements: YtgdehjdajjhjpaaTotals.lean).
  GIVEN WITH THE SEED: the statements are not yours to turn. If you find one false, say at which input.
  Laid BY PROGRAM, IN A SANDBOX (cutbox-rows.mjs): the forced cells as the released guide's own fill.sh prints them over the translation 162552ca946472b7… (all of the seat's roots in one cut). By AI agents, Wed Nov 11 2026. No macro, syntax, notation, axiom, sorry.
-/
import Derived.Test.YtgdehjdajjhjpaaChecked
import GoSem.Claim
import GoSem.ClaimJoined
import GoSem.ClaimMapViews
import Derived.JoinedTies
import Derived.KernelRfl
namespace Go.Proofs.Ytgdehjdajjhjpaa
/- THE CELL 'sum', in the pinned program and in every row, IS THE sha256 OF THE DUMP (.gsa) THAT YtgdehjdajjhjpaaProg.lean LOADS. Nothing in Lean hashes anything: it is a label: what it is worth is what the hold of that sum in a sandbox is worth. -/
noncomputable def Try.pinned : Pinned := { name := "ytgdehjdajjhjpaa", sum := "162552ca946472b7940a2858a58c148530660411432c90eef11283a086ac1a4a", checked := Try.checked }
namespace Rows
def none {H : Type} : Left H := { results := [], args := [] }

/-- 'falseworklaw11.ReplicaNews': WHATEVER THE INPUT: true; the input reads as it did. -/
def replicaNewsSpec : ChangeSpec := { name := "replicaNews", fn := fun _ => fun
  | [d1, d2] => { results := [.lit (.bool true)], args := [d1, d2] }
  | _ => none }
def replicaNewsRow : OpenClaim := { program := "ytgdehjdajjhjpaa", sum := "162552ca946472b7940a2858a58c148530660411432c90eef11283a086ac1a4a", func := "falsework/falseworklaw11.ReplicaNews", spec := "replicaNews", unfollowed := true, recurses := true, apart := false }
def ReplicaNewsSaid : Prop := replicaNewsRow.holds Try.pinned (OpenSpec.ofChange replicaNewsSpec)

/-- ITS FALSE NEIGHBOUR: 'it returns false'. Refute it at one input. -/
def replicaNewsWrong : ChangeSpec := { name := "replicaNews", fn := fun _ => fun
  | [d1, d2] => { results := [.lit (.bool false)], args := [d1, d2] }
  | _ => none }
def ReplicaNewsWrongFalsely : Prop := replicaNewsRow.holds Try.pinned (OpenSpec.ofChange replicaNewsWrong)

/-- 'falseworklaw11.ReplicaMays': WHATEVER THE INPUT: true; the input reads as it did. -/
def replicaMaysSpec : ChangeSpec := { name := "replicaMays", fn := fun _ => fun
  | [d] => { results := [.lit (.bool true)], args := [d] }
  | _ => none }
def replicaMaysRow : OpenClaim := { program := "ytgdehjdajjhjpaa", sum := "162552ca946472b7940a2858a58c148530660411432c90eef11283a086ac1a4a", func := "falsework/falseworklaw11.ReplicaMays", spec := "replicaMays", unfollowed := true, recurses := true, apart := false }
def ReplicaMaysSaid : Prop := replicaMaysRow.holds Try.pinned (OpenSpec.ofChange replicaMaysSpec)

/-- ITS FALSE NEIGHBOUR: 'it returns false'. Refute it at one input. -/
def replicaMaysWrong : ChangeSpec := { name := "replicaMays", fn := fun _ => fun
  | [d] => { results := [.lit (.bool false)], args := [d] }
  | _ => none }
def ReplicaMaysWrongFalsely : Prop := replicaMaysRow.holds Try.pinned (OpenSpec.ofChange replicaMaysWrong)

/-- 'falseworklaw11.ReplicaProposes': WHATEVER THE INPUT: true; the input reads as it did. -/
def replicaProposesSpec : ChangeSpec := { name := "replicaProposes", fn := fun _ => fun
  | [d1, d2, d3] => { results := [.lit (.bool true)], args := [d1, d2, d3] }
  | _ => none }
def replicaProposesRow : OpenClaim := { program := "ytgdehjdajjhjpaa", sum := "162552ca946472b7940a2858a58c148530660411432c90eef11283a086ac1a4a", func := "falsework/falseworklaw11.ReplicaProposes", spec := "replicaProposes", unfollowed := true, recurses := true, apart := false }
def ReplicaProposesSaid : Prop := replicaProposesRow.holds Try.pinned (OpenSpec.ofChange replicaProposesSpec)

/-- ITS FALSE NEIGHBOUR: 'it returns false'. Refute it at one input. -/
def replicaProposesWrong : ChangeSpec := { name := "replicaProposes", fn := fun _ => fun
  | [d1, d2, d3] => { results := [.lit (.bool false)], args := [d1, d2, d3] }
  | _ => none }
def ReplicaProposesWrongFalsely : Prop := replicaProposesRow.holds Try.pinned (OpenSpec.ofChange replicaProposesWrong)

/-- 'falseworklaw11.ReplicaSuspects': WHATEVER THE INPUT: true; the input reads as it did. -/
def replicaSuspectsSpec : ChangeSpec := { name := "replicaSuspects", fn := fun _ => fun
  | [d] => { results := [.lit (.bool true)], args := [d] }
  | _ => none }
def replicaSuspectsRow : OpenClaim := { program := "ytgdehjdajjhjpaa", sum := "162552ca946472b7940a2858a58c148530660411432c90eef11283a086ac1a4a", func := "falsework/falseworklaw11.ReplicaSuspects", spec := "replicaSuspects", unfollowed := true, recurses := true, apart := false }
def ReplicaSuspectsSaid : Prop := replicaSuspectsRow.holds Try.pinned (OpenSpec.ofChange replicaSuspectsSpec)

/-- ITS FALSE NEIGHBOUR: 'it returns false'. Refute it at one input. -/
def replicaSuspectsWrong : ChangeSpec := { name := "replicaSuspects", fn := fun _ => fun
  | [d] => { results := [.lit (.bool false)], args := [d] }
  | _ => none }
def ReplicaSuspectsWrongFalsely : Prop := replicaSuspectsRow.holds Try.pinned (OpenSpec.ofChange replicaSuspectsWrong)

/- THE SECOND FORM. 'bulk': how many values and letters a reading holds, each counted each time it is reached (what is shared counts as often as it is met; a slice's spare places count too). A statement '..UptoSaid' is the law's where the arguments, and the package variables that the reading takes, are together of bulk at most 1048576: NARROWER than '..Said'. Prove '..Said' where nothing that the law and all that it calls make is longer than what came in: it says more and counts as full. Else prove '..UptoSaid'. A law counts once. -/
mutual
def uptoBulk {H : Type} : DataW H → Nat
  | .lit (.string bytes) => bytes.length + 1
  | .lit _ => 1
  | .nil => 1
  | .ptr d => uptoBulk d + 1
  | .slice elems spare => uptoBulkAll elems + uptoBulkAll spare + 1
  | .agg parts => uptoBulkAll parts + 1
  | .iface _ d => uptoBulk d + 1
  | .map entries => uptoBulkEntries entries + 1
  | .held _ => 1
def uptoBulkAll {H : Type} : List (DataW H) → Nat
  | [] => 0
  | d :: r => uptoBulk d + uptoBulkAll r
def uptoBulkEntries {H : Type} : List (Lit × DataW H) → Nat
  | [] => 0
  | x :: r => uptoBulkEntry x + uptoBulkEntries r
def uptoBulkEntry {H : Type} : Lit × DataW H → Nat
  | (.string bytes, d) => bytes.length + uptoBulk d + 1
  | (_, d) => uptoBulk d + 1
 end
def uptoSmall : (H : Type) → List (DataW H) → Bool := fun _ ds => decide (uptoBulkAll ds ≤ 1048576)
def OpenSpec.upto (s : _root_.Go.ChangeSpec) : _root_.Go.OpenSpec := { _root_.Go.OpenSpec.ofChange s with cond := some uptoSmall }

/-- 'falseworklaw11.ReplicaNews', WHERE WHAT IT READS IS OF BULK AT MOST 1048576: true; the input reads as it did. -/
def replicaNewsUptoRow : OpenClaim := { program := "ytgdehjdajjhjpaa", sum := "162552ca946472b7940a2858a58c148530660411432c90eef11283a086ac1a4a", func := "falsework/falseworklaw11.ReplicaNews", spec := "replicaNews", unfollowed := true, recurses := true, apart := false, narrowed := true }
def ReplicaNewsUptoSaid : Prop := replicaNewsUptoRow.holds Try.pinned (OpenSpec.upto replicaNewsSpec)

/-- 'falseworklaw11.ReplicaMays', WHERE WHAT IT READS IS OF BULK AT MOST 1048576: true; the input reads as it did. -/
def replicaMaysUptoRow : OpenClaim := { program := "ytgdehjdajjhjpaa", sum := "162552ca946472b7940a2858a58c148530660411432c90eef11283a086ac1a4a", func := "falsework/falseworklaw11.ReplicaMays", spec := "replicaMays", unfollowed := true, recurses := true, apart := false, narrowed := true }
def ReplicaMaysUptoSaid : Prop := replicaMaysUptoRow.holds Try.pinned (OpenSpec.upto replicaMaysSpec)

/-- 'falseworklaw11.ReplicaProposes', WHERE WHAT IT READS IS OF BULK AT MOST 1048576: true; the input reads as it did. -/
def replicaProposesUptoRow : OpenClaim := { program := "ytgdehjdajjhjpaa", sum := "162552ca946472b7940a2858a58c148530660411432c90eef11283a086ac1a4a", func := "falsework/falseworklaw11.ReplicaProposes", spec := "replicaProposes", unfollowed := true, recurses := true, apart := false, narrowed := true }
def ReplicaProposesUptoSaid : Prop := replicaProposesUptoRow.holds Try.pinned (OpenSpec.upto replicaProposesSpec)

/-- 'falseworklaw11.ReplicaSuspects', WHERE WHAT IT READS IS OF BULK AT MOST 1048576: true; the input reads as it did. -/
def replicaSuspectsUptoRow : OpenClaim := { program := "ytgdehjdajjhjpaa", sum := "162552ca946472b7940a2858a58c148530660411432c90eef11283a086ac1a4a", func := "falsework/falseworklaw11.ReplicaSuspects", spec := "replicaSuspects", unfollowed := true, recurses := true, apart := false, narrowed := true }
def ReplicaSuspectsUptoSaid : Prop := replicaSuspectsUptoRow.holds Try.pinned (OpenSpec.upto replicaSuspectsSpec)

end Rows
end Go.Proofs.Ytgdehjdajjhjpaa
