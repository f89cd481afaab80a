/-
  No cell of these rows narrows 'for every input' (looked for: loops, veiled, ifaces, maps, wideKeys, modest, calm, conditions, laid).
  DERIVED. THE GIVEN ROWS OF THIS SEAT. 3 by the template 'for every input the law returns true; each argument reads behind the call as it read before'; 0 by the template 'total and deterministic' (their statements: YtajbdffepfjegaaGreatTotals.lean).
  GIVEN WITH THE SEED: the statements are not yours to turn. If you find one false, say at which input.
  Laid BY PROGRAM, IN A SANDBOX (cutbox-rows.mjs): the forced cells as the released guide's own fill.sh prints them over the translation 5406b443ff291ee7… (all of the seat's roots in one cut). By AI agents, Wed Nov 11 2026. No macro, syntax, notation, axiom, sorry.
-/
import Derived.Test.YtajbdffepfjegaaGreatChecked
import GoSem.Claim
import GoSem.ClaimJoined
import GoSem.ClaimMapViews
import Derived.JoinedTies
import Derived.KernelRfl
namespace Go.Proofs.YtajbdffepfjegaaGreat
/- THE CELL 'sum', in the pinned program and in every row, IS THE sha256 OF THE DUMP (.gsa) THAT YtajbdffepfjegaaGreatProg.lean LOADS. Nothing in Lean hashes anything: it is a label: what it is worth is what the hold of that sum in a sandbox is worth. -/
noncomputable def Tryz.pinned : Pinned := { name := "ytajbdffepfjegaagreat", sum := "5406b443ff291ee7dbc514d3c9541904dd115c962b72cc8784dd9a06eaaf43e8", checked := Tryz.checked }
namespace Rows
def none {H : Type} : Left H := { results := [], args := [] }

/-- 'falseworklaw11.ReplicaPrepareds': WHATEVER THE INPUT: true; the input reads as it did. -/
def replicaPreparedsSpec : ChangeSpec := { name := "replicaPrepareds", fn := fun _ => fun
  | [d1, d2] => { results := [.lit (.bool true)], args := [d1, d2] }
  | _ => none }
def replicaPreparedsRow : OpenClaim := { program := "ytajbdffepfjegaagreat", sum := "5406b443ff291ee7dbc514d3c9541904dd115c962b72cc8784dd9a06eaaf43e8", func := "falsework/falseworklaw11.ReplicaPrepareds", spec := "replicaPrepareds", inPlace := ["slices.overlaps[int]"], unfollowed := true, recurses := true, apart := false }
def ReplicaPreparedsSaid : Prop := replicaPreparedsRow.holds Tryz.pinned (OpenSpec.ofChange replicaPreparedsSpec)

/-- ITS FALSE NEIGHBOUR: 'it returns false'. Refute it at one input. -/
def replicaPreparedsWrong : ChangeSpec := { name := "replicaPrepareds", fn := fun _ => fun
  | [d1, d2] => { results := [.lit (.bool false)], args := [d1, d2] }
  | _ => none }
def ReplicaPreparedsWrongFalsely : Prop := replicaPreparedsRow.holds Tryz.pinned (OpenSpec.ofChange replicaPreparedsWrong)

/-- 'falseworklaw11.ReplicaLogs': WHATEVER THE INPUT: true; the input reads as it did. -/
def replicaLogsSpec : ChangeSpec := { name := "replicaLogs", fn := fun _ => fun
  | [d1, d2] => { results := [.lit (.bool true)], args := [d1, d2] }
  | _ => none }
def replicaLogsRow : OpenClaim := { program := "ytajbdffepfjegaagreat", sum := "5406b443ff291ee7dbc514d3c9541904dd115c962b72cc8784dd9a06eaaf43e8", func := "falsework/falseworklaw11.ReplicaLogs", spec := "replicaLogs", inPlace := ["slices.overlaps[int]"], unfollowed := true, recurses := true, apart := false }
def ReplicaLogsSaid : Prop := replicaLogsRow.holds Tryz.pinned (OpenSpec.ofChange replicaLogsSpec)

/-- ITS FALSE NEIGHBOUR: 'it returns false'. Refute it at one input. -/
def replicaLogsWrong : ChangeSpec := { name := "replicaLogs", fn := fun _ => fun
  | [d1, d2] => { results := [.lit (.bool false)], args := [d1, d2] }
  | _ => none }
def ReplicaLogsWrongFalsely : Prop := replicaLogsRow.holds Tryz.pinned (OpenSpec.ofChange replicaLogsWrong)

/-- 'falseworklaw11.ReplicaGoes': WHATEVER THE INPUT: true; the input reads as it did. -/
def replicaGoesSpec : ChangeSpec := { name := "replicaGoes", fn := fun _ => fun
  | [d1, d2] => { results := [.lit (.bool true)], args := [d1, d2] }
  | _ => none }
def replicaGoesRow : OpenClaim := { program := "ytajbdffepfjegaagreat", sum := "5406b443ff291ee7dbc514d3c9541904dd115c962b72cc8784dd9a06eaaf43e8", func := "falsework/falseworklaw11.ReplicaGoes", spec := "replicaGoes", inPlace := ["slices.overlaps[int]"], unfollowed := true, recurses := true, apart := false }
def ReplicaGoesSaid : Prop := replicaGoesRow.holds Tryz.pinned (OpenSpec.ofChange replicaGoesSpec)

/-- ITS FALSE NEIGHBOUR: 'it returns false'. Refute it at one input. -/
def replicaGoesWrong : ChangeSpec := { name := "replicaGoes", fn := fun _ => fun
  | [d1, d2] => { results := [.lit (.bool false)], args := [d1, d2] }
  | _ => none }
def ReplicaGoesWrongFalsely : Prop := replicaGoesRow.holds Tryz.pinned (OpenSpec.ofChange replicaGoesWrong)

/- THE SECOND FORM. 'bulk': how many values and letters a reading holds, each counted each time it is reached (what is shared counts as often as it is met; a slice's spare places count too). A statement '..UptoSaid' is the law's where the arguments, and the package variables that the reading takes, are together of bulk at most 1048576: NARROWER than '..Said'. Prove '..Said' where nothing that the law and all that it calls make is longer than what came in: it says more and counts as full. Else prove '..UptoSaid'. A law counts once. -/
mutual
def uptoBulk {H : Type} : DataW H → Nat
  | .lit (.string bytes) => bytes.length + 1
  | .lit _ => 1
  | .nil => 1
  | .ptr d => uptoBulk d + 1
  | .slice elems spare => uptoBulkAll elems + uptoBulkAll spare + 1
  | .agg parts => uptoBulkAll parts + 1
  | .iface _ d => uptoBulk d + 1
  | .map entries => uptoBulkEntries entries + 1
  | .held _ => 1
def uptoBulkAll {H : Type} : List (DataW H) → Nat
  | [] => 0
  | d :: r => uptoBulk d + uptoBulkAll r
def uptoBulkEntries {H : Type} : List (Lit × DataW H) → Nat
  | [] => 0
  | x :: r => uptoBulkEntry x + uptoBulkEntries r
def uptoBulkEntry {H : Type} : Lit × DataW H → Nat
  | (.string bytes, d) => bytes.length + uptoBulk d + 1
  | (_, d) => uptoBulk d + 1
 end
def uptoSmall : (H : Type) → List (DataW H) → Bool := fun _ ds => decide (uptoBulkAll ds ≤ 1048576)
def OpenSpec.upto (s : _root_.Go.ChangeSpec) : _root_.Go.OpenSpec := { _root_.Go.OpenSpec.ofChange s with cond := some uptoSmall }

/-- 'falseworklaw11.ReplicaPrepareds', WHERE WHAT IT READS IS OF BULK AT MOST 1048576: true; the input reads as it did. -/
def replicaPreparedsUptoRow : OpenClaim := { program := "ytajbdffepfjegaagreat", sum := "5406b443ff291ee7dbc514d3c9541904dd115c962b72cc8784dd9a06eaaf43e8", func := "falsework/falseworklaw11.ReplicaPrepareds", spec := "replicaPrepareds", inPlace := ["slices.overlaps[int]"], unfollowed := true, recurses := true, apart := false, narrowed := true }
def ReplicaPreparedsUptoSaid : Prop := replicaPreparedsUptoRow.holds Tryz.pinned (OpenSpec.upto replicaPreparedsSpec)

/-- 'falseworklaw11.ReplicaLogs', WHERE WHAT IT READS IS OF BULK AT MOST 1048576: true; the input reads as it did. -/
def replicaLogsUptoRow : OpenClaim := { program := "ytajbdffepfjegaagreat", sum := "5406b443ff291ee7dbc514d3c9541904dd115c962b72cc8784dd9a06eaaf43e8", func := "falsework/falseworklaw11.ReplicaLogs", spec := "replicaLogs", inPlace := ["slices.overlaps[int]"], unfollowed := true, recurses := true, apart := false, narrowed := true }
def ReplicaLogsUptoSaid : Prop := replicaLogsUptoRow.holds Tryz.pinned (OpenSpec.upto replicaLogsSpec)

/-- 'falseworklaw11.ReplicaGoes', WHERE WHAT IT READS IS OF BULK AT MOST 1048576: true; the input reads as it did. -/
def replicaGoesUptoRow : OpenClaim := { program := "ytajbdffepfjegaagreat", sum := "5406b443ff291ee7dbc514d3c9541904dd115c962b72cc8784dd9a06eaaf43e8", func := "falsework/falseworklaw11.ReplicaGoes", spec := "replicaGoes", inPlace := ["slices.overlaps[int]"], unfollowed := true, recurses := true, apart := false, narrowed := true }
def ReplicaGoesUptoSaid : Prop := replicaGoesUptoRow.holds Tryz.pinned (OpenSpec.upto replicaGoesSpec)

end Rows
end Go.Proofs.YtajbdffepfjegaaGreat
