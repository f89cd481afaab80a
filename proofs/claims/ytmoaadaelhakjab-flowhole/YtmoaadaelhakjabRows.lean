/-
  No cell of these rows narrows 'for every input' (looked for: loops, veiled, ifaces, maps, wideKeys, modest, calm, conditions, laid).
  DERIVED. THE GIVEN ROWS OF THIS SEAT. 3 by the template 'for every input the law returns true; each argument reads behind the call as it read before'; 0 by the template 'total and deterministic' (their statements: YtmoaadaelhakjabTotals.lean).
  GIVEN WITH THE SEED: the statements are not yours to turn. If you find one false, say at which input.
  Laid BY PROGRAM, IN A SANDBOX (cutbox-rows.mjs): the forced cells as the released guide's own fill.sh prints them over the translation 63cb6060545f6566… (all of the seat's roots in one cut). By AI agents, Wed Nov 11 2026. No macro, syntax, notation, axiom, sorry.
-/
import Derived.Test.YtmoaadaelhakjabChecked
import GoSem.Claim
import GoSem.ClaimJoined
import GoSem.ClaimMapViews
import Derived.JoinedTies
import Derived.KernelRfl
namespace Go.Proofs.Ytmoaadaelhakjab
/- THE CELL 'sum', in the pinned program and in every row, IS THE sha256 OF THE DUMP (.gsa) THAT YtmoaadaelhakjabProg.lean LOADS. Nothing in Lean hashes anything: it is a label: what it is worth is what the hold of that sum in a sandbox is worth. -/
noncomputable def Try.pinned : Pinned := { name := "ytmoaadaelhakjab", sum := "63cb6060545f6566904c78736a6da04f418329181ac82be7667086fb85744428", checked := Try.checked }
namespace Rows
def none {H : Type} : Left H := { results := [], args := [] }

/-- 'falseworklaw1.FloLeads': WHATEVER THE INPUT: true; the input reads as it did. -/
def floLeadsSpec : ChangeSpec := { name := "floLeads", fn := fun _ => fun
  | [d1, d2, d3] => { results := [.lit (.bool true)], args := [d1, d2, d3] }
  | _ => none }
def floLeadsRow : OpenClaim := { program := "ytmoaadaelhakjab", sum := "63cb6060545f6566904c78736a6da04f418329181ac82be7667086fb85744428", func := "falsework/falseworklaw1.FloLeads", spec := "floLeads", inPlace := ["math.Float64frombits", "math.archTrunc", "math.Float64bits"], apart := false }
def FloLeadsSaid : Prop := floLeadsRow.holds Try.pinned (OpenSpec.ofChange floLeadsSpec)

/-- ITS FALSE NEIGHBOUR: 'it returns false'. Refute it at one input. -/
def floLeadsWrong : ChangeSpec := { name := "floLeads", fn := fun _ => fun
  | [d1, d2, d3] => { results := [.lit (.bool false)], args := [d1, d2, d3] }
  | _ => none }
def FloLeadsWrongFalsely : Prop := floLeadsRow.holds Try.pinned (OpenSpec.ofChange floLeadsWrong)

/-- 'falseworklaw1.FloWhole': WHATEVER THE INPUT: true; the input reads as it did. -/
def floWholeSpec : ChangeSpec := { name := "floWhole", fn := fun _ => fun
  | [d1, d2, d3] => { results := [.lit (.bool true)], args := [d1, d2, d3] }
  | _ => none }
def floWholeRow : OpenClaim := { program := "ytmoaadaelhakjab", sum := "63cb6060545f6566904c78736a6da04f418329181ac82be7667086fb85744428", func := "falsework/falseworklaw1.FloWhole", spec := "floWhole", inPlace := ["math.Float64bits", "math.Float64frombits", "math.archTrunc"], apart := false }
def FloWholeSaid : Prop := floWholeRow.holds Try.pinned (OpenSpec.ofChange floWholeSpec)

/-- ITS FALSE NEIGHBOUR: 'it returns false'. Refute it at one input. -/
def floWholeWrong : ChangeSpec := { name := "floWhole", fn := fun _ => fun
  | [d1, d2, d3] => { results := [.lit (.bool false)], args := [d1, d2, d3] }
  | _ => none }
def FloWholeWrongFalsely : Prop := floWholeRow.holds Try.pinned (OpenSpec.ofChange floWholeWrong)

/-- 'falseworklaw1.FloEdges': WHATEVER THE INPUT: true; the input reads as it did. -/
def floEdgesSpec : ChangeSpec := { name := "floEdges", fn := fun _ => fun
  | [d1, d2] => { results := [.lit (.bool true)], args := [d1, d2] }
  | _ => none }
def floEdgesRow : OpenClaim := { program := "ytmoaadaelhakjab", sum := "63cb6060545f6566904c78736a6da04f418329181ac82be7667086fb85744428", func := "falsework/falseworklaw1.FloEdges", spec := "floEdges", inPlace := ["math.Float64frombits", "math.Float64bits", "math.archTrunc"], apart := false }
def FloEdgesSaid : Prop := floEdgesRow.holds Try.pinned (OpenSpec.ofChange floEdgesSpec)

/-- ITS FALSE NEIGHBOUR: 'it returns false'. Refute it at one input. -/
def floEdgesWrong : ChangeSpec := { name := "floEdges", fn := fun _ => fun
  | [d1, d2] => { results := [.lit (.bool false)], args := [d1, d2] }
  | _ => none }
def FloEdgesWrongFalsely : Prop := floEdgesRow.holds Try.pinned (OpenSpec.ofChange floEdgesWrong)

/- THE SECOND FORM. 'bulk': how many values and letters a reading holds, each counted each time it is reached (what is shared counts as often as it is met; a slice's spare places count too). A statement '..UptoSaid' is the law's where the arguments, and the package variables that the reading takes, are together of bulk at most 1048576: NARROWER than '..Said'. Prove '..Said' where nothing that the law and all that it calls make is longer than what came in: it says more and counts as full. Else prove '..UptoSaid'. A law counts once. -/
mutual
def uptoBulk {H : Type} : DataW H → Nat
  | .lit (.string bytes) => bytes.length + 1
  | .lit _ => 1
  | .nil => 1
  | .ptr d => uptoBulk d + 1
  | .slice elems spare => uptoBulkAll elems + uptoBulkAll spare + 1
  | .agg parts => uptoBulkAll parts + 1
  | .iface _ d => uptoBulk d + 1
  | .map entries => uptoBulkEntries entries + 1
  | .held _ => 1
def uptoBulkAll {H : Type} : List (DataW H) → Nat
  | [] => 0
  | d :: r => uptoBulk d + uptoBulkAll r
def uptoBulkEntries {H : Type} : List (Lit × DataW H) → Nat
  | [] => 0
  | x :: r => uptoBulkEntry x + uptoBulkEntries r
def uptoBulkEntry {H : Type} : Lit × DataW H → Nat
  | (.string bytes, d) => bytes.length + uptoBulk d + 1
  | (_, d) => uptoBulk d + 1
 end
def uptoSmall : (H : Type) → List (DataW H) → Bool := fun _ ds => decide (uptoBulkAll ds ≤ 1048576)
def OpenSpec.upto (s : _root_.Go.ChangeSpec) : _root_.Go.OpenSpec := { _root_.Go.OpenSpec.ofChange s with cond := some uptoSmall }

/-- 'falseworklaw1.FloLeads', WHERE WHAT IT READS IS OF BULK AT MOST 1048576: true; the input reads as it did. -/
def floLeadsUptoRow : OpenClaim := { program := "ytmoaadaelhakjab", sum := "63cb6060545f6566904c78736a6da04f418329181ac82be7667086fb85744428", func := "falsework/falseworklaw1.FloLeads", spec := "floLeads", inPlace := ["math.Float64frombits", "math.archTrunc", "math.Float64bits"], apart := false, narrowed := true }
def FloLeadsUptoSaid : Prop := floLeadsUptoRow.holds Try.pinned (OpenSpec.upto floLeadsSpec)

/-- 'falseworklaw1.FloWhole', WHERE WHAT IT READS IS OF BULK AT MOST 1048576: true; the input reads as it did. -/
def floWholeUptoRow : OpenClaim := { program := "ytmoaadaelhakjab", sum := "63cb6060545f6566904c78736a6da04f418329181ac82be7667086fb85744428", func := "falsework/falseworklaw1.FloWhole", spec := "floWhole", inPlace := ["math.Float64bits", "math.Float64frombits", "math.archTrunc"], apart := false, narrowed := true }
def FloWholeUptoSaid : Prop := floWholeUptoRow.holds Try.pinned (OpenSpec.upto floWholeSpec)

/-- 'falseworklaw1.FloEdges', WHERE WHAT IT READS IS OF BULK AT MOST 1048576: true; the input reads as it did. -/
def floEdgesUptoRow : OpenClaim := { program := "ytmoaadaelhakjab", sum := "63cb6060545f6566904c78736a6da04f418329181ac82be7667086fb85744428", func := "falsework/falseworklaw1.FloEdges", spec := "floEdges", inPlace := ["math.Float64frombits", "math.Float64bits", "math.archTrunc"], apart := false, narrowed := true }
def FloEdgesUptoSaid : Prop := floEdgesUptoRow.holds Try.pinned (OpenSpec.upto floEdgesSpec)

end Rows
end Go.Proofs.Ytmoaadaelhakjab
