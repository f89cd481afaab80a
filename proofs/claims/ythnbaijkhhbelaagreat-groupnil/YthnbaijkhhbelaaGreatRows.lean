/-
  No cell of these rows narrows 'for every input' (looked for: loops, veiled, ifaces, maps, wideKeys, modest, calm, conditions, laid).
  DERIVED. THE GIVEN ROWS OF THIS SEAT. 6 by the template 'for every input the law returns true; each argument reads behind the call as it read before'; 0 by the template 'total and deterministic' (their statements: YthnbaijkhhbelaaGreatTotals.lean).
  GIVEN WITH THE SEED: the statements are not yours to turn. If you find one false, say at which input.
  Laid BY PROGRAM, IN A SANDBOX (cutbox-rows.mjs): the forced cells as the released guide's own fill.sh prints them over the translation 68cad07276adef02… (all of the seat's roots in one cut). By AI agents, Wed Nov 11 2026. No macro, syntax, notation, axiom, sorry.
-/
import Derived.Test.YthnbaijkhhbelaaGreatChecked
import GoSem.Claim
import GoSem.ClaimJoined
import GoSem.ClaimMapViews
import Derived.JoinedTies
import Derived.KernelRfl
namespace Go.Proofs.YthnbaijkhhbelaaGreat
/- THE CELL 'sum', in the pinned program and in every row, IS THE sha256 OF THE DUMP (.gsa) THAT YthnbaijkhhbelaaGreatProg.lean LOADS. Nothing in Lean hashes anything: it is a label: what it is worth is what the hold of that sum in a sandbox is worth. -/
noncomputable def Tryz.pinned : Pinned := { name := "ythnbaijkhhbelaagreat", sum := "68cad07276adef0291d24d93a2e0d1dcdd95ffdeab640d51d52de81e794b1cd5", checked := Tryz.checked }
namespace Rows
def none {H : Type} : Left H := { results := [], args := [] }

/-- 'falseworklaw12.GroupRuns': WHATEVER THE INPUT: true; the input reads as it did. -/
def groupRunsSpec : ChangeSpec := { name := "groupRuns", fn := fun _ => fun
  | [d1, d2] => { results := [.lit (.bool true)], args := [d1, d2] }
  | _ => none }
def groupRunsRow : OpenClaim := { program := "ythnbaijkhhbelaagreat", sum := "68cad07276adef0291d24d93a2e0d1dcdd95ffdeab640d51d52de81e794b1cd5", func := "falsework/falseworklaw12.GroupRuns", spec := "groupRuns", inPlace := ["slices.overlaps[int]"], unfollowed := true, recurses := true, apart := false }
def GroupRunsSaid : Prop := groupRunsRow.holds Tryz.pinned (OpenSpec.ofChange groupRunsSpec)

/-- ITS FALSE NEIGHBOUR: 'it returns false'. Refute it at one input. -/
def groupRunsWrong : ChangeSpec := { name := "groupRuns", fn := fun _ => fun
  | [d1, d2] => { results := [.lit (.bool false)], args := [d1, d2] }
  | _ => none }
def GroupRunsWrongFalsely : Prop := groupRunsRow.holds Tryz.pinned (OpenSpec.ofChange groupRunsWrong)

/-- 'falseworklaw12.GroupAgrees': WHATEVER THE INPUT: true; the input reads as it did. -/
def groupAgreesSpec : ChangeSpec := { name := "groupAgrees", fn := fun _ => fun
  | [d1, d2] => { results := [.lit (.bool true)], args := [d1, d2] }
  | _ => none }
def groupAgreesRow : OpenClaim := { program := "ythnbaijkhhbelaagreat", sum := "68cad07276adef0291d24d93a2e0d1dcdd95ffdeab640d51d52de81e794b1cd5", func := "falsework/falseworklaw12.GroupAgrees", spec := "groupAgrees", inPlace := ["slices.overlaps[int]"], unfollowed := true, recurses := true, apart := false }
def GroupAgreesSaid : Prop := groupAgreesRow.holds Tryz.pinned (OpenSpec.ofChange groupAgreesSpec)

/-- ITS FALSE NEIGHBOUR: 'it returns false'. Refute it at one input. -/
def groupAgreesWrong : ChangeSpec := { name := "groupAgrees", fn := fun _ => fun
  | [d1, d2] => { results := [.lit (.bool false)], args := [d1, d2] }
  | _ => none }
def GroupAgreesWrongFalsely : Prop := groupAgreesRow.holds Tryz.pinned (OpenSpec.ofChange groupAgreesWrong)

/-- 'falseworklaw12.GroupLasts': WHATEVER THE INPUT: true; the input reads as it did. -/
def groupLastsSpec : ChangeSpec := { name := "groupLasts", fn := fun _ => fun
  | [d1, d2] => { results := [.lit (.bool true)], args := [d1, d2] }
  | _ => none }
def groupLastsRow : OpenClaim := { program := "ythnbaijkhhbelaagreat", sum := "68cad07276adef0291d24d93a2e0d1dcdd95ffdeab640d51d52de81e794b1cd5", func := "falsework/falseworklaw12.GroupLasts", spec := "groupLasts", inPlace := ["slices.overlaps[int]"], unfollowed := true, recurses := true, apart := false }
def GroupLastsSaid : Prop := groupLastsRow.holds Tryz.pinned (OpenSpec.ofChange groupLastsSpec)

/-- ITS FALSE NEIGHBOUR: 'it returns false'. Refute it at one input. -/
def groupLastsWrong : ChangeSpec := { name := "groupLasts", fn := fun _ => fun
  | [d1, d2] => { results := [.lit (.bool false)], args := [d1, d2] }
  | _ => none }
def GroupLastsWrongFalsely : Prop := groupLastsRow.holds Tryz.pinned (OpenSpec.ofChange groupLastsWrong)

/-- 'falseworklaw12.GroupCopies': WHATEVER THE INPUT: true; the input reads as it did. -/
def groupCopiesSpec : ChangeSpec := { name := "groupCopies", fn := fun _ => fun
  | [d1, d2] => { results := [.lit (.bool true)], args := [d1, d2] }
  | _ => none }
def groupCopiesRow : OpenClaim := { program := "ythnbaijkhhbelaagreat", sum := "68cad07276adef0291d24d93a2e0d1dcdd95ffdeab640d51d52de81e794b1cd5", func := "falsework/falseworklaw12.GroupCopies", spec := "groupCopies", inPlace := ["slices.overlaps[int]"], unfollowed := true, recurses := true, apart := false }
def GroupCopiesSaid : Prop := groupCopiesRow.holds Tryz.pinned (OpenSpec.ofChange groupCopiesSpec)

/-- ITS FALSE NEIGHBOUR: 'it returns false'. Refute it at one input. -/
def groupCopiesWrong : ChangeSpec := { name := "groupCopies", fn := fun _ => fun
  | [d1, d2] => { results := [.lit (.bool false)], args := [d1, d2] }
  | _ => none }
def GroupCopiesWrongFalsely : Prop := groupCopiesRow.holds Tryz.pinned (OpenSpec.ofChange groupCopiesWrong)

/-- 'falseworklaw12.GroupCalm': WHATEVER THE INPUT: true; the input reads as it did. -/
def groupCalmSpec : ChangeSpec := { name := "groupCalm", fn := fun _ => fun
  | [d1, d2] => { results := [.lit (.bool true)], args := [d1, d2] }
  | _ => none }
def groupCalmRow : OpenClaim := { program := "ythnbaijkhhbelaagreat", sum := "68cad07276adef0291d24d93a2e0d1dcdd95ffdeab640d51d52de81e794b1cd5", func := "falsework/falseworklaw12.GroupCalm", spec := "groupCalm", inPlace := ["slices.overlaps[int]"], unfollowed := true, recurses := true, apart := false }
def GroupCalmSaid : Prop := groupCalmRow.holds Tryz.pinned (OpenSpec.ofChange groupCalmSpec)

/-- ITS FALSE NEIGHBOUR: 'it returns false'. Refute it at one input. -/
def groupCalmWrong : ChangeSpec := { name := "groupCalm", fn := fun _ => fun
  | [d1, d2] => { results := [.lit (.bool false)], args := [d1, d2] }
  | _ => none }
def GroupCalmWrongFalsely : Prop := groupCalmRow.holds Tryz.pinned (OpenSpec.ofChange groupCalmWrong)

/-- 'falseworklaw12.GroupNil': WHATEVER THE INPUT: true; the input reads as it did. -/
def groupNilSpec : ChangeSpec := { name := "groupNil", fn := fun _ => fun
  | [d1, d2, d3] => { results := [.lit (.bool true)], args := [d1, d2, d3] }
  | _ => none }
def groupNilRow : OpenClaim := { program := "ythnbaijkhhbelaagreat", sum := "68cad07276adef0291d24d93a2e0d1dcdd95ffdeab640d51d52de81e794b1cd5", func := "falsework/falseworklaw12.GroupNil", spec := "groupNil", inPlace := ["slices.overlaps[int]"], unfollowed := true, recurses := true, apart := false }
def GroupNilSaid : Prop := groupNilRow.holds Tryz.pinned (OpenSpec.ofChange groupNilSpec)

/-- ITS FALSE NEIGHBOUR: 'it returns false'. Refute it at one input. -/
def groupNilWrong : ChangeSpec := { name := "groupNil", fn := fun _ => fun
  | [d1, d2, d3] => { results := [.lit (.bool false)], args := [d1, d2, d3] }
  | _ => none }
def GroupNilWrongFalsely : Prop := groupNilRow.holds Tryz.pinned (OpenSpec.ofChange groupNilWrong)

/- THE SECOND FORM. 'bulk': how many values and letters a reading holds, each counted each time it is reached (what is shared counts as often as it is met; a slice's spare places count too). A statement '..UptoSaid' is the law's where the arguments, and the package variables that the reading takes, are together of bulk at most 1048576: NARROWER than '..Said'. Prove '..Said' where nothing that the law and all that it calls make is longer than what came in: it says more and counts as full. Else prove '..UptoSaid'. A law counts once. -/
mutual
def uptoBulk {H : Type} : DataW H → Nat
  | .lit (.string bytes) => bytes.length + 1
  | .lit _ => 1
  | .nil => 1
  | .ptr d => uptoBulk d + 1
  | .slice elems spare => uptoBulkAll elems + uptoBulkAll spare + 1
  | .agg parts => uptoBulkAll parts + 1
  | .iface _ d => uptoBulk d + 1
  | .map entries => uptoBulkEntries entries + 1
  | .held _ => 1
def uptoBulkAll {H : Type} : List (DataW H) → Nat
  | [] => 0
  | d :: r => uptoBulk d + uptoBulkAll r
def uptoBulkEntries {H : Type} : List (Lit × DataW H) → Nat
  | [] => 0
  | x :: r => uptoBulkEntry x + uptoBulkEntries r
def uptoBulkEntry {H : Type} : Lit × DataW H → Nat
  | (.string bytes, d) => bytes.length + uptoBulk d + 1
  | (_, d) => uptoBulk d + 1
 end
def uptoSmall : (H : Type) → List (DataW H) → Bool := fun _ ds => decide (uptoBulkAll ds ≤ 1048576)
def OpenSpec.upto (s : _root_.Go.ChangeSpec) : _root_.Go.OpenSpec := { _root_.Go.OpenSpec.ofChange s with cond := some uptoSmall }

/-- 'falseworklaw12.GroupRuns', WHERE WHAT IT READS IS OF BULK AT MOST 1048576: true; the input reads as it did. -/
def groupRunsUptoRow : OpenClaim := { program := "ythnbaijkhhbelaagreat", sum := "68cad07276adef0291d24d93a2e0d1dcdd95ffdeab640d51d52de81e794b1cd5", func := "falsework/falseworklaw12.GroupRuns", spec := "groupRuns", inPlace := ["slices.overlaps[int]"], unfollowed := true, recurses := true, apart := false, narrowed := true }
def GroupRunsUptoSaid : Prop := groupRunsUptoRow.holds Tryz.pinned (OpenSpec.upto groupRunsSpec)

/-- 'falseworklaw12.GroupAgrees', WHERE WHAT IT READS IS OF BULK AT MOST 1048576: true; the input reads as it did. -/
def groupAgreesUptoRow : OpenClaim := { program := "ythnbaijkhhbelaagreat", sum := "68cad07276adef0291d24d93a2e0d1dcdd95ffdeab640d51d52de81e794b1cd5", func := "falsework/falseworklaw12.GroupAgrees", spec := "groupAgrees", inPlace := ["slices.overlaps[int]"], unfollowed := true, recurses := true, apart := false, narrowed := true }
def GroupAgreesUptoSaid : Prop := groupAgreesUptoRow.holds Tryz.pinned (OpenSpec.upto groupAgreesSpec)

/-- 'falseworklaw12.GroupLasts', WHERE WHAT IT READS IS OF BULK AT MOST 1048576: true; the input reads as it did. -/
def groupLastsUptoRow : OpenClaim := { program := "ythnbaijkhhbelaagreat", sum := "68cad07276adef0291d24d93a2e0d1dcdd95ffdeab640d51d52de81e794b1cd5", func := "falsework/falseworklaw12.GroupLasts", spec := "groupLasts", inPlace := ["slices.overlaps[int]"], unfollowed := true, recurses := true, apart := false, narrowed := true }
def GroupLastsUptoSaid : Prop := groupLastsUptoRow.holds Tryz.pinned (OpenSpec.upto groupLastsSpec)

/-- 'falseworklaw12.GroupCopies', WHERE WHAT IT READS IS OF BULK AT MOST 1048576: true; the input reads as it did. -/
def groupCopiesUptoRow : OpenClaim := { program := "ythnbaijkhhbelaagreat", sum := "68cad07276adef0291d24d93a2e0d1dcdd95ffdeab640d51d52de81e794b1cd5", func := "falsework/falseworklaw12.GroupCopies", spec := "groupCopies", inPlace := ["slices.overlaps[int]"], unfollowed := true, recurses := true, apart := false, narrowed := true }
def GroupCopiesUptoSaid : Prop := groupCopiesUptoRow.holds Tryz.pinned (OpenSpec.upto groupCopiesSpec)

/-- 'falseworklaw12.GroupCalm', WHERE WHAT IT READS IS OF BULK AT MOST 1048576: true; the input reads as it did. -/
def groupCalmUptoRow : OpenClaim := { program := "ythnbaijkhhbelaagreat", sum := "68cad07276adef0291d24d93a2e0d1dcdd95ffdeab640d51d52de81e794b1cd5", func := "falsework/falseworklaw12.GroupCalm", spec := "groupCalm", inPlace := ["slices.overlaps[int]"], unfollowed := true, recurses := true, apart := false, narrowed := true }
def GroupCalmUptoSaid : Prop := groupCalmUptoRow.holds Tryz.pinned (OpenSpec.upto groupCalmSpec)

/-- 'falseworklaw12.GroupNil', WHERE WHAT IT READS IS OF BULK AT MOST 1048576: true; the input reads as it did. -/
def groupNilUptoRow : OpenClaim := { program := "ythnbaijkhhbelaagreat", sum := "68cad07276adef0291d24d93a2e0d1dcdd95ffdeab640d51d52de81e794b1cd5", func := "falsework/falseworklaw12.GroupNil", spec := "groupNil", inPlace := ["slices.overlaps[int]"], unfollowed := true, recurses := true, apart := false, narrowed := true }
def GroupNilUptoSaid : Prop := groupNilUptoRow.holds Tryz.pinned (OpenSpec.upto groupNilSpec)

end Rows
end Go.Proofs.YthnbaijkhhbelaaGreat
