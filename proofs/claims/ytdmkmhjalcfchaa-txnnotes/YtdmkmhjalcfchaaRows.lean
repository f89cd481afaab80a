/-
  No cell of these rows narrows 'for every input' (looked for: loops, veiled, ifaces, maps, wideKeys, modest, calm, conditions, laid).
  DERIVED. THE GIVEN ROWS OF THIS SEAT. 5 by the template 'for every input the law returns true; each argument reads behind the call as it read before'; 0 by the template 'total and deterministic' (their statements: YtdmkmhjalcfchaaTotals.lean).
  GIVEN WITH THE SEED: the statements are not yours to turn. If you find one false, say at which input.
  Laid BY PROGRAM, IN A SANDBOX (cutbox-rows.mjs): the forced cells as the released guide's own fill.sh prints them over the translation ed065e6beccac4d0… (all of the seat's roots in one cut). By AI agents, Wed Nov 11 2026. No macro, syntax, notation, axiom, sorry.
-/
import Derived.Test.YtdmkmhjalcfchaaChecked
import GoSem.Claim
import GoSem.ClaimJoined
import GoSem.ClaimMapViews
import Derived.JoinedTies
import Derived.KernelRfl
namespace Go.Proofs.Ytdmkmhjalcfchaa
/- THE CELL 'sum', in the pinned program and in every row, IS THE sha256 OF THE DUMP (.gsa) THAT YtdmkmhjalcfchaaProg.lean LOADS. Nothing in Lean hashes anything: it is a label: what it is worth is what the hold of that sum in a sandbox is worth. -/
noncomputable def Try.pinned : Pinned := { name := "ytdmkmhjalcfchaa", sum := "ed065e6beccac4d0e4a637d142fde993af42bdc820f5f1cb2290e0d2c43a681e", checked := Try.checked }
namespace Rows
def none {H : Type} : Left H := { results := [], args := [] }

/-- 'falseworklaw15.TxnRuns': WHATEVER THE INPUT: true; the input reads as it did. -/
def txnRunsSpec : ChangeSpec := { name := "txnRuns", fn := fun _ => fun
  | [d1, d2, d3, d4] => { results := [.lit (.bool true)], args := [d1, d2, d3, d4] }
  | _ => none }
def txnRunsRow : OpenClaim := { program := "ytdmkmhjalcfchaa", sum := "ed065e6beccac4d0e4a637d142fde993af42bdc820f5f1cb2290e0d2c43a681e", func := "falsework/falseworklaw15.TxnRuns", spec := "txnRuns", inPlace := ["slices.overlaps[falsework/api.Pair]", "slices.overlaps[[]falsework/api.Pair]"], unfollowed := true, recurses := true, apart := false }
def TxnRunsSaid : Prop := txnRunsRow.holds Try.pinned (OpenSpec.ofChange txnRunsSpec)

/-- ITS FALSE NEIGHBOUR: 'it returns false'. Refute it at one input. -/
def txnRunsWrong : ChangeSpec := { name := "txnRuns", fn := fun _ => fun
  | [d1, d2, d3, d4] => { results := [.lit (.bool false)], args := [d1, d2, d3, d4] }
  | _ => none }
def TxnRunsWrongFalsely : Prop := txnRunsRow.holds Try.pinned (OpenSpec.ofChange txnRunsWrong)

/-- 'falseworklaw15.TxnOwn': WHATEVER THE INPUT: true; the input reads as it did. -/
def txnOwnSpec : ChangeSpec := { name := "txnOwn", fn := fun _ => fun
  | [d1, d2, d3] => { results := [.lit (.bool true)], args := [d1, d2, d3] }
  | _ => none }
def txnOwnRow : OpenClaim := { program := "ytdmkmhjalcfchaa", sum := "ed065e6beccac4d0e4a637d142fde993af42bdc820f5f1cb2290e0d2c43a681e", func := "falsework/falseworklaw15.TxnOwn", spec := "txnOwn", inPlace := ["slices.overlaps[falsework/api.Pair]", "slices.overlaps[[]falsework/api.Pair]"], unfollowed := true, recurses := true, apart := false }
def TxnOwnSaid : Prop := txnOwnRow.holds Try.pinned (OpenSpec.ofChange txnOwnSpec)

/-- ITS FALSE NEIGHBOUR: 'it returns false'. Refute it at one input. -/
def txnOwnWrong : ChangeSpec := { name := "txnOwn", fn := fun _ => fun
  | [d1, d2, d3] => { results := [.lit (.bool false)], args := [d1, d2, d3] }
  | _ => none }
def TxnOwnWrongFalsely : Prop := txnOwnRow.holds Try.pinned (OpenSpec.ofChange txnOwnWrong)

/-- 'falseworklaw15.TxnKeeps': WHATEVER THE INPUT: true; the input reads as it did. -/
def txnKeepsSpec : ChangeSpec := { name := "txnKeeps", fn := fun _ => fun
  | [d1, d2] => { results := [.lit (.bool true)], args := [d1, d2] }
  | _ => none }
def txnKeepsRow : OpenClaim := { program := "ytdmkmhjalcfchaa", sum := "ed065e6beccac4d0e4a637d142fde993af42bdc820f5f1cb2290e0d2c43a681e", func := "falsework/falseworklaw15.TxnKeeps", spec := "txnKeeps", inPlace := ["slices.overlaps[falsework/api.Pair]", "slices.overlaps[[]falsework/api.Pair]"], unfollowed := true, recurses := true, apart := false }
def TxnKeepsSaid : Prop := txnKeepsRow.holds Try.pinned (OpenSpec.ofChange txnKeepsSpec)

/-- ITS FALSE NEIGHBOUR: 'it returns false'. Refute it at one input. -/
def txnKeepsWrong : ChangeSpec := { name := "txnKeeps", fn := fun _ => fun
  | [d1, d2] => { results := [.lit (.bool false)], args := [d1, d2] }
  | _ => none }
def TxnKeepsWrongFalsely : Prop := txnKeepsRow.holds Try.pinned (OpenSpec.ofChange txnKeepsWrong)

/-- 'falseworklaw15.TxnNotes': WHATEVER THE INPUT: true; the input reads as it did. -/
def txnNotesSpec : ChangeSpec := { name := "txnNotes", fn := fun _ => fun
  | [d1, d2, d3] => { results := [.lit (.bool true)], args := [d1, d2, d3] }
  | _ => none }
def txnNotesRow : OpenClaim := { program := "ytdmkmhjalcfchaa", sum := "ed065e6beccac4d0e4a637d142fde993af42bdc820f5f1cb2290e0d2c43a681e", func := "falsework/falseworklaw15.TxnNotes", spec := "txnNotes", inPlace := ["slices.overlaps[falsework/api.Pair]", "slices.overlaps[[]falsework/api.Pair]"], unfollowed := true, recurses := true, apart := false }
def TxnNotesSaid : Prop := txnNotesRow.holds Try.pinned (OpenSpec.ofChange txnNotesSpec)

/-- ITS FALSE NEIGHBOUR: 'it returns false'. Refute it at one input. -/
def txnNotesWrong : ChangeSpec := { name := "txnNotes", fn := fun _ => fun
  | [d1, d2, d3] => { results := [.lit (.bool false)], args := [d1, d2, d3] }
  | _ => none }
def TxnNotesWrongFalsely : Prop := txnNotesRow.holds Try.pinned (OpenSpec.ofChange txnNotesWrong)

/-- 'falseworklaw15.TxnNil': WHATEVER THE INPUT: true; the input reads as it did. -/
def txnNilSpec : ChangeSpec := { name := "txnNil", fn := fun _ => fun
  | [d1, d2, d3] => { results := [.lit (.bool true)], args := [d1, d2, d3] }
  | _ => none }
def txnNilRow : OpenClaim := { program := "ytdmkmhjalcfchaa", sum := "ed065e6beccac4d0e4a637d142fde993af42bdc820f5f1cb2290e0d2c43a681e", func := "falsework/falseworklaw15.TxnNil", spec := "txnNil", inPlace := ["slices.overlaps[falsework/api.Pair]", "slices.overlaps[[]falsework/api.Pair]"], unfollowed := true, recurses := true, apart := false }
def TxnNilSaid : Prop := txnNilRow.holds Try.pinned (OpenSpec.ofChange txnNilSpec)

/-- ITS FALSE NEIGHBOUR: 'it returns false'. Refute it at one input. -/
def txnNilWrong : ChangeSpec := { name := "txnNil", fn := fun _ => fun
  | [d1, d2, d3] => { results := [.lit (.bool false)], args := [d1, d2, d3] }
  | _ => none }
def TxnNilWrongFalsely : Prop := txnNilRow.holds Try.pinned (OpenSpec.ofChange txnNilWrong)

/- THE SECOND FORM. 'bulk': how many values and letters a reading holds, each counted each time it is reached (what is shared counts as often as it is met; a slice's spare places count too). A statement '..UptoSaid' is the law's where the arguments, and the package variables that the reading takes, are together of bulk at most 1048576: NARROWER than '..Said'. Prove '..Said' where nothing that the law and all that it calls make is longer than what came in: it says more and counts as full. Else prove '..UptoSaid'. A law counts once. -/
mutual
def uptoBulk {H : Type} : DataW H → Nat
  | .lit (.string bytes) => bytes.length + 1
  | .lit _ => 1
  | .nil => 1
  | .ptr d => uptoBulk d + 1
  | .slice elems spare => uptoBulkAll elems + uptoBulkAll spare + 1
  | .agg parts => uptoBulkAll parts + 1
  | .iface _ d => uptoBulk d + 1
  | .map entries => uptoBulkEntries entries + 1
  | .held _ => 1
def uptoBulkAll {H : Type} : List (DataW H) → Nat
  | [] => 0
  | d :: r => uptoBulk d + uptoBulkAll r
def uptoBulkEntries {H : Type} : List (Lit × DataW H) → Nat
  | [] => 0
  | x :: r => uptoBulkEntry x + uptoBulkEntries r
def uptoBulkEntry {H : Type} : Lit × DataW H → Nat
  | (.string bytes, d) => bytes.length + uptoBulk d + 1
  | (_, d) => uptoBulk d + 1
 end
def uptoSmall : (H : Type) → List (DataW H) → Bool := fun _ ds => decide (uptoBulkAll ds ≤ 1048576)
def OpenSpec.upto (s : _root_.Go.ChangeSpec) : _root_.Go.OpenSpec := { _root_.Go.OpenSpec.ofChange s with cond := some uptoSmall }

/-- 'falseworklaw15.TxnRuns', WHERE WHAT IT READS IS OF BULK AT MOST 1048576: true; the input reads as it did. -/
def txnRunsUptoRow : OpenClaim := { program := "ytdmkmhjalcfchaa", sum := "ed065e6beccac4d0e4a637d142fde993af42bdc820f5f1cb2290e0d2c43a681e", func := "falsework/falseworklaw15.TxnRuns", spec := "txnRuns", inPlace := ["slices.overlaps[falsework/api.Pair]", "slices.overlaps[[]falsework/api.Pair]"], unfollowed := true, recurses := true, apart := false, narrowed := true }
def TxnRunsUptoSaid : Prop := txnRunsUptoRow.holds Try.pinned (OpenSpec.upto txnRunsSpec)

/-- 'falseworklaw15.TxnOwn', WHERE WHAT IT READS IS OF BULK AT MOST 1048576: true; the input reads as it did. -/
def txnOwnUptoRow : OpenClaim := { program := "ytdmkmhjalcfchaa", sum := "ed065e6beccac4d0e4a637d142fde993af42bdc820f5f1cb2290e0d2c43a681e", func := "falsework/falseworklaw15.TxnOwn", spec := "txnOwn", inPlace := ["slices.overlaps[falsework/api.Pair]", "slices.overlaps[[]falsework/api.Pair]"], unfollowed := true, recurses := true, apart := false, narrowed := true }
def TxnOwnUptoSaid : Prop := txnOwnUptoRow.holds Try.pinned (OpenSpec.upto txnOwnSpec)

/-- 'falseworklaw15.TxnKeeps', WHERE WHAT IT READS IS OF BULK AT MOST 1048576: true; the input reads as it did. -/
def txnKeepsUptoRow : OpenClaim := { program := "ytdmkmhjalcfchaa", sum := "ed065e6beccac4d0e4a637d142fde993af42bdc820f5f1cb2290e0d2c43a681e", func := "falsework/falseworklaw15.TxnKeeps", spec := "txnKeeps", inPlace := ["slices.overlaps[falsework/api.Pair]", "slices.overlaps[[]falsework/api.Pair]"], unfollowed := true, recurses := true, apart := false, narrowed := true }
def TxnKeepsUptoSaid : Prop := txnKeepsUptoRow.holds Try.pinned (OpenSpec.upto txnKeepsSpec)

/-- 'falseworklaw15.TxnNotes', WHERE WHAT IT READS IS OF BULK AT MOST 1048576: true; the input reads as it did. -/
def txnNotesUptoRow : OpenClaim := { program := "ytdmkmhjalcfchaa", sum := "ed065e6beccac4d0e4a637d142fde993af42bdc820f5f1cb2290e0d2c43a681e", func := "falsework/falseworklaw15.TxnNotes", spec := "txnNotes", inPlace := ["slices.overlaps[falsework/api.Pair]", "slices.overlaps[[]falsework/api.Pair]"], unfollowed := true, recurses := true, apart := false, narrowed := true }
def TxnNotesUptoSaid : Prop := txnNotesUptoRow.holds Try.pinned (OpenSpec.upto txnNotesSpec)

/-- 'falseworklaw15.TxnNil', WHERE WHAT IT READS IS OF BULK AT MOST 1048576: true; the input reads as it did. -/
def txnNilUptoRow : OpenClaim := { program := "ytdmkmhjalcfchaa", sum := "ed065e6beccac4d0e4a637d142fde993af42bdc820f5f1cb2290e0d2c43a681e", func := "falsework/falseworklaw15.TxnNil", spec := "txnNil", inPlace := ["slices.overlaps[falsework/api.Pair]", "slices.overlaps[[]falsework/api.Pair]"], unfollowed := true, recurses := true, apart := false, narrowed := true }
def TxnNilUptoSaid : Prop := txnNilUptoRow.holds Try.pinned (OpenSpec.upto txnNilSpec)

end Rows
end Go.Proofs.Ytdmkmhjalcfchaa
