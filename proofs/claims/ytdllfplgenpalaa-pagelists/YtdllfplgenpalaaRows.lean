/-
  No cell of these rows narrows 'for every input' (looked for: loops, veiled, ifaces, maps, wideKeys, modest, calm, conditions, laid).
  DERIVED. THE GIVEN ROWS OF THIS SEAT. 5 by the template 'for every input the law returns true; each argument reads behind the call as it read before'; 0 by the template 'total and deterministic' (their statements: YtdllfplgenpalaaTotals.lean).
  GIVEN WITH THE SEED: the statements are not yours to turn. If you find one false, say at which input.
  Laid BY PROGRAM, IN A SANDBOX (cutbox-rows.mjs): the forced cells as the released guide's own fill.sh prints them over the translation 3071ccdd864f95c1… (all of the seat's roots in one cut). By AI agents, Wed Nov 11 2026. No macro, syntax, notation, axiom, sorry.
-/
import Derived.Test.YtdllfplgenpalaaChecked
import GoSem.Claim
import GoSem.ClaimJoined
import GoSem.ClaimMapViews
import Derived.JoinedTies
import Derived.KernelRfl
namespace Go.Proofs.Ytdllfplgenpalaa
/- THE CELL 'sum', in the pinned program and in every row, IS THE sha256 OF THE DUMP (.gsa) THAT YtdllfplgenpalaaProg.lean LOADS. Nothing in Lean hashes anything: it is a label: what it is worth is what the hold of that sum in a sandbox is worth. -/
noncomputable def Try.pinned : Pinned := { name := "ytdllfplgenpalaa", sum := "3071ccdd864f95c1fb8fab91072f7eca3e3cc1c7ffe2747528accb556f7beab2", checked := Try.checked }
namespace Rows
def none {H : Type} : Left H := { results := [], args := [] }

/-- 'falseworklaw7.PageRights': WHATEVER THE INPUT: true; the input reads as it did. -/
def pageRightsSpec : ChangeSpec := { name := "pageRights", fn := fun _ => fun
  | [d] => { results := [.lit (.bool true)], args := [d] }
  | _ => none }
def pageRightsRow : OpenClaim := { program := "ytdllfplgenpalaa", sum := "3071ccdd864f95c1fb8fab91072f7eca3e3cc1c7ffe2747528accb556f7beab2", func := "falsework/falseworklaw7.PageRights", spec := "pageRights", inPlace := ["slices.overlaps[falsework/api.Pair]", "slices.overlaps[[]falsework/api.Pair]"], unfollowed := true, recurses := true, apart := false }
def PageRightsSaid : Prop := pageRightsRow.holds Try.pinned (OpenSpec.ofChange pageRightsSpec)

/-- ITS FALSE NEIGHBOUR: 'it returns false'. Refute it at one input. -/
def pageRightsWrong : ChangeSpec := { name := "pageRights", fn := fun _ => fun
  | [d] => { results := [.lit (.bool false)], args := [d] }
  | _ => none }
def PageRightsWrongFalsely : Prop := pageRightsRow.holds Try.pinned (OpenSpec.ofChange pageRightsWrong)

/-- 'falseworklaw7.PagePuts': WHATEVER THE INPUT: true; the input reads as it did. -/
def pagePutsSpec : ChangeSpec := { name := "pagePuts", fn := fun _ => fun
  | [d1, d2, d3] => { results := [.lit (.bool true)], args := [d1, d2, d3] }
  | _ => none }
def pagePutsRow : OpenClaim := { program := "ytdllfplgenpalaa", sum := "3071ccdd864f95c1fb8fab91072f7eca3e3cc1c7ffe2747528accb556f7beab2", func := "falsework/falseworklaw7.PagePuts", spec := "pagePuts", inPlace := ["slices.overlaps[falsework/api.Pair]", "slices.overlaps[[]falsework/api.Pair]"], unfollowed := true, recurses := true, apart := false }
def PagePutsSaid : Prop := pagePutsRow.holds Try.pinned (OpenSpec.ofChange pagePutsSpec)

/-- ITS FALSE NEIGHBOUR: 'it returns false'. Refute it at one input. -/
def pagePutsWrong : ChangeSpec := { name := "pagePuts", fn := fun _ => fun
  | [d1, d2, d3] => { results := [.lit (.bool false)], args := [d1, d2, d3] }
  | _ => none }
def PagePutsWrongFalsely : Prop := pagePutsRow.holds Try.pinned (OpenSpec.ofChange pagePutsWrong)

/-- 'falseworklaw7.PageDels': WHATEVER THE INPUT: true; the input reads as it did. -/
def pageDelsSpec : ChangeSpec := { name := "pageDels", fn := fun _ => fun
  | [d1, d2] => { results := [.lit (.bool true)], args := [d1, d2] }
  | _ => none }
def pageDelsRow : OpenClaim := { program := "ytdllfplgenpalaa", sum := "3071ccdd864f95c1fb8fab91072f7eca3e3cc1c7ffe2747528accb556f7beab2", func := "falsework/falseworklaw7.PageDels", spec := "pageDels", inPlace := ["slices.overlaps[falsework/api.Pair]", "slices.overlaps[[]falsework/api.Pair]"], unfollowed := true, recurses := true, apart := false }
def PageDelsSaid : Prop := pageDelsRow.holds Try.pinned (OpenSpec.ofChange pageDelsSpec)

/-- ITS FALSE NEIGHBOUR: 'it returns false'. Refute it at one input. -/
def pageDelsWrong : ChangeSpec := { name := "pageDels", fn := fun _ => fun
  | [d1, d2] => { results := [.lit (.bool false)], args := [d1, d2] }
  | _ => none }
def PageDelsWrongFalsely : Prop := pageDelsRow.holds Try.pinned (OpenSpec.ofChange pageDelsWrong)

/-- 'falseworklaw7.PageScans': WHATEVER THE INPUT: true; the input reads as it did. -/
def pageScansSpec : ChangeSpec := { name := "pageScans", fn := fun _ => fun
  | [d1, d2, d3, d4, d5] => { results := [.lit (.bool true)], args := [d1, d2, d3, d4, d5] }
  | _ => none }
def pageScansRow : OpenClaim := { program := "ytdllfplgenpalaa", sum := "3071ccdd864f95c1fb8fab91072f7eca3e3cc1c7ffe2747528accb556f7beab2", func := "falsework/falseworklaw7.PageScans", spec := "pageScans", inPlace := ["slices.overlaps[falsework/api.Pair]", "slices.overlaps[[]falsework/api.Pair]"], unfollowed := true, recurses := true, apart := false }
def PageScansSaid : Prop := pageScansRow.holds Try.pinned (OpenSpec.ofChange pageScansSpec)

/-- ITS FALSE NEIGHBOUR: 'it returns false'. Refute it at one input. -/
def pageScansWrong : ChangeSpec := { name := "pageScans", fn := fun _ => fun
  | [d1, d2, d3, d4, d5] => { results := [.lit (.bool false)], args := [d1, d2, d3, d4, d5] }
  | _ => none }
def PageScansWrongFalsely : Prop := pageScansRow.holds Try.pinned (OpenSpec.ofChange pageScansWrong)

/-- 'falseworklaw7.PageLists': WHATEVER THE INPUT: true; the input reads as it did. -/
def pageListsSpec : ChangeSpec := { name := "pageLists", fn := fun _ => fun
  | [d] => { results := [.lit (.bool true)], args := [d] }
  | _ => none }
def pageListsRow : OpenClaim := { program := "ytdllfplgenpalaa", sum := "3071ccdd864f95c1fb8fab91072f7eca3e3cc1c7ffe2747528accb556f7beab2", func := "falsework/falseworklaw7.PageLists", spec := "pageLists", inPlace := ["slices.overlaps[falsework/api.Pair]", "slices.overlaps[[]falsework/api.Pair]"], unfollowed := true, recurses := true, apart := false }
def PageListsSaid : Prop := pageListsRow.holds Try.pinned (OpenSpec.ofChange pageListsSpec)

/-- ITS FALSE NEIGHBOUR: 'it returns false'. Refute it at one input. -/
def pageListsWrong : ChangeSpec := { name := "pageLists", fn := fun _ => fun
  | [d] => { results := [.lit (.bool false)], args := [d] }
  | _ => none }
def PageListsWrongFalsely : Prop := pageListsRow.holds Try.pinned (OpenSpec.ofChange pageListsWrong)

/- THE SECOND FORM. 'bulk': how many values and letters a reading holds, each counted each time it is reached (what is shared counts as often as it is met; a slice's spare places count too). A statement '..UptoSaid' is the law's where the arguments, and the package variables that the reading takes, are together of bulk at most 1048576: NARROWER than '..Said'. Prove '..Said' where nothing that the law and all that it calls make is longer than what came in: it says more and counts as full. Else prove '..UptoSaid'. A law counts once. -/
mutual
def uptoBulk {H : Type} : DataW H → Nat
  | .lit (.string bytes) => bytes.length + 1
  | .lit _ => 1
  | .nil => 1
  | .ptr d => uptoBulk d + 1
  | .slice elems spare => uptoBulkAll elems + uptoBulkAll spare + 1
  | .agg parts => uptoBulkAll parts + 1
  | .iface _ d => uptoBulk d + 1
  | .map entries => uptoBulkEntries entries + 1
  | .held _ => 1
def uptoBulkAll {H : Type} : List (DataW H) → Nat
  | [] => 0
  | d :: r => uptoBulk d + uptoBulkAll r
def uptoBulkEntries {H : Type} : List (Lit × DataW H) → Nat
  | [] => 0
  | x :: r => uptoBulkEntry x + uptoBulkEntries r
def uptoBulkEntry {H : Type} : Lit × DataW H → Nat
  | (.string bytes, d) => bytes.length + uptoBulk d + 1
  | (_, d) => uptoBulk d + 1
 end
def uptoSmall : (H : Type) → List (DataW H) → Bool := fun _ ds => decide (uptoBulkAll ds ≤ 1048576)
def OpenSpec.upto (s : _root_.Go.ChangeSpec) : _root_.Go.OpenSpec := { _root_.Go.OpenSpec.ofChange s with cond := some uptoSmall }

/-- 'falseworklaw7.PageRights', WHERE WHAT IT READS IS OF BULK AT MOST 1048576: true; the input reads as it did. -/
def pageRightsUptoRow : OpenClaim := { program := "ytdllfplgenpalaa", sum := "3071ccdd864f95c1fb8fab91072f7eca3e3cc1c7ffe2747528accb556f7beab2", func := "falsework/falseworklaw7.PageRights", spec := "pageRights", inPlace := ["slices.overlaps[falsework/api.Pair]", "slices.overlaps[[]falsework/api.Pair]"], unfollowed := true, recurses := true, apart := false, narrowed := true }
def PageRightsUptoSaid : Prop := pageRightsUptoRow.holds Try.pinned (OpenSpec.upto pageRightsSpec)

/-- 'falseworklaw7.PagePuts', WHERE WHAT IT READS IS OF BULK AT MOST 1048576: true; the input reads as it did. -/
def pagePutsUptoRow : OpenClaim := { program := "ytdllfplgenpalaa", sum := "3071ccdd864f95c1fb8fab91072f7eca3e3cc1c7ffe2747528accb556f7beab2", func := "falsework/falseworklaw7.PagePuts", spec := "pagePuts", inPlace := ["slices.overlaps[falsework/api.Pair]", "slices.overlaps[[]falsework/api.Pair]"], unfollowed := true, recurses := true, apart := false, narrowed := true }
def PagePutsUptoSaid : Prop := pagePutsUptoRow.holds Try.pinned (OpenSpec.upto pagePutsSpec)

/-- 'falseworklaw7.PageDels', WHERE WHAT IT READS IS OF BULK AT MOST 1048576: true; the input reads as it did. -/
def pageDelsUptoRow : OpenClaim := { program := "ytdllfplgenpalaa", sum := "3071ccdd864f95c1fb8fab91072f7eca3e3cc1c7ffe2747528accb556f7beab2", func := "falsework/falseworklaw7.PageDels", spec := "pageDels", inPlace := ["slices.overlaps[falsework/api.Pair]", "slices.overlaps[[]falsework/api.Pair]"], unfollowed := true, recurses := true, apart := false, narrowed := true }
def PageDelsUptoSaid : Prop := pageDelsUptoRow.holds Try.pinned (OpenSpec.upto pageDelsSpec)

/-- 'falseworklaw7.PageScans', WHERE WHAT IT READS IS OF BULK AT MOST 1048576: true; the input reads as it did. -/
def pageScansUptoRow : OpenClaim := { program := "ytdllfplgenpalaa", sum := "3071ccdd864f95c1fb8fab91072f7eca3e3cc1c7ffe2747528accb556f7beab2", func := "falsework/falseworklaw7.PageScans", spec := "pageScans", inPlace := ["slices.overlaps[falsework/api.Pair]", "slices.overlaps[[]falsework/api.Pair]"], unfollowed := true, recurses := true, apart := false, narrowed := true }
def PageScansUptoSaid : Prop := pageScansUptoRow.holds Try.pinned (OpenSpec.upto pageScansSpec)

/-- 'falseworklaw7.PageLists', WHERE WHAT IT READS IS OF BULK AT MOST 1048576: true; the input reads as it did. -/
def pageListsUptoRow : OpenClaim := { program := "ytdllfplgenpalaa", sum := "3071ccdd864f95c1fb8fab91072f7eca3e3cc1c7ffe2747528accb556f7beab2", func := "falsework/falseworklaw7.PageLists", spec := "pageLists", inPlace := ["slices.overlaps[falsework/api.Pair]", "slices.overlaps[[]falsework/api.Pair]"], unfollowed := true, recurses := true, apart := false, narrowed := true }
def PageListsUptoSaid : Prop := pageListsUptoRow.holds Try.pinned (OpenSpec.upto pageListsSpec)

end Rows
end Go.Proofs.Ytdllfplgenpalaa
