/-
  DERIVED. GIVEN WITH THE SEED: THE CARDS: each row of YtiajlhjjmlakmaaGreatDoorRows.lean that lists a variable, with what it lists TIED to the program's text (the seventh form; the later family's looks); each row that meets fmt, with fmt's text TOLD by the authors' own Lean function (tested against real Go, not proved from fmt's source: count such statements apart). THE CARD IS WHAT COUNTS. Prove the row's statement (the work); the ties are given (YtiajlhjjmlakmaaGreatDoorTie.lean); close each card by the builder's one call (the guide's Derived/Test/ToyasCard.lean, 'card_holds'). Laid BY PROGRAM, IN A SANDBOX (cutbox-door.mjs). By AI agents, Wed Nov 11 2026. No macro, syntax, notation, axiom, sorry.
-/
import Derived.Test.YtiajlhjjmlakmaaGreatDoorRows
import GoSem.ClaimSeven
namespace Go.Proofs.YtiajlhjjmlakmaaGreatDoor
namespace Rows

/-- THE TIED CARD OF 'falseworklaw17.SqlParses'. -/
def sqlParsesCard : Claim7 := { stood := { row := sqlParsesRow, standIns := [], harness := (true, "16e8e52b45d580ce040ecaff65a50f7bd3cf3d729abdf50a08fd7573c3f7ac1c"), looks := true }, kinds := [], alts := [], laidByText := true, laidKinds := [.data, .data, .data, .data, .sentinel, .sentinel, .pinned], laidTests := true, laidLooks := .later }
def SqlParsesCardSaid : Prop := Claim7.holds Tryz.pinned (.plain (OpenSpec.ofChange sqlParsesSpec)) sqlParsesCard

/-- THE SECOND FORM's CARD OF 'falseworklaw17.SqlParses'. -/
def sqlParsesUptoCard : Claim7 := { stood := { row := sqlParsesUptoRow, standIns := [], harness := (true, "16e8e52b45d580ce040ecaff65a50f7bd3cf3d729abdf50a08fd7573c3f7ac1c"), looks := true }, kinds := [], alts := [], laidByText := true, laidKinds := [.data, .data, .data, .data, .sentinel, .sentinel, .pinned], laidTests := true, laidLooks := .later }
def SqlParsesUptoCardSaid : Prop := Claim7.holds Tryz.pinned (.plain (OpenSpec.upto sqlParsesSpec)) sqlParsesUptoCard
end Rows
end Go.Proofs.YtiajlhjjmlakmaaGreatDoor
