/-
  DERIVED. GIVEN WITH THE SEED: THE CARDS: each row of YthmkcpakaejaoaaGreatDoorRows.lean that lists a variable, with what it lists TIED to the program's text (the seventh form; the later family's looks); each row that meets fmt, with fmt's text TOLD by the authors' own Lean function (tested against real Go, not proved from fmt's source: count such statements apart). THE CARD IS WHAT COUNTS. Prove the row's statement (the work); the ties are given (YthmkcpakaejaoaaGreatDoorTie.lean); close each card by the builder's one call (the guide's Derived/Test/ToyasCard.lean, 'card_holds'). Laid BY PROGRAM, IN A SANDBOX (cutbox-door.mjs). By AI agents, Wed Nov 11 2026. No macro, syntax, notation, axiom, sorry.
-/
import Derived.Test.YthmkcpakaejaoaaGreatDoorRows
import GoSem.ClaimSeven
namespace Go.Proofs.YthmkcpakaejaoaaGreatDoor
namespace Rows

/-- THE TIED CARD OF 'falseworklaw17.SqlParses'. -/
def sqlParsesCard : Claim7 := { stood := { row := sqlParsesRow, standIns := [], harness := (true, "fff402eef04d143d9f89436b5f644f8cb696ed404f162f31ff2280bf9756ac1b"), looks := true }, kinds := [], alts := [], laidByText := true, laidKinds := [.data, .data, .data, .data, .sentinel, .sentinel, .pinned], laidTests := true, laidLooks := .later }
def SqlParsesCardSaid : Prop := Claim7.holds Tryz.pinned (.plain (OpenSpec.ofChange sqlParsesSpec)) sqlParsesCard

/-- THE TIED CARD OF 'falseworklaw17.SqlTexts'. -/
def sqlTextsCard : Claim7 := { stood := { row := sqlTextsRow, standIns := [], harness := (true, "fff402eef04d143d9f89436b5f644f8cb696ed404f162f31ff2280bf9756ac1b"), looks := true }, kinds := [], alts := [], laidByText := true, laidKinds := [.data, .data, .data, .data, .sentinel, .sentinel, .pinned], laidTests := true, laidLooks := .later }
def SqlTextsCardSaid : Prop := Claim7.holds Tryz.pinned (.plain (OpenSpec.ofChange sqlTextsSpec)) sqlTextsCard

/-- THE TIED CARD OF 'falseworklaw17.SqlBack'. -/
def sqlBackCard : Claim7 := { stood := { row := sqlBackRow, standIns := [], harness := (true, "fff402eef04d143d9f89436b5f644f8cb696ed404f162f31ff2280bf9756ac1b"), looks := true }, kinds := [], alts := [], laidByText := true, laidKinds := [.data, .data, .data, .data, .sentinel, .sentinel, .pinned], laidTests := true, laidLooks := .later }
def SqlBackCardSaid : Prop := Claim7.holds Tryz.pinned (.plain (OpenSpec.ofChange sqlBackSpec)) sqlBackCard

/-- THE TIED CARD OF 'falseworklaw17.SqlPlaces'. -/
def sqlPlacesCard : Claim7 := { stood := { row := sqlPlacesRow, standIns := [], harness := (true, "fff402eef04d143d9f89436b5f644f8cb696ed404f162f31ff2280bf9756ac1b"), looks := true }, kinds := [], alts := [], laidByText := true, laidKinds := [.data, .data, .data, .data, .sentinel, .sentinel, .pinned], laidTests := true, laidLooks := .later }
def SqlPlacesCardSaid : Prop := Claim7.holds Tryz.pinned (.plain (OpenSpec.ofChange sqlPlacesSpec)) sqlPlacesCard

/-- THE TIED CARD OF 'falseworklaw17.SqlBlanks'. -/
def sqlBlanksCard : Claim7 := { stood := { row := sqlBlanksRow, standIns := [], harness := (true, "fff402eef04d143d9f89436b5f644f8cb696ed404f162f31ff2280bf9756ac1b"), looks := true }, kinds := [], alts := [], laidByText := true, laidKinds := [.data, .data, .data, .data, .sentinel, .sentinel, .pinned], laidTests := true, laidLooks := .later }
def SqlBlanksCardSaid : Prop := Claim7.holds Tryz.pinned (.plain (OpenSpec.ofChange sqlBlanksSpec)) sqlBlanksCard

/-- THE TIED CARD OF 'falseworklaw17.SqlSets'. -/
def sqlSetsCard : Claim7 := { stood := { row := sqlSetsRow, standIns := [], harness := (true, "fff402eef04d143d9f89436b5f644f8cb696ed404f162f31ff2280bf9756ac1b"), looks := true }, kinds := [], alts := [], laidByText := true, laidKinds := [.data, .data, .data, .data, .sentinel, .sentinel, .pinned], laidTests := true, laidLooks := .later }
def SqlSetsCardSaid : Prop := Claim7.holds Tryz.pinned (.plain (OpenSpec.ofChange sqlSetsSpec)) sqlSetsCard

/-- THE SECOND FORM's CARD OF 'falseworklaw17.SqlParses'. -/
def sqlParsesUptoCard : Claim7 := { stood := { row := sqlParsesUptoRow, standIns := [], harness := (true, "fff402eef04d143d9f89436b5f644f8cb696ed404f162f31ff2280bf9756ac1b"), looks := true }, kinds := [], alts := [], laidByText := true, laidKinds := [.data, .data, .data, .data, .sentinel, .sentinel, .pinned], laidTests := true, laidLooks := .later }
def SqlParsesUptoCardSaid : Prop := Claim7.holds Tryz.pinned (.plain (OpenSpec.upto sqlParsesSpec)) sqlParsesUptoCard

/-- THE SECOND FORM's CARD OF 'falseworklaw17.SqlTexts'. -/
def sqlTextsUptoCard : Claim7 := { stood := { row := sqlTextsUptoRow, standIns := [], harness := (true, "fff402eef04d143d9f89436b5f644f8cb696ed404f162f31ff2280bf9756ac1b"), looks := true }, kinds := [], alts := [], laidByText := true, laidKinds := [.data, .data, .data, .data, .sentinel, .sentinel, .pinned], laidTests := true, laidLooks := .later }
def SqlTextsUptoCardSaid : Prop := Claim7.holds Tryz.pinned (.plain (OpenSpec.upto sqlTextsSpec)) sqlTextsUptoCard

/-- THE SECOND FORM's CARD OF 'falseworklaw17.SqlBack'. -/
def sqlBackUptoCard : Claim7 := { stood := { row := sqlBackUptoRow, standIns := [], harness := (true, "fff402eef04d143d9f89436b5f644f8cb696ed404f162f31ff2280bf9756ac1b"), looks := true }, kinds := [], alts := [], laidByText := true, laidKinds := [.data, .data, .data, .data, .sentinel, .sentinel, .pinned], laidTests := true, laidLooks := .later }
def SqlBackUptoCardSaid : Prop := Claim7.holds Tryz.pinned (.plain (OpenSpec.upto sqlBackSpec)) sqlBackUptoCard

/-- THE SECOND FORM's CARD OF 'falseworklaw17.SqlPlaces'. -/
def sqlPlacesUptoCard : Claim7 := { stood := { row := sqlPlacesUptoRow, standIns := [], harness := (true, "fff402eef04d143d9f89436b5f644f8cb696ed404f162f31ff2280bf9756ac1b"), looks := true }, kinds := [], alts := [], laidByText := true, laidKinds := [.data, .data, .data, .data, .sentinel, .sentinel, .pinned], laidTests := true, laidLooks := .later }
def SqlPlacesUptoCardSaid : Prop := Claim7.holds Tryz.pinned (.plain (OpenSpec.upto sqlPlacesSpec)) sqlPlacesUptoCard

/-- THE SECOND FORM's CARD OF 'falseworklaw17.SqlBlanks'. -/
def sqlBlanksUptoCard : Claim7 := { stood := { row := sqlBlanksUptoRow, standIns := [], harness := (true, "fff402eef04d143d9f89436b5f644f8cb696ed404f162f31ff2280bf9756ac1b"), looks := true }, kinds := [], alts := [], laidByText := true, laidKinds := [.data, .data, .data, .data, .sentinel, .sentinel, .pinned], laidTests := true, laidLooks := .later }
def SqlBlanksUptoCardSaid : Prop := Claim7.holds Tryz.pinned (.plain (OpenSpec.upto sqlBlanksSpec)) sqlBlanksUptoCard

/-- THE SECOND FORM's CARD OF 'falseworklaw17.SqlSets'. -/
def sqlSetsUptoCard : Claim7 := { stood := { row := sqlSetsUptoRow, standIns := [], harness := (true, "fff402eef04d143d9f89436b5f644f8cb696ed404f162f31ff2280bf9756ac1b"), looks := true }, kinds := [], alts := [], laidByText := true, laidKinds := [.data, .data, .data, .data, .sentinel, .sentinel, .pinned], laidTests := true, laidLooks := .later }
def SqlSetsUptoCardSaid : Prop := Claim7.holds Tryz.pinned (.plain (OpenSpec.upto sqlSetsSpec)) sqlSetsUptoCard
end Rows
end Go.Proofs.YthmkcpakaejaoaaGreatDoor
