/-
  DERIVED. GIVEN WITH THE SEED: THE CARDS: each row of YtpaemkanfnddoaaGreatDoorRows.lean that lists a variable, with what it lists TIED to the program's text (the seventh form; the later family's looks); each row that meets fmt, with fmt's text TOLD by the authors' own Lean function (tested against real Go, not proved from fmt's source: count such statements apart). THE CARD IS WHAT COUNTS. Prove the row's statement (the work); the ties are given (YtpaemkanfnddoaaGreatDoorTie.lean); close each card by the builder's one call (the guide's Derived/Test/ToyasCard.lean, 'card_holds'). Laid BY PROGRAM, IN A SANDBOX (cutbox-door.mjs). By AI agents, Wed Nov 11 2026. No macro, syntax, notation, axiom, sorry.
-/
import Derived.Test.YtpaemkanfnddoaaGreatDoorRows
import GoSem.ClaimSeven
namespace Go.Proofs.YtpaemkanfnddoaaGreatDoor
namespace Rows

/-- THE TIED CARD OF 'stripeslaw.Maps'. -/
def mapsCard : Claim7 := { stood := { row := mapsRow, standIns := [], harness := (true, "e7cd0743dd5ff15dbca3e2af44c580945dd927538a119b941d39fb2f202b6b77"), looks := true }, kinds := [], alts := [], laidByText := true, laidKinds := [.data, .handle, .data], laidTests := true, laidLooks := .later }
def MapsCardSaid : Prop := Claim7.holds Tryz.pinned (.plain (OpenSpec.ofChange mapsSpec)) mapsCard

/-- THE SECOND FORM's CARD OF 'stripeslaw.Maps'. -/
def mapsUptoCard : Claim7 := { stood := { row := mapsUptoRow, standIns := [], harness := (true, "e7cd0743dd5ff15dbca3e2af44c580945dd927538a119b941d39fb2f202b6b77"), looks := true }, kinds := [], alts := [], laidByText := true, laidKinds := [.data, .handle, .data], laidTests := true, laidLooks := .later }
def MapsUptoCardSaid : Prop := Claim7.holds Tryz.pinned (.plain (OpenSpec.upto mapsSpec)) mapsUptoCard
end Rows
end Go.Proofs.YtpaemkanfnddoaaGreatDoor
