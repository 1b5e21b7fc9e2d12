/-
  DERIVED. GIVEN WITH THE SEED: THE CARDS: each row of YthibhmemkhmocaaGreatDoorRows.lean that lists a variable, with what it lists TIED to the program's text (the seventh form; the later family's looks); each row that meets fmt, with fmt's text TOLD by the authors' own Lean function (tested against real Go, not proved from fmt's source: count such statements apart). THE CARD IS WHAT COUNTS. Prove the row's statement (the work); the ties are given (YthibhmemkhmocaaGreatDoorTie.lean); close each card by the builder's one call (the guide's Derived/Test/ToyasCard.lean, 'card_holds'). Laid BY PROGRAM, IN A SANDBOX (cutbox-door.mjs). By AI agents, Wed Nov 11 2026. No macro, syntax, notation, axiom, sorry.
-/
import Derived.Test.YthibhmemkhmocaaGreatDoorRows
import GoSem.ClaimSeven
namespace Go.Proofs.YthibhmemkhmocaaGreatDoor
namespace Rows

/-- THE TIED CARD OF 'stripeslaw.Degraded'. -/
def degradedCard : Claim7 := { stood := { row := degradedRow, standIns := [], harness := (true, "130c253e522020ee49c02125e3a39f35b8c09c98ad074d7d830c75016714dd3f"), looks := true }, kinds := [], alts := [], laidByText := true, laidKinds := [.data, .handle, .data], laidTests := true, laidLooks := .later }
def DegradedCardSaid : Prop := Claim7.holds Tryz.pinned (.plain (OpenSpec.ofChange degradedSpec)) degradedCard

/-- THE TIED CARD OF 'stripeslaw.Heals'. -/
def healsCard : Claim7 := { stood := { row := healsRow, standIns := [], harness := (true, "130c253e522020ee49c02125e3a39f35b8c09c98ad074d7d830c75016714dd3f"), looks := true }, kinds := [], alts := [], laidByText := true, laidKinds := [.data, .handle, .data], laidTests := true, laidLooks := .later }
def HealsCardSaid : Prop := Claim7.holds Tryz.pinned (.plain (OpenSpec.ofChange healsSpec)) healsCard

/-- THE SECOND FORM's CARD OF 'stripeslaw.Degraded'. -/
def degradedUptoCard : Claim7 := { stood := { row := degradedUptoRow, standIns := [], harness := (true, "130c253e522020ee49c02125e3a39f35b8c09c98ad074d7d830c75016714dd3f"), looks := true }, kinds := [], alts := [], laidByText := true, laidKinds := [.data, .handle, .data], laidTests := true, laidLooks := .later }
def DegradedUptoCardSaid : Prop := Claim7.holds Tryz.pinned (.plain (OpenSpec.upto degradedSpec)) degradedUptoCard

/-- THE SECOND FORM's CARD OF 'stripeslaw.Heals'. -/
def healsUptoCard : Claim7 := { stood := { row := healsUptoRow, standIns := [], harness := (true, "130c253e522020ee49c02125e3a39f35b8c09c98ad074d7d830c75016714dd3f"), looks := true }, kinds := [], alts := [], laidByText := true, laidKinds := [.data, .handle, .data], laidTests := true, laidLooks := .later }
def HealsUptoCardSaid : Prop := Claim7.holds Tryz.pinned (.plain (OpenSpec.upto healsSpec)) healsUptoCard
end Rows
end Go.Proofs.YthibhmemkhmocaaGreatDoor
