/-
  DERIVED. GIVEN WITH THE SEED: THE CARDS: each row of YthcgahldacpolaaGreatDoorRows.lean that lists a variable, with what it lists TIED to the program's text (the seventh form; the later family's looks); each row that meets fmt, with fmt's text TOLD by the authors' own Lean function (tested against real Go, not proved from fmt's source: count such statements apart). THE CARD IS WHAT COUNTS. Prove the row's statement (the work); the ties are given (YthcgahldacpolaaGreatDoorTie.lean); close each card by the builder's one call (the guide's Derived/Test/ToyasCard.lean, 'card_holds'). Laid BY PROGRAM, IN A SANDBOX (cutbox-door.mjs). By AI agents, Wed Nov 11 2026. No macro, syntax, notation, axiom, sorry.
-/
import Derived.Test.YthcgahldacpolaaGreatDoorRows
import GoSem.ClaimSeven
namespace Go.Proofs.YthcgahldacpolaaGreatDoor
namespace Rows

/-- THE TIED CARD OF 'stripeslaw.Replaces'. -/
def replacesCard : Claim7 := { stood := { row := replacesRow, standIns := [], harness := (true, "99026c23b190986ecda4454bd5be6ecc7617e0cacbf01dedda760961733c486d"), looks := true }, kinds := [], alts := [], laidByText := true, laidKinds := [.data, .handle, .data], laidTests := true, laidLooks := .later }
def ReplacesCardSaid : Prop := Claim7.holds Tryz.pinned (.plain (OpenSpec.ofChange replacesSpec)) replacesCard

/-- THE SECOND FORM's CARD OF 'stripeslaw.Replaces'. -/
def replacesUptoCard : Claim7 := { stood := { row := replacesUptoRow, standIns := [], harness := (true, "99026c23b190986ecda4454bd5be6ecc7617e0cacbf01dedda760961733c486d"), looks := true }, kinds := [], alts := [], laidByText := true, laidKinds := [.data, .handle, .data], laidTests := true, laidLooks := .later }
def ReplacesUptoCardSaid : Prop := Claim7.holds Tryz.pinned (.plain (OpenSpec.upto replacesSpec)) replacesUptoCard
end Rows
end Go.Proofs.YthcgahldacpolaaGreatDoor
