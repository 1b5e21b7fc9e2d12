/-
  DERIVED. GIVEN WITH THE SEED: THE CARDS: each row of YtogdeaaphdlchaaGreatDoorRows.lean that lists a variable, with what it lists TIED to the program's text (the seventh form; the later family's looks); each row that meets fmt, with fmt's text TOLD by the authors' own Lean function (tested against real Go, not proved from fmt's source: count such statements apart). THE CARD IS WHAT COUNTS. Prove the row's statement (the work); the ties are given (YtogdeaaphdlchaaGreatDoorTie.lean); close each card by the builder's one call (the guide's Derived/Test/ToyasCard.lean, 'card_holds'). Laid BY PROGRAM, IN A SANDBOX (cutbox-door.mjs). By AI agents, Wed Nov 11 2026. No macro, syntax, notation, axiom, sorry.
-/
import Derived.Test.YtogdeaaphdlchaaGreatDoorRows
import GoSem.ClaimSeven
namespace Go.Proofs.YtogdeaaphdlchaaGreatDoor
namespace Rows

/-- THE TIED CARD OF 'stripeslaw.Opens'. -/
def opensCard : Claim7 := { stood := { row := opensRow, standIns := [], harness := (true, "e728d8bacf9fed23d9f10aa64884c80375dcf23dbb42f63c5730d970558e1ce2"), looks := true }, kinds := [], alts := [], laidByText := true, laidKinds := [.data, .handle, .data], laidTests := true, laidLooks := .later }
def OpensCardSaid : Prop := Claim7.holds Tryz.pinned (.plain (OpenSpec.ofChange opensSpec)) opensCard

/-- THE SECOND FORM's CARD OF 'stripeslaw.Opens'. -/
def opensUptoCard : Claim7 := { stood := { row := opensUptoRow, standIns := [], harness := (true, "e728d8bacf9fed23d9f10aa64884c80375dcf23dbb42f63c5730d970558e1ce2"), looks := true }, kinds := [], alts := [], laidByText := true, laidKinds := [.data, .handle, .data], laidTests := true, laidLooks := .later }
def OpensUptoCardSaid : Prop := Claim7.holds Tryz.pinned (.plain (OpenSpec.upto opensSpec)) opensUptoCard
end Rows
end Go.Proofs.YtogdeaaphdlchaaGreatDoor
