/-
  DERIVED. GIVEN WITH THE SEED: THE CARDS: each row of YtpemimgppdkcbaaGreatDoorRows.lean that lists a variable, with what it lists TIED to the program's text (the seventh form; the later family's looks); each row that meets fmt, with fmt's text TOLD by the authors' own Lean function (tested against real Go, not proved from fmt's source: count such statements apart). THE CARD IS WHAT COUNTS. Prove the row's statement (the work); the ties are given (YtpemimgppdkcbaaGreatDoorTie.lean); close each card by the builder's one call (the guide's Derived/Test/ToyasCard.lean, 'card_holds'). Laid BY PROGRAM, IN A SANDBOX (cutbox-door.mjs). By AI agents, Wed Nov 11 2026. No macro, syntax, notation, axiom, sorry.
-/
import Derived.Test.YtpemimgppdkcbaaGreatDoorRows
import GoSem.ClaimSeven
namespace Go.Proofs.YtpemimgppdkcbaaGreatDoor
namespace Rows

/-- THE TIED CARD OF 'stripeslaw.Ruined'. -/
def ruinedCard : Claim7 := { stood := { row := ruinedRow, standIns := [], harness := (true, "b427cf8910b744733b21ed273a48766310e0392348908f5d97e7158ebb4517ff"), looks := true }, kinds := [], alts := [], laidByText := true, laidKinds := [.data, .handle, .data], laidTests := true, laidLooks := .later }
def RuinedCardSaid : Prop := Claim7.holds Tryz.pinned (.plain (OpenSpec.ofChange ruinedSpec)) ruinedCard

/-- THE SECOND FORM's CARD OF 'stripeslaw.Ruined'. -/
def ruinedUptoCard : Claim7 := { stood := { row := ruinedUptoRow, standIns := [], harness := (true, "b427cf8910b744733b21ed273a48766310e0392348908f5d97e7158ebb4517ff"), looks := true }, kinds := [], alts := [], laidByText := true, laidKinds := [.data, .handle, .data], laidTests := true, laidLooks := .later }
def RuinedUptoCardSaid : Prop := Claim7.holds Tryz.pinned (.plain (OpenSpec.upto ruinedSpec)) ruinedUptoCard
end Rows
end Go.Proofs.YtpemimgppdkcbaaGreatDoor
