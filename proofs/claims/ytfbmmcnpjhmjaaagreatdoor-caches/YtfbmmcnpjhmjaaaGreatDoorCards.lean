/-
  DERIVED. GIVEN WITH THE SEED: THE CARDS: each row of YtfbmmcnpjhmjaaaGreatDoorRows.lean that lists a variable, with what it lists TIED to the program's text (the seventh form; the later family's looks); each row that meets fmt, with fmt's text TOLD by the authors' own Lean function (tested against real Go, not proved from fmt's source: count such statements apart). THE CARD IS WHAT COUNTS. Prove the row's statement (the work); the ties are given (YtfbmmcnpjhmjaaaGreatDoorTie.lean); close each card by the builder's one call (the guide's Derived/Test/ToyasCard.lean, 'card_holds'). Laid BY PROGRAM, IN A SANDBOX (cutbox-door.mjs). By AI agents, Wed Nov 11 2026. No macro, syntax, notation, axiom, sorry.
-/
import Derived.Test.YtfbmmcnpjhmjaaaGreatDoorRows
import GoSem.ClaimSeven
namespace Go.Proofs.YtfbmmcnpjhmjaaaGreatDoor
namespace Rows

/-- THE TIED CARD OF 'stripeslaw.Reads'. -/
def readsCard : Claim7 := { stood := { row := readsRow, standIns := [], harness := (true, "9954445ea0eb0d3b3d36c58e5ffd9145ca041cc43902647cb7647140882523dc"), looks := true }, kinds := [], alts := [], laidByText := true, laidKinds := [.data, .handle, .data], laidTests := true, laidLooks := .later }
def ReadsCardSaid : Prop := Claim7.holds Tryz.pinned (.plain (OpenSpec.ofChange readsSpec)) readsCard

/-- THE TIED CARD OF 'stripeslaw.Caches'. -/
def cachesCard : Claim7 := { stood := { row := cachesRow, standIns := [], harness := (true, "9954445ea0eb0d3b3d36c58e5ffd9145ca041cc43902647cb7647140882523dc"), looks := true }, kinds := [], alts := [], laidByText := true, laidKinds := [.data, .handle, .data], laidTests := true, laidLooks := .later }
def CachesCardSaid : Prop := Claim7.holds Tryz.pinned (.plain (OpenSpec.ofChange cachesSpec)) cachesCard

/-- THE SECOND FORM's CARD OF 'stripeslaw.Reads'. -/
def readsUptoCard : Claim7 := { stood := { row := readsUptoRow, standIns := [], harness := (true, "9954445ea0eb0d3b3d36c58e5ffd9145ca041cc43902647cb7647140882523dc"), looks := true }, kinds := [], alts := [], laidByText := true, laidKinds := [.data, .handle, .data], laidTests := true, laidLooks := .later }
def ReadsUptoCardSaid : Prop := Claim7.holds Tryz.pinned (.plain (OpenSpec.upto readsSpec)) readsUptoCard

/-- THE SECOND FORM's CARD OF 'stripeslaw.Caches'. -/
def cachesUptoCard : Claim7 := { stood := { row := cachesUptoRow, standIns := [], harness := (true, "9954445ea0eb0d3b3d36c58e5ffd9145ca041cc43902647cb7647140882523dc"), looks := true }, kinds := [], alts := [], laidByText := true, laidKinds := [.data, .handle, .data], laidTests := true, laidLooks := .later }
def CachesUptoCardSaid : Prop := Claim7.holds Tryz.pinned (.plain (OpenSpec.upto cachesSpec)) cachesUptoCard
end Rows
end Go.Proofs.YtfbmmcnpjhmjaaaGreatDoor
