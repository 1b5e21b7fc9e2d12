/-
  DERIVED. GIVEN WITH THE SEED: THE CARDS: each row of YthhommjlomphdabDoorRows.lean that lists a variable, with what it lists TIED to the program's text (the seventh form; the later family's looks); each row that meets fmt, with fmt's text TOLD by the authors' own Lean function (tested against real Go, not proved from fmt's source: count such statements apart). THE CARD IS WHAT COUNTS. Prove the row's statement (the work); the ties are given (YthhommjlomphdabDoorTie.lean); close each card by the builder's one call (the guide's Derived/Test/ToyasCard.lean, 'card_holds'). Laid BY PROGRAM, IN A SANDBOX (cutbox-door.mjs). By AI agents, Wed Nov 11 2026. No macro, syntax, notation, axiom, sorry.
-/
import Derived.Test.YthhommjlomphdabDoorRows
import GoSem.ClaimSeven
namespace Go.Proofs.YthhommjlomphdabDoor
namespace Rows

/-- THE TIED CARD OF 'stripeslaw.Least'. -/
def leastCard : Claim7 := { stood := { row := leastRow, standIns := [], harness := (true, "70bf66b8b7e906f50a1af58432d0b9ea4e1a33e1530096600514c78949f42c1b"), looks := true }, kinds := [], alts := [], laidByText := true, laidKinds := [.data, .handle], laidTests := true, laidLooks := .later }
def LeastCardSaid : Prop := Claim7.holds Tryd.pinned (.plain (OpenSpec.ofChange leastSpec)) leastCard

/-- THE TIED CARD OF 'stripeslaw.Groups'. -/
def groupsCard : Claim7 := { stood := { row := groupsRow, standIns := [], harness := (true, "70bf66b8b7e906f50a1af58432d0b9ea4e1a33e1530096600514c78949f42c1b"), looks := true }, kinds := [], alts := [], laidByText := true, laidKinds := [.data, .handle], laidTests := true, laidLooks := .later }
def GroupsCardSaid : Prop := Claim7.holds Tryd.pinned (.plain (OpenSpec.ofChange groupsSpec)) groupsCard

/-- THE SECOND FORM's CARD OF 'stripeslaw.Least'. -/
def leastUptoCard : Claim7 := { stood := { row := leastUptoRow, standIns := [], harness := (true, "70bf66b8b7e906f50a1af58432d0b9ea4e1a33e1530096600514c78949f42c1b"), looks := true }, kinds := [], alts := [], laidByText := true, laidKinds := [.data, .handle], laidTests := true, laidLooks := .later }
def LeastUptoCardSaid : Prop := Claim7.holds Tryd.pinned (.plain (OpenSpec.upto leastSpec)) leastUptoCard

/-- THE SECOND FORM's CARD OF 'stripeslaw.Groups'. -/
def groupsUptoCard : Claim7 := { stood := { row := groupsUptoRow, standIns := [], harness := (true, "70bf66b8b7e906f50a1af58432d0b9ea4e1a33e1530096600514c78949f42c1b"), looks := true }, kinds := [], alts := [], laidByText := true, laidKinds := [.data, .handle], laidTests := true, laidLooks := .later }
def GroupsUptoCardSaid : Prop := Claim7.holds Tryd.pinned (.plain (OpenSpec.upto groupsSpec)) groupsUptoCard
end Rows
end Go.Proofs.YthhommjlomphdabDoor
