/-
  DERIVED. GIVEN WITH THE SEED: THE CARDS: each row of YtmakmhmgojneoaaDoorRows.lean that lists a variable, with what it lists TIED to the program's text (the seventh form; the later family's looks); each row that meets fmt, with fmt's text TOLD by the authors' own Lean function (tested against real Go, not proved from fmt's source: count such statements apart). THE CARD IS WHAT COUNTS. Prove the row's statement (the work); the ties are given (YtmakmhmgojneoaaDoorTie.lean); close each card by the builder's one call (the guide's Derived/Test/ToyasCard.lean, 'card_holds'). Laid BY PROGRAM, IN A SANDBOX (cutbox-door.mjs). By AI agents, Wed Nov 11 2026. No macro, syntax, notation, axiom, sorry.
-/
import Derived.Test.YtmakmhmgojneoaaDoorRows
import GoSem.ClaimSeven
namespace Go.Proofs.YtmakmhmgojneoaaDoor
namespace Rows

/-- THE TIED CARD OF 'stripeslaw.Matrices'. -/
def matricesCard : Claim7 := { stood := { row := matricesRow, standIns := [], harness := (true, "093549c38728e7c2dab47b7e0fe66deb1ffc78c0e89a9b1346588ce51a447c74"), looks := true }, kinds := [], alts := [], laidByText := true, laidKinds := [.handle], laidTests := true, laidLooks := .later }
def MatricesCardSaid : Prop := Claim7.holds Tryd.pinned (.plain (OpenSpec.ofChange matricesSpec)) matricesCard

/-- THE TIED CARD OF 'stripeslaw.Encodes'. -/
def encodesCard : Claim7 := { stood := { row := encodesRow, standIns := [], harness := (true, "093549c38728e7c2dab47b7e0fe66deb1ffc78c0e89a9b1346588ce51a447c74"), looks := true }, kinds := [], alts := [], laidByText := true, laidKinds := [.handle], laidTests := true, laidLooks := .later }
def EncodesCardSaid : Prop := Claim7.holds Tryd.pinned (.plain (OpenSpec.ofChange encodesSpec)) encodesCard

/-- THE TIED CARD OF 'stripeslaw.Sums'. -/
def sumsCard : Claim7 := { stood := { row := sumsRow, standIns := [], harness := (true, "093549c38728e7c2dab47b7e0fe66deb1ffc78c0e89a9b1346588ce51a447c74"), looks := true }, kinds := [], alts := [], laidByText := true, laidKinds := [.handle], laidTests := true, laidLooks := .later }
def SumsCardSaid : Prop := Claim7.holds Tryd.pinned (.plain (OpenSpec.ofChange sumsSpec)) sumsCard

/-- THE SECOND FORM's CARD OF 'stripeslaw.Matrices'. -/
def matricesUptoCard : Claim7 := { stood := { row := matricesUptoRow, standIns := [], harness := (true, "093549c38728e7c2dab47b7e0fe66deb1ffc78c0e89a9b1346588ce51a447c74"), looks := true }, kinds := [], alts := [], laidByText := true, laidKinds := [.handle], laidTests := true, laidLooks := .later }
def MatricesUptoCardSaid : Prop := Claim7.holds Tryd.pinned (.plain (OpenSpec.upto matricesSpec)) matricesUptoCard

/-- THE SECOND FORM's CARD OF 'stripeslaw.Encodes'. -/
def encodesUptoCard : Claim7 := { stood := { row := encodesUptoRow, standIns := [], harness := (true, "093549c38728e7c2dab47b7e0fe66deb1ffc78c0e89a9b1346588ce51a447c74"), looks := true }, kinds := [], alts := [], laidByText := true, laidKinds := [.handle], laidTests := true, laidLooks := .later }
def EncodesUptoCardSaid : Prop := Claim7.holds Tryd.pinned (.plain (OpenSpec.upto encodesSpec)) encodesUptoCard

/-- THE SECOND FORM's CARD OF 'stripeslaw.Sums'. -/
def sumsUptoCard : Claim7 := { stood := { row := sumsUptoRow, standIns := [], harness := (true, "093549c38728e7c2dab47b7e0fe66deb1ffc78c0e89a9b1346588ce51a447c74"), looks := true }, kinds := [], alts := [], laidByText := true, laidKinds := [.handle], laidTests := true, laidLooks := .later }
def SumsUptoCardSaid : Prop := Claim7.holds Tryd.pinned (.plain (OpenSpec.upto sumsSpec)) sumsUptoCard
end Rows
end Go.Proofs.YtmakmhmgojneoaaDoor
