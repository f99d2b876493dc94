/-
  DERIVED. GIVEN WITH THE SEED: THE CARDS: each row of YtpfkaddammfkkabDoorRows.lean that lists a variable, with what it lists TIED to the program's text (the seventh form; the later family's looks); each row that meets fmt, with fmt's text TOLD by the authors' own Lean function (tested against real Go, not proved from fmt's source: count such statements apart). THE CARD IS WHAT COUNTS. Prove the row's statement (the work); the ties are given (YtpfkaddammfkkabDoorTie.lean); close each card by the builder's one call (the guide's Derived/Test/ToyasCard.lean, 'card_holds'). Laid BY PROGRAM, IN A SANDBOX (cutbox-door.mjs). By AI agents, Wed Nov 11 2026. No macro, syntax, notation, axiom, sorry.
-/
import Derived.Test.YtpfkaddammfkkabDoorRows
import GoSem.ClaimSeven
namespace Go.Proofs.YtpfkaddammfkkabDoor
namespace Rows

/-- THE TIED CARD OF 'lacquerlaw09.PredictLines'. -/
def predictLinesCard : Claim7 := { stood := { row := predictLinesRow, standIns := [], harness := (true, "590802148da0e08e811288a17fc2c4daef2d3d00560e6649faebee1484e37963"), looks := false }, kinds := [], alts := [], laidByText := true, laidKinds := [.data, .data], laidTests := true, laidLooks := .later }
def PredictLinesCardSaid : Prop := Claim7.holds Tryd.pinned (.plain (OpenSpec.ofChange predictLinesSpec)) predictLinesCard

/-- THE SECOND FORM's CARD OF 'lacquerlaw09.PredictLines'. -/
def predictLinesUptoCard : Claim7 := { stood := { row := predictLinesUptoRow, standIns := [], harness := (true, "590802148da0e08e811288a17fc2c4daef2d3d00560e6649faebee1484e37963"), looks := false }, kinds := [], alts := [], laidByText := true, laidKinds := [.data, .data], laidTests := true, laidLooks := .later }
def PredictLinesUptoCardSaid : Prop := Claim7.holds Tryd.pinned (.plain (OpenSpec.upto predictLinesSpec)) predictLinesUptoCard
end Rows
end Go.Proofs.YtpfkaddammfkkabDoor
