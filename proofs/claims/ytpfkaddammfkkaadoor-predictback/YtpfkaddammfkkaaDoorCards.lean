/-
  DERIVED. GIVEN WITH THE SEED: THE CARDS: each row of YtpfkaddammfkkaaDoorRows.lean that lists a variable, with what it lists TIED to the program's text (the seventh form; the later family's looks); each row that meets fmt, with fmt's text TOLD by the authors' own Lean function (tested against real Go, not proved from fmt's source: count such statements apart). THE CARD IS WHAT COUNTS. Prove the row's statement (the work); the ties are given (YtpfkaddammfkkaaDoorTie.lean); close each card by the builder's one call (the guide's Derived/Test/ToyasCard.lean, 'card_holds'). Laid BY PROGRAM, IN A SANDBOX (cutbox-door.mjs). By AI agents, Wed Nov 11 2026. No macro, syntax, notation, axiom, sorry.
-/
import Derived.Test.YtpfkaddammfkkaaDoorRows
import GoSem.ClaimSeven
namespace Go.Proofs.YtpfkaddammfkkaaDoor
namespace Rows

/-- THE TIED CARD OF 'lacquerlaw09.PredictFixed'. -/
def predictFixedCard : Claim7 := { stood := { row := predictFixedRow, standIns := [], harness := (true, "d5215b5d033c866fcbce917abd84f90e8bd5549b14f5613d2653cc002b04225c"), looks := false }, kinds := [], alts := [], laidByText := true, laidKinds := [.data, .data], laidTests := true, laidLooks := .later }
def PredictFixedCardSaid : Prop := Claim7.holds Tryd.pinned (.plain (OpenSpec.ofChange predictFixedSpec)) predictFixedCard

/-- THE TIED CARD OF 'lacquerlaw09.PredictLpc'. -/
def predictLpcCard : Claim7 := { stood := { row := predictLpcRow, standIns := [], harness := (true, "d5215b5d033c866fcbce917abd84f90e8bd5549b14f5613d2653cc002b04225c"), looks := false }, kinds := [], alts := [], laidByText := true, laidKinds := [.data, .data], laidTests := true, laidLooks := .later }
def PredictLpcCardSaid : Prop := Claim7.holds Tryd.pinned (.plain (OpenSpec.ofChange predictLpcSpec)) predictLpcCard

/-- THE TIED CARD OF 'lacquerlaw09.PredictShifts'. -/
def predictShiftsCard : Claim7 := { stood := { row := predictShiftsRow, standIns := [], harness := (true, "d5215b5d033c866fcbce917abd84f90e8bd5549b14f5613d2653cc002b04225c"), looks := false }, kinds := [], alts := [], laidByText := true, laidKinds := [.data, .data], laidTests := true, laidLooks := .later }
def PredictShiftsCardSaid : Prop := Claim7.holds Tryd.pinned (.plain (OpenSpec.ofChange predictShiftsSpec)) predictShiftsCard

/-- THE TIED CARD OF 'lacquerlaw09.PredictStereo'. -/
def predictStereoCard : Claim7 := { stood := { row := predictStereoRow, standIns := [], harness := (true, "d5215b5d033c866fcbce917abd84f90e8bd5549b14f5613d2653cc002b04225c"), looks := false }, kinds := [], alts := [], laidByText := true, laidKinds := [.data, .data], laidTests := true, laidLooks := .later }
def PredictStereoCardSaid : Prop := Claim7.holds Tryd.pinned (.plain (OpenSpec.ofChange predictStereoSpec)) predictStereoCard

/-- THE TIED CARD OF 'lacquerlaw09.PredictBack'. -/
def predictBackCard : Claim7 := { stood := { row := predictBackRow, standIns := [], harness := (true, "d5215b5d033c866fcbce917abd84f90e8bd5549b14f5613d2653cc002b04225c"), looks := false }, kinds := [], alts := [], laidByText := true, laidKinds := [.data, .data], laidTests := true, laidLooks := .later }
def PredictBackCardSaid : Prop := Claim7.holds Tryd.pinned (.plain (OpenSpec.ofChange predictBackSpec)) predictBackCard

/-- THE TIED CARD OF 'lacquerlaw09.PredictModes'. -/
def predictModesCard : Claim7 := { stood := { row := predictModesRow, standIns := [], harness := (true, "d5215b5d033c866fcbce917abd84f90e8bd5549b14f5613d2653cc002b04225c"), looks := false }, kinds := [], alts := [], laidByText := true, laidKinds := [.data, .data], laidTests := true, laidLooks := .later }
def PredictModesCardSaid : Prop := Claim7.holds Tryd.pinned (.plain (OpenSpec.ofChange predictModesSpec)) predictModesCard

/-- THE SECOND FORM's CARD OF 'lacquerlaw09.PredictFixed'. -/
def predictFixedUptoCard : Claim7 := { stood := { row := predictFixedUptoRow, standIns := [], harness := (true, "d5215b5d033c866fcbce917abd84f90e8bd5549b14f5613d2653cc002b04225c"), looks := false }, kinds := [], alts := [], laidByText := true, laidKinds := [.data, .data], laidTests := true, laidLooks := .later }
def PredictFixedUptoCardSaid : Prop := Claim7.holds Tryd.pinned (.plain (OpenSpec.upto predictFixedSpec)) predictFixedUptoCard

/-- THE SECOND FORM's CARD OF 'lacquerlaw09.PredictLpc'. -/
def predictLpcUptoCard : Claim7 := { stood := { row := predictLpcUptoRow, standIns := [], harness := (true, "d5215b5d033c866fcbce917abd84f90e8bd5549b14f5613d2653cc002b04225c"), looks := false }, kinds := [], alts := [], laidByText := true, laidKinds := [.data, .data], laidTests := true, laidLooks := .later }
def PredictLpcUptoCardSaid : Prop := Claim7.holds Tryd.pinned (.plain (OpenSpec.upto predictLpcSpec)) predictLpcUptoCard

/-- THE SECOND FORM's CARD OF 'lacquerlaw09.PredictShifts'. -/
def predictShiftsUptoCard : Claim7 := { stood := { row := predictShiftsUptoRow, standIns := [], harness := (true, "d5215b5d033c866fcbce917abd84f90e8bd5549b14f5613d2653cc002b04225c"), looks := false }, kinds := [], alts := [], laidByText := true, laidKinds := [.data, .data], laidTests := true, laidLooks := .later }
def PredictShiftsUptoCardSaid : Prop := Claim7.holds Tryd.pinned (.plain (OpenSpec.upto predictShiftsSpec)) predictShiftsUptoCard

/-- THE SECOND FORM's CARD OF 'lacquerlaw09.PredictStereo'. -/
def predictStereoUptoCard : Claim7 := { stood := { row := predictStereoUptoRow, standIns := [], harness := (true, "d5215b5d033c866fcbce917abd84f90e8bd5549b14f5613d2653cc002b04225c"), looks := false }, kinds := [], alts := [], laidByText := true, laidKinds := [.data, .data], laidTests := true, laidLooks := .later }
def PredictStereoUptoCardSaid : Prop := Claim7.holds Tryd.pinned (.plain (OpenSpec.upto predictStereoSpec)) predictStereoUptoCard

/-- THE SECOND FORM's CARD OF 'lacquerlaw09.PredictBack'. -/
def predictBackUptoCard : Claim7 := { stood := { row := predictBackUptoRow, standIns := [], harness := (true, "d5215b5d033c866fcbce917abd84f90e8bd5549b14f5613d2653cc002b04225c"), looks := false }, kinds := [], alts := [], laidByText := true, laidKinds := [.data, .data], laidTests := true, laidLooks := .later }
def PredictBackUptoCardSaid : Prop := Claim7.holds Tryd.pinned (.plain (OpenSpec.upto predictBackSpec)) predictBackUptoCard

/-- THE SECOND FORM's CARD OF 'lacquerlaw09.PredictModes'. -/
def predictModesUptoCard : Claim7 := { stood := { row := predictModesUptoRow, standIns := [], harness := (true, "d5215b5d033c866fcbce917abd84f90e8bd5549b14f5613d2653cc002b04225c"), looks := false }, kinds := [], alts := [], laidByText := true, laidKinds := [.data, .data], laidTests := true, laidLooks := .later }
def PredictModesUptoCardSaid : Prop := Claim7.holds Tryd.pinned (.plain (OpenSpec.upto predictModesSpec)) predictModesUptoCard
end Rows
end Go.Proofs.YtpfkaddammfkkaaDoor
