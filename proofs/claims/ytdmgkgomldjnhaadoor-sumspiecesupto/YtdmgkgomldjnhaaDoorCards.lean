/-
  DERIVED. GIVEN WITH THE SEED: THE CARDS: each row of YtdmgkgomldjnhaaDoorRows.lean that lists a variable, with what it lists TIED to the program's text (the seventh form; the later family's looks); each row that meets fmt, with fmt's text TOLD by the authors' own Lean function (tested against real Go, not proved from fmt's source: count such statements apart). THE CARD IS WHAT COUNTS. Prove the row's statement (the work); the ties are given (YtdmgkgomldjnhaaDoorTie.lean); close each card by the builder's one call (the guide's Derived/Test/ToyasCard.lean, 'card_holds'). Laid BY PROGRAM, IN A SANDBOX (cutbox-door.mjs). By AI agents, Wed Nov 11 2026. No macro, syntax, notation, axiom, sorry.
-/
import Derived.Test.YtdmgkgomldjnhaaDoorRows
import GoSem.ClaimSeven
namespace Go.Proofs.YtdmgkgomldjnhaaDoor
namespace Rows

/-- THE TIED CARD OF 'lacquerlaw03.SumsAll'. -/
def sumsAllCard : Claim7 := { stood := { row := sumsAllRow, standIns := [], harness := (true, "04fa427f5552f01e597c2167e4fd3cebae40b8afede704f7c908efb5896f87d5"), looks := false }, kinds := [], alts := [], laidByText := true, laidKinds := [.data], laidTests := true, laidLooks := .later }
def SumsAllCardSaid : Prop := Claim7.holds Tryd.pinned (.plain (OpenSpec.ofChange sumsAllSpec)) sumsAllCard

/-- THE TIED CARD OF 'lacquerlaw03.SumsPieces'. -/
def sumsPiecesCard : Claim7 := { stood := { row := sumsPiecesRow, standIns := [], harness := (true, "04fa427f5552f01e597c2167e4fd3cebae40b8afede704f7c908efb5896f87d5"), looks := false }, kinds := [], alts := [], laidByText := true, laidKinds := [.data], laidTests := true, laidLooks := .later }
def SumsPiecesCardSaid : Prop := Claim7.holds Tryd.pinned (.plain (OpenSpec.ofChange sumsPiecesSpec)) sumsPiecesCard

/-- THE TIED CARD OF 'lacquerlaw03.SumsSpoilt'. -/
def sumsSpoiltCard : Claim7 := { stood := { row := sumsSpoiltRow, standIns := [], harness := (true, "04fa427f5552f01e597c2167e4fd3cebae40b8afede704f7c908efb5896f87d5"), looks := false }, kinds := [], alts := [], laidByText := true, laidKinds := [.data], laidTests := true, laidLooks := .later }
def SumsSpoiltCardSaid : Prop := Claim7.holds Tryd.pinned (.plain (OpenSpec.ofChange sumsSpoiltSpec)) sumsSpoiltCard

/-- THE TIED CARD OF 'lacquerlaw03.SumsNought'. -/
def sumsNoughtCard : Claim7 := { stood := { row := sumsNoughtRow, standIns := [], harness := (true, "04fa427f5552f01e597c2167e4fd3cebae40b8afede704f7c908efb5896f87d5"), looks := false }, kinds := [], alts := [], laidByText := true, laidKinds := [.data], laidTests := true, laidLooks := .later }
def SumsNoughtCardSaid : Prop := Claim7.holds Tryd.pinned (.plain (OpenSpec.ofChange sumsNoughtSpec)) sumsNoughtCard

/-- THE TIED CARD OF 'lacquerlaw03.SumsStraight'. -/
def sumsStraightCard : Claim7 := { stood := { row := sumsStraightRow, standIns := [], harness := (true, "04fa427f5552f01e597c2167e4fd3cebae40b8afede704f7c908efb5896f87d5"), looks := false }, kinds := [], alts := [], laidByText := true, laidKinds := [.data], laidTests := true, laidLooks := .later }
def SumsStraightCardSaid : Prop := Claim7.holds Tryd.pinned (.plain (OpenSpec.ofChange sumsStraightSpec)) sumsStraightCard

/-- THE SECOND FORM's CARD OF 'lacquerlaw03.SumsAll'. -/
def sumsAllUptoCard : Claim7 := { stood := { row := sumsAllUptoRow, standIns := [], harness := (true, "04fa427f5552f01e597c2167e4fd3cebae40b8afede704f7c908efb5896f87d5"), looks := false }, kinds := [], alts := [], laidByText := true, laidKinds := [.data], laidTests := true, laidLooks := .later }
def SumsAllUptoCardSaid : Prop := Claim7.holds Tryd.pinned (.plain (OpenSpec.upto sumsAllSpec)) sumsAllUptoCard

/-- THE SECOND FORM's CARD OF 'lacquerlaw03.SumsPieces'. -/
def sumsPiecesUptoCard : Claim7 := { stood := { row := sumsPiecesUptoRow, standIns := [], harness := (true, "04fa427f5552f01e597c2167e4fd3cebae40b8afede704f7c908efb5896f87d5"), looks := false }, kinds := [], alts := [], laidByText := true, laidKinds := [.data], laidTests := true, laidLooks := .later }
def SumsPiecesUptoCardSaid : Prop := Claim7.holds Tryd.pinned (.plain (OpenSpec.upto sumsPiecesSpec)) sumsPiecesUptoCard

/-- THE SECOND FORM's CARD OF 'lacquerlaw03.SumsSpoilt'. -/
def sumsSpoiltUptoCard : Claim7 := { stood := { row := sumsSpoiltUptoRow, standIns := [], harness := (true, "04fa427f5552f01e597c2167e4fd3cebae40b8afede704f7c908efb5896f87d5"), looks := false }, kinds := [], alts := [], laidByText := true, laidKinds := [.data], laidTests := true, laidLooks := .later }
def SumsSpoiltUptoCardSaid : Prop := Claim7.holds Tryd.pinned (.plain (OpenSpec.upto sumsSpoiltSpec)) sumsSpoiltUptoCard

/-- THE SECOND FORM's CARD OF 'lacquerlaw03.SumsNought'. -/
def sumsNoughtUptoCard : Claim7 := { stood := { row := sumsNoughtUptoRow, standIns := [], harness := (true, "04fa427f5552f01e597c2167e4fd3cebae40b8afede704f7c908efb5896f87d5"), looks := false }, kinds := [], alts := [], laidByText := true, laidKinds := [.data], laidTests := true, laidLooks := .later }
def SumsNoughtUptoCardSaid : Prop := Claim7.holds Tryd.pinned (.plain (OpenSpec.upto sumsNoughtSpec)) sumsNoughtUptoCard

/-- THE SECOND FORM's CARD OF 'lacquerlaw03.SumsStraight'. -/
def sumsStraightUptoCard : Claim7 := { stood := { row := sumsStraightUptoRow, standIns := [], harness := (true, "04fa427f5552f01e597c2167e4fd3cebae40b8afede704f7c908efb5896f87d5"), looks := false }, kinds := [], alts := [], laidByText := true, laidKinds := [.data], laidTests := true, laidLooks := .later }
def SumsStraightUptoCardSaid : Prop := Claim7.holds Tryd.pinned (.plain (OpenSpec.upto sumsStraightSpec)) sumsStraightUptoCard
end Rows
end Go.Proofs.YtdmgkgomldjnhaaDoor
