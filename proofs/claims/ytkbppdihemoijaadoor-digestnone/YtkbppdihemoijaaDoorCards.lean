/-
  DERIVED. GIVEN WITH THE SEED: THE CARDS: each row of YtkbppdihemoijaaDoorRows.lean that lists a variable, with what it lists TIED to the program's text (the seventh form; the later family's looks); each row that meets fmt, with fmt's text TOLD by the authors' own Lean function (tested against real Go, not proved from fmt's source: count such statements apart). THE CARD IS WHAT COUNTS. Prove the row's statement (the work); the ties are given (YtkbppdihemoijaaDoorTie.lean); close each card by the builder's one call (the guide's Derived/Test/ToyasCard.lean, 'card_holds'). Laid BY PROGRAM, IN A SANDBOX (cutbox-door.mjs). By AI agents, Wed Nov 11 2026. No macro, syntax, notation, axiom, sorry.
-/
import Derived.Test.YtkbppdihemoijaaDoorRows
import GoSem.ClaimSeven
namespace Go.Proofs.YtkbppdihemoijaaDoor
namespace Rows

/-- THE TIED CARD OF 'lacquerlaw04.DigestAll'. -/
def digestAllCard : Claim7 := { stood := { row := digestAllRow, standIns := [], harness := (true, "542368e5b7747084c53a1420444b12e6994c5a740d3ace1175ec98f95ad32352"), looks := false }, kinds := [], alts := [], laidByText := true, laidKinds := [.data, .data], laidTests := true, laidLooks := .later }
def DigestAllCardSaid : Prop := Claim7.holds Tryd.pinned (.plain (OpenSpec.ofChange digestAllSpec)) digestAllCard

/-- THE TIED CARD OF 'lacquerlaw04.DigestPieces'. -/
def digestPiecesCard : Claim7 := { stood := { row := digestPiecesRow, standIns := [], harness := (true, "542368e5b7747084c53a1420444b12e6994c5a740d3ace1175ec98f95ad32352"), looks := false }, kinds := [], alts := [], laidByText := true, laidKinds := [.data, .data], laidTests := true, laidLooks := .later }
def DigestPiecesCardSaid : Prop := Claim7.holds Tryd.pinned (.plain (OpenSpec.ofChange digestPiecesSpec)) digestPiecesCard

/-- THE TIED CARD OF 'lacquerlaw04.DigestCuts'. -/
def digestCutsCard : Claim7 := { stood := { row := digestCutsRow, standIns := [], harness := (true, "542368e5b7747084c53a1420444b12e6994c5a740d3ace1175ec98f95ad32352"), looks := false }, kinds := [], alts := [], laidByText := true, laidKinds := [.data, .data], laidTests := true, laidLooks := .later }
def DigestCutsCardSaid : Prop := Claim7.holds Tryd.pinned (.plain (OpenSpec.ofChange digestCutsSpec)) digestCutsCard

/-- THE TIED CARD OF 'lacquerlaw04.DigestNone'. -/
def digestNoneCard : Claim7 := { stood := { row := digestNoneRow, standIns := [], harness := (true, "542368e5b7747084c53a1420444b12e6994c5a740d3ace1175ec98f95ad32352"), looks := false }, kinds := [], alts := [], laidByText := true, laidKinds := [.data, .data], laidTests := true, laidLooks := .later }
def DigestNoneCardSaid : Prop := Claim7.holds Tryd.pinned (.plain (OpenSpec.ofChange digestNoneSpec)) digestNoneCard

/-- THE SECOND FORM's CARD OF 'lacquerlaw04.DigestAll'. -/
def digestAllUptoCard : Claim7 := { stood := { row := digestAllUptoRow, standIns := [], harness := (true, "542368e5b7747084c53a1420444b12e6994c5a740d3ace1175ec98f95ad32352"), looks := false }, kinds := [], alts := [], laidByText := true, laidKinds := [.data, .data], laidTests := true, laidLooks := .later }
def DigestAllUptoCardSaid : Prop := Claim7.holds Tryd.pinned (.plain (OpenSpec.upto digestAllSpec)) digestAllUptoCard

/-- THE SECOND FORM's CARD OF 'lacquerlaw04.DigestPieces'. -/
def digestPiecesUptoCard : Claim7 := { stood := { row := digestPiecesUptoRow, standIns := [], harness := (true, "542368e5b7747084c53a1420444b12e6994c5a740d3ace1175ec98f95ad32352"), looks := false }, kinds := [], alts := [], laidByText := true, laidKinds := [.data, .data], laidTests := true, laidLooks := .later }
def DigestPiecesUptoCardSaid : Prop := Claim7.holds Tryd.pinned (.plain (OpenSpec.upto digestPiecesSpec)) digestPiecesUptoCard

/-- THE SECOND FORM's CARD OF 'lacquerlaw04.DigestCuts'. -/
def digestCutsUptoCard : Claim7 := { stood := { row := digestCutsUptoRow, standIns := [], harness := (true, "542368e5b7747084c53a1420444b12e6994c5a740d3ace1175ec98f95ad32352"), looks := false }, kinds := [], alts := [], laidByText := true, laidKinds := [.data, .data], laidTests := true, laidLooks := .later }
def DigestCutsUptoCardSaid : Prop := Claim7.holds Tryd.pinned (.plain (OpenSpec.upto digestCutsSpec)) digestCutsUptoCard

/-- THE SECOND FORM's CARD OF 'lacquerlaw04.DigestNone'. -/
def digestNoneUptoCard : Claim7 := { stood := { row := digestNoneUptoRow, standIns := [], harness := (true, "542368e5b7747084c53a1420444b12e6994c5a740d3ace1175ec98f95ad32352"), looks := false }, kinds := [], alts := [], laidByText := true, laidKinds := [.data, .data], laidTests := true, laidLooks := .later }
def DigestNoneUptoCardSaid : Prop := Claim7.holds Tryd.pinned (.plain (OpenSpec.upto digestNoneSpec)) digestNoneUptoCard
end Rows
end Go.Proofs.YtkbppdihemoijaaDoor
