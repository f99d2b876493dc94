/-
  DERIVED. GIVEN WITH THE SEED: THE CARDS: each row of YtolmijpecomkcaaDoorRows.lean that lists a variable, with what it lists TIED to the program's text (the seventh form; the later family's looks); each row that meets fmt, with fmt's text TOLD by the authors' own Lean function (tested against real Go, not proved from fmt's source: count such statements apart). THE CARD IS WHAT COUNTS. Prove the row's statement (the work); the ties are given (YtolmijpecomkcaaDoorTie.lean); close each card by the builder's one call (the guide's Derived/Test/ToyasCard.lean, 'card_holds'). Laid BY PROGRAM, IN A SANDBOX (cutbox-door.mjs). By AI agents, Wed Nov 11 2026. No macro, syntax, notation, axiom, sorry.
-/
import Derived.Test.YtolmijpecomkcaaDoorRows
import GoSem.ClaimSeven
namespace Go.Proofs.YtolmijpecomkcaaDoor
namespace Rows

/-- THE TIED CARD OF 'lacquerlaw05.PcmPacks'. -/
def pcmPacksCard : Claim7 := { stood := { row := pcmPacksRow, standIns := [], harness := (true, "c968299a8c5eb32d47cc589a55b2b871e28e7bc368a059c51e05a575921b3c2e"), looks := false }, kinds := [], alts := [], laidByText := true, laidKinds := [.data, .data], laidTests := true, laidLooks := .later }
def PcmPacksCardSaid : Prop := Claim7.holds Tryd.pinned (.plain (OpenSpec.ofChange pcmPacksSpec)) pcmPacksCard

/-- THE SECOND FORM's CARD OF 'lacquerlaw05.PcmPacks'. -/
def pcmPacksUptoCard : Claim7 := { stood := { row := pcmPacksUptoRow, standIns := [], harness := (true, "c968299a8c5eb32d47cc589a55b2b871e28e7bc368a059c51e05a575921b3c2e"), looks := false }, kinds := [], alts := [], laidByText := true, laidKinds := [.data, .data], laidTests := true, laidLooks := .later }
def PcmPacksUptoCardSaid : Prop := Claim7.holds Tryd.pinned (.plain (OpenSpec.upto pcmPacksSpec)) pcmPacksUptoCard
end Rows
end Go.Proofs.YtolmijpecomkcaaDoor
