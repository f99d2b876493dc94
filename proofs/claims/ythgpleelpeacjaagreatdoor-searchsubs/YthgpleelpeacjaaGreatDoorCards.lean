/-
  DERIVED. GIVEN WITH THE SEED: THE CARDS: each row of YthgpleelpeacjaaGreatDoorRows.lean that lists a variable, with what it lists TIED to the program's text (the seventh form; the later family's looks); each row that meets fmt, with fmt's text TOLD by the authors' own Lean function (tested against real Go, not proved from fmt's source: count such statements apart). THE CARD IS WHAT COUNTS. Prove the row's statement (the work); the ties are given (YthgpleelpeacjaaGreatDoorTie.lean); close each card by the builder's one call (the guide's Derived/Test/ToyasCard.lean, 'card_holds'). Laid BY PROGRAM, IN A SANDBOX (cutbox-door.mjs). By AI agents, Wed Nov 11 2026. No macro, syntax, notation, axiom, sorry.
-/
import Derived.Test.YthgpleelpeacjaaGreatDoorRows
import GoSem.ClaimSeven
namespace Go.Proofs.YthgpleelpeacjaaGreatDoor
namespace Rows

/-- THE TIED CARD OF 'lacquerlaw12.SearchSubs'. -/
def searchSubsCard : Claim7 := { stood := { row := searchSubsRow, standIns := [], harness := (true, "fdbe3e7059bdf487e27c65dddde56b9a54fa2d9e784e6c46d4b3b89c8b3f9dc6"), looks := false }, kinds := [], alts := [], laidByText := true, laidKinds := [.data, .data, .data, .data, .data], laidTests := true, laidLooks := .later }
def SearchSubsCardSaid : Prop := Claim7.holds Tryz.pinned (.plain (OpenSpec.ofChange searchSubsSpec)) searchSubsCard

/-- THE TIED CARD OF 'lacquerlaw12.SearchFrames'. -/
def searchFramesCard : Claim7 := { stood := { row := searchFramesRow, standIns := [], harness := (true, "fdbe3e7059bdf487e27c65dddde56b9a54fa2d9e784e6c46d4b3b89c8b3f9dc6"), looks := false }, kinds := [], alts := [], laidByText := true, laidKinds := [.data, .data, .data, .data, .data], laidTests := true, laidLooks := .later }
def SearchFramesCardSaid : Prop := Claim7.holds Tryz.pinned (.plain (OpenSpec.ofChange searchFramesSpec)) searchFramesCard

/-- THE TIED CARD OF 'lacquerlaw12.SearchBuilds'. -/
def searchBuildsCard : Claim7 := { stood := { row := searchBuildsRow, standIns := [], harness := (true, "fdbe3e7059bdf487e27c65dddde56b9a54fa2d9e784e6c46d4b3b89c8b3f9dc6"), looks := false }, kinds := [], alts := [], laidByText := true, laidKinds := [.data, .data, .data, .data, .data, .data], laidTests := true, laidLooks := .later }
def SearchBuildsCardSaid : Prop := Claim7.holds Tryz.pinned (.plain (OpenSpec.ofChange searchBuildsSpec)) searchBuildsCard

/-- THE TIED CARD OF 'lacquerlaw12.SearchLess'. -/
def searchLessCard : Claim7 := { stood := { row := searchLessRow, standIns := [], harness := (true, "fdbe3e7059bdf487e27c65dddde56b9a54fa2d9e784e6c46d4b3b89c8b3f9dc6"), looks := false }, kinds := [], alts := [], laidByText := true, laidKinds := [.data, .data, .data, .data, .data], laidTests := true, laidLooks := .later }
def SearchLessCardSaid : Prop := Claim7.holds Tryz.pinned (.plain (OpenSpec.ofChange searchLessSpec)) searchLessCard

/-- THE SECOND FORM's CARD OF 'lacquerlaw12.SearchSubs'. -/
def searchSubsUptoCard : Claim7 := { stood := { row := searchSubsUptoRow, standIns := [], harness := (true, "fdbe3e7059bdf487e27c65dddde56b9a54fa2d9e784e6c46d4b3b89c8b3f9dc6"), looks := false }, kinds := [], alts := [], laidByText := true, laidKinds := [.data, .data, .data, .data, .data], laidTests := true, laidLooks := .later }
def SearchSubsUptoCardSaid : Prop := Claim7.holds Tryz.pinned (.plain (OpenSpec.upto searchSubsSpec)) searchSubsUptoCard

/-- THE SECOND FORM's CARD OF 'lacquerlaw12.SearchFrames'. -/
def searchFramesUptoCard : Claim7 := { stood := { row := searchFramesUptoRow, standIns := [], harness := (true, "fdbe3e7059bdf487e27c65dddde56b9a54fa2d9e784e6c46d4b3b89c8b3f9dc6"), looks := false }, kinds := [], alts := [], laidByText := true, laidKinds := [.data, .data, .data, .data, .data], laidTests := true, laidLooks := .later }
def SearchFramesUptoCardSaid : Prop := Claim7.holds Tryz.pinned (.plain (OpenSpec.upto searchFramesSpec)) searchFramesUptoCard

/-- THE SECOND FORM's CARD OF 'lacquerlaw12.SearchBuilds'. -/
def searchBuildsUptoCard : Claim7 := { stood := { row := searchBuildsUptoRow, standIns := [], harness := (true, "fdbe3e7059bdf487e27c65dddde56b9a54fa2d9e784e6c46d4b3b89c8b3f9dc6"), looks := false }, kinds := [], alts := [], laidByText := true, laidKinds := [.data, .data, .data, .data, .data, .data], laidTests := true, laidLooks := .later }
def SearchBuildsUptoCardSaid : Prop := Claim7.holds Tryz.pinned (.plain (OpenSpec.upto searchBuildsSpec)) searchBuildsUptoCard

/-- THE SECOND FORM's CARD OF 'lacquerlaw12.SearchLess'. -/
def searchLessUptoCard : Claim7 := { stood := { row := searchLessUptoRow, standIns := [], harness := (true, "fdbe3e7059bdf487e27c65dddde56b9a54fa2d9e784e6c46d4b3b89c8b3f9dc6"), looks := false }, kinds := [], alts := [], laidByText := true, laidKinds := [.data, .data, .data, .data, .data], laidTests := true, laidLooks := .later }
def SearchLessUptoCardSaid : Prop := Claim7.holds Tryz.pinned (.plain (OpenSpec.upto searchLessSpec)) searchLessUptoCard
end Rows
end Go.Proofs.YthgpleelpeacjaaGreatDoor
