/-
  DERIVED. GIVEN WITH THE SEED: THE CARDS: each row of YtjkamannjgcmiaaDoorRows.lean that lists a variable, with what it lists TIED to the program's text (the seventh form; the later family's looks); each row that meets fmt, with fmt's text TOLD by the authors' own Lean function (tested against real Go, not proved from fmt's source: count such statements apart). THE CARD IS WHAT COUNTS. Prove the row's statement (the work); the ties are given (YtjkamannjgcmiaaDoorTie.lean); close each card by the builder's one call (the guide's Derived/Test/ToyasCard.lean, 'card_holds'). Laid BY PROGRAM, IN A SANDBOX (cutbox-door.mjs). By AI agents, Wed Nov 11 2026. No macro, syntax, notation, axiom, sorry.
-/
import Derived.Test.YtjkamannjgcmiaaDoorRows
import GoSem.ClaimSeven
namespace Go.Proofs.YtjkamannjgcmiaaDoor
namespace Rows

/-- THE TIED CARD OF 'lacquerlaw15.PageParses'. -/
def pageParsesCard : Claim7 := { stood := { row := pageParsesRow, standIns := [], harness := (true, "cffec9810bc33f5a96bcbee211a1f8868b26b8a59d51f028af892b93f37a51e4"), looks := false }, kinds := [], alts := [], laidByText := true, laidKinds := [.data], laidTests := true, laidLooks := .later }
def PageParsesCardSaid : Prop := Claim7.holds Tryd.pinned (.plain (OpenSpec.ofChange pageParsesSpec)) pageParsesCard

/-- THE TIED CARD OF 'lacquerlaw15.PageBuilds'. -/
def pageBuildsCard : Claim7 := { stood := { row := pageBuildsRow, standIns := [], harness := (true, "cffec9810bc33f5a96bcbee211a1f8868b26b8a59d51f028af892b93f37a51e4"), looks := false }, kinds := [], alts := [], laidByText := true, laidKinds := [.data], laidTests := true, laidLooks := .later }
def PageBuildsCardSaid : Prop := Claim7.holds Tryd.pinned (.plain (OpenSpec.ofChange pageBuildsSpec)) pageBuildsCard

/-- THE TIED CARD OF 'lacquerlaw15.PageBack'. -/
def pageBackCard : Claim7 := { stood := { row := pageBackRow, standIns := [], harness := (true, "cffec9810bc33f5a96bcbee211a1f8868b26b8a59d51f028af892b93f37a51e4"), looks := false }, kinds := [], alts := [], laidByText := true, laidKinds := [.data], laidTests := true, laidLooks := .later }
def PageBackCardSaid : Prop := Claim7.holds Tryd.pinned (.plain (OpenSpec.ofChange pageBackSpec)) pageBackCard

/-- THE TIED CARD OF 'lacquerlaw15.PageLaces'. -/
def pageLacesCard : Claim7 := { stood := { row := pageLacesRow, standIns := [], harness := (true, "cffec9810bc33f5a96bcbee211a1f8868b26b8a59d51f028af892b93f37a51e4"), looks := false }, kinds := [], alts := [], laidByText := true, laidKinds := [.data], laidTests := true, laidLooks := .later }
def PageLacesCardSaid : Prop := Claim7.holds Tryd.pinned (.plain (OpenSpec.ofChange pageLacesSpec)) pageLacesCard

/-- THE TIED CARD OF 'lacquerlaw15.PageSpoilt'. -/
def pageSpoiltCard : Claim7 := { stood := { row := pageSpoiltRow, standIns := [], harness := (true, "cffec9810bc33f5a96bcbee211a1f8868b26b8a59d51f028af892b93f37a51e4"), looks := false }, kinds := [], alts := [], laidByText := true, laidKinds := [.data], laidTests := true, laidLooks := .later }
def PageSpoiltCardSaid : Prop := Claim7.holds Tryd.pinned (.plain (OpenSpec.ofChange pageSpoiltSpec)) pageSpoiltCard

/-- THE SECOND FORM's CARD OF 'lacquerlaw15.PageParses'. -/
def pageParsesUptoCard : Claim7 := { stood := { row := pageParsesUptoRow, standIns := [], harness := (true, "cffec9810bc33f5a96bcbee211a1f8868b26b8a59d51f028af892b93f37a51e4"), looks := false }, kinds := [], alts := [], laidByText := true, laidKinds := [.data], laidTests := true, laidLooks := .later }
def PageParsesUptoCardSaid : Prop := Claim7.holds Tryd.pinned (.plain (OpenSpec.upto pageParsesSpec)) pageParsesUptoCard

/-- THE SECOND FORM's CARD OF 'lacquerlaw15.PageBuilds'. -/
def pageBuildsUptoCard : Claim7 := { stood := { row := pageBuildsUptoRow, standIns := [], harness := (true, "cffec9810bc33f5a96bcbee211a1f8868b26b8a59d51f028af892b93f37a51e4"), looks := false }, kinds := [], alts := [], laidByText := true, laidKinds := [.data], laidTests := true, laidLooks := .later }
def PageBuildsUptoCardSaid : Prop := Claim7.holds Tryd.pinned (.plain (OpenSpec.upto pageBuildsSpec)) pageBuildsUptoCard

/-- THE SECOND FORM's CARD OF 'lacquerlaw15.PageBack'. -/
def pageBackUptoCard : Claim7 := { stood := { row := pageBackUptoRow, standIns := [], harness := (true, "cffec9810bc33f5a96bcbee211a1f8868b26b8a59d51f028af892b93f37a51e4"), looks := false }, kinds := [], alts := [], laidByText := true, laidKinds := [.data], laidTests := true, laidLooks := .later }
def PageBackUptoCardSaid : Prop := Claim7.holds Tryd.pinned (.plain (OpenSpec.upto pageBackSpec)) pageBackUptoCard

/-- THE SECOND FORM's CARD OF 'lacquerlaw15.PageLaces'. -/
def pageLacesUptoCard : Claim7 := { stood := { row := pageLacesUptoRow, standIns := [], harness := (true, "cffec9810bc33f5a96bcbee211a1f8868b26b8a59d51f028af892b93f37a51e4"), looks := false }, kinds := [], alts := [], laidByText := true, laidKinds := [.data], laidTests := true, laidLooks := .later }
def PageLacesUptoCardSaid : Prop := Claim7.holds Tryd.pinned (.plain (OpenSpec.upto pageLacesSpec)) pageLacesUptoCard

/-- THE SECOND FORM's CARD OF 'lacquerlaw15.PageSpoilt'. -/
def pageSpoiltUptoCard : Claim7 := { stood := { row := pageSpoiltUptoRow, standIns := [], harness := (true, "cffec9810bc33f5a96bcbee211a1f8868b26b8a59d51f028af892b93f37a51e4"), looks := false }, kinds := [], alts := [], laidByText := true, laidKinds := [.data], laidTests := true, laidLooks := .later }
def PageSpoiltUptoCardSaid : Prop := Claim7.holds Tryd.pinned (.plain (OpenSpec.upto pageSpoiltSpec)) pageSpoiltUptoCard
end Rows
end Go.Proofs.YtjkamannjgcmiaaDoor
