/-
  DERIVED. GIVEN WITH THE SEED: THE CARDS: each row of YtfmpiidnemhijaaDoorRows.lean that lists a variable, with what it lists TIED to the program's text (the seventh form; the later family's looks); each row that meets fmt, with fmt's text TOLD by the authors' own Lean function (tested against real Go, not proved from fmt's source: count such statements apart). THE CARD IS WHAT COUNTS. Prove the row's statement (the work); the ties are given (YtfmpiidnemhijaaDoorTie.lean); close each card by the builder's one call (the guide's Derived/Test/ToyasCard.lean, 'card_holds'). Laid BY PROGRAM, IN A SANDBOX (cutbox-door.mjs). By AI agents, Wed Nov 11 2026. No macro, syntax, notation, axiom, sorry.
-/
import Derived.Test.YtfmpiidnemhijaaDoorRows
import GoSem.ClaimSeven
namespace Go.Proofs.YtfmpiidnemhijaaDoor
namespace Rows

/-- THE TIED CARD OF 'lacquerlaw13.MetaInfos'. -/
def metaInfosCard : Claim7 := { stood := { row := metaInfosRow, standIns := [], harness := (true, "9e6afc923ee57f3a56b3b0cd8202ef45f94477a9edd9c3f6a1a45671178dff5d"), looks := false }, kinds := [], alts := [], laidByText := true, laidKinds := [.data], laidTests := true, laidLooks := .later }
def MetaInfosCardSaid : Prop := Claim7.holds Tryd.pinned (.plain (OpenSpec.ofChange metaInfosSpec)) metaInfosCard

/-- THE TIED CARD OF 'lacquerlaw13.MetaChecks'. -/
def metaChecksCard : Claim7 := { stood := { row := metaChecksRow, standIns := [], harness := (true, "9e6afc923ee57f3a56b3b0cd8202ef45f94477a9edd9c3f6a1a45671178dff5d"), looks := false }, kinds := [], alts := [], laidByText := true, laidKinds := [.data], laidTests := true, laidLooks := .later }
def MetaChecksCardSaid : Prop := Claim7.holds Tryd.pinned (.plain (OpenSpec.ofChange metaChecksSpec)) metaChecksCard

/-- THE TIED CARD OF 'lacquerlaw13.MetaParses'. -/
def metaParsesCard : Claim7 := { stood := { row := metaParsesRow, standIns := [], harness := (true, "9e6afc923ee57f3a56b3b0cd8202ef45f94477a9edd9c3f6a1a45671178dff5d"), looks := false }, kinds := [], alts := [], laidByText := true, laidKinds := [.data], laidTests := true, laidLooks := .later }
def MetaParsesCardSaid : Prop := Claim7.holds Tryd.pinned (.plain (OpenSpec.ofChange metaParsesSpec)) metaParsesCard

/-- THE TIED CARD OF 'lacquerlaw13.MetaBuilds'. -/
def metaBuildsCard : Claim7 := { stood := { row := metaBuildsRow, standIns := [], harness := (true, "9e6afc923ee57f3a56b3b0cd8202ef45f94477a9edd9c3f6a1a45671178dff5d"), looks := false }, kinds := [], alts := [], laidByText := true, laidKinds := [.data], laidTests := true, laidLooks := .later }
def MetaBuildsCardSaid : Prop := Claim7.holds Tryd.pinned (.plain (OpenSpec.ofChange metaBuildsSpec)) metaBuildsCard

/-- THE TIED CARD OF 'lacquerlaw13.MetaBack'. -/
def metaBackCard : Claim7 := { stood := { row := metaBackRow, standIns := [], harness := (true, "9e6afc923ee57f3a56b3b0cd8202ef45f94477a9edd9c3f6a1a45671178dff5d"), looks := false }, kinds := [], alts := [], laidByText := true, laidKinds := [.data], laidTests := true, laidLooks := .later }
def MetaBackCardSaid : Prop := Claim7.holds Tryd.pinned (.plain (OpenSpec.ofChange metaBackSpec)) metaBackCard

/-- THE SECOND FORM's CARD OF 'lacquerlaw13.MetaInfos'. -/
def metaInfosUptoCard : Claim7 := { stood := { row := metaInfosUptoRow, standIns := [], harness := (true, "9e6afc923ee57f3a56b3b0cd8202ef45f94477a9edd9c3f6a1a45671178dff5d"), looks := false }, kinds := [], alts := [], laidByText := true, laidKinds := [.data], laidTests := true, laidLooks := .later }
def MetaInfosUptoCardSaid : Prop := Claim7.holds Tryd.pinned (.plain (OpenSpec.upto metaInfosSpec)) metaInfosUptoCard

/-- THE SECOND FORM's CARD OF 'lacquerlaw13.MetaChecks'. -/
def metaChecksUptoCard : Claim7 := { stood := { row := metaChecksUptoRow, standIns := [], harness := (true, "9e6afc923ee57f3a56b3b0cd8202ef45f94477a9edd9c3f6a1a45671178dff5d"), looks := false }, kinds := [], alts := [], laidByText := true, laidKinds := [.data], laidTests := true, laidLooks := .later }
def MetaChecksUptoCardSaid : Prop := Claim7.holds Tryd.pinned (.plain (OpenSpec.upto metaChecksSpec)) metaChecksUptoCard

/-- THE SECOND FORM's CARD OF 'lacquerlaw13.MetaParses'. -/
def metaParsesUptoCard : Claim7 := { stood := { row := metaParsesUptoRow, standIns := [], harness := (true, "9e6afc923ee57f3a56b3b0cd8202ef45f94477a9edd9c3f6a1a45671178dff5d"), looks := false }, kinds := [], alts := [], laidByText := true, laidKinds := [.data], laidTests := true, laidLooks := .later }
def MetaParsesUptoCardSaid : Prop := Claim7.holds Tryd.pinned (.plain (OpenSpec.upto metaParsesSpec)) metaParsesUptoCard

/-- THE SECOND FORM's CARD OF 'lacquerlaw13.MetaBuilds'. -/
def metaBuildsUptoCard : Claim7 := { stood := { row := metaBuildsUptoRow, standIns := [], harness := (true, "9e6afc923ee57f3a56b3b0cd8202ef45f94477a9edd9c3f6a1a45671178dff5d"), looks := false }, kinds := [], alts := [], laidByText := true, laidKinds := [.data], laidTests := true, laidLooks := .later }
def MetaBuildsUptoCardSaid : Prop := Claim7.holds Tryd.pinned (.plain (OpenSpec.upto metaBuildsSpec)) metaBuildsUptoCard

/-- THE SECOND FORM's CARD OF 'lacquerlaw13.MetaBack'. -/
def metaBackUptoCard : Claim7 := { stood := { row := metaBackUptoRow, standIns := [], harness := (true, "9e6afc923ee57f3a56b3b0cd8202ef45f94477a9edd9c3f6a1a45671178dff5d"), looks := false }, kinds := [], alts := [], laidByText := true, laidKinds := [.data], laidTests := true, laidLooks := .later }
def MetaBackUptoCardSaid : Prop := Claim7.holds Tryd.pinned (.plain (OpenSpec.upto metaBackSpec)) metaBackUptoCard
end Rows
end Go.Proofs.YtfmpiidnemhijaaDoor
