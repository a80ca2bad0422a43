/-
  DERIVED. GIVEN WITH THE SEED: THE CARDS: each row of YtpnlcopohnjbeaaGreatDoorRows.lean that lists a variable, with what it lists TIED to the program's text (the seventh form; the later family's looks); each row that meets fmt, with fmt's text TOLD by the authors' own Lean function (tested against real Go, not proved from fmt's source: count such statements apart). THE CARD IS WHAT COUNTS. Prove the row's statement (the work); the ties are given (YtpnlcopohnjbeaaGreatDoorTie.lean); close each card by the builder's one call (the guide's Derived/Test/ToyasCard.lean, 'card_holds'). Laid BY PROGRAM, IN A SANDBOX (cutbox-door.mjs). By AI agents, Wed Nov 11 2026. No macro, syntax, notation, axiom, sorry.
-/
import Derived.Test.YtpnlcopohnjbeaaGreatDoorRows
import GoSem.ClaimSeven
namespace Go.Proofs.YtpnlcopohnjbeaaGreatDoor
namespace Rows

/-- THE TIED CARD OF 'topiarylaw14.BuildTables'. -/
def buildTablesCard : Claim7 := { stood := { row := buildTablesRow, standIns := [], harness := (true, "f0c778c769b74ef2446ea5ade17d752e390c8f88121eec7c65f234831842744d"), looks := false }, kinds := [], alts := [], laidByText := true, laidKinds := [.data, .data, .data], laidTests := true, laidLooks := .later }
def BuildTablesCardSaid : Prop := Claim7.holds Tryz.pinned (.plain (OpenSpec.ofChange buildTablesSpec)) buildTablesCard

/-- THE TIED CARD OF 'topiarylaw14.BuildAdopts'. -/
def buildAdoptsCard : Claim7 := { stood := { row := buildAdoptsRow, standIns := [], harness := (true, "f0c778c769b74ef2446ea5ade17d752e390c8f88121eec7c65f234831842744d"), looks := false }, kinds := [], alts := [], laidByText := true, laidKinds := [.data, .data, .data], laidTests := true, laidLooks := .later }
def BuildAdoptsCardSaid : Prop := Claim7.holds Tryz.pinned (.plain (OpenSpec.ofChange buildAdoptsSpec)) buildAdoptsCard

/-- THE TIED CARD OF 'topiarylaw14.BuildLists'. -/
def buildListsCard : Claim7 := { stood := { row := buildListsRow, standIns := [], harness := (true, "f0c778c769b74ef2446ea5ade17d752e390c8f88121eec7c65f234831842744d"), looks := false }, kinds := [], alts := [], laidByText := true, laidKinds := [.data, .data, .data], laidTests := true, laidLooks := .later }
def BuildListsCardSaid : Prop := Claim7.holds Tryz.pinned (.plain (OpenSpec.ofChange buildListsSpec)) buildListsCard

/-- THE TIED CARD OF 'topiarylaw14.BuildHeads'. -/
def buildHeadsCard : Claim7 := { stood := { row := buildHeadsRow, standIns := [], harness := (true, "f0c778c769b74ef2446ea5ade17d752e390c8f88121eec7c65f234831842744d"), looks := false }, kinds := [], alts := [], laidByText := true, laidKinds := [.data, .data, .data], laidTests := true, laidLooks := .later }
def BuildHeadsCardSaid : Prop := Claim7.holds Tryz.pinned (.plain (OpenSpec.ofChange buildHeadsSpec)) buildHeadsCard

/-- THE SECOND FORM's CARD OF 'topiarylaw14.BuildTables'. -/
def buildTablesUptoCard : Claim7 := { stood := { row := buildTablesUptoRow, standIns := [], harness := (true, "f0c778c769b74ef2446ea5ade17d752e390c8f88121eec7c65f234831842744d"), looks := false }, kinds := [], alts := [], laidByText := true, laidKinds := [.data, .data, .data], laidTests := true, laidLooks := .later }
def BuildTablesUptoCardSaid : Prop := Claim7.holds Tryz.pinned (.plain (OpenSpec.upto buildTablesSpec)) buildTablesUptoCard

/-- THE SECOND FORM's CARD OF 'topiarylaw14.BuildAdopts'. -/
def buildAdoptsUptoCard : Claim7 := { stood := { row := buildAdoptsUptoRow, standIns := [], harness := (true, "f0c778c769b74ef2446ea5ade17d752e390c8f88121eec7c65f234831842744d"), looks := false }, kinds := [], alts := [], laidByText := true, laidKinds := [.data, .data, .data], laidTests := true, laidLooks := .later }
def BuildAdoptsUptoCardSaid : Prop := Claim7.holds Tryz.pinned (.plain (OpenSpec.upto buildAdoptsSpec)) buildAdoptsUptoCard

/-- THE SECOND FORM's CARD OF 'topiarylaw14.BuildLists'. -/
def buildListsUptoCard : Claim7 := { stood := { row := buildListsUptoRow, standIns := [], harness := (true, "f0c778c769b74ef2446ea5ade17d752e390c8f88121eec7c65f234831842744d"), looks := false }, kinds := [], alts := [], laidByText := true, laidKinds := [.data, .data, .data], laidTests := true, laidLooks := .later }
def BuildListsUptoCardSaid : Prop := Claim7.holds Tryz.pinned (.plain (OpenSpec.upto buildListsSpec)) buildListsUptoCard

/-- THE SECOND FORM's CARD OF 'topiarylaw14.BuildHeads'. -/
def buildHeadsUptoCard : Claim7 := { stood := { row := buildHeadsUptoRow, standIns := [], harness := (true, "f0c778c769b74ef2446ea5ade17d752e390c8f88121eec7c65f234831842744d"), looks := false }, kinds := [], alts := [], laidByText := true, laidKinds := [.data, .data, .data], laidTests := true, laidLooks := .later }
def BuildHeadsUptoCardSaid : Prop := Claim7.holds Tryz.pinned (.plain (OpenSpec.upto buildHeadsSpec)) buildHeadsUptoCard
end Rows
end Go.Proofs.YtpnlcopohnjbeaaGreatDoor
