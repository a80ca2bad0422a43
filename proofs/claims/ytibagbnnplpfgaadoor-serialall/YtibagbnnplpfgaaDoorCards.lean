/-
  DERIVED. GIVEN WITH THE SEED: THE CARDS: each row of YtibagbnnplpfgaaDoorRows.lean that lists a variable, with what it lists TIED to the program's text (the seventh form; the later family's looks); each row that meets fmt, with fmt's text TOLD by the authors' own Lean function (tested against real Go, not proved from fmt's source: count such statements apart). THE CARD IS WHAT COUNTS. Prove the row's statement (the work); the ties are given (YtibagbnnplpfgaaDoorTie.lean); close each card by the builder's one call (the guide's Derived/Test/ToyasCard.lean, 'card_holds'). Laid BY PROGRAM, IN A SANDBOX (cutbox-door.mjs). By AI agents, Wed Nov 11 2026. No macro, syntax, notation, axiom, sorry.
-/
import Derived.Test.YtibagbnnplpfgaaDoorRows
import GoSem.ClaimSeven
namespace Go.Proofs.YtibagbnnplpfgaaDoor
namespace Rows

/-- THE TIED CARD OF 'topiarylaw16.SerialAll'. -/
def serialAllCard : Claim7 := { stood := { row := serialAllRow, standIns := [], harness := (true, "f4927841ebfcbcc446765cebcbc2c26f7b08c2ba7331ec42eae8d44f6cf3e03f"), looks := false }, kinds := [], alts := [], laidByText := true, laidKinds := [.data, .pinned], laidTests := true, laidLooks := .later }
def SerialAllCardSaid : Prop := Claim7.holds Tryd.pinned (.plain (OpenSpec.ofChange serialAllSpec)) serialAllCard

/-- THE TIED CARD OF 'topiarylaw16.SerialJoins'. -/
def serialJoinsCard : Claim7 := { stood := { row := serialJoinsRow, standIns := [], harness := (true, "f4927841ebfcbcc446765cebcbc2c26f7b08c2ba7331ec42eae8d44f6cf3e03f"), looks := false }, kinds := [], alts := [], laidByText := true, laidKinds := [.data, .pinned], laidTests := true, laidLooks := .later }
def SerialJoinsCardSaid : Prop := Claim7.holds Tryd.pinned (.plain (OpenSpec.ofChange serialJoinsSpec)) serialJoinsCard

/-- THE TIED CARD OF 'topiarylaw16.SerialParts'. -/
def serialPartsCard : Claim7 := { stood := { row := serialPartsRow, standIns := [], harness := (true, "f4927841ebfcbcc446765cebcbc2c26f7b08c2ba7331ec42eae8d44f6cf3e03f"), looks := false }, kinds := [], alts := [], laidByText := true, laidKinds := [.data, .pinned], laidTests := true, laidLooks := .later }
def SerialPartsCardSaid : Prop := Claim7.holds Tryd.pinned (.plain (OpenSpec.ofChange serialPartsSpec)) serialPartsCard

/-- THE TIED CARD OF 'topiarylaw16.SerialSame'. -/
def serialSameCard : Claim7 := { stood := { row := serialSameRow, standIns := [], harness := (true, "f4927841ebfcbcc446765cebcbc2c26f7b08c2ba7331ec42eae8d44f6cf3e03f"), looks := false }, kinds := [], alts := [], laidByText := true, laidKinds := [.data, .pinned], laidTests := true, laidLooks := .later }
def SerialSameCardSaid : Prop := Claim7.holds Tryd.pinned (.plain (OpenSpec.ofChange serialSameSpec)) serialSameCard

/-- THE TIED CARD OF 'topiarylaw16.SerialTexts'. -/
def serialTextsCard : Claim7 := { stood := { row := serialTextsRow, standIns := [], harness := (true, "f4927841ebfcbcc446765cebcbc2c26f7b08c2ba7331ec42eae8d44f6cf3e03f"), looks := false }, kinds := [], alts := [], laidByText := true, laidKinds := [.data, .pinned], laidTests := true, laidLooks := .later }
def SerialTextsCardSaid : Prop := Claim7.holds Tryd.pinned (.plain (OpenSpec.ofChange serialTextsSpec)) serialTextsCard

/-- THE TIED CARD OF 'topiarylaw16.SerialRuns'. -/
def serialRunsCard : Claim7 := { stood := { row := serialRunsRow, standIns := [], harness := (true, "f4927841ebfcbcc446765cebcbc2c26f7b08c2ba7331ec42eae8d44f6cf3e03f"), looks := false }, kinds := [], alts := [], laidByText := true, laidKinds := [.data, .pinned], laidTests := true, laidLooks := .later }
def SerialRunsCardSaid : Prop := Claim7.holds Tryd.pinned (.plain (OpenSpec.ofChange serialRunsSpec)) serialRunsCard

/-- THE SECOND FORM's CARD OF 'topiarylaw16.SerialAll'. -/
def serialAllUptoCard : Claim7 := { stood := { row := serialAllUptoRow, standIns := [], harness := (true, "f4927841ebfcbcc446765cebcbc2c26f7b08c2ba7331ec42eae8d44f6cf3e03f"), looks := false }, kinds := [], alts := [], laidByText := true, laidKinds := [.data, .pinned], laidTests := true, laidLooks := .later }
def SerialAllUptoCardSaid : Prop := Claim7.holds Tryd.pinned (.plain (OpenSpec.upto serialAllSpec)) serialAllUptoCard

/-- THE SECOND FORM's CARD OF 'topiarylaw16.SerialJoins'. -/
def serialJoinsUptoCard : Claim7 := { stood := { row := serialJoinsUptoRow, standIns := [], harness := (true, "f4927841ebfcbcc446765cebcbc2c26f7b08c2ba7331ec42eae8d44f6cf3e03f"), looks := false }, kinds := [], alts := [], laidByText := true, laidKinds := [.data, .pinned], laidTests := true, laidLooks := .later }
def SerialJoinsUptoCardSaid : Prop := Claim7.holds Tryd.pinned (.plain (OpenSpec.upto serialJoinsSpec)) serialJoinsUptoCard

/-- THE SECOND FORM's CARD OF 'topiarylaw16.SerialParts'. -/
def serialPartsUptoCard : Claim7 := { stood := { row := serialPartsUptoRow, standIns := [], harness := (true, "f4927841ebfcbcc446765cebcbc2c26f7b08c2ba7331ec42eae8d44f6cf3e03f"), looks := false }, kinds := [], alts := [], laidByText := true, laidKinds := [.data, .pinned], laidTests := true, laidLooks := .later }
def SerialPartsUptoCardSaid : Prop := Claim7.holds Tryd.pinned (.plain (OpenSpec.upto serialPartsSpec)) serialPartsUptoCard

/-- THE SECOND FORM's CARD OF 'topiarylaw16.SerialSame'. -/
def serialSameUptoCard : Claim7 := { stood := { row := serialSameUptoRow, standIns := [], harness := (true, "f4927841ebfcbcc446765cebcbc2c26f7b08c2ba7331ec42eae8d44f6cf3e03f"), looks := false }, kinds := [], alts := [], laidByText := true, laidKinds := [.data, .pinned], laidTests := true, laidLooks := .later }
def SerialSameUptoCardSaid : Prop := Claim7.holds Tryd.pinned (.plain (OpenSpec.upto serialSameSpec)) serialSameUptoCard

/-- THE SECOND FORM's CARD OF 'topiarylaw16.SerialTexts'. -/
def serialTextsUptoCard : Claim7 := { stood := { row := serialTextsUptoRow, standIns := [], harness := (true, "f4927841ebfcbcc446765cebcbc2c26f7b08c2ba7331ec42eae8d44f6cf3e03f"), looks := false }, kinds := [], alts := [], laidByText := true, laidKinds := [.data, .pinned], laidTests := true, laidLooks := .later }
def SerialTextsUptoCardSaid : Prop := Claim7.holds Tryd.pinned (.plain (OpenSpec.upto serialTextsSpec)) serialTextsUptoCard

/-- THE SECOND FORM's CARD OF 'topiarylaw16.SerialRuns'. -/
def serialRunsUptoCard : Claim7 := { stood := { row := serialRunsUptoRow, standIns := [], harness := (true, "f4927841ebfcbcc446765cebcbc2c26f7b08c2ba7331ec42eae8d44f6cf3e03f"), looks := false }, kinds := [], alts := [], laidByText := true, laidKinds := [.data, .pinned], laidTests := true, laidLooks := .later }
def SerialRunsUptoCardSaid : Prop := Claim7.holds Tryd.pinned (.plain (OpenSpec.upto serialRunsSpec)) serialRunsUptoCard
end Rows
end Go.Proofs.YtibagbnnplpfgaaDoor
