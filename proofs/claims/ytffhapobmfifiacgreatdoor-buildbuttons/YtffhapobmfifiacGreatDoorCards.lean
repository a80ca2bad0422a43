/-
  DERIVED. GIVEN WITH THE SEED: THE CARDS: each row of YtffhapobmfifiacGreatDoorRows.lean that lists a variable, with what it lists TIED to the program's text (the seventh form; the later family's looks); each row that meets fmt, with fmt's text TOLD by the authors' own Lean function (tested against real Go, not proved from fmt's source: count such statements apart). THE CARD IS WHAT COUNTS. Prove the row's statement (the work); the ties are given (YtffhapobmfifiacGreatDoorTie.lean); close each card by the builder's one call (the guide's Derived/Test/ToyasCard.lean, 'card_holds'). Laid BY PROGRAM, IN A SANDBOX (cutbox-door.mjs). By AI agents, Wed Nov 11 2026. No macro, syntax, notation, axiom, sorry.
-/
import Derived.Test.YtffhapobmfifiacGreatDoorRows
import GoSem.ClaimSeven
namespace Go.Proofs.YtffhapobmfifiacGreatDoor
namespace Rows

/-- THE TIED CARD OF 'topiarylaw14.BuildButtons'. -/
def buildButtonsCard : Claim7 := { stood := { row := buildButtonsRow, standIns := [], harness := (true, "35e0f112aecfede9e6481c528ff4d4542f310c939a156e81135156c9aac78f0f"), looks := false }, kinds := [], alts := [], laidByText := true, laidKinds := [.data, .data, .data], laidTests := true, laidLooks := .later }
def BuildButtonsCardSaid : Prop := Claim7.holds Tryz.pinned (.plain (OpenSpec.ofChange buildButtonsSpec)) buildButtonsCard

/-- THE SECOND FORM's CARD OF 'topiarylaw14.BuildButtons'. -/
def buildButtonsUptoCard : Claim7 := { stood := { row := buildButtonsUptoRow, standIns := [], harness := (true, "35e0f112aecfede9e6481c528ff4d4542f310c939a156e81135156c9aac78f0f"), looks := false }, kinds := [], alts := [], laidByText := true, laidKinds := [.data, .data, .data], laidTests := true, laidLooks := .later }
def BuildButtonsUptoCardSaid : Prop := Claim7.holds Tryz.pinned (.plain (OpenSpec.upto buildButtonsSpec)) buildButtonsUptoCard
end Rows
end Go.Proofs.YtffhapobmfifiacGreatDoor
