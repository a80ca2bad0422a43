/-
  DERIVED. GIVEN WITH THE SEED: THE CARDS: each row of YtbhhncdcdmcpfabDoorRows.lean that lists a variable, with what it lists TIED to the program's text (the seventh form; the later family's looks); each row that meets fmt, with fmt's text TOLD by the authors' own Lean function (tested against real Go, not proved from fmt's source: count such statements apart). THE CARD IS WHAT COUNTS. Prove the row's statement (the work); the ties are given (YtbhhncdcdmcpfabDoorTie.lean); close each card by the builder's one call (the guide's Derived/Test/ToyasCard.lean, 'card_holds'). Laid BY PROGRAM, IN A SANDBOX (cutbox-door.mjs). By AI agents, Wed Nov 11 2026. No macro, syntax, notation, axiom, sorry.
-/
import Derived.Test.YtbhhncdcdmcpfabDoorRows
import GoSem.ClaimSeven
namespace Go.Proofs.YtbhhncdcdmcpfabDoor
namespace Rows

/-- THE TIED CARD OF 'topiarylaw10.TokenOdds'. -/
def tokenOddsCard : Claim7 := { stood := { row := tokenOddsRow, standIns := [], harness := (true, "62826081e48e003ca0e84298954ff3a4cba0bbe9132cf2950d7791c99155fd1b"), looks := false }, kinds := [], alts := [], laidByText := true, laidKinds := [.data], laidTests := true, laidLooks := .later }
def TokenOddsCardSaid : Prop := Claim7.holds Tryd.pinned (.plain (OpenSpec.ofChange tokenOddsSpec)) tokenOddsCard

/-- THE SECOND FORM's CARD OF 'topiarylaw10.TokenOdds'. -/
def tokenOddsUptoCard : Claim7 := { stood := { row := tokenOddsUptoRow, standIns := [], harness := (true, "62826081e48e003ca0e84298954ff3a4cba0bbe9132cf2950d7791c99155fd1b"), looks := false }, kinds := [], alts := [], laidByText := true, laidKinds := [.data], laidTests := true, laidLooks := .later }
def TokenOddsUptoCardSaid : Prop := Claim7.holds Tryd.pinned (.plain (OpenSpec.upto tokenOddsSpec)) tokenOddsUptoCard
end Rows
end Go.Proofs.YtbhhncdcdmcpfabDoor
