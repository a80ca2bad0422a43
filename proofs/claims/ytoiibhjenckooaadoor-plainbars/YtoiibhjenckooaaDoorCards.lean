/-
  DERIVED. GIVEN WITH THE SEED: THE CARDS: each row of YtoiibhjenckooaaDoorRows.lean that lists a variable, with what it lists TIED to the program's text (the seventh form; the later family's looks); each row that meets fmt, with fmt's text TOLD by the authors' own Lean function (tested against real Go, not proved from fmt's source: count such statements apart). THE CARD IS WHAT COUNTS. Prove the row's statement (the work); the ties are given (YtoiibhjenckooaaDoorTie.lean); close each card by the builder's one call (the guide's Derived/Test/ToyasCard.lean, 'card_holds'). Laid BY PROGRAM, IN A SANDBOX (cutbox-door.mjs). By AI agents, Wed Nov 11 2026. No macro, syntax, notation, axiom, sorry.
-/
import Derived.Test.YtoiibhjenckooaaDoorRows
import GoSem.ClaimSeven
namespace Go.Proofs.YtoiibhjenckooaaDoor
namespace Rows

/-- THE TIED CARD OF 'topiarylaw17.PlainBars'. -/
def plainBarsCard : Claim7 := { stood := { row := plainBarsRow, standIns := [], harness := (true, "75edb58a47f2b0843e4bdbbca5da6b99080f31539eee157054581080e403c525"), looks := false }, kinds := [], alts := [], laidByText := true, laidKinds := [.data, .pinned], laidTests := true, laidLooks := .later }
def PlainBarsCardSaid : Prop := Claim7.holds Tryd.pinned (.plain (OpenSpec.ofChange plainBarsSpec)) plainBarsCard

/-- THE SECOND FORM's CARD OF 'topiarylaw17.PlainBars'. -/
def plainBarsUptoCard : Claim7 := { stood := { row := plainBarsUptoRow, standIns := [], harness := (true, "75edb58a47f2b0843e4bdbbca5da6b99080f31539eee157054581080e403c525"), looks := false }, kinds := [], alts := [], laidByText := true, laidKinds := [.data, .pinned], laidTests := true, laidLooks := .later }
def PlainBarsUptoCardSaid : Prop := Claim7.holds Tryd.pinned (.plain (OpenSpec.upto plainBarsSpec)) plainBarsUptoCard
end Rows
end Go.Proofs.YtoiibhjenckooaaDoor
