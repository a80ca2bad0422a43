/-
  DERIVED. GIVEN WITH THE SEED: THE CARDS: each row of YtoiibhjenckooabDoorRows.lean that lists a variable, with what it lists TIED to the program's text (the seventh form; the later family's looks); each row that meets fmt, with fmt's text TOLD by the authors' own Lean function (tested against real Go, not proved from fmt's source: count such statements apart). THE CARD IS WHAT COUNTS. Prove the row's statement (the work); the ties are given (YtoiibhjenckooabDoorTie.lean); close each card by the builder's one call (the guide's Derived/Test/ToyasCard.lean, 'card_holds'). Laid BY PROGRAM, IN A SANDBOX (cutbox-door.mjs). By AI agents, Wed Nov 11 2026. No macro, syntax, notation, axiom, sorry.
-/
import Derived.Test.YtoiibhjenckooabDoorRows
import GoSem.ClaimSeven
namespace Go.Proofs.YtoiibhjenckooabDoor
namespace Rows

/-- THE TIED CARD OF 'topiarylaw17.PlainNames'. -/
def plainNamesCard : Claim7 := { stood := { row := plainNamesRow, standIns := [], harness := (true, "3038e994232a18baebe534745a6d766065639107f59f887312c8670474955263"), looks := false }, kinds := [], alts := [], laidByText := true, laidKinds := [.data, .pinned], laidTests := true, laidLooks := .later }
def PlainNamesCardSaid : Prop := Claim7.holds Tryd.pinned (.plain (OpenSpec.ofChange plainNamesSpec)) plainNamesCard

/-- THE TIED CARD OF 'topiarylaw17.PlainTables'. -/
def plainTablesCard : Claim7 := { stood := { row := plainTablesRow, standIns := [], harness := (true, "3038e994232a18baebe534745a6d766065639107f59f887312c8670474955263"), looks := false }, kinds := [], alts := [], laidByText := true, laidKinds := [.data, .pinned], laidTests := true, laidLooks := .later }
def PlainTablesCardSaid : Prop := Claim7.holds Tryd.pinned (.plain (OpenSpec.ofChange plainTablesSpec)) plainTablesCard

/-- THE TIED CARD OF 'topiarylaw17.PlainTexts'. -/
def plainTextsCard : Claim7 := { stood := { row := plainTextsRow, standIns := [], harness := (true, "3038e994232a18baebe534745a6d766065639107f59f887312c8670474955263"), looks := false }, kinds := [], alts := [], laidByText := true, laidKinds := [.data, .pinned], laidTests := true, laidLooks := .later }
def PlainTextsCardSaid : Prop := Claim7.holds Tryd.pinned (.plain (OpenSpec.ofChange plainTextsSpec)) plainTextsCard

/-- THE SECOND FORM's CARD OF 'topiarylaw17.PlainNames'. -/
def plainNamesUptoCard : Claim7 := { stood := { row := plainNamesUptoRow, standIns := [], harness := (true, "3038e994232a18baebe534745a6d766065639107f59f887312c8670474955263"), looks := false }, kinds := [], alts := [], laidByText := true, laidKinds := [.data, .pinned], laidTests := true, laidLooks := .later }
def PlainNamesUptoCardSaid : Prop := Claim7.holds Tryd.pinned (.plain (OpenSpec.upto plainNamesSpec)) plainNamesUptoCard

/-- THE SECOND FORM's CARD OF 'topiarylaw17.PlainTables'. -/
def plainTablesUptoCard : Claim7 := { stood := { row := plainTablesUptoRow, standIns := [], harness := (true, "3038e994232a18baebe534745a6d766065639107f59f887312c8670474955263"), looks := false }, kinds := [], alts := [], laidByText := true, laidKinds := [.data, .pinned], laidTests := true, laidLooks := .later }
def PlainTablesUptoCardSaid : Prop := Claim7.holds Tryd.pinned (.plain (OpenSpec.upto plainTablesSpec)) plainTablesUptoCard

/-- THE SECOND FORM's CARD OF 'topiarylaw17.PlainTexts'. -/
def plainTextsUptoCard : Claim7 := { stood := { row := plainTextsUptoRow, standIns := [], harness := (true, "3038e994232a18baebe534745a6d766065639107f59f887312c8670474955263"), looks := false }, kinds := [], alts := [], laidByText := true, laidKinds := [.data, .pinned], laidTests := true, laidLooks := .later }
def PlainTextsUptoCardSaid : Prop := Claim7.holds Tryd.pinned (.plain (OpenSpec.upto plainTextsSpec)) plainTextsUptoCard
end Rows
end Go.Proofs.YtoiibhjenckooabDoor
