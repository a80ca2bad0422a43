/-
  DERIVED. GIVEN WITH THE SEED: THE CARDS: each row of YtlelnjheocbmnaaDoorRows.lean that lists a variable, with what it lists TIED to the program's text (the seventh form; the later family's looks); each row that meets fmt, with fmt's text TOLD by the authors' own Lean function (tested against real Go, not proved from fmt's source: count such statements apart). THE CARD IS WHAT COUNTS. Prove the row's statement (the work); the ties are given (YtlelnjheocbmnaaDoorTie.lean); close each card by the builder's one call (the guide's Derived/Test/ToyasCard.lean, 'card_holds'). Laid BY PROGRAM, IN A SANDBOX (cutbox-door.mjs). By AI agents, Wed Nov 11 2026. No macro, syntax, notation, axiom, sorry.
-/
import Derived.Test.YtlelnjheocbmnaaDoorRows
import GoSem.ClaimSeven
namespace Go.Proofs.YtlelnjheocbmnaaDoor
namespace Rows

/-- THE TIED CARD OF 'topiarylaw09.CharrefAll'. -/
def charrefAllCard : Claim7 := { stood := { row := charrefAllRow, standIns := [], harness := (true, "31c7a654f79794390181540b4c7c8dd9c3832061e00b62be45ddbe7904bb3775"), looks := false }, kinds := [], alts := [], laidByText := true, laidKinds := [.data, .data, .pinned], laidTests := true, laidLooks := .later }
def CharrefAllCardSaid : Prop := Claim7.holds Tryd.pinned (.plain (OpenSpec.ofChange charrefAllSpec)) charrefAllCard

/-- THE TIED CARD OF 'topiarylaw09.CharrefBack'. -/
def charrefBackCard : Claim7 := { stood := { row := charrefBackRow, standIns := [], harness := (true, "31c7a654f79794390181540b4c7c8dd9c3832061e00b62be45ddbe7904bb3775"), looks := false }, kinds := [], alts := [], laidByText := true, laidKinds := [.data, .data, .pinned], laidTests := true, laidLooks := .later }
def CharrefBackCardSaid : Prop := Claim7.holds Tryd.pinned (.plain (OpenSpec.ofChange charrefBackSpec)) charrefBackCard

/-- THE TIED CARD OF 'topiarylaw09.CharrefPlain'. -/
def charrefPlainCard : Claim7 := { stood := { row := charrefPlainRow, standIns := [], harness := (true, "31c7a654f79794390181540b4c7c8dd9c3832061e00b62be45ddbe7904bb3775"), looks := false }, kinds := [], alts := [], laidByText := true, laidKinds := [.data, .data, .pinned], laidTests := true, laidLooks := .later }
def CharrefPlainCardSaid : Prop := Claim7.holds Tryd.pinned (.plain (OpenSpec.ofChange charrefPlainSpec)) charrefPlainCard

/-- THE TIED CARD OF 'topiarylaw09.CharrefNumbers'. -/
def charrefNumbersCard : Claim7 := { stood := { row := charrefNumbersRow, standIns := [], harness := (true, "31c7a654f79794390181540b4c7c8dd9c3832061e00b62be45ddbe7904bb3775"), looks := false }, kinds := [], alts := [], laidByText := true, laidKinds := [.data, .data, .pinned], laidTests := true, laidLooks := .later }
def CharrefNumbersCardSaid : Prop := Claim7.holds Tryd.pinned (.plain (OpenSpec.ofChange charrefNumbersSpec)) charrefNumbersCard

/-- THE TIED CARD OF 'topiarylaw09.CharrefParts'. -/
def charrefPartsCard : Claim7 := { stood := { row := charrefPartsRow, standIns := [], harness := (true, "31c7a654f79794390181540b4c7c8dd9c3832061e00b62be45ddbe7904bb3775"), looks := false }, kinds := [], alts := [], laidByText := true, laidKinds := [.data, .data, .pinned], laidTests := true, laidLooks := .later }
def CharrefPartsCardSaid : Prop := Claim7.holds Tryd.pinned (.plain (OpenSpec.ofChange charrefPartsSpec)) charrefPartsCard

/-- THE SECOND FORM's CARD OF 'topiarylaw09.CharrefAll'. -/
def charrefAllUptoCard : Claim7 := { stood := { row := charrefAllUptoRow, standIns := [], harness := (true, "31c7a654f79794390181540b4c7c8dd9c3832061e00b62be45ddbe7904bb3775"), looks := false }, kinds := [], alts := [], laidByText := true, laidKinds := [.data, .data, .pinned], laidTests := true, laidLooks := .later }
def CharrefAllUptoCardSaid : Prop := Claim7.holds Tryd.pinned (.plain (OpenSpec.upto charrefAllSpec)) charrefAllUptoCard

/-- THE SECOND FORM's CARD OF 'topiarylaw09.CharrefBack'. -/
def charrefBackUptoCard : Claim7 := { stood := { row := charrefBackUptoRow, standIns := [], harness := (true, "31c7a654f79794390181540b4c7c8dd9c3832061e00b62be45ddbe7904bb3775"), looks := false }, kinds := [], alts := [], laidByText := true, laidKinds := [.data, .data, .pinned], laidTests := true, laidLooks := .later }
def CharrefBackUptoCardSaid : Prop := Claim7.holds Tryd.pinned (.plain (OpenSpec.upto charrefBackSpec)) charrefBackUptoCard

/-- THE SECOND FORM's CARD OF 'topiarylaw09.CharrefPlain'. -/
def charrefPlainUptoCard : Claim7 := { stood := { row := charrefPlainUptoRow, standIns := [], harness := (true, "31c7a654f79794390181540b4c7c8dd9c3832061e00b62be45ddbe7904bb3775"), looks := false }, kinds := [], alts := [], laidByText := true, laidKinds := [.data, .data, .pinned], laidTests := true, laidLooks := .later }
def CharrefPlainUptoCardSaid : Prop := Claim7.holds Tryd.pinned (.plain (OpenSpec.upto charrefPlainSpec)) charrefPlainUptoCard

/-- THE SECOND FORM's CARD OF 'topiarylaw09.CharrefNumbers'. -/
def charrefNumbersUptoCard : Claim7 := { stood := { row := charrefNumbersUptoRow, standIns := [], harness := (true, "31c7a654f79794390181540b4c7c8dd9c3832061e00b62be45ddbe7904bb3775"), looks := false }, kinds := [], alts := [], laidByText := true, laidKinds := [.data, .data, .pinned], laidTests := true, laidLooks := .later }
def CharrefNumbersUptoCardSaid : Prop := Claim7.holds Tryd.pinned (.plain (OpenSpec.upto charrefNumbersSpec)) charrefNumbersUptoCard

/-- THE SECOND FORM's CARD OF 'topiarylaw09.CharrefParts'. -/
def charrefPartsUptoCard : Claim7 := { stood := { row := charrefPartsUptoRow, standIns := [], harness := (true, "31c7a654f79794390181540b4c7c8dd9c3832061e00b62be45ddbe7904bb3775"), looks := false }, kinds := [], alts := [], laidByText := true, laidKinds := [.data, .data, .pinned], laidTests := true, laidLooks := .later }
def CharrefPartsUptoCardSaid : Prop := Claim7.holds Tryd.pinned (.plain (OpenSpec.upto charrefPartsSpec)) charrefPartsUptoCard
end Rows
end Go.Proofs.YtlelnjheocbmnaaDoor
