/-
  DERIVED. GIVEN WITH THE SEED: THE CARDS: each row of YtdniddiaiinggaaDoorRows.lean that lists a variable, with what it lists TIED to the program's text (the seventh form; the later family's looks); each row that meets fmt, with fmt's text TOLD by the authors' own Lean function (tested against real Go, not proved from fmt's source: count such statements apart). THE CARD IS WHAT COUNTS. Prove the row's statement (the work); the ties are given (YtdniddiaiinggaaDoorTie.lean); close each card by the builder's one call (the guide's Derived/Test/ToyasCard.lean, 'card_holds'). Laid BY PROGRAM, IN A SANDBOX (cutbox-door.mjs). By AI agents, Wed Nov 11 2026. No macro, syntax, notation, axiom, sorry.
-/
import Derived.Test.YtdniddiaiinggaaDoorRows
import GoSem.ClaimSeven
namespace Go.Proofs.YtdniddiaiinggaaDoor
namespace Rows

/-- THE TIED CARD OF 'topiarylaw11.ScanEnds'. -/
def scanEndsCard : Claim7 := { stood := { row := scanEndsRow, standIns := [], harness := (true, "daa2664ffd38120765fbeb7f24e1ed019d0c06e4f449e5fc9b966eb809456183"), looks := false }, kinds := [], alts := [], laidByText := true, laidKinds := [.data], laidTests := true, laidLooks := .later }
def ScanEndsCardSaid : Prop := Claim7.holds Tryd.pinned (.plain (OpenSpec.ofChange scanEndsSpec)) scanEndsCard

/-- THE TIED CARD OF 'topiarylaw11.ScanCuts'. -/
def scanCutsCard : Claim7 := { stood := { row := scanCutsRow, standIns := [], harness := (true, "daa2664ffd38120765fbeb7f24e1ed019d0c06e4f449e5fc9b966eb809456183"), looks := false }, kinds := [], alts := [], laidByText := true, laidKinds := [.data], laidTests := true, laidLooks := .later }
def ScanCutsCardSaid : Prop := Claim7.holds Tryd.pinned (.plain (OpenSpec.ofChange scanCutsSpec)) scanCutsCard

/-- THE TIED CARD OF 'topiarylaw11.ScanSorts'. -/
def scanSortsCard : Claim7 := { stood := { row := scanSortsRow, standIns := [], harness := (true, "daa2664ffd38120765fbeb7f24e1ed019d0c06e4f449e5fc9b966eb809456183"), looks := false }, kinds := [], alts := [], laidByText := true, laidKinds := [.data], laidTests := true, laidLooks := .later }
def ScanSortsCardSaid : Prop := Claim7.holds Tryd.pinned (.plain (OpenSpec.ofChange scanSortsSpec)) scanSortsCard

/-- THE TIED CARD OF 'topiarylaw11.ScanTexts'. -/
def scanTextsCard : Claim7 := { stood := { row := scanTextsRow, standIns := [], harness := (true, "daa2664ffd38120765fbeb7f24e1ed019d0c06e4f449e5fc9b966eb809456183"), looks := false }, kinds := [], alts := [], laidByText := true, laidKinds := [.data], laidTests := true, laidLooks := .later }
def ScanTextsCardSaid : Prop := Claim7.holds Tryd.pinned (.plain (OpenSpec.ofChange scanTextsSpec)) scanTextsCard

/-- THE TIED CARD OF 'topiarylaw11.ScanRaws'. -/
def scanRawsCard : Claim7 := { stood := { row := scanRawsRow, standIns := [], harness := (true, "daa2664ffd38120765fbeb7f24e1ed019d0c06e4f449e5fc9b966eb809456183"), looks := false }, kinds := [], alts := [], laidByText := true, laidKinds := [.data], laidTests := true, laidLooks := .later }
def ScanRawsCardSaid : Prop := Claim7.holds Tryd.pinned (.plain (OpenSpec.ofChange scanRawsSpec)) scanRawsCard

/-- THE SECOND FORM's CARD OF 'topiarylaw11.ScanEnds'. -/
def scanEndsUptoCard : Claim7 := { stood := { row := scanEndsUptoRow, standIns := [], harness := (true, "daa2664ffd38120765fbeb7f24e1ed019d0c06e4f449e5fc9b966eb809456183"), looks := false }, kinds := [], alts := [], laidByText := true, laidKinds := [.data], laidTests := true, laidLooks := .later }
def ScanEndsUptoCardSaid : Prop := Claim7.holds Tryd.pinned (.plain (OpenSpec.upto scanEndsSpec)) scanEndsUptoCard

/-- THE SECOND FORM's CARD OF 'topiarylaw11.ScanCuts'. -/
def scanCutsUptoCard : Claim7 := { stood := { row := scanCutsUptoRow, standIns := [], harness := (true, "daa2664ffd38120765fbeb7f24e1ed019d0c06e4f449e5fc9b966eb809456183"), looks := false }, kinds := [], alts := [], laidByText := true, laidKinds := [.data], laidTests := true, laidLooks := .later }
def ScanCutsUptoCardSaid : Prop := Claim7.holds Tryd.pinned (.plain (OpenSpec.upto scanCutsSpec)) scanCutsUptoCard

/-- THE SECOND FORM's CARD OF 'topiarylaw11.ScanSorts'. -/
def scanSortsUptoCard : Claim7 := { stood := { row := scanSortsUptoRow, standIns := [], harness := (true, "daa2664ffd38120765fbeb7f24e1ed019d0c06e4f449e5fc9b966eb809456183"), looks := false }, kinds := [], alts := [], laidByText := true, laidKinds := [.data], laidTests := true, laidLooks := .later }
def ScanSortsUptoCardSaid : Prop := Claim7.holds Tryd.pinned (.plain (OpenSpec.upto scanSortsSpec)) scanSortsUptoCard

/-- THE SECOND FORM's CARD OF 'topiarylaw11.ScanTexts'. -/
def scanTextsUptoCard : Claim7 := { stood := { row := scanTextsUptoRow, standIns := [], harness := (true, "daa2664ffd38120765fbeb7f24e1ed019d0c06e4f449e5fc9b966eb809456183"), looks := false }, kinds := [], alts := [], laidByText := true, laidKinds := [.data], laidTests := true, laidLooks := .later }
def ScanTextsUptoCardSaid : Prop := Claim7.holds Tryd.pinned (.plain (OpenSpec.upto scanTextsSpec)) scanTextsUptoCard

/-- THE SECOND FORM's CARD OF 'topiarylaw11.ScanRaws'. -/
def scanRawsUptoCard : Claim7 := { stood := { row := scanRawsUptoRow, standIns := [], harness := (true, "daa2664ffd38120765fbeb7f24e1ed019d0c06e4f449e5fc9b966eb809456183"), looks := false }, kinds := [], alts := [], laidByText := true, laidKinds := [.data], laidTests := true, laidLooks := .later }
def ScanRawsUptoCardSaid : Prop := Claim7.holds Tryd.pinned (.plain (OpenSpec.upto scanRawsSpec)) scanRawsUptoCard
end Rows
end Go.Proofs.YtdniddiaiinggaaDoor
