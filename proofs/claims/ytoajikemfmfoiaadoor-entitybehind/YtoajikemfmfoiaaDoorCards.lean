/-
  DERIVED. GIVEN WITH THE SEED: THE CARDS: each row of YtoajikemfmfoiaaDoorRows.lean that lists a variable, with what it lists TIED to the program's text (the seventh form; the later family's looks); each row that meets fmt, with fmt's text TOLD by the authors' own Lean function (tested against real Go, not proved from fmt's source: count such statements apart). THE CARD IS WHAT COUNTS. Prove the row's statement (the work); the ties are given (YtoajikemfmfoiaaDoorTie.lean); close each card by the builder's one call (the guide's Derived/Test/ToyasCard.lean, 'card_holds'). Laid BY PROGRAM, IN A SANDBOX (cutbox-door.mjs). By AI agents, Wed Nov 11 2026. No macro, syntax, notation, axiom, sorry.
-/
import Derived.Test.YtoajikemfmfoiaaDoorRows
import GoSem.ClaimSeven
namespace Go.Proofs.YtoajikemfmfoiaaDoor
namespace Rows

/-- THE TIED CARD OF 'topiarylaw08.EntityAll'. -/
def entityAllCard : Claim7 := { stood := { row := entityAllRow, standIns := [], harness := (true, "f1c65db62cff61e1c7135bd2e8fc330128d5ebafde043f606305f7f95ddb6db7"), looks := false }, kinds := [], alts := [], laidByText := true, laidKinds := [.data], laidTests := true, laidLooks := .later }
def EntityAllCardSaid : Prop := Claim7.holds Tryd.pinned (.plain (OpenSpec.ofChange entityAllSpec)) entityAllCard

/-- THE TIED CARD OF 'topiarylaw08.EntityNames'. -/
def entityNamesCard : Claim7 := { stood := { row := entityNamesRow, standIns := [], harness := (true, "f1c65db62cff61e1c7135bd2e8fc330128d5ebafde043f606305f7f95ddb6db7"), looks := false }, kinds := [], alts := [], laidByText := true, laidKinds := [.data], laidTests := true, laidLooks := .later }
def EntityNamesCardSaid : Prop := Claim7.holds Tryd.pinned (.plain (OpenSpec.ofChange entityNamesSpec)) entityNamesCard

/-- THE TIED CARD OF 'topiarylaw08.EntityCodes'. -/
def entityCodesCard : Claim7 := { stood := { row := entityCodesRow, standIns := [], harness := (true, "f1c65db62cff61e1c7135bd2e8fc330128d5ebafde043f606305f7f95ddb6db7"), looks := false }, kinds := [], alts := [], laidByText := true, laidKinds := [.data], laidTests := true, laidLooks := .later }
def EntityCodesCardSaid : Prop := Claim7.holds Tryd.pinned (.plain (OpenSpec.ofChange entityCodesSpec)) entityCodesCard

/-- THE TIED CARD OF 'topiarylaw08.EntityBehind'. -/
def entityBehindCard : Claim7 := { stood := { row := entityBehindRow, standIns := [], harness := (true, "f1c65db62cff61e1c7135bd2e8fc330128d5ebafde043f606305f7f95ddb6db7"), looks := false }, kinds := [], alts := [], laidByText := true, laidKinds := [.data], laidTests := true, laidLooks := .later }
def EntityBehindCardSaid : Prop := Claim7.holds Tryd.pinned (.plain (OpenSpec.ofChange entityBehindSpec)) entityBehindCard

/-- THE SECOND FORM's CARD OF 'topiarylaw08.EntityAll'. -/
def entityAllUptoCard : Claim7 := { stood := { row := entityAllUptoRow, standIns := [], harness := (true, "f1c65db62cff61e1c7135bd2e8fc330128d5ebafde043f606305f7f95ddb6db7"), looks := false }, kinds := [], alts := [], laidByText := true, laidKinds := [.data], laidTests := true, laidLooks := .later }
def EntityAllUptoCardSaid : Prop := Claim7.holds Tryd.pinned (.plain (OpenSpec.upto entityAllSpec)) entityAllUptoCard

/-- THE SECOND FORM's CARD OF 'topiarylaw08.EntityNames'. -/
def entityNamesUptoCard : Claim7 := { stood := { row := entityNamesUptoRow, standIns := [], harness := (true, "f1c65db62cff61e1c7135bd2e8fc330128d5ebafde043f606305f7f95ddb6db7"), looks := false }, kinds := [], alts := [], laidByText := true, laidKinds := [.data], laidTests := true, laidLooks := .later }
def EntityNamesUptoCardSaid : Prop := Claim7.holds Tryd.pinned (.plain (OpenSpec.upto entityNamesSpec)) entityNamesUptoCard

/-- THE SECOND FORM's CARD OF 'topiarylaw08.EntityCodes'. -/
def entityCodesUptoCard : Claim7 := { stood := { row := entityCodesUptoRow, standIns := [], harness := (true, "f1c65db62cff61e1c7135bd2e8fc330128d5ebafde043f606305f7f95ddb6db7"), looks := false }, kinds := [], alts := [], laidByText := true, laidKinds := [.data], laidTests := true, laidLooks := .later }
def EntityCodesUptoCardSaid : Prop := Claim7.holds Tryd.pinned (.plain (OpenSpec.upto entityCodesSpec)) entityCodesUptoCard

/-- THE SECOND FORM's CARD OF 'topiarylaw08.EntityBehind'. -/
def entityBehindUptoCard : Claim7 := { stood := { row := entityBehindUptoRow, standIns := [], harness := (true, "f1c65db62cff61e1c7135bd2e8fc330128d5ebafde043f606305f7f95ddb6db7"), looks := false }, kinds := [], alts := [], laidByText := true, laidKinds := [.data], laidTests := true, laidLooks := .later }
def EntityBehindUptoCardSaid : Prop := Claim7.holds Tryd.pinned (.plain (OpenSpec.upto entityBehindSpec)) entityBehindUptoCard
end Rows
end Go.Proofs.YtoajikemfmfoiaaDoor
