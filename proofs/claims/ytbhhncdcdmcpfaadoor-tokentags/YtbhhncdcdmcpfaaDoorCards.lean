/-
  DERIVED. GIVEN WITH THE SEED: THE CARDS: each row of YtbhhncdcdmcpfaaDoorRows.lean that lists a variable, with what it lists TIED to the program's text (the seventh form; the later family's looks); each row that meets fmt, with fmt's text TOLD by the authors' own Lean function (tested against real Go, not proved from fmt's source: count such statements apart). THE CARD IS WHAT COUNTS. Prove the row's statement (the work); the ties are given (YtbhhncdcdmcpfaaDoorTie.lean); close each card by the builder's one call (the guide's Derived/Test/ToyasCard.lean, 'card_holds'). Laid BY PROGRAM, IN A SANDBOX (cutbox-door.mjs). By AI agents, Wed Nov 11 2026. No macro, syntax, notation, axiom, sorry.
-/
import Derived.Test.YtbhhncdcdmcpfaaDoorRows
import GoSem.ClaimSeven
namespace Go.Proofs.YtbhhncdcdmcpfaaDoor
namespace Rows

/-- THE TIED CARD OF 'topiarylaw10.TokenGoes'. -/
def tokenGoesCard : Claim7 := { stood := { row := tokenGoesRow, standIns := [], harness := (true, "0ed50e53686e639169d2b416d4040142430c8ec3b633223d4c0098bc04e6dfa3"), looks := false }, kinds := [], alts := [], laidByText := true, laidKinds := [.data], laidTests := true, laidLooks := .later }
def TokenGoesCardSaid : Prop := Claim7.holds Tryd.pinned (.plain (OpenSpec.ofChange tokenGoesSpec)) tokenGoesCard

/-- THE TIED CARD OF 'topiarylaw10.TokenTags'. -/
def tokenTagsCard : Claim7 := { stood := { row := tokenTagsRow, standIns := [], harness := (true, "0ed50e53686e639169d2b416d4040142430c8ec3b633223d4c0098bc04e6dfa3"), looks := false }, kinds := [], alts := [], laidByText := true, laidKinds := [.data], laidTests := true, laidLooks := .later }
def TokenTagsCardSaid : Prop := Claim7.holds Tryd.pinned (.plain (OpenSpec.ofChange tokenTagsSpec)) tokenTagsCard

/-- THE TIED CARD OF 'topiarylaw10.TokenComments'. -/
def tokenCommentsCard : Claim7 := { stood := { row := tokenCommentsRow, standIns := [], harness := (true, "0ed50e53686e639169d2b416d4040142430c8ec3b633223d4c0098bc04e6dfa3"), looks := false }, kinds := [], alts := [], laidByText := true, laidKinds := [.data], laidTests := true, laidLooks := .later }
def TokenCommentsCardSaid : Prop := Claim7.holds Tryd.pinned (.plain (OpenSpec.ofChange tokenCommentsSpec)) tokenCommentsCard

/-- THE TIED CARD OF 'topiarylaw10.TokenRaws'. -/
def tokenRawsCard : Claim7 := { stood := { row := tokenRawsRow, standIns := [], harness := (true, "0ed50e53686e639169d2b416d4040142430c8ec3b633223d4c0098bc04e6dfa3"), looks := false }, kinds := [], alts := [], laidByText := true, laidKinds := [.data], laidTests := true, laidLooks := .later }
def TokenRawsCardSaid : Prop := Claim7.holds Tryd.pinned (.plain (OpenSpec.ofChange tokenRawsSpec)) tokenRawsCard

/-- THE TIED CARD OF 'topiarylaw10.TokenSorts'. -/
def tokenSortsCard : Claim7 := { stood := { row := tokenSortsRow, standIns := [], harness := (true, "0ed50e53686e639169d2b416d4040142430c8ec3b633223d4c0098bc04e6dfa3"), looks := false }, kinds := [], alts := [], laidByText := true, laidKinds := [.data], laidTests := true, laidLooks := .later }
def TokenSortsCardSaid : Prop := Claim7.holds Tryd.pinned (.plain (OpenSpec.ofChange tokenSortsSpec)) tokenSortsCard

/-- THE TIED CARD OF 'topiarylaw10.TokenDoctypes'. -/
def tokenDoctypesCard : Claim7 := { stood := { row := tokenDoctypesRow, standIns := [], harness := (true, "0ed50e53686e639169d2b416d4040142430c8ec3b633223d4c0098bc04e6dfa3"), looks := false }, kinds := [], alts := [], laidByText := true, laidKinds := [.data], laidTests := true, laidLooks := .later }
def TokenDoctypesCardSaid : Prop := Claim7.holds Tryd.pinned (.plain (OpenSpec.ofChange tokenDoctypesSpec)) tokenDoctypesCard

/-- THE SECOND FORM's CARD OF 'topiarylaw10.TokenGoes'. -/
def tokenGoesUptoCard : Claim7 := { stood := { row := tokenGoesUptoRow, standIns := [], harness := (true, "0ed50e53686e639169d2b416d4040142430c8ec3b633223d4c0098bc04e6dfa3"), looks := false }, kinds := [], alts := [], laidByText := true, laidKinds := [.data], laidTests := true, laidLooks := .later }
def TokenGoesUptoCardSaid : Prop := Claim7.holds Tryd.pinned (.plain (OpenSpec.upto tokenGoesSpec)) tokenGoesUptoCard

/-- THE SECOND FORM's CARD OF 'topiarylaw10.TokenTags'. -/
def tokenTagsUptoCard : Claim7 := { stood := { row := tokenTagsUptoRow, standIns := [], harness := (true, "0ed50e53686e639169d2b416d4040142430c8ec3b633223d4c0098bc04e6dfa3"), looks := false }, kinds := [], alts := [], laidByText := true, laidKinds := [.data], laidTests := true, laidLooks := .later }
def TokenTagsUptoCardSaid : Prop := Claim7.holds Tryd.pinned (.plain (OpenSpec.upto tokenTagsSpec)) tokenTagsUptoCard

/-- THE SECOND FORM's CARD OF 'topiarylaw10.TokenComments'. -/
def tokenCommentsUptoCard : Claim7 := { stood := { row := tokenCommentsUptoRow, standIns := [], harness := (true, "0ed50e53686e639169d2b416d4040142430c8ec3b633223d4c0098bc04e6dfa3"), looks := false }, kinds := [], alts := [], laidByText := true, laidKinds := [.data], laidTests := true, laidLooks := .later }
def TokenCommentsUptoCardSaid : Prop := Claim7.holds Tryd.pinned (.plain (OpenSpec.upto tokenCommentsSpec)) tokenCommentsUptoCard

/-- THE SECOND FORM's CARD OF 'topiarylaw10.TokenRaws'. -/
def tokenRawsUptoCard : Claim7 := { stood := { row := tokenRawsUptoRow, standIns := [], harness := (true, "0ed50e53686e639169d2b416d4040142430c8ec3b633223d4c0098bc04e6dfa3"), looks := false }, kinds := [], alts := [], laidByText := true, laidKinds := [.data], laidTests := true, laidLooks := .later }
def TokenRawsUptoCardSaid : Prop := Claim7.holds Tryd.pinned (.plain (OpenSpec.upto tokenRawsSpec)) tokenRawsUptoCard

/-- THE SECOND FORM's CARD OF 'topiarylaw10.TokenSorts'. -/
def tokenSortsUptoCard : Claim7 := { stood := { row := tokenSortsUptoRow, standIns := [], harness := (true, "0ed50e53686e639169d2b416d4040142430c8ec3b633223d4c0098bc04e6dfa3"), looks := false }, kinds := [], alts := [], laidByText := true, laidKinds := [.data], laidTests := true, laidLooks := .later }
def TokenSortsUptoCardSaid : Prop := Claim7.holds Tryd.pinned (.plain (OpenSpec.upto tokenSortsSpec)) tokenSortsUptoCard

/-- THE SECOND FORM's CARD OF 'topiarylaw10.TokenDoctypes'. -/
def tokenDoctypesUptoCard : Claim7 := { stood := { row := tokenDoctypesUptoRow, standIns := [], harness := (true, "0ed50e53686e639169d2b416d4040142430c8ec3b633223d4c0098bc04e6dfa3"), looks := false }, kinds := [], alts := [], laidByText := true, laidKinds := [.data], laidTests := true, laidLooks := .later }
def TokenDoctypesUptoCardSaid : Prop := Claim7.holds Tryd.pinned (.plain (OpenSpec.upto tokenDoctypesSpec)) tokenDoctypesUptoCard
end Rows
end Go.Proofs.YtbhhncdcdmcpfaaDoor
