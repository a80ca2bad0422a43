/-
  NARROWER THAN 'FOR EVERY INPUT', by the rows' own cells (each row's printed sentence says how): TokenGoes: laid · TokenTags: laid · TokenComments: laid · TokenRaws: laid · TokenSorts: laid · TokenDoctypes: laid.
  DERIVED. THE GIVEN ROWS OF THIS SEAT. 6 by the template 'for every input the law returns true; each argument reads behind the call as it read before'; 0 by the template 'total and deterministic' (their statements: YtbhhncdcdmcpfaaDoorTotals.lean).
  GIVEN WITH THE SEED: the statements are not yours to turn. If you find one false, say at which input.
  Laid BY PROGRAM, IN A SANDBOX (cutbox-rows.mjs): the forced cells as the released guide's own fill.sh prints them over the translation ebaa84f6bed41e0e… (all of the seat's roots in one cut). By AI agents, Wed Nov 11 2026. No macro, syntax, notation, axiom, sorry.
-/
import Derived.Test.YtbhhncdcdmcpfaaDoorChecked
import GoSem.Claim
import GoSem.ClaimJoined
import GoSem.ClaimMapViews
import Derived.JoinedTies
import Derived.KernelRfl
namespace Go.Proofs.YtbhhncdcdmcpfaaDoor
/- THE CELL 'sum', in the pinned program and in every row, IS THE sha256 OF THE DUMP (.gsa) THAT YtbhhncdcdmcpfaaDoorProg.lean LOADS. Nothing in Lean hashes anything: it is a label: what it is worth is what the hold of that sum in a sandbox is worth. -/
noncomputable def Tryd.pinned : Pinned := { name := "ytbhhncdcdmcpfaadoor", sum := "ebaa84f6bed41e0ee47856715d001a1aa26d2dd77b65023760b80e0a2ca7db58", checked := Tryd.checked }
namespace Rows
def none {H : Type} : Left H := { results := [], args := [] }

/- WHAT THE LISTED PACKAGE-LEVEL VARIABLES READ AS WHEN THE CALL BEGINS. Each datum BY PROGRAM (the guide's laid-datum.mjs) off the statement by which the dump's own 'gosem.cut.vars' lays the variable. In a bare row this is a premise. The card (YtbhhncdcdmcpfaaDoorCards.lean) ties it to the program's text. -/
def laid_topiary_entity_codes {H : Type} : DataW H := .agg [.lit (.int .i32 8364), .lit (.int .i32 129), .lit (.int .i32 8218), .lit (.int .i32 402), .lit (.int .i32 8222), .lit (.int .i32 8230), .lit (.int .i32 8224), .lit (.int .i32 8225), .lit (.int .i32 710), .lit (.int .i32 8240), .lit (.int .i32 352), .lit (.int .i32 8249), .lit (.int .i32 338), .lit (.int .i32 141), .lit (.int .i32 381), .lit (.int .i32 143), .lit (.int .i32 144), .lit (.int .i32 8216), .lit (.int .i32 8217), .lit (.int .i32 8220), .lit (.int .i32 8221), .lit (.int .i32 8226), .lit (.int .i32 8211), .lit (.int .i32 8212), .lit (.int .i32 732), .lit (.int .i32 8482), .lit (.int .i32 353), .lit (.int .i32 8250), .lit (.int .i32 339), .lit (.int .i32 157), .lit (.int .i32 382), .lit (.int .i32 376)]

/-- 'topiarylaw10.TokenGoes': WHATEVER THE INPUT: true; the input reads as it did. -/
def tokenGoesSpec : ChangeSpec := { name := "tokenGoes", fn := fun _ => fun
  | [d1, d2] => { results := [.lit (.bool true)], args := [d1, d2] }
  | _ => none }
def tokenGoesRow : OpenClaim := { program := "ytbhhncdcdmcpfaadoor", sum := "ebaa84f6bed41e0ee47856715d001a1aa26d2dd77b65023760b80e0a2ca7db58", func := "topiary/topiarylaw10.TokenGoes", spec := "tokenGoes", inPlace := ["internal/bytealg.IndexByteString"], unfollowed := true, recurses := true, named := ["topiary/entity.codes"], apart := false, laid := [("topiary/entity.codes", laid_topiary_entity_codes)] }
def TokenGoesSaid : Prop := tokenGoesRow.holds Tryd.pinned (OpenSpec.ofChange tokenGoesSpec)

/-- ITS FALSE NEIGHBOUR: 'it returns false'. Refute it at one input. -/
def tokenGoesWrong : ChangeSpec := { name := "tokenGoes", fn := fun _ => fun
  | [d1, d2] => { results := [.lit (.bool false)], args := [d1, d2] }
  | _ => none }
def TokenGoesWrongFalsely : Prop := tokenGoesRow.holds Tryd.pinned (OpenSpec.ofChange tokenGoesWrong)

/-- 'topiarylaw10.TokenTags': WHATEVER THE INPUT: true; the input reads as it did. -/
def tokenTagsSpec : ChangeSpec := { name := "tokenTags", fn := fun _ => fun
  | [d1, d2, d3, d4] => { results := [.lit (.bool true)], args := [d1, d2, d3, d4] }
  | _ => none }
def tokenTagsRow : OpenClaim := { program := "ytbhhncdcdmcpfaadoor", sum := "ebaa84f6bed41e0ee47856715d001a1aa26d2dd77b65023760b80e0a2ca7db58", func := "topiary/topiarylaw10.TokenTags", spec := "tokenTags", inPlace := ["internal/bytealg.IndexByteString"], unfollowed := true, recurses := true, named := ["topiary/entity.codes"], apart := false, laid := [("topiary/entity.codes", laid_topiary_entity_codes)] }
def TokenTagsSaid : Prop := tokenTagsRow.holds Tryd.pinned (OpenSpec.ofChange tokenTagsSpec)

/-- ITS FALSE NEIGHBOUR: 'it returns false'. Refute it at one input. -/
def tokenTagsWrong : ChangeSpec := { name := "tokenTags", fn := fun _ => fun
  | [d1, d2, d3, d4] => { results := [.lit (.bool false)], args := [d1, d2, d3, d4] }
  | _ => none }
def TokenTagsWrongFalsely : Prop := tokenTagsRow.holds Tryd.pinned (OpenSpec.ofChange tokenTagsWrong)

/-- 'topiarylaw10.TokenComments': WHATEVER THE INPUT: true; the input reads as it did. -/
def tokenCommentsSpec : ChangeSpec := { name := "tokenComments", fn := fun _ => fun
  | [d1, d2] => { results := [.lit (.bool true)], args := [d1, d2] }
  | _ => none }
def tokenCommentsRow : OpenClaim := { program := "ytbhhncdcdmcpfaadoor", sum := "ebaa84f6bed41e0ee47856715d001a1aa26d2dd77b65023760b80e0a2ca7db58", func := "topiary/topiarylaw10.TokenComments", spec := "tokenComments", inPlace := ["internal/bytealg.IndexByteString"], unfollowed := true, recurses := true, named := ["topiary/entity.codes"], apart := false, laid := [("topiary/entity.codes", laid_topiary_entity_codes)] }
def TokenCommentsSaid : Prop := tokenCommentsRow.holds Tryd.pinned (OpenSpec.ofChange tokenCommentsSpec)

/-- ITS FALSE NEIGHBOUR: 'it returns false'. Refute it at one input. -/
def tokenCommentsWrong : ChangeSpec := { name := "tokenComments", fn := fun _ => fun
  | [d1, d2] => { results := [.lit (.bool false)], args := [d1, d2] }
  | _ => none }
def TokenCommentsWrongFalsely : Prop := tokenCommentsRow.holds Tryd.pinned (OpenSpec.ofChange tokenCommentsWrong)

/-- 'topiarylaw10.TokenRaws': WHATEVER THE INPUT: true; the input reads as it did. -/
def tokenRawsSpec : ChangeSpec := { name := "tokenRaws", fn := fun _ => fun
  | [d1, d2, d3] => { results := [.lit (.bool true)], args := [d1, d2, d3] }
  | _ => none }
def tokenRawsRow : OpenClaim := { program := "ytbhhncdcdmcpfaadoor", sum := "ebaa84f6bed41e0ee47856715d001a1aa26d2dd77b65023760b80e0a2ca7db58", func := "topiary/topiarylaw10.TokenRaws", spec := "tokenRaws", inPlace := ["internal/bytealg.IndexByteString"], unfollowed := true, recurses := true, named := ["topiary/entity.codes"], apart := false, laid := [("topiary/entity.codes", laid_topiary_entity_codes)] }
def TokenRawsSaid : Prop := tokenRawsRow.holds Tryd.pinned (OpenSpec.ofChange tokenRawsSpec)

/-- ITS FALSE NEIGHBOUR: 'it returns false'. Refute it at one input. -/
def tokenRawsWrong : ChangeSpec := { name := "tokenRaws", fn := fun _ => fun
  | [d1, d2, d3] => { results := [.lit (.bool false)], args := [d1, d2, d3] }
  | _ => none }
def TokenRawsWrongFalsely : Prop := tokenRawsRow.holds Tryd.pinned (OpenSpec.ofChange tokenRawsWrong)

/-- 'topiarylaw10.TokenSorts': WHATEVER THE INPUT: true; the input reads as it did. -/
def tokenSortsSpec : ChangeSpec := { name := "tokenSorts", fn := fun _ => fun
  | [d] => { results := [.lit (.bool true)], args := [d] }
  | _ => none }
def tokenSortsRow : OpenClaim := { program := "ytbhhncdcdmcpfaadoor", sum := "ebaa84f6bed41e0ee47856715d001a1aa26d2dd77b65023760b80e0a2ca7db58", func := "topiary/topiarylaw10.TokenSorts", spec := "tokenSorts", inPlace := ["internal/bytealg.IndexByteString"], unfollowed := true, recurses := true, named := ["topiary/entity.codes"], apart := false, laid := [("topiary/entity.codes", laid_topiary_entity_codes)] }
def TokenSortsSaid : Prop := tokenSortsRow.holds Tryd.pinned (OpenSpec.ofChange tokenSortsSpec)

/-- ITS FALSE NEIGHBOUR: 'it returns false'. Refute it at one input. -/
def tokenSortsWrong : ChangeSpec := { name := "tokenSorts", fn := fun _ => fun
  | [d] => { results := [.lit (.bool false)], args := [d] }
  | _ => none }
def TokenSortsWrongFalsely : Prop := tokenSortsRow.holds Tryd.pinned (OpenSpec.ofChange tokenSortsWrong)

/-- 'topiarylaw10.TokenDoctypes': WHATEVER THE INPUT: true; the input reads as it did. -/
def tokenDoctypesSpec : ChangeSpec := { name := "tokenDoctypes", fn := fun _ => fun
  | [d1, d2, d3] => { results := [.lit (.bool true)], args := [d1, d2, d3] }
  | _ => none }
def tokenDoctypesRow : OpenClaim := { program := "ytbhhncdcdmcpfaadoor", sum := "ebaa84f6bed41e0ee47856715d001a1aa26d2dd77b65023760b80e0a2ca7db58", func := "topiary/topiarylaw10.TokenDoctypes", spec := "tokenDoctypes", inPlace := ["internal/bytealg.IndexByteString"], unfollowed := true, recurses := true, named := ["topiary/entity.codes"], apart := false, laid := [("topiary/entity.codes", laid_topiary_entity_codes)] }
def TokenDoctypesSaid : Prop := tokenDoctypesRow.holds Tryd.pinned (OpenSpec.ofChange tokenDoctypesSpec)

/-- ITS FALSE NEIGHBOUR: 'it returns false'. Refute it at one input. -/
def tokenDoctypesWrong : ChangeSpec := { name := "tokenDoctypes", fn := fun _ => fun
  | [d1, d2, d3] => { results := [.lit (.bool false)], args := [d1, d2, d3] }
  | _ => none }
def TokenDoctypesWrongFalsely : Prop := tokenDoctypesRow.holds Tryd.pinned (OpenSpec.ofChange tokenDoctypesWrong)

/- THE SECOND FORM. 'bulk': how many values and letters a reading holds, each counted each time it is reached (what is shared counts as often as it is met; a slice's spare places count too). A statement '..UptoSaid' is the law's where the arguments, and the package variables that the reading takes, are together of bulk at most 1048576: NARROWER than '..Said'. Prove '..Said' where nothing that the law and all that it calls make is longer than what came in: it says more and counts as full. Else prove '..UptoSaid'. A law counts once. -/
mutual
def uptoBulk {H : Type} : DataW H → Nat
  | .lit (.string bytes) => bytes.length + 1
  | .lit _ => 1
  | .nil => 1
  | .ptr d => uptoBulk d + 1
  | .slice elems spare => uptoBulkAll elems + uptoBulkAll spare + 1
  | .agg parts => uptoBulkAll parts + 1
  | .iface _ d => uptoBulk d + 1
  | .map entries => uptoBulkEntries entries + 1
  | .held _ => 1
def uptoBulkAll {H : Type} : List (DataW H) → Nat
  | [] => 0
  | d :: r => uptoBulk d + uptoBulkAll r
def uptoBulkEntries {H : Type} : List (Lit × DataW H) → Nat
  | [] => 0
  | x :: r => uptoBulkEntry x + uptoBulkEntries r
def uptoBulkEntry {H : Type} : Lit × DataW H → Nat
  | (.string bytes, d) => bytes.length + uptoBulk d + 1
  | (_, d) => uptoBulk d + 1
 end
def uptoSmall : (H : Type) → List (DataW H) → Bool := fun _ ds => decide (uptoBulkAll ds ≤ 1048576)
def OpenSpec.upto (s : _root_.Go.ChangeSpec) : _root_.Go.OpenSpec := { _root_.Go.OpenSpec.ofChange s with cond := some uptoSmall }

/-- 'topiarylaw10.TokenGoes', WHERE WHAT IT READS IS OF BULK AT MOST 1048576: true; the input reads as it did. -/
def tokenGoesUptoRow : OpenClaim := { program := "ytbhhncdcdmcpfaadoor", sum := "ebaa84f6bed41e0ee47856715d001a1aa26d2dd77b65023760b80e0a2ca7db58", func := "topiary/topiarylaw10.TokenGoes", spec := "tokenGoes", inPlace := ["internal/bytealg.IndexByteString"], unfollowed := true, recurses := true, named := ["topiary/entity.codes"], apart := false, laid := [("topiary/entity.codes", laid_topiary_entity_codes)], narrowed := true }
def TokenGoesUptoSaid : Prop := tokenGoesUptoRow.holds Tryd.pinned (OpenSpec.upto tokenGoesSpec)

/-- 'topiarylaw10.TokenTags', WHERE WHAT IT READS IS OF BULK AT MOST 1048576: true; the input reads as it did. -/
def tokenTagsUptoRow : OpenClaim := { program := "ytbhhncdcdmcpfaadoor", sum := "ebaa84f6bed41e0ee47856715d001a1aa26d2dd77b65023760b80e0a2ca7db58", func := "topiary/topiarylaw10.TokenTags", spec := "tokenTags", inPlace := ["internal/bytealg.IndexByteString"], unfollowed := true, recurses := true, named := ["topiary/entity.codes"], apart := false, laid := [("topiary/entity.codes", laid_topiary_entity_codes)], narrowed := true }
def TokenTagsUptoSaid : Prop := tokenTagsUptoRow.holds Tryd.pinned (OpenSpec.upto tokenTagsSpec)

/-- 'topiarylaw10.TokenComments', WHERE WHAT IT READS IS OF BULK AT MOST 1048576: true; the input reads as it did. -/
def tokenCommentsUptoRow : OpenClaim := { program := "ytbhhncdcdmcpfaadoor", sum := "ebaa84f6bed41e0ee47856715d001a1aa26d2dd77b65023760b80e0a2ca7db58", func := "topiary/topiarylaw10.TokenComments", spec := "tokenComments", inPlace := ["internal/bytealg.IndexByteString"], unfollowed := true, recurses := true, named := ["topiary/entity.codes"], apart := false, laid := [("topiary/entity.codes", laid_topiary_entity_codes)], narrowed := true }
def TokenCommentsUptoSaid : Prop := tokenCommentsUptoRow.holds Tryd.pinned (OpenSpec.upto tokenCommentsSpec)

/-- 'topiarylaw10.TokenRaws', WHERE WHAT IT READS IS OF BULK AT MOST 1048576: true; the input reads as it did. -/
def tokenRawsUptoRow : OpenClaim := { program := "ytbhhncdcdmcpfaadoor", sum := "ebaa84f6bed41e0ee47856715d001a1aa26d2dd77b65023760b80e0a2ca7db58", func := "topiary/topiarylaw10.TokenRaws", spec := "tokenRaws", inPlace := ["internal/bytealg.IndexByteString"], unfollowed := true, recurses := true, named := ["topiary/entity.codes"], apart := false, laid := [("topiary/entity.codes", laid_topiary_entity_codes)], narrowed := true }
def TokenRawsUptoSaid : Prop := tokenRawsUptoRow.holds Tryd.pinned (OpenSpec.upto tokenRawsSpec)

/-- 'topiarylaw10.TokenSorts', WHERE WHAT IT READS IS OF BULK AT MOST 1048576: true; the input reads as it did. -/
def tokenSortsUptoRow : OpenClaim := { program := "ytbhhncdcdmcpfaadoor", sum := "ebaa84f6bed41e0ee47856715d001a1aa26d2dd77b65023760b80e0a2ca7db58", func := "topiary/topiarylaw10.TokenSorts", spec := "tokenSorts", inPlace := ["internal/bytealg.IndexByteString"], unfollowed := true, recurses := true, named := ["topiary/entity.codes"], apart := false, laid := [("topiary/entity.codes", laid_topiary_entity_codes)], narrowed := true }
def TokenSortsUptoSaid : Prop := tokenSortsUptoRow.holds Tryd.pinned (OpenSpec.upto tokenSortsSpec)

/-- 'topiarylaw10.TokenDoctypes', WHERE WHAT IT READS IS OF BULK AT MOST 1048576: true; the input reads as it did. -/
def tokenDoctypesUptoRow : OpenClaim := { program := "ytbhhncdcdmcpfaadoor", sum := "ebaa84f6bed41e0ee47856715d001a1aa26d2dd77b65023760b80e0a2ca7db58", func := "topiary/topiarylaw10.TokenDoctypes", spec := "tokenDoctypes", inPlace := ["internal/bytealg.IndexByteString"], unfollowed := true, recurses := true, named := ["topiary/entity.codes"], apart := false, laid := [("topiary/entity.codes", laid_topiary_entity_codes)], narrowed := true }
def TokenDoctypesUptoSaid : Prop := tokenDoctypesUptoRow.holds Tryd.pinned (OpenSpec.upto tokenDoctypesSpec)

end Rows
end Go.Proofs.YtbhhncdcdmcpfaaDoor
