/-
  NARROWER THAN 'FOR EVERY INPUT', by the rows' own cells (each row's printed sentence says how): EntityAll: laid · EntityNames: laid · EntityCodes: laid · EntityBehind: laid.
  DERIVED. THE GIVEN ROWS OF THIS SEAT. 4 by the template 'for every input the law returns true; each argument reads behind the call as it read before'; 0 by the template 'total and deterministic' (their statements: YtoajikemfmfoiaaDoorTotals.lean).
  GIVEN WITH THE SEED: the statements are not yours to turn. If you find one false, say at which input.
  Laid BY PROGRAM, IN A SANDBOX (cutbox-rows.mjs): the forced cells as the released guide's own fill.sh prints them over the translation 89432ffcf3fb003d… (all of the seat's roots in one cut). By AI agents, Wed Nov 11 2026. No macro, syntax, notation, axiom, sorry.
-/
import Derived.Test.YtoajikemfmfoiaaDoorChecked
import GoSem.Claim
import GoSem.ClaimJoined
import GoSem.ClaimMapViews
import Derived.JoinedTies
import Derived.KernelRfl
namespace Go.Proofs.YtoajikemfmfoiaaDoor
/- THE CELL 'sum', in the pinned program and in every row, IS THE sha256 OF THE DUMP (.gsa) THAT YtoajikemfmfoiaaDoorProg.lean LOADS. Nothing in Lean hashes anything: it is a label: what it is worth is what the hold of that sum in a sandbox is worth. -/
noncomputable def Tryd.pinned : Pinned := { name := "ytoajikemfmfoiaadoor", sum := "89432ffcf3fb003d5fbe73a89de71f3df74b74cc31d2ceac61dbc9b3a49cc34b", checked := Tryd.checked }
namespace Rows
def none {H : Type} : Left H := { results := [], args := [] }

/- WHAT THE LISTED PACKAGE-LEVEL VARIABLES READ AS WHEN THE CALL BEGINS. Each datum BY PROGRAM (the guide's laid-datum.mjs) off the statement by which the dump's own 'gosem.cut.vars' lays the variable. In a bare row this is a premise. The card (YtoajikemfmfoiaaDoorCards.lean) ties it to the program's text. -/
def laid_topiary_entity_codes {H : Type} : DataW H := .agg [.lit (.int .i32 8364), .lit (.int .i32 129), .lit (.int .i32 8218), .lit (.int .i32 402), .lit (.int .i32 8222), .lit (.int .i32 8230), .lit (.int .i32 8224), .lit (.int .i32 8225), .lit (.int .i32 710), .lit (.int .i32 8240), .lit (.int .i32 352), .lit (.int .i32 8249), .lit (.int .i32 338), .lit (.int .i32 141), .lit (.int .i32 381), .lit (.int .i32 143), .lit (.int .i32 144), .lit (.int .i32 8216), .lit (.int .i32 8217), .lit (.int .i32 8220), .lit (.int .i32 8221), .lit (.int .i32 8226), .lit (.int .i32 8211), .lit (.int .i32 8212), .lit (.int .i32 732), .lit (.int .i32 8482), .lit (.int .i32 353), .lit (.int .i32 8250), .lit (.int .i32 339), .lit (.int .i32 157), .lit (.int .i32 382), .lit (.int .i32 376)]

/-- 'topiarylaw08.EntityAll': WHATEVER THE INPUT: true; the input reads as it did. -/
def entityAllSpec : ChangeSpec := { name := "entityAll", fn := fun _ => fun
  | [d1, d2, d3, d4] => { results := [.lit (.bool true)], args := [d1, d2, d3, d4] }
  | _ => none }
def entityAllRow : OpenClaim := { program := "ytoajikemfmfoiaadoor", sum := "89432ffcf3fb003d5fbe73a89de71f3df74b74cc31d2ceac61dbc9b3a49cc34b", func := "topiary/topiarylaw08.EntityAll", spec := "entityAll", named := ["topiary/entity.codes"], apart := false, laid := [("topiary/entity.codes", laid_topiary_entity_codes)] }
def EntityAllSaid : Prop := entityAllRow.holds Tryd.pinned (OpenSpec.ofChange entityAllSpec)

/-- ITS FALSE NEIGHBOUR: 'it returns false'. Refute it at one input. -/
def entityAllWrong : ChangeSpec := { name := "entityAll", fn := fun _ => fun
  | [d1, d2, d3, d4] => { results := [.lit (.bool false)], args := [d1, d2, d3, d4] }
  | _ => none }
def EntityAllWrongFalsely : Prop := entityAllRow.holds Tryd.pinned (OpenSpec.ofChange entityAllWrong)

/-- 'topiarylaw08.EntityNames': WHATEVER THE INPUT: true; the input reads as it did. -/
def entityNamesSpec : ChangeSpec := { name := "entityNames", fn := fun _ => fun
  | [] => { results := [.lit (.bool true)], args := [] }
  | _ => none }
def entityNamesRow : OpenClaim := { program := "ytoajikemfmfoiaadoor", sum := "89432ffcf3fb003d5fbe73a89de71f3df74b74cc31d2ceac61dbc9b3a49cc34b", func := "topiary/topiarylaw08.EntityNames", spec := "entityNames", named := ["topiary/entity.codes"], apart := false, laid := [("topiary/entity.codes", laid_topiary_entity_codes)] }
def EntityNamesSaid : Prop := entityNamesRow.holds Tryd.pinned (OpenSpec.ofChange entityNamesSpec)

/-- ITS FALSE NEIGHBOUR: 'it returns false'. Refute it at one input. -/
def entityNamesWrong : ChangeSpec := { name := "entityNames", fn := fun _ => fun
  | [] => { results := [.lit (.bool false)], args := [] }
  | _ => none }
def EntityNamesWrongFalsely : Prop := entityNamesRow.holds Tryd.pinned (OpenSpec.ofChange entityNamesWrong)

/-- 'topiarylaw08.EntityCodes': WHATEVER THE INPUT: true; the input reads as it did. -/
def entityCodesSpec : ChangeSpec := { name := "entityCodes", fn := fun _ => fun
  | [d] => { results := [.lit (.bool true)], args := [d] }
  | _ => none }
def entityCodesRow : OpenClaim := { program := "ytoajikemfmfoiaadoor", sum := "89432ffcf3fb003d5fbe73a89de71f3df74b74cc31d2ceac61dbc9b3a49cc34b", func := "topiary/topiarylaw08.EntityCodes", spec := "entityCodes", named := ["topiary/entity.codes"], apart := false, laid := [("topiary/entity.codes", laid_topiary_entity_codes)] }
def EntityCodesSaid : Prop := entityCodesRow.holds Tryd.pinned (OpenSpec.ofChange entityCodesSpec)

/-- ITS FALSE NEIGHBOUR: 'it returns false'. Refute it at one input. -/
def entityCodesWrong : ChangeSpec := { name := "entityCodes", fn := fun _ => fun
  | [d] => { results := [.lit (.bool false)], args := [d] }
  | _ => none }
def EntityCodesWrongFalsely : Prop := entityCodesRow.holds Tryd.pinned (OpenSpec.ofChange entityCodesWrong)

/-- 'topiarylaw08.EntityBehind': WHATEVER THE INPUT: true; the input reads as it did. -/
def entityBehindSpec : ChangeSpec := { name := "entityBehind", fn := fun _ => fun
  | [d1, d2, d3] => { results := [.lit (.bool true)], args := [d1, d2, d3] }
  | _ => none }
def entityBehindRow : OpenClaim := { program := "ytoajikemfmfoiaadoor", sum := "89432ffcf3fb003d5fbe73a89de71f3df74b74cc31d2ceac61dbc9b3a49cc34b", func := "topiary/topiarylaw08.EntityBehind", spec := "entityBehind", named := ["topiary/entity.codes"], apart := false, laid := [("topiary/entity.codes", laid_topiary_entity_codes)] }
def EntityBehindSaid : Prop := entityBehindRow.holds Tryd.pinned (OpenSpec.ofChange entityBehindSpec)

/-- ITS FALSE NEIGHBOUR: 'it returns false'. Refute it at one input. -/
def entityBehindWrong : ChangeSpec := { name := "entityBehind", fn := fun _ => fun
  | [d1, d2, d3] => { results := [.lit (.bool false)], args := [d1, d2, d3] }
  | _ => none }
def EntityBehindWrongFalsely : Prop := entityBehindRow.holds Tryd.pinned (OpenSpec.ofChange entityBehindWrong)

/- THE SECOND FORM. 'bulk': how many values and letters a reading holds, each counted each time it is reached (what is shared counts as often as it is met; a slice's spare places count too). A statement '..UptoSaid' is the law's where the arguments, and the package variables that the reading takes, are together of bulk at most 1048576: NARROWER than '..Said'. Prove '..Said' where nothing that the law and all that it calls make is longer than what came in: it says more and counts as full. Else prove '..UptoSaid'. A law counts once. -/
mutual
def uptoBulk {H : Type} : DataW H → Nat
  | .lit (.string bytes) => bytes.length + 1
  | .lit _ => 1
  | .nil => 1
  | .ptr d => uptoBulk d + 1
  | .slice elems spare => uptoBulkAll elems + uptoBulkAll spare + 1
  | .agg parts => uptoBulkAll parts + 1
  | .iface _ d => uptoBulk d + 1
  | .map entries => uptoBulkEntries entries + 1
  | .held _ => 1
def uptoBulkAll {H : Type} : List (DataW H) → Nat
  | [] => 0
  | d :: r => uptoBulk d + uptoBulkAll r
def uptoBulkEntries {H : Type} : List (Lit × DataW H) → Nat
  | [] => 0
  | x :: r => uptoBulkEntry x + uptoBulkEntries r
def uptoBulkEntry {H : Type} : Lit × DataW H → Nat
  | (.string bytes, d) => bytes.length + uptoBulk d + 1
  | (_, d) => uptoBulk d + 1
 end
def uptoSmall : (H : Type) → List (DataW H) → Bool := fun _ ds => decide (uptoBulkAll ds ≤ 1048576)
def OpenSpec.upto (s : _root_.Go.ChangeSpec) : _root_.Go.OpenSpec := { _root_.Go.OpenSpec.ofChange s with cond := some uptoSmall }

/-- 'topiarylaw08.EntityAll', WHERE WHAT IT READS IS OF BULK AT MOST 1048576: true; the input reads as it did. -/
def entityAllUptoRow : OpenClaim := { program := "ytoajikemfmfoiaadoor", sum := "89432ffcf3fb003d5fbe73a89de71f3df74b74cc31d2ceac61dbc9b3a49cc34b", func := "topiary/topiarylaw08.EntityAll", spec := "entityAll", named := ["topiary/entity.codes"], apart := false, laid := [("topiary/entity.codes", laid_topiary_entity_codes)], narrowed := true }
def EntityAllUptoSaid : Prop := entityAllUptoRow.holds Tryd.pinned (OpenSpec.upto entityAllSpec)

/-- 'topiarylaw08.EntityNames', WHERE WHAT IT READS IS OF BULK AT MOST 1048576: true; the input reads as it did. -/
def entityNamesUptoRow : OpenClaim := { program := "ytoajikemfmfoiaadoor", sum := "89432ffcf3fb003d5fbe73a89de71f3df74b74cc31d2ceac61dbc9b3a49cc34b", func := "topiary/topiarylaw08.EntityNames", spec := "entityNames", named := ["topiary/entity.codes"], apart := false, laid := [("topiary/entity.codes", laid_topiary_entity_codes)], narrowed := true }
def EntityNamesUptoSaid : Prop := entityNamesUptoRow.holds Tryd.pinned (OpenSpec.upto entityNamesSpec)

/-- 'topiarylaw08.EntityCodes', WHERE WHAT IT READS IS OF BULK AT MOST 1048576: true; the input reads as it did. -/
def entityCodesUptoRow : OpenClaim := { program := "ytoajikemfmfoiaadoor", sum := "89432ffcf3fb003d5fbe73a89de71f3df74b74cc31d2ceac61dbc9b3a49cc34b", func := "topiary/topiarylaw08.EntityCodes", spec := "entityCodes", named := ["topiary/entity.codes"], apart := false, laid := [("topiary/entity.codes", laid_topiary_entity_codes)], narrowed := true }
def EntityCodesUptoSaid : Prop := entityCodesUptoRow.holds Tryd.pinned (OpenSpec.upto entityCodesSpec)

/-- 'topiarylaw08.EntityBehind', WHERE WHAT IT READS IS OF BULK AT MOST 1048576: true; the input reads as it did. -/
def entityBehindUptoRow : OpenClaim := { program := "ytoajikemfmfoiaadoor", sum := "89432ffcf3fb003d5fbe73a89de71f3df74b74cc31d2ceac61dbc9b3a49cc34b", func := "topiary/topiarylaw08.EntityBehind", spec := "entityBehind", named := ["topiary/entity.codes"], apart := false, laid := [("topiary/entity.codes", laid_topiary_entity_codes)], narrowed := true }
def EntityBehindUptoSaid : Prop := entityBehindUptoRow.holds Tryd.pinned (OpenSpec.upto entityBehindSpec)

end Rows
end Go.Proofs.YtoajikemfmfoiaaDoor
