/-
  NARROWER THAN 'FOR EVERY INPUT', by the rows' own cells (each row's printed sentence says how): ScanEnds: laid · ScanCuts: laid · ScanSorts: laid · ScanTexts: laid · ScanRaws: laid.
  DERIVED. THE GIVEN ROWS OF THIS SEAT. 5 by the template 'for every input the law returns true; each argument reads behind the call as it read before'; 0 by the template 'total and deterministic' (their statements: YtdniddiaiinggaaDoorTotals.lean).
  GIVEN WITH THE SEED: the statements are not yours to turn. If you find one false, say at which input.
  Laid BY PROGRAM, IN A SANDBOX (cutbox-rows.mjs): the forced cells as the released guide's own fill.sh prints them over the translation fbaf1343b4c72c8c… (all of the seat's roots in one cut). By AI agents, Wed Nov 11 2026. No macro, syntax, notation, axiom, sorry.
-/
import Derived.Test.YtdniddiaiinggaaDoorChecked
import GoSem.Claim
import GoSem.ClaimJoined
import GoSem.ClaimMapViews
import Derived.JoinedTies
import Derived.KernelRfl
namespace Go.Proofs.YtdniddiaiinggaaDoor
/- THE CELL 'sum', in the pinned program and in every row, IS THE sha256 OF THE DUMP (.gsa) THAT YtdniddiaiinggaaDoorProg.lean LOADS. Nothing in Lean hashes anything: it is a label: what it is worth is what the hold of that sum in a sandbox is worth. -/
noncomputable def Tryd.pinned : Pinned := { name := "ytdniddiaiinggaadoor", sum := "fbaf1343b4c72c8c122079836eb33c1c5fd520310e284dc4ac6aa71482549521", checked := Tryd.checked }
namespace Rows
def none {H : Type} : Left H := { results := [], args := [] }

/- WHAT THE LISTED PACKAGE-LEVEL VARIABLES READ AS WHEN THE CALL BEGINS. Each datum BY PROGRAM (the guide's laid-datum.mjs) off the statement by which the dump's own 'gosem.cut.vars' lays the variable. In a bare row this is a premise. The card (YtdniddiaiinggaaDoorCards.lean) ties it to the program's text. -/
def laid_topiary_entity_codes {H : Type} : DataW H := .agg [.lit (.int .i32 8364), .lit (.int .i32 129), .lit (.int .i32 8218), .lit (.int .i32 402), .lit (.int .i32 8222), .lit (.int .i32 8230), .lit (.int .i32 8224), .lit (.int .i32 8225), .lit (.int .i32 710), .lit (.int .i32 8240), .lit (.int .i32 352), .lit (.int .i32 8249), .lit (.int .i32 338), .lit (.int .i32 141), .lit (.int .i32 381), .lit (.int .i32 143), .lit (.int .i32 144), .lit (.int .i32 8216), .lit (.int .i32 8217), .lit (.int .i32 8220), .lit (.int .i32 8221), .lit (.int .i32 8226), .lit (.int .i32 8211), .lit (.int .i32 8212), .lit (.int .i32 732), .lit (.int .i32 8482), .lit (.int .i32 353), .lit (.int .i32 8250), .lit (.int .i32 339), .lit (.int .i32 157), .lit (.int .i32 382), .lit (.int .i32 376)]

/-- 'topiarylaw11.ScanEnds': WHATEVER THE INPUT: true; the input reads as it did. -/
def scanEndsSpec : ChangeSpec := { name := "scanEnds", fn := fun _ => fun
  | [d] => { results := [.lit (.bool true)], args := [d] }
  | _ => none }
def scanEndsRow : OpenClaim := { program := "ytdniddiaiinggaadoor", sum := "fbaf1343b4c72c8c122079836eb33c1c5fd520310e284dc4ac6aa71482549521", func := "topiary/topiarylaw11.ScanEnds", spec := "scanEnds", inPlace := ["internal/bytealg.IndexByteString"], unfollowed := true, recurses := true, named := ["topiary/entity.codes"], apart := false, laid := [("topiary/entity.codes", laid_topiary_entity_codes)] }
def ScanEndsSaid : Prop := scanEndsRow.holds Tryd.pinned (OpenSpec.ofChange scanEndsSpec)

/-- ITS FALSE NEIGHBOUR: 'it returns false'. Refute it at one input. -/
def scanEndsWrong : ChangeSpec := { name := "scanEnds", fn := fun _ => fun
  | [d] => { results := [.lit (.bool false)], args := [d] }
  | _ => none }
def ScanEndsWrongFalsely : Prop := scanEndsRow.holds Tryd.pinned (OpenSpec.ofChange scanEndsWrong)

/-- 'topiarylaw11.ScanCuts': WHATEVER THE INPUT: true; the input reads as it did. -/
def scanCutsSpec : ChangeSpec := { name := "scanCuts", fn := fun _ => fun
  | [d1, d2] => { results := [.lit (.bool true)], args := [d1, d2] }
  | _ => none }
def scanCutsRow : OpenClaim := { program := "ytdniddiaiinggaadoor", sum := "fbaf1343b4c72c8c122079836eb33c1c5fd520310e284dc4ac6aa71482549521", func := "topiary/topiarylaw11.ScanCuts", spec := "scanCuts", inPlace := ["internal/bytealg.IndexByteString"], unfollowed := true, recurses := true, named := ["topiary/entity.codes"], apart := false, laid := [("topiary/entity.codes", laid_topiary_entity_codes)] }
def ScanCutsSaid : Prop := scanCutsRow.holds Tryd.pinned (OpenSpec.ofChange scanCutsSpec)

/-- ITS FALSE NEIGHBOUR: 'it returns false'. Refute it at one input. -/
def scanCutsWrong : ChangeSpec := { name := "scanCuts", fn := fun _ => fun
  | [d1, d2] => { results := [.lit (.bool false)], args := [d1, d2] }
  | _ => none }
def ScanCutsWrongFalsely : Prop := scanCutsRow.holds Tryd.pinned (OpenSpec.ofChange scanCutsWrong)

/-- 'topiarylaw11.ScanSorts': WHATEVER THE INPUT: true; the input reads as it did. -/
def scanSortsSpec : ChangeSpec := { name := "scanSorts", fn := fun _ => fun
  | [d] => { results := [.lit (.bool true)], args := [d] }
  | _ => none }
def scanSortsRow : OpenClaim := { program := "ytdniddiaiinggaadoor", sum := "fbaf1343b4c72c8c122079836eb33c1c5fd520310e284dc4ac6aa71482549521", func := "topiary/topiarylaw11.ScanSorts", spec := "scanSorts", inPlace := ["internal/bytealg.IndexByteString", "internal/bytealg.abigen_runtime_cmpstring"], unfollowed := true, recurses := true, named := ["topiary/entity.codes"], apart := false, laid := [("topiary/entity.codes", laid_topiary_entity_codes)] }
def ScanSortsSaid : Prop := scanSortsRow.holds Tryd.pinned (OpenSpec.ofChange scanSortsSpec)

/-- ITS FALSE NEIGHBOUR: 'it returns false'. Refute it at one input. -/
def scanSortsWrong : ChangeSpec := { name := "scanSorts", fn := fun _ => fun
  | [d] => { results := [.lit (.bool false)], args := [d] }
  | _ => none }
def ScanSortsWrongFalsely : Prop := scanSortsRow.holds Tryd.pinned (OpenSpec.ofChange scanSortsWrong)

/-- 'topiarylaw11.ScanTexts': WHATEVER THE INPUT: true; the input reads as it did. -/
def scanTextsSpec : ChangeSpec := { name := "scanTexts", fn := fun _ => fun
  | [d1, d2, d3] => { results := [.lit (.bool true)], args := [d1, d2, d3] }
  | _ => none }
def scanTextsRow : OpenClaim := { program := "ytdniddiaiinggaadoor", sum := "fbaf1343b4c72c8c122079836eb33c1c5fd520310e284dc4ac6aa71482549521", func := "topiary/topiarylaw11.ScanTexts", spec := "scanTexts", inPlace := ["internal/bytealg.IndexByteString"], unfollowed := true, recurses := true, named := ["topiary/entity.codes"], apart := false, laid := [("topiary/entity.codes", laid_topiary_entity_codes)] }
def ScanTextsSaid : Prop := scanTextsRow.holds Tryd.pinned (OpenSpec.ofChange scanTextsSpec)

/-- ITS FALSE NEIGHBOUR: 'it returns false'. Refute it at one input. -/
def scanTextsWrong : ChangeSpec := { name := "scanTexts", fn := fun _ => fun
  | [d1, d2, d3] => { results := [.lit (.bool false)], args := [d1, d2, d3] }
  | _ => none }
def ScanTextsWrongFalsely : Prop := scanTextsRow.holds Tryd.pinned (OpenSpec.ofChange scanTextsWrong)

/-- 'topiarylaw11.ScanRaws': WHATEVER THE INPUT: true; the input reads as it did. -/
def scanRawsSpec : ChangeSpec := { name := "scanRaws", fn := fun _ => fun
  | [d1, d2] => { results := [.lit (.bool true)], args := [d1, d2] }
  | _ => none }
def scanRawsRow : OpenClaim := { program := "ytdniddiaiinggaadoor", sum := "fbaf1343b4c72c8c122079836eb33c1c5fd520310e284dc4ac6aa71482549521", func := "topiary/topiarylaw11.ScanRaws", spec := "scanRaws", inPlace := ["internal/bytealg.IndexByteString"], unfollowed := true, recurses := true, named := ["topiary/entity.codes"], apart := false, laid := [("topiary/entity.codes", laid_topiary_entity_codes)] }
def ScanRawsSaid : Prop := scanRawsRow.holds Tryd.pinned (OpenSpec.ofChange scanRawsSpec)

/-- ITS FALSE NEIGHBOUR: 'it returns false'. Refute it at one input. -/
def scanRawsWrong : ChangeSpec := { name := "scanRaws", fn := fun _ => fun
  | [d1, d2] => { results := [.lit (.bool false)], args := [d1, d2] }
  | _ => none }
def ScanRawsWrongFalsely : Prop := scanRawsRow.holds Tryd.pinned (OpenSpec.ofChange scanRawsWrong)

/- THE SECOND FORM. 'bulk': how many values and letters a reading holds, each counted each time it is reached (what is shared counts as often as it is met; a slice's spare places count too). A statement '..UptoSaid' is the law's where the arguments, and the package variables that the reading takes, are together of bulk at most 1048576: NARROWER than '..Said'. Prove '..Said' where nothing that the law and all that it calls make is longer than what came in: it says more and counts as full. Else prove '..UptoSaid'. A law counts once. -/
mutual
def uptoBulk {H : Type} : DataW H → Nat
  | .lit (.string bytes) => bytes.length + 1
  | .lit _ => 1
  | .nil => 1
  | .ptr d => uptoBulk d + 1
  | .slice elems spare => uptoBulkAll elems + uptoBulkAll spare + 1
  | .agg parts => uptoBulkAll parts + 1
  | .iface _ d => uptoBulk d + 1
  | .map entries => uptoBulkEntries entries + 1
  | .held _ => 1
def uptoBulkAll {H : Type} : List (DataW H) → Nat
  | [] => 0
  | d :: r => uptoBulk d + uptoBulkAll r
def uptoBulkEntries {H : Type} : List (Lit × DataW H) → Nat
  | [] => 0
  | x :: r => uptoBulkEntry x + uptoBulkEntries r
def uptoBulkEntry {H : Type} : Lit × DataW H → Nat
  | (.string bytes, d) => bytes.length + uptoBulk d + 1
  | (_, d) => uptoBulk d + 1
 end
def uptoSmall : (H : Type) → List (DataW H) → Bool := fun _ ds => decide (uptoBulkAll ds ≤ 1048576)
def OpenSpec.upto (s : _root_.Go.ChangeSpec) : _root_.Go.OpenSpec := { _root_.Go.OpenSpec.ofChange s with cond := some uptoSmall }

/-- 'topiarylaw11.ScanEnds', WHERE WHAT IT READS IS OF BULK AT MOST 1048576: true; the input reads as it did. -/
def scanEndsUptoRow : OpenClaim := { program := "ytdniddiaiinggaadoor", sum := "fbaf1343b4c72c8c122079836eb33c1c5fd520310e284dc4ac6aa71482549521", func := "topiary/topiarylaw11.ScanEnds", spec := "scanEnds", inPlace := ["internal/bytealg.IndexByteString"], unfollowed := true, recurses := true, named := ["topiary/entity.codes"], apart := false, laid := [("topiary/entity.codes", laid_topiary_entity_codes)], narrowed := true }
def ScanEndsUptoSaid : Prop := scanEndsUptoRow.holds Tryd.pinned (OpenSpec.upto scanEndsSpec)

/-- 'topiarylaw11.ScanCuts', WHERE WHAT IT READS IS OF BULK AT MOST 1048576: true; the input reads as it did. -/
def scanCutsUptoRow : OpenClaim := { program := "ytdniddiaiinggaadoor", sum := "fbaf1343b4c72c8c122079836eb33c1c5fd520310e284dc4ac6aa71482549521", func := "topiary/topiarylaw11.ScanCuts", spec := "scanCuts", inPlace := ["internal/bytealg.IndexByteString"], unfollowed := true, recurses := true, named := ["topiary/entity.codes"], apart := false, laid := [("topiary/entity.codes", laid_topiary_entity_codes)], narrowed := true }
def ScanCutsUptoSaid : Prop := scanCutsUptoRow.holds Tryd.pinned (OpenSpec.upto scanCutsSpec)

/-- 'topiarylaw11.ScanSorts', WHERE WHAT IT READS IS OF BULK AT MOST 1048576: true; the input reads as it did. -/
def scanSortsUptoRow : OpenClaim := { program := "ytdniddiaiinggaadoor", sum := "fbaf1343b4c72c8c122079836eb33c1c5fd520310e284dc4ac6aa71482549521", func := "topiary/topiarylaw11.ScanSorts", spec := "scanSorts", inPlace := ["internal/bytealg.IndexByteString", "internal/bytealg.abigen_runtime_cmpstring"], unfollowed := true, recurses := true, named := ["topiary/entity.codes"], apart := false, laid := [("topiary/entity.codes", laid_topiary_entity_codes)], narrowed := true }
def ScanSortsUptoSaid : Prop := scanSortsUptoRow.holds Tryd.pinned (OpenSpec.upto scanSortsSpec)

/-- 'topiarylaw11.ScanTexts', WHERE WHAT IT READS IS OF BULK AT MOST 1048576: true; the input reads as it did. -/
def scanTextsUptoRow : OpenClaim := { program := "ytdniddiaiinggaadoor", sum := "fbaf1343b4c72c8c122079836eb33c1c5fd520310e284dc4ac6aa71482549521", func := "topiary/topiarylaw11.ScanTexts", spec := "scanTexts", inPlace := ["internal/bytealg.IndexByteString"], unfollowed := true, recurses := true, named := ["topiary/entity.codes"], apart := false, laid := [("topiary/entity.codes", laid_topiary_entity_codes)], narrowed := true }
def ScanTextsUptoSaid : Prop := scanTextsUptoRow.holds Tryd.pinned (OpenSpec.upto scanTextsSpec)

/-- 'topiarylaw11.ScanRaws', WHERE WHAT IT READS IS OF BULK AT MOST 1048576: true; the input reads as it did. -/
def scanRawsUptoRow : OpenClaim := { program := "ytdniddiaiinggaadoor", sum := "fbaf1343b4c72c8c122079836eb33c1c5fd520310e284dc4ac6aa71482549521", func := "topiary/topiarylaw11.ScanRaws", spec := "scanRaws", inPlace := ["internal/bytealg.IndexByteString"], unfollowed := true, recurses := true, named := ["topiary/entity.codes"], apart := false, laid := [("topiary/entity.codes", laid_topiary_entity_codes)], narrowed := true }
def ScanRawsUptoSaid : Prop := scanRawsUptoRow.holds Tryd.pinned (OpenSpec.upto scanRawsSpec)

end Rows
end Go.Proofs.YtdniddiaiinggaaDoor
