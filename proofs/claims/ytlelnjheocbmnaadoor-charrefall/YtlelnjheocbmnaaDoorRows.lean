/-
  NARROWER THAN 'FOR EVERY INPUT', by the rows' own cells (each row's printed sentence says how): CharrefAll: laid · CharrefBack: laid · CharrefPlain: laid · CharrefNumbers: laid · CharrefParts: laid.
  DERIVED. THE GIVEN ROWS OF THIS SEAT. 5 by the template 'for every input the law returns true; each argument reads behind the call as it read before'; 0 by the template 'total and deterministic' (their statements: YtlelnjheocbmnaaDoorTotals.lean).
  GIVEN WITH THE SEED: the statements are not yours to turn. If you find one false, say at which input.
  Laid BY PROGRAM, IN A SANDBOX (cutbox-rows.mjs): the forced cells as the released guide's own fill.sh prints them over the translation da091da73e54621b… (all of the seat's roots in one cut). By AI agents, Wed Nov 11 2026. No macro, syntax, notation, axiom, sorry.
-/
import Derived.Test.YtlelnjheocbmnaaDoorChecked
import GoSem.PinnedTables
import GoSem.Claim
import GoSem.ClaimJoined
import GoSem.ClaimMapViews
import Derived.JoinedTies
import Derived.KernelRfl
namespace Go.Proofs.YtlelnjheocbmnaaDoor
/- THE CELL 'sum', in the pinned program and in every row, IS THE sha256 OF THE DUMP (.gsa) THAT YtlelnjheocbmnaaDoorProg.lean LOADS. Nothing in Lean hashes anything: it is a label: what it is worth is what the hold of that sum in a sandbox is worth. -/
noncomputable def Tryd.pinned : Pinned := { name := "ytlelnjheocbmnaadoor", sum := "da091da73e54621ba3283bfc32ee996e8883584eca281796432befb511df14e8", checked := Tryd.checked }
namespace Rows
def none {H : Type} : Left H := { results := [], args := [] }

/- WHAT THE LISTED PACKAGE-LEVEL VARIABLES READ AS WHEN THE CALL BEGINS. Each datum BY PROGRAM (the guide's laid-datum.mjs) off the statement by which the dump's own 'gosem.cut.vars' lays the variable. In a bare row this is a premise. The card (YtlelnjheocbmnaaDoorCards.lean) ties it to the program's text. -/
def laid_unicode_utf8_acceptRanges {H : Type} : DataW H := .agg [.agg [.lit (.int .u8 128), .lit (.int .u8 191)], .agg [.lit (.int .u8 160), .lit (.int .u8 191)], .agg [.lit (.int .u8 128), .lit (.int .u8 159)], .agg [.lit (.int .u8 144), .lit (.int .u8 191)], .agg [.lit (.int .u8 128), .lit (.int .u8 143)], .agg [.lit (.int .u8 0), .lit (.int .u8 0)], .agg [.lit (.int .u8 0), .lit (.int .u8 0)], .agg [.lit (.int .u8 0), .lit (.int .u8 0)], .agg [.lit (.int .u8 0), .lit (.int .u8 0)], .agg [.lit (.int .u8 0), .lit (.int .u8 0)], .agg [.lit (.int .u8 0), .lit (.int .u8 0)], .agg [.lit (.int .u8 0), .lit (.int .u8 0)], .agg [.lit (.int .u8 0), .lit (.int .u8 0)], .agg [.lit (.int .u8 0), .lit (.int .u8 0)], .agg [.lit (.int .u8 0), .lit (.int .u8 0)], .agg [.lit (.int .u8 0), .lit (.int .u8 0)]]
def laid_topiary_entity_codes {H : Type} : DataW H := .agg [.lit (.int .i32 8364), .lit (.int .i32 129), .lit (.int .i32 8218), .lit (.int .i32 402), .lit (.int .i32 8222), .lit (.int .i32 8230), .lit (.int .i32 8224), .lit (.int .i32 8225), .lit (.int .i32 710), .lit (.int .i32 8240), .lit (.int .i32 352), .lit (.int .i32 8249), .lit (.int .i32 338), .lit (.int .i32 141), .lit (.int .i32 381), .lit (.int .i32 143), .lit (.int .i32 144), .lit (.int .i32 8216), .lit (.int .i32 8217), .lit (.int .i32 8220), .lit (.int .i32 8221), .lit (.int .i32 8226), .lit (.int .i32 8211), .lit (.int .i32 8212), .lit (.int .i32 732), .lit (.int .i32 8482), .lit (.int .i32 353), .lit (.int .i32 8250), .lit (.int .i32 339), .lit (.int .i32 157), .lit (.int .i32 382), .lit (.int .i32 376)]
/-- One of Go's own tables, pinned by name: the form's constant. -/
def laid_unicode_utf8_first : DataW Unit := Go.Pinned.utf8First

/-- 'topiarylaw09.CharrefAll': WHATEVER THE INPUT: true; the input reads as it did. -/
def charrefAllSpec : ChangeSpec := { name := "charrefAll", fn := fun _ => fun
  | [d1, d2, d3] => { results := [.lit (.bool true)], args := [d1, d2, d3] }
  | _ => none }
def charrefAllRow : OpenClaim := { program := "ytlelnjheocbmnaadoor", sum := "da091da73e54621ba3283bfc32ee996e8883584eca281796432befb511df14e8", func := "topiary/topiarylaw09.CharrefAll", spec := "charrefAll", inPlace := ["internal/bytealg.CountString", "internal/bytealg.IndexByteString", "internal/bytealg.IndexString", "internal/abi.NoEscape", "internal/bytealg.MakeNoZero"], named := ["topiary/entity.codes", "internal/bytealg.MaxLen", "unicode/utf8.first", "unicode/utf8.acceptRanges"], apart := false, laid := [("unicode/utf8.acceptRanges", laid_unicode_utf8_acceptRanges), ("topiary/entity.codes", laid_topiary_entity_codes), ("unicode/utf8.first", laid_unicode_utf8_first)] }
def CharrefAllSaid : Prop := charrefAllRow.holds Tryd.pinned (OpenSpec.ofChange charrefAllSpec)

/-- ITS FALSE NEIGHBOUR: 'it returns false'. Refute it at one input. -/
def charrefAllWrong : ChangeSpec := { name := "charrefAll", fn := fun _ => fun
  | [d1, d2, d3] => { results := [.lit (.bool false)], args := [d1, d2, d3] }
  | _ => none }
def CharrefAllWrongFalsely : Prop := charrefAllRow.holds Tryd.pinned (OpenSpec.ofChange charrefAllWrong)

/-- 'topiarylaw09.CharrefBack': WHATEVER THE INPUT: true; the input reads as it did. -/
def charrefBackSpec : ChangeSpec := { name := "charrefBack", fn := fun _ => fun
  | [d1, d2] => { results := [.lit (.bool true)], args := [d1, d2] }
  | _ => none }
def charrefBackRow : OpenClaim := { program := "ytlelnjheocbmnaadoor", sum := "da091da73e54621ba3283bfc32ee996e8883584eca281796432befb511df14e8", func := "topiary/topiarylaw09.CharrefBack", spec := "charrefBack", inPlace := ["internal/bytealg.CountString", "internal/bytealg.IndexByteString", "internal/bytealg.IndexString", "internal/abi.NoEscape", "internal/bytealg.MakeNoZero"], named := ["topiary/entity.codes", "internal/bytealg.MaxLen", "unicode/utf8.first", "unicode/utf8.acceptRanges"], apart := false, laid := [("unicode/utf8.acceptRanges", laid_unicode_utf8_acceptRanges), ("topiary/entity.codes", laid_topiary_entity_codes), ("unicode/utf8.first", laid_unicode_utf8_first)] }
def CharrefBackSaid : Prop := charrefBackRow.holds Tryd.pinned (OpenSpec.ofChange charrefBackSpec)

/-- ITS FALSE NEIGHBOUR: 'it returns false'. Refute it at one input. -/
def charrefBackWrong : ChangeSpec := { name := "charrefBack", fn := fun _ => fun
  | [d1, d2] => { results := [.lit (.bool false)], args := [d1, d2] }
  | _ => none }
def CharrefBackWrongFalsely : Prop := charrefBackRow.holds Tryd.pinned (OpenSpec.ofChange charrefBackWrong)

/-- 'topiarylaw09.CharrefPlain': WHATEVER THE INPUT: true; the input reads as it did. -/
def charrefPlainSpec : ChangeSpec := { name := "charrefPlain", fn := fun _ => fun
  | [d1, d2, d3] => { results := [.lit (.bool true)], args := [d1, d2, d3] }
  | _ => none }
def charrefPlainRow : OpenClaim := { program := "ytlelnjheocbmnaadoor", sum := "da091da73e54621ba3283bfc32ee996e8883584eca281796432befb511df14e8", func := "topiary/topiarylaw09.CharrefPlain", spec := "charrefPlain", inPlace := ["internal/bytealg.CountString", "internal/bytealg.IndexByteString", "internal/bytealg.IndexString", "internal/abi.NoEscape", "internal/bytealg.MakeNoZero"], named := ["topiary/entity.codes", "internal/bytealg.MaxLen", "unicode/utf8.first", "unicode/utf8.acceptRanges"], apart := false, laid := [("unicode/utf8.acceptRanges", laid_unicode_utf8_acceptRanges), ("topiary/entity.codes", laid_topiary_entity_codes), ("unicode/utf8.first", laid_unicode_utf8_first)] }
def CharrefPlainSaid : Prop := charrefPlainRow.holds Tryd.pinned (OpenSpec.ofChange charrefPlainSpec)

/-- ITS FALSE NEIGHBOUR: 'it returns false'. Refute it at one input. -/
def charrefPlainWrong : ChangeSpec := { name := "charrefPlain", fn := fun _ => fun
  | [d1, d2, d3] => { results := [.lit (.bool false)], args := [d1, d2, d3] }
  | _ => none }
def CharrefPlainWrongFalsely : Prop := charrefPlainRow.holds Tryd.pinned (OpenSpec.ofChange charrefPlainWrong)

/-- 'topiarylaw09.CharrefNumbers': WHATEVER THE INPUT: true; the input reads as it did. -/
def charrefNumbersSpec : ChangeSpec := { name := "charrefNumbers", fn := fun _ => fun
  | [d1, d2] => { results := [.lit (.bool true)], args := [d1, d2] }
  | _ => none }
def charrefNumbersRow : OpenClaim := { program := "ytlelnjheocbmnaadoor", sum := "da091da73e54621ba3283bfc32ee996e8883584eca281796432befb511df14e8", func := "topiary/topiarylaw09.CharrefNumbers", spec := "charrefNumbers", inPlace := ["internal/bytealg.CountString", "internal/bytealg.IndexByteString", "internal/bytealg.IndexString", "internal/abi.NoEscape", "internal/bytealg.MakeNoZero"], named := ["topiary/entity.codes", "internal/bytealg.MaxLen", "unicode/utf8.first", "unicode/utf8.acceptRanges"], apart := false, laid := [("unicode/utf8.acceptRanges", laid_unicode_utf8_acceptRanges), ("topiary/entity.codes", laid_topiary_entity_codes), ("unicode/utf8.first", laid_unicode_utf8_first)] }
def CharrefNumbersSaid : Prop := charrefNumbersRow.holds Tryd.pinned (OpenSpec.ofChange charrefNumbersSpec)

/-- ITS FALSE NEIGHBOUR: 'it returns false'. Refute it at one input. -/
def charrefNumbersWrong : ChangeSpec := { name := "charrefNumbers", fn := fun _ => fun
  | [d1, d2] => { results := [.lit (.bool false)], args := [d1, d2] }
  | _ => none }
def CharrefNumbersWrongFalsely : Prop := charrefNumbersRow.holds Tryd.pinned (OpenSpec.ofChange charrefNumbersWrong)

/-- 'topiarylaw09.CharrefParts': WHATEVER THE INPUT: true; the input reads as it did. -/
def charrefPartsSpec : ChangeSpec := { name := "charrefParts", fn := fun _ => fun
  | [d1, d2, d3] => { results := [.lit (.bool true)], args := [d1, d2, d3] }
  | _ => none }
def charrefPartsRow : OpenClaim := { program := "ytlelnjheocbmnaadoor", sum := "da091da73e54621ba3283bfc32ee996e8883584eca281796432befb511df14e8", func := "topiary/topiarylaw09.CharrefParts", spec := "charrefParts", inPlace := ["internal/bytealg.CountString", "internal/bytealg.IndexByteString", "internal/bytealg.IndexString", "internal/abi.NoEscape", "internal/bytealg.MakeNoZero"], named := ["topiary/entity.codes", "internal/bytealg.MaxLen", "unicode/utf8.first", "unicode/utf8.acceptRanges"], apart := false, laid := [("unicode/utf8.acceptRanges", laid_unicode_utf8_acceptRanges), ("topiary/entity.codes", laid_topiary_entity_codes), ("unicode/utf8.first", laid_unicode_utf8_first)] }
def CharrefPartsSaid : Prop := charrefPartsRow.holds Tryd.pinned (OpenSpec.ofChange charrefPartsSpec)

/-- ITS FALSE NEIGHBOUR: 'it returns false'. Refute it at one input. -/
def charrefPartsWrong : ChangeSpec := { name := "charrefParts", fn := fun _ => fun
  | [d1, d2, d3] => { results := [.lit (.bool false)], args := [d1, d2, d3] }
  | _ => none }
def CharrefPartsWrongFalsely : Prop := charrefPartsRow.holds Tryd.pinned (OpenSpec.ofChange charrefPartsWrong)

/- THE SECOND FORM. 'bulk': how many values and letters a reading holds, each counted each time it is reached (what is shared counts as often as it is met; a slice's spare places count too). A statement '..UptoSaid' is the law's where the arguments, and the package variables that the reading takes, are together of bulk at most 1048576: NARROWER than '..Said'. Prove '..Said' where nothing that the law and all that it calls make is longer than what came in: it says more and counts as full. Else prove '..UptoSaid'. A law counts once. -/
mutual
def uptoBulk {H : Type} : DataW H → Nat
  | .lit (.string bytes) => bytes.length + 1
  | .lit _ => 1
  | .nil => 1
  | .ptr d => uptoBulk d + 1
  | .slice elems spare => uptoBulkAll elems + uptoBulkAll spare + 1
  | .agg parts => uptoBulkAll parts + 1
  | .iface _ d => uptoBulk d + 1
  | .map entries => uptoBulkEntries entries + 1
  | .held _ => 1
def uptoBulkAll {H : Type} : List (DataW H) → Nat
  | [] => 0
  | d :: r => uptoBulk d + uptoBulkAll r
def uptoBulkEntries {H : Type} : List (Lit × DataW H) → Nat
  | [] => 0
  | x :: r => uptoBulkEntry x + uptoBulkEntries r
def uptoBulkEntry {H : Type} : Lit × DataW H → Nat
  | (.string bytes, d) => bytes.length + uptoBulk d + 1
  | (_, d) => uptoBulk d + 1
 end
def uptoSmall : (H : Type) → List (DataW H) → Bool := fun _ ds => decide (uptoBulkAll ds ≤ 1048576)
def OpenSpec.upto (s : _root_.Go.ChangeSpec) : _root_.Go.OpenSpec := { _root_.Go.OpenSpec.ofChange s with cond := some uptoSmall }

/-- 'topiarylaw09.CharrefAll', WHERE WHAT IT READS IS OF BULK AT MOST 1048576: true; the input reads as it did. -/
def charrefAllUptoRow : OpenClaim := { program := "ytlelnjheocbmnaadoor", sum := "da091da73e54621ba3283bfc32ee996e8883584eca281796432befb511df14e8", func := "topiary/topiarylaw09.CharrefAll", spec := "charrefAll", inPlace := ["internal/bytealg.CountString", "internal/bytealg.IndexByteString", "internal/bytealg.IndexString", "internal/abi.NoEscape", "internal/bytealg.MakeNoZero"], named := ["topiary/entity.codes", "internal/bytealg.MaxLen", "unicode/utf8.first", "unicode/utf8.acceptRanges"], apart := false, laid := [("unicode/utf8.acceptRanges", laid_unicode_utf8_acceptRanges), ("topiary/entity.codes", laid_topiary_entity_codes), ("unicode/utf8.first", laid_unicode_utf8_first)], narrowed := true }
def CharrefAllUptoSaid : Prop := charrefAllUptoRow.holds Tryd.pinned (OpenSpec.upto charrefAllSpec)

/-- 'topiarylaw09.CharrefBack', WHERE WHAT IT READS IS OF BULK AT MOST 1048576: true; the input reads as it did. -/
def charrefBackUptoRow : OpenClaim := { program := "ytlelnjheocbmnaadoor", sum := "da091da73e54621ba3283bfc32ee996e8883584eca281796432befb511df14e8", func := "topiary/topiarylaw09.CharrefBack", spec := "charrefBack", inPlace := ["internal/bytealg.CountString", "internal/bytealg.IndexByteString", "internal/bytealg.IndexString", "internal/abi.NoEscape", "internal/bytealg.MakeNoZero"], named := ["topiary/entity.codes", "internal/bytealg.MaxLen", "unicode/utf8.first", "unicode/utf8.acceptRanges"], apart := false, laid := [("unicode/utf8.acceptRanges", laid_unicode_utf8_acceptRanges), ("topiary/entity.codes", laid_topiary_entity_codes), ("unicode/utf8.first", laid_unicode_utf8_first)], narrowed := true }
def CharrefBackUptoSaid : Prop := charrefBackUptoRow.holds Tryd.pinned (OpenSpec.upto charrefBackSpec)

/-- 'topiarylaw09.CharrefPlain', WHERE WHAT IT READS IS OF BULK AT MOST 1048576: true; the input reads as it did. -/
def charrefPlainUptoRow : OpenClaim := { program := "ytlelnjheocbmnaadoor", sum := "da091da73e54621ba3283bfc32ee996e8883584eca281796432befb511df14e8", func := "topiary/topiarylaw09.CharrefPlain", spec := "charrefPlain", inPlace := ["internal/bytealg.CountString", "internal/bytealg.IndexByteString", "internal/bytealg.IndexString", "internal/abi.NoEscape", "internal/bytealg.MakeNoZero"], named := ["topiary/entity.codes", "internal/bytealg.MaxLen", "unicode/utf8.first", "unicode/utf8.acceptRanges"], apart := false, laid := [("unicode/utf8.acceptRanges", laid_unicode_utf8_acceptRanges), ("topiary/entity.codes", laid_topiary_entity_codes), ("unicode/utf8.first", laid_unicode_utf8_first)], narrowed := true }
def CharrefPlainUptoSaid : Prop := charrefPlainUptoRow.holds Tryd.pinned (OpenSpec.upto charrefPlainSpec)

/-- 'topiarylaw09.CharrefNumbers', WHERE WHAT IT READS IS OF BULK AT MOST 1048576: true; the input reads as it did. -/
def charrefNumbersUptoRow : OpenClaim := { program := "ytlelnjheocbmnaadoor", sum := "da091da73e54621ba3283bfc32ee996e8883584eca281796432befb511df14e8", func := "topiary/topiarylaw09.CharrefNumbers", spec := "charrefNumbers", inPlace := ["internal/bytealg.CountString", "internal/bytealg.IndexByteString", "internal/bytealg.IndexString", "internal/abi.NoEscape", "internal/bytealg.MakeNoZero"], named := ["topiary/entity.codes", "internal/bytealg.MaxLen", "unicode/utf8.first", "unicode/utf8.acceptRanges"], apart := false, laid := [("unicode/utf8.acceptRanges", laid_unicode_utf8_acceptRanges), ("topiary/entity.codes", laid_topiary_entity_codes), ("unicode/utf8.first", laid_unicode_utf8_first)], narrowed := true }
def CharrefNumbersUptoSaid : Prop := charrefNumbersUptoRow.holds Tryd.pinned (OpenSpec.upto charrefNumbersSpec)

/-- 'topiarylaw09.CharrefParts', WHERE WHAT IT READS IS OF BULK AT MOST 1048576: true; the input reads as it did. -/
def charrefPartsUptoRow : OpenClaim := { program := "ytlelnjheocbmnaadoor", sum := "da091da73e54621ba3283bfc32ee996e8883584eca281796432befb511df14e8", func := "topiary/topiarylaw09.CharrefParts", spec := "charrefParts", inPlace := ["internal/bytealg.CountString", "internal/bytealg.IndexByteString", "internal/bytealg.IndexString", "internal/abi.NoEscape", "internal/bytealg.MakeNoZero"], named := ["topiary/entity.codes", "internal/bytealg.MaxLen", "unicode/utf8.first", "unicode/utf8.acceptRanges"], apart := false, laid := [("unicode/utf8.acceptRanges", laid_unicode_utf8_acceptRanges), ("topiary/entity.codes", laid_topiary_entity_codes), ("unicode/utf8.first", laid_unicode_utf8_first)], narrowed := true }
def CharrefPartsUptoSaid : Prop := charrefPartsUptoRow.holds Tryd.pinned (OpenSpec.upto charrefPartsSpec)

end Rows
end Go.Proofs.YtlelnjheocbmnaaDoor
