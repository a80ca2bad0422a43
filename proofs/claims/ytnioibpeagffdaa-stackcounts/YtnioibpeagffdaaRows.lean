/-
  No cell of these rows narrows 'for every input' (looked for: loops, veiled, ifaces, maps, wideKeys, modest, calm, conditions, laid).
  DERIVED. THE GIVEN ROWS OF THIS SEAT. 5 by the template 'for every input the law returns true; each argument reads behind the call as it read before'; 0 by the template 'total and deterministic' (their statements: YtnioibpeagffdaaTotals.lean).
  GIVEN WITH THE SEED: the statements are not yours to turn. If you find one false, say at which input.
  Laid BY PROGRAM, IN A SANDBOX (cutbox-rows.mjs): the forced cells as the released guide's own fill.sh prints them over the translation d8263636a174af66… (all of the seat's roots in one cut). By AI agents, Wed Nov 11 2026. No macro, syntax, notation, axiom, sorry.
-/
import Derived.Test.YtnioibpeagffdaaChecked
import GoSem.Claim
import GoSem.ClaimJoined
import GoSem.ClaimMapViews
import Derived.JoinedTies
import Derived.KernelRfl
namespace Go.Proofs.Ytnioibpeagffdaa
/- THE CELL 'sum', in the pinned program and in every row, IS THE sha256 OF THE DUMP (.gsa) THAT YtnioibpeagffdaaProg.lean LOADS. Nothing in Lean hashes anything: it is a label: what it is worth is what the hold of that sum in a sandbox is worth. -/
noncomputable def Try.pinned : Pinned := { name := "ytnioibpeagffdaa", sum := "d8263636a174af6609567df5972f8a6b475d2b9850a1bb010caf1f1cd7cd3c73", checked := Try.checked }
namespace Rows
def none {H : Type} : Left H := { results := [], args := [] }

/-- 'topiarylaw12.StackAll': WHATEVER THE INPUT: true; the input reads as it did. -/
def stackAllSpec : ChangeSpec := { name := "stackAll", fn := fun _ => fun
  | [d1, d2, d3, d4, d5] => { results := [.lit (.bool true)], args := [d1, d2, d3, d4, d5] }
  | _ => none }
def stackAllRow : OpenClaim := { program := "ytnioibpeagffdaa", sum := "d8263636a174af6609567df5972f8a6b475d2b9850a1bb010caf1f1cd7cd3c73", func := "topiary/topiarylaw12.StackAll", spec := "stackAll", unfollowed := true, recurses := true, apart := false }
def StackAllSaid : Prop := stackAllRow.holds Try.pinned (OpenSpec.ofChange stackAllSpec)

/-- ITS FALSE NEIGHBOUR: 'it returns false'. Refute it at one input. -/
def stackAllWrong : ChangeSpec := { name := "stackAll", fn := fun _ => fun
  | [d1, d2, d3, d4, d5] => { results := [.lit (.bool false)], args := [d1, d2, d3, d4, d5] }
  | _ => none }
def StackAllWrongFalsely : Prop := stackAllRow.holds Try.pinned (OpenSpec.ofChange stackAllWrong)

/-- 'topiarylaw12.StackSorts': WHATEVER THE INPUT: true; the input reads as it did. -/
def stackSortsSpec : ChangeSpec := { name := "stackSorts", fn := fun _ => fun
  | [] => { results := [.lit (.bool true)], args := [] }
  | _ => none }
def stackSortsRow : OpenClaim := { program := "ytnioibpeagffdaa", sum := "d8263636a174af6609567df5972f8a6b475d2b9850a1bb010caf1f1cd7cd3c73", func := "topiary/topiarylaw12.StackSorts", spec := "stackSorts", unfollowed := true, recurses := true, apart := false }
def StackSortsSaid : Prop := stackSortsRow.holds Try.pinned (OpenSpec.ofChange stackSortsSpec)

/-- ITS FALSE NEIGHBOUR: 'it returns false'. Refute it at one input. -/
def stackSortsWrong : ChangeSpec := { name := "stackSorts", fn := fun _ => fun
  | [] => { results := [.lit (.bool false)], args := [] }
  | _ => none }
def StackSortsWrongFalsely : Prop := stackSortsRow.holds Try.pinned (OpenSpec.ofChange stackSortsWrong)

/-- 'topiarylaw12.StackScopes': WHATEVER THE INPUT: true; the input reads as it did. -/
def stackScopesSpec : ChangeSpec := { name := "stackScopes", fn := fun _ => fun
  | [d1, d2, d3, d4] => { results := [.lit (.bool true)], args := [d1, d2, d3, d4] }
  | _ => none }
def stackScopesRow : OpenClaim := { program := "ytnioibpeagffdaa", sum := "d8263636a174af6609567df5972f8a6b475d2b9850a1bb010caf1f1cd7cd3c73", func := "topiary/topiarylaw12.StackScopes", spec := "stackScopes", unfollowed := true, recurses := true, apart := false }
def StackScopesSaid : Prop := stackScopesRow.holds Try.pinned (OpenSpec.ofChange stackScopesSpec)

/-- ITS FALSE NEIGHBOUR: 'it returns false'. Refute it at one input. -/
def stackScopesWrong : ChangeSpec := { name := "stackScopes", fn := fun _ => fun
  | [d1, d2, d3, d4] => { results := [.lit (.bool false)], args := [d1, d2, d3, d4] }
  | _ => none }
def StackScopesWrongFalsely : Prop := stackScopesRow.holds Try.pinned (OpenSpec.ofChange stackScopesWrong)

/-- 'topiarylaw12.StackCounts': WHATEVER THE INPUT: true; the input reads as it did. -/
def stackCountsSpec : ChangeSpec := { name := "stackCounts", fn := fun _ => fun
  | [d1, d2] => { results := [.lit (.bool true)], args := [d1, d2] }
  | _ => none }
def stackCountsRow : OpenClaim := { program := "ytnioibpeagffdaa", sum := "d8263636a174af6609567df5972f8a6b475d2b9850a1bb010caf1f1cd7cd3c73", func := "topiary/topiarylaw12.StackCounts", spec := "stackCounts", unfollowed := true, recurses := true, apart := false }
def StackCountsSaid : Prop := stackCountsRow.holds Try.pinned (OpenSpec.ofChange stackCountsSpec)

/-- ITS FALSE NEIGHBOUR: 'it returns false'. Refute it at one input. -/
def stackCountsWrong : ChangeSpec := { name := "stackCounts", fn := fun _ => fun
  | [d1, d2] => { results := [.lit (.bool false)], args := [d1, d2] }
  | _ => none }
def StackCountsWrongFalsely : Prop := stackCountsRow.holds Try.pinned (OpenSpec.ofChange stackCountsWrong)

/-- 'topiarylaw12.StackBorders': WHATEVER THE INPUT: true; the input reads as it did. -/
def stackBordersSpec : ChangeSpec := { name := "stackBorders", fn := fun _ => fun
  | [] => { results := [.lit (.bool true)], args := [] }
  | _ => none }
def stackBordersRow : OpenClaim := { program := "ytnioibpeagffdaa", sum := "d8263636a174af6609567df5972f8a6b475d2b9850a1bb010caf1f1cd7cd3c73", func := "topiary/topiarylaw12.StackBorders", spec := "stackBorders", unfollowed := true, recurses := true, apart := false }
def StackBordersSaid : Prop := stackBordersRow.holds Try.pinned (OpenSpec.ofChange stackBordersSpec)

/-- ITS FALSE NEIGHBOUR: 'it returns false'. Refute it at one input. -/
def stackBordersWrong : ChangeSpec := { name := "stackBorders", fn := fun _ => fun
  | [] => { results := [.lit (.bool false)], args := [] }
  | _ => none }
def StackBordersWrongFalsely : Prop := stackBordersRow.holds Try.pinned (OpenSpec.ofChange stackBordersWrong)

/- THE SECOND FORM. 'bulk': how many values and letters a reading holds, each counted each time it is reached (what is shared counts as often as it is met; a slice's spare places count too). A statement '..UptoSaid' is the law's where the arguments, and the package variables that the reading takes, are together of bulk at most 1048576: NARROWER than '..Said'. Prove '..Said' where nothing that the law and all that it calls make is longer than what came in: it says more and counts as full. Else prove '..UptoSaid'. A law counts once. -/
mutual
def uptoBulk {H : Type} : DataW H → Nat
  | .lit (.string bytes) => bytes.length + 1
  | .lit _ => 1
  | .nil => 1
  | .ptr d => uptoBulk d + 1
  | .slice elems spare => uptoBulkAll elems + uptoBulkAll spare + 1
  | .agg parts => uptoBulkAll parts + 1
  | .iface _ d => uptoBulk d + 1
  | .map entries => uptoBulkEntries entries + 1
  | .held _ => 1
def uptoBulkAll {H : Type} : List (DataW H) → Nat
  | [] => 0
  | d :: r => uptoBulk d + uptoBulkAll r
def uptoBulkEntries {H : Type} : List (Lit × DataW H) → Nat
  | [] => 0
  | x :: r => uptoBulkEntry x + uptoBulkEntries r
def uptoBulkEntry {H : Type} : Lit × DataW H → Nat
  | (.string bytes, d) => bytes.length + uptoBulk d + 1
  | (_, d) => uptoBulk d + 1
 end
def uptoSmall : (H : Type) → List (DataW H) → Bool := fun _ ds => decide (uptoBulkAll ds ≤ 1048576)
def OpenSpec.upto (s : _root_.Go.ChangeSpec) : _root_.Go.OpenSpec := { _root_.Go.OpenSpec.ofChange s with cond := some uptoSmall }

/-- 'topiarylaw12.StackAll', WHERE WHAT IT READS IS OF BULK AT MOST 1048576: true; the input reads as it did. -/
def stackAllUptoRow : OpenClaim := { program := "ytnioibpeagffdaa", sum := "d8263636a174af6609567df5972f8a6b475d2b9850a1bb010caf1f1cd7cd3c73", func := "topiary/topiarylaw12.StackAll", spec := "stackAll", unfollowed := true, recurses := true, apart := false, narrowed := true }
def StackAllUptoSaid : Prop := stackAllUptoRow.holds Try.pinned (OpenSpec.upto stackAllSpec)

/-- 'topiarylaw12.StackSorts', WHERE WHAT IT READS IS OF BULK AT MOST 1048576: true; the input reads as it did. -/
def stackSortsUptoRow : OpenClaim := { program := "ytnioibpeagffdaa", sum := "d8263636a174af6609567df5972f8a6b475d2b9850a1bb010caf1f1cd7cd3c73", func := "topiary/topiarylaw12.StackSorts", spec := "stackSorts", unfollowed := true, recurses := true, apart := false, narrowed := true }
def StackSortsUptoSaid : Prop := stackSortsUptoRow.holds Try.pinned (OpenSpec.upto stackSortsSpec)

/-- 'topiarylaw12.StackScopes', WHERE WHAT IT READS IS OF BULK AT MOST 1048576: true; the input reads as it did. -/
def stackScopesUptoRow : OpenClaim := { program := "ytnioibpeagffdaa", sum := "d8263636a174af6609567df5972f8a6b475d2b9850a1bb010caf1f1cd7cd3c73", func := "topiary/topiarylaw12.StackScopes", spec := "stackScopes", unfollowed := true, recurses := true, apart := false, narrowed := true }
def StackScopesUptoSaid : Prop := stackScopesUptoRow.holds Try.pinned (OpenSpec.upto stackScopesSpec)

/-- 'topiarylaw12.StackCounts', WHERE WHAT IT READS IS OF BULK AT MOST 1048576: true; the input reads as it did. -/
def stackCountsUptoRow : OpenClaim := { program := "ytnioibpeagffdaa", sum := "d8263636a174af6609567df5972f8a6b475d2b9850a1bb010caf1f1cd7cd3c73", func := "topiary/topiarylaw12.StackCounts", spec := "stackCounts", unfollowed := true, recurses := true, apart := false, narrowed := true }
def StackCountsUptoSaid : Prop := stackCountsUptoRow.holds Try.pinned (OpenSpec.upto stackCountsSpec)

/-- 'topiarylaw12.StackBorders', WHERE WHAT IT READS IS OF BULK AT MOST 1048576: true; the input reads as it did. -/
def stackBordersUptoRow : OpenClaim := { program := "ytnioibpeagffdaa", sum := "d8263636a174af6609567df5972f8a6b475d2b9850a1bb010caf1f1cd7cd3c73", func := "topiary/topiarylaw12.StackBorders", spec := "stackBorders", unfollowed := true, recurses := true, apart := false, narrowed := true }
def StackBordersUptoSaid : Prop := stackBordersUptoRow.holds Try.pinned (OpenSpec.upto stackBordersSpec)

end Rows
end Go.Proofs.Ytnioibpeagffdaa
