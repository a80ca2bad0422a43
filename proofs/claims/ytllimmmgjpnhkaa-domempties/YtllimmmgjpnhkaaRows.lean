/-
  NARROWER THAN 'FOR EVERY INPUT', by the rows' own cells (each row's printed sentence says how): DomPlays: loops · DomNumbers: loops.
  DERIVED. THE GIVEN ROWS OF THIS SEAT. 6 by the template 'for every input the law returns true; each argument reads behind the call as it read before'; 0 by the template 'total and deterministic' (their statements: YtllimmmgjpnhkaaTotals.lean).
  GIVEN WITH THE SEED: the statements are not yours to turn. If you find one false, say at which input.
  Laid BY PROGRAM, IN A SANDBOX (cutbox-rows.mjs): the forced cells as the released guide's own fill.sh prints them over the translation dfaf2b903158230c… (all of the seat's roots in one cut). By AI agents, Wed Nov 11 2026. No macro, syntax, notation, axiom, sorry.
-/
import Derived.Test.YtllimmmgjpnhkaaChecked
import GoSem.Claim
import GoSem.ClaimJoined
import GoSem.ClaimMapViews
import Derived.JoinedTies
import Derived.KernelRfl
namespace Go.Proofs.Ytllimmmgjpnhkaa
/- THE CELL 'sum', in the pinned program and in every row, IS THE sha256 OF THE DUMP (.gsa) THAT YtllimmmgjpnhkaaProg.lean LOADS. Nothing in Lean hashes anything: it is a label: what it is worth is what the hold of that sum in a sandbox is worth. -/
noncomputable def Try.pinned : Pinned := { name := "ytllimmmgjpnhkaa", sum := "dfaf2b903158230c4dde0c8b154748ba0ef73ec47dcf20e139c30d1ccab42f63", checked := Try.checked }
namespace Rows
def none {H : Type} : Left H := { results := [], args := [] }

/-- 'topiarylaw06.DomPlays': WHATEVER THE INPUT: true; the input reads as it did. -/
def domPlaysSpec : ChangeSpec := { name := "domPlays", fn := fun _ => fun
  | [d1, d2, d3] => { results := [.lit (.bool true)], args := [d1, d2, d3] }
  | _ => none }
def domPlaysRow : OpenClaim := { program := "ytllimmmgjpnhkaa", sum := "dfaf2b903158230c4dde0c8b154748ba0ef73ec47dcf20e139c30d1ccab42f63", func := "topiary/topiarylaw06.DomPlays", spec := "domPlays", unfollowed := true, recurses := true, loops := true, apart := false }
def DomPlaysSaid : Prop := domPlaysRow.holds Try.pinned (OpenSpec.ofChange domPlaysSpec)

/-- ITS FALSE NEIGHBOUR: 'it returns false'. Refute it at one input. -/
def domPlaysWrong : ChangeSpec := { name := "domPlays", fn := fun _ => fun
  | [d1, d2, d3] => { results := [.lit (.bool false)], args := [d1, d2, d3] }
  | _ => none }
def DomPlaysWrongFalsely : Prop := domPlaysRow.holds Try.pinned (OpenSpec.ofChange domPlaysWrong)

/-- 'topiarylaw06.DomRight': WHATEVER THE INPUT: true; the input reads as it did. -/
def domRightSpec : ChangeSpec := { name := "domRight", fn := fun _ => fun
  | [d1, d2] => { results := [.lit (.bool true)], args := [d1, d2] }
  | _ => none }
def domRightRow : OpenClaim := { program := "ytllimmmgjpnhkaa", sum := "dfaf2b903158230c4dde0c8b154748ba0ef73ec47dcf20e139c30d1ccab42f63", func := "topiary/topiarylaw06.DomRight", spec := "domRight", unfollowed := true, recurses := true, apart := false }
def DomRightSaid : Prop := domRightRow.holds Try.pinned (OpenSpec.ofChange domRightSpec)

/-- ITS FALSE NEIGHBOUR: 'it returns false'. Refute it at one input. -/
def domRightWrong : ChangeSpec := { name := "domRight", fn := fun _ => fun
  | [d1, d2] => { results := [.lit (.bool false)], args := [d1, d2] }
  | _ => none }
def DomRightWrongFalsely : Prop := domRightRow.holds Try.pinned (OpenSpec.ofChange domRightWrong)

/-- 'topiarylaw06.DomBack': WHATEVER THE INPUT: true; the input reads as it did. -/
def domBackSpec : ChangeSpec := { name := "domBack", fn := fun _ => fun
  | [d1, d2, d3, d4] => { results := [.lit (.bool true)], args := [d1, d2, d3, d4] }
  | _ => none }
def domBackRow : OpenClaim := { program := "ytllimmmgjpnhkaa", sum := "dfaf2b903158230c4dde0c8b154748ba0ef73ec47dcf20e139c30d1ccab42f63", func := "topiary/topiarylaw06.DomBack", spec := "domBack", unfollowed := true, recurses := true, apart := false }
def DomBackSaid : Prop := domBackRow.holds Try.pinned (OpenSpec.ofChange domBackSpec)

/-- ITS FALSE NEIGHBOUR: 'it returns false'. Refute it at one input. -/
def domBackWrong : ChangeSpec := { name := "domBack", fn := fun _ => fun
  | [d1, d2, d3, d4] => { results := [.lit (.bool false)], args := [d1, d2, d3, d4] }
  | _ => none }
def DomBackWrongFalsely : Prop := domBackRow.holds Try.pinned (OpenSpec.ofChange domBackWrong)

/-- 'topiarylaw06.DomNumbers': WHATEVER THE INPUT: true; the input reads as it did. -/
def domNumbersSpec : ChangeSpec := { name := "domNumbers", fn := fun _ => fun
  | [d] => { results := [.lit (.bool true)], args := [d] }
  | _ => none }
def domNumbersRow : OpenClaim := { program := "ytllimmmgjpnhkaa", sum := "dfaf2b903158230c4dde0c8b154748ba0ef73ec47dcf20e139c30d1ccab42f63", func := "topiary/topiarylaw06.DomNumbers", spec := "domNumbers", unfollowed := true, recurses := true, loops := true, apart := false }
def DomNumbersSaid : Prop := domNumbersRow.holds Try.pinned (OpenSpec.ofChange domNumbersSpec)

/-- ITS FALSE NEIGHBOUR: 'it returns false'. Refute it at one input. -/
def domNumbersWrong : ChangeSpec := { name := "domNumbers", fn := fun _ => fun
  | [d] => { results := [.lit (.bool false)], args := [d] }
  | _ => none }
def DomNumbersWrongFalsely : Prop := domNumbersRow.holds Try.pinned (OpenSpec.ofChange domNumbersWrong)

/-- 'topiarylaw06.DomEmpties': WHATEVER THE INPUT: true; the input reads as it did. -/
def domEmptiesSpec : ChangeSpec := { name := "domEmpties", fn := fun _ => fun
  | [d] => { results := [.lit (.bool true)], args := [d] }
  | _ => none }
def domEmptiesRow : OpenClaim := { program := "ytllimmmgjpnhkaa", sum := "dfaf2b903158230c4dde0c8b154748ba0ef73ec47dcf20e139c30d1ccab42f63", func := "topiary/topiarylaw06.DomEmpties", spec := "domEmpties", unfollowed := true, recurses := true, apart := false }
def DomEmptiesSaid : Prop := domEmptiesRow.holds Try.pinned (OpenSpec.ofChange domEmptiesSpec)

/-- ITS FALSE NEIGHBOUR: 'it returns false'. Refute it at one input. -/
def domEmptiesWrong : ChangeSpec := { name := "domEmpties", fn := fun _ => fun
  | [d] => { results := [.lit (.bool false)], args := [d] }
  | _ => none }
def DomEmptiesWrongFalsely : Prop := domEmptiesRow.holds Try.pinned (OpenSpec.ofChange domEmptiesWrong)

/-- 'topiarylaw06.DomRounds': WHATEVER THE INPUT: true; the input reads as it did. -/
def domRoundsSpec : ChangeSpec := { name := "domRounds", fn := fun _ => fun
  | [d] => { results := [.lit (.bool true)], args := [d] }
  | _ => none }
def domRoundsRow : OpenClaim := { program := "ytllimmmgjpnhkaa", sum := "dfaf2b903158230c4dde0c8b154748ba0ef73ec47dcf20e139c30d1ccab42f63", func := "topiary/topiarylaw06.DomRounds", spec := "domRounds", unfollowed := true, recurses := true, apart := false }
def DomRoundsSaid : Prop := domRoundsRow.holds Try.pinned (OpenSpec.ofChange domRoundsSpec)

/-- ITS FALSE NEIGHBOUR: 'it returns false'. Refute it at one input. -/
def domRoundsWrong : ChangeSpec := { name := "domRounds", fn := fun _ => fun
  | [d] => { results := [.lit (.bool false)], args := [d] }
  | _ => none }
def DomRoundsWrongFalsely : Prop := domRoundsRow.holds Try.pinned (OpenSpec.ofChange domRoundsWrong)

/- THE SECOND FORM. 'bulk': how many values and letters a reading holds, each counted each time it is reached (what is shared counts as often as it is met; a slice's spare places count too). A statement '..UptoSaid' is the law's where the arguments, and the package variables that the reading takes, are together of bulk at most 1048576: NARROWER than '..Said'. Prove '..Said' where nothing that the law and all that it calls make is longer than what came in: it says more and counts as full. Else prove '..UptoSaid'. A law counts once. -/
mutual
def uptoBulk {H : Type} : DataW H → Nat
  | .lit (.string bytes) => bytes.length + 1
  | .lit _ => 1
  | .nil => 1
  | .ptr d => uptoBulk d + 1
  | .slice elems spare => uptoBulkAll elems + uptoBulkAll spare + 1
  | .agg parts => uptoBulkAll parts + 1
  | .iface _ d => uptoBulk d + 1
  | .map entries => uptoBulkEntries entries + 1
  | .held _ => 1
def uptoBulkAll {H : Type} : List (DataW H) → Nat
  | [] => 0
  | d :: r => uptoBulk d + uptoBulkAll r
def uptoBulkEntries {H : Type} : List (Lit × DataW H) → Nat
  | [] => 0
  | x :: r => uptoBulkEntry x + uptoBulkEntries r
def uptoBulkEntry {H : Type} : Lit × DataW H → Nat
  | (.string bytes, d) => bytes.length + uptoBulk d + 1
  | (_, d) => uptoBulk d + 1
 end
def uptoSmall : (H : Type) → List (DataW H) → Bool := fun _ ds => decide (uptoBulkAll ds ≤ 1048576)
def OpenSpec.upto (s : _root_.Go.ChangeSpec) : _root_.Go.OpenSpec := { _root_.Go.OpenSpec.ofChange s with cond := some uptoSmall }

/-- 'topiarylaw06.DomPlays', WHERE WHAT IT READS IS OF BULK AT MOST 1048576: true; the input reads as it did. -/
def domPlaysUptoRow : OpenClaim := { program := "ytllimmmgjpnhkaa", sum := "dfaf2b903158230c4dde0c8b154748ba0ef73ec47dcf20e139c30d1ccab42f63", func := "topiary/topiarylaw06.DomPlays", spec := "domPlays", unfollowed := true, recurses := true, loops := true, apart := false, narrowed := true }
def DomPlaysUptoSaid : Prop := domPlaysUptoRow.holds Try.pinned (OpenSpec.upto domPlaysSpec)

/-- 'topiarylaw06.DomRight', WHERE WHAT IT READS IS OF BULK AT MOST 1048576: true; the input reads as it did. -/
def domRightUptoRow : OpenClaim := { program := "ytllimmmgjpnhkaa", sum := "dfaf2b903158230c4dde0c8b154748ba0ef73ec47dcf20e139c30d1ccab42f63", func := "topiary/topiarylaw06.DomRight", spec := "domRight", unfollowed := true, recurses := true, apart := false, narrowed := true }
def DomRightUptoSaid : Prop := domRightUptoRow.holds Try.pinned (OpenSpec.upto domRightSpec)

/-- 'topiarylaw06.DomBack', WHERE WHAT IT READS IS OF BULK AT MOST 1048576: true; the input reads as it did. -/
def domBackUptoRow : OpenClaim := { program := "ytllimmmgjpnhkaa", sum := "dfaf2b903158230c4dde0c8b154748ba0ef73ec47dcf20e139c30d1ccab42f63", func := "topiary/topiarylaw06.DomBack", spec := "domBack", unfollowed := true, recurses := true, apart := false, narrowed := true }
def DomBackUptoSaid : Prop := domBackUptoRow.holds Try.pinned (OpenSpec.upto domBackSpec)

/-- 'topiarylaw06.DomNumbers', WHERE WHAT IT READS IS OF BULK AT MOST 1048576: true; the input reads as it did. -/
def domNumbersUptoRow : OpenClaim := { program := "ytllimmmgjpnhkaa", sum := "dfaf2b903158230c4dde0c8b154748ba0ef73ec47dcf20e139c30d1ccab42f63", func := "topiary/topiarylaw06.DomNumbers", spec := "domNumbers", unfollowed := true, recurses := true, loops := true, apart := false, narrowed := true }
def DomNumbersUptoSaid : Prop := domNumbersUptoRow.holds Try.pinned (OpenSpec.upto domNumbersSpec)

/-- 'topiarylaw06.DomEmpties', WHERE WHAT IT READS IS OF BULK AT MOST 1048576: true; the input reads as it did. -/
def domEmptiesUptoRow : OpenClaim := { program := "ytllimmmgjpnhkaa", sum := "dfaf2b903158230c4dde0c8b154748ba0ef73ec47dcf20e139c30d1ccab42f63", func := "topiary/topiarylaw06.DomEmpties", spec := "domEmpties", unfollowed := true, recurses := true, apart := false, narrowed := true }
def DomEmptiesUptoSaid : Prop := domEmptiesUptoRow.holds Try.pinned (OpenSpec.upto domEmptiesSpec)

/-- 'topiarylaw06.DomRounds', WHERE WHAT IT READS IS OF BULK AT MOST 1048576: true; the input reads as it did. -/
def domRoundsUptoRow : OpenClaim := { program := "ytllimmmgjpnhkaa", sum := "dfaf2b903158230c4dde0c8b154748ba0ef73ec47dcf20e139c30d1ccab42f63", func := "topiary/topiarylaw06.DomRounds", spec := "domRounds", unfollowed := true, recurses := true, apart := false, narrowed := true }
def DomRoundsUptoSaid : Prop := domRoundsUptoRow.holds Try.pinned (OpenSpec.upto domRoundsSpec)

end Rows
end Go.Proofs.Ytllimmmgjpnhkaa
