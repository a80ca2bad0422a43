/- What Name answers: from 1 to 32 bytes, none of those that may not be. -/
import Derived.Test.YtjjkidenlgghkaaMem
import Derived.WalkKit
import Derived.Deep.LoopGhost
import Derived.Deep.QuietTactic
import Derived.BigQuiet
import Derived.Handy
import Derived.Lib.Strings
import Derived.Laws.Cover1
set_option linter.unusedVariables false
namespace Go.Proofs.Ytjjkidenlgghkaa
open Go.RowKit M

structure Fact (p : Prop) : Prop where
  out : p
theorem ret_bool {a b : Bool} (h : a = b) : Ending.returned (.bool a) = .returned (.bool b) := by rw [h]
theorem ret_int {k : IntKind} {a b : Int} (h : a = b) : Ending.returned (.int k a) = .returned (.int k b) := by rw [h]

/-- a byte that may stand in a name -/
def nbOK (c : Nat) : Bool := !decide (c = 9 ∨ c = 10 ∨ c = 12 ∨ c = 32 ∨ c = 0 ∨ c = 34 ∨ c = 39 ∨ c = 62 ∨ c = 47 ∨ c = 61 ∨ c = 60 ∨ (65 ≤ c ∧ c ≤ 90))
def nOK (l : List UInt8) : Bool := l.all (fun b => nbOK b.toNat)
def nameOK (s : ByteArray) : Bool := decide (1 ≤ s.size) && decide (s.size ≤ 32) && nOK s.data.toList
def zOK (l : List Nat) : Bool := l.all (fun z => z == 0)

theorem all_take (s : ByteArray) (k : Nat) (h : k < s.size) (p : UInt8 → Bool) : (s.data.toList.take (k + 1)).all p = ((s.data.toList.take k).all p && p s[k]) := by
  rw [List.take_succ_eq_append_getElem (by simpa using h), List.all_append]
  simp
  rfl

end Go.Proofs.Ytjjkidenlgghkaa
