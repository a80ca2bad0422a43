/- What attrsMayBe and mayBe answer: whether a node may stand at a depth. -/
import Derived.Test.YtjjkidenlgghkaaNames
set_option linter.unusedVariables false
namespace Go.Proofs.Ytjjkidenlgghkaa
open Go.RowKit M

def bs (l : List (ByteArray × ByteArray)) (i : Nat) : ByteArray × ByteArray := l.getD i (⟨#[]⟩, ⟨#[]⟩)
theorem bs_get (l : List (ByteArray × ByteArray)) (i : Nat) (h : i < l.length) : l[i] = bs l i := by
  unfold bs; rw [List.getD_eq_getElem?_getD, List.getElem?_eq_getElem h]; rfl
/-- a text is not above another one -/
def le (a b : ByteArray) : Bool := Op.bytesLess a.toList b.toList || a.toList == b.toList
def good (l : List (ByteArray × ByteArray)) (i : Nat) : Bool := (nameOK (bs l i).1 && decide ((bs l i).2.size ≤ 4096)) && (decide (i = 0) || !le (bs l i).1 (bs l (i - 1)).1)
def upto (p : Nat → Bool) (k : Nat) : Bool := (List.range k).all p
theorem upto_succ (p : Nat → Bool) (k : Nat) : upto p (k + 1) = (upto p k && p k) := by simp [upto, List.range_succ]
theorem upto_not (p : Nat → Bool) (k n : Nat) (h : k < n) (hp : p k = false) : upto p n = false := by
  cases hA : upto p n
  · rfl
  · have := List.all_eq_true.1 hA k (List.mem_range.2 h)
    rw [hp] at this; cases this
def attrsOK (l : List (ByteArray × ByteArray)) : Bool := decide (l.length ≤ 12) && upto (good l) l.length

theorem wrapI (y : Nat) (h : y < 9223372036854775808) : IntKind.i64.wrap (y : Int) = (y : Int) := IntWalk.i64_in _ ⟨by omega, by omega⟩
theorem below_drewN {B : Nat} {a w : World} (h : Below B a w) (n : Nat) : Below B a (w.drewN n) := ⟨h.os, h.tape, h.output, h.size, h.block⟩

/-- whether a node may stand at a depth -/
def mayOK (d : Nd) (kl i : Nat) : Bool :=
  if d.k = 1 then decide (i = 1) && zOK [d.n.size, d.x.size, d.ats.length]
  else if d.k = 2 then (nameOK d.n && zOK [d.x.size]) && attrsOK d.ats
  else if d.k = 3 then (zOK [d.n.size, d.ats.length, kl] && !(d.x.toList == [])) && decide (d.x.size ≤ 4096)
  else if d.k = 4 then zOK [d.n.size, d.ats.length, kl] && decide (d.x.size ≤ 4096)
  else if d.k = 5 then (decide (i = 2) && decide (d.n.size ≤ 32)) && zOK [d.x.size, d.ats.length, kl]
  else false

end Go.Proofs.Ytjjkidenlgghkaa
