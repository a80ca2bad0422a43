/- What Check answers: whether a tree may be. -/
import Derived.Test.YtjjkidenlgghkaaMayBe
import Derived.Test.YtjjkidenlgghkaaSizes
set_option linter.unusedVariables false
namespace Go.Proofs.Ytjjkidenlgghkaa
open Go.Deep (BT)
open Go.RowKit Go.Shelf M
attribute [local go_sem] Oper.semAt_some

/-- a node at its depth -/
def fits (x : At) : Bool := decide (x.i ≤ 60) && mayOK x.d x.k.len x.i
def allFit (l : List At) : Bool := l.all fits
def treeOK (d : Nd) (k : F) : Bool := decide (d.k = 1) && (decide (k.size + 1 ≤ 300) && allFit (pre 1 (.cons d k .nil)))
theorem allFit_snoc (l : List At) (x : At) : allFit (l ++ [x]) = (allFit l && fits x) := by simp [allFit]
theorem allFit_part {l m : List At} (h : l <+: m) (hl : allFit l = false) : allFit m = false := by
  obtain ⟨t, rfl⟩ := h
  unfold allFit at hl ⊢
  rw [List.all_append, hl]; rfl

end Go.Proofs.Ytjjkidenlgghkaa
