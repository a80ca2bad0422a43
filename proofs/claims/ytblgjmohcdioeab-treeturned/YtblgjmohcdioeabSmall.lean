/- What Small tells: where it says yes a tree has at most 400 nodes, 71 deep, each of at most 20 attributes. -/
import Derived.Test.YtblgjmohcdioeabAwake
set_option linter.unusedVariables false
namespace Go.Proofs.Ytblgjmohcdioeab
open Go.Deep (BT)
open Go.RowKit M

/-- P holds of the kids of each tree of a list -/
def Hered (P : M.F → Prop) : M.F → Prop
  | .nil => True
  | .node _ _ _ k r => P k ∧ Hered P r
/-- what holds of a tree if it holds of its kids' kids holds of all -/
theorem indH {P : M.F → Prop} (h : ∀ f, Hered P f → P f) : ∀ f, P f := by
  have key : ∀ f, P f ∧ Hered P f := by
    intro f
    induction f with
    | nil => exact ⟨h _ trivial, trivial⟩
    | node b o d k r ihk ihr => exact ⟨h _ ⟨ihk.1, ihr.2⟩, ihk.1, ihr.2⟩
  exact fun f => (key f).1

/-- a world that parts from another one in one cell's block, and in new ones -/
theorem Keep.cell {n B : Nat} {w w' : World} (h : Keep n B w w') {b o : Nat} {v : Value} (hc : w.cell? ⟨b, o, none⟩ = some v) (hb : b < n ∨ B ≤ b) : w'.cell? ⟨b, o, none⟩ = some v :=
  (World.cell?_of_block (w := w) (a := ⟨b, o, none⟩) (h.block b (World.block_lt_of_cell? w _ hc) hb)).trans hc

/-- what Small's yes says of a tree: so many nodes, so deep -/
structure Fits (deep c : Nat) (d : Nd) (k : M.F) : Prop where
  size : c + (k.size + 1) ≤ 400
  depth : deep + k.depth ≤ 70
  slots : d.ats.length + k.slots ≤ 20 * (k.size + 1)

end Go.Proofs.Ytblgjmohcdioeab
