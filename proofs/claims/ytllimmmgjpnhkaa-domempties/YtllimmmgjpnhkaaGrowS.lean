/- Trees by numbers: how many attributes they have at most. -/
import Derived.Test.YtllimmmgjpnhkaaGrowM
set_option linter.unusedVariables false
namespace Go.Proofs.Ytllimmmgjpnhkaa
open Go.Deep (BT)
open Go.RowKit M

theorem GAt.two {l : List (ByteArray × ByteArray)} (h : GAt l) : l.length ≤ 2 := by
  rcases h with (rfl | ⟨i, hi, rfl⟩) | ⟨m, j, (rfl | ⟨i, hi, rfl⟩), hj, rfl⟩ <;> simp
theorem GNd.gat {d : Nd} {l : Nat} (h : GNd d l) : GAt d.ats := by
  rcases h with ⟨_, _, _, h, _⟩ | ⟨_, _, _, h, _⟩ | ⟨_, _, _, h⟩
  · exact .inl (.inl h)
  · exact .inl (.inl h)
  · exact h
theorem gslots : ∀ f : M.F, gOK f → f.slots ≤ 2 * f.size
  | .nil, _ => Nat.zero_le _
  | .node _ _ d k r, h => by
    have h1 := h.1.gat.two
    have h2 := gslots k h.2.1
    have h3 := gslots r h.2.2
    simp only [BT.slots, BT.size]
    omega
end Go.Proofs.Ytllimmmgjpnhkaa
