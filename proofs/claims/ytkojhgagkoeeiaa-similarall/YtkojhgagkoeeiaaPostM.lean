/- Post, in plain terms: the numbers, a node behind its kids. -/
import Derived.Test.YtkojhgagkoeeiaaStM
set_option linter.unusedVariables false
namespace Go.Proofs.Ytkojhgagkoeeiaa.M
open Go.Deep

/-- the number of the node that a way leads to -/
def lastId (x : Tl) : Nat := match x.way.getLast? with | some s => s.id | none => 0
/-- the numbers of the nodes that were left -/
def posts (l : List Tl) : List Nat := (l.filter (·.left)).map lastId
def postF : F → Nat → List Nat
  | .nil, _ => []
  | .node _ _ _ k r, id => postF k (id + 1) ++ id :: postF r (id + 1 + k.size)
theorem posts_append (a b : List Tl) : posts (a ++ b) = posts a ++ posts b := by simp [posts]
theorem posts_come (w : List St) (l : List Tl) : posts (⟨w, false⟩ :: l) = posts l := by simp [posts]
theorem posts_left (w : List St) (s : St) (l : List Tl) : posts (⟨w ++ [s], true⟩ :: l) = s.id :: posts l := by simp [posts, lastId]
theorem posts_evF : ∀ (f : F) (up : List St) (id place : Nat), posts (evF up f id place) = postF f id
  | .nil, _, _, _ => rfl
  | .node xb xo d k r, up, id, place => by
    rw [evF, posts_come, posts_append, posts_left, posts_evF k, posts_evF r]
    rfl
theorem posts_evT (d : Nd) (k : F) : posts (evT d k) = postF k 1 ++ [0] := by
  rw [evT, posts_evF]; simp [postF]
theorem postF_len : ∀ (f : F) (id : Nat), (postF f id).length = f.size
  | .nil, _ => rfl
  | .node xb xo d k r, id => by simp [postF, BT.size, postF_len k, postF_len r]; omega
theorem posts_le (l : List Tl) : (posts l).length ≤ l.length := by
  rw [posts, List.length_map]; exact List.length_filter_le _ _
theorem evF_len : ∀ (f : F) (up : List St) (id place : Nat), (evF up f id place).length = 2 * f.size
  | .nil, _, _, _ => rfl
  | .node xb xo d k r, up, id, place => by simp [evF, BT.size, evF_len k, evF_len r]; omega
end Go.Proofs.Ytkojhgagkoeeiaa.M
namespace Go.Proofs.Ytkojhgagkoeeiaa
open Go.Deep (BT)
open M
/-- numbers as cells -/
def cI (l : List Nat) : List Value := l.map fun (i : Nat) => .int .i64 (i : Int)
theorem cI_len (l : List Nat) : (cI l).length = l.length := by simp [cI]
theorem cI_snoc (l : List Nat) (i : Nat) : cI (l ++ [i]) = cI l ++ [.int .i64 i] := by simp [cI]
end Go.Proofs.Ytkojhgagkoeeiaa
