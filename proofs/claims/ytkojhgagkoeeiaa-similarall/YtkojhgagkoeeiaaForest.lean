/- Trees as plain data: nodes, and lists of trees (forests); how many, how deep, the nodes in their order. -/
import Derived.WalkKit
import Derived.Deep.Trees
set_option linter.unusedVariables false
namespace Go.Proofs.Ytkojhgagkoeeiaa.M

/-- a node without its kids -/
structure Nd where
  k : Int
  n : ByteArray
  x : ByteArray
  ats : List (ByteArray × ByteArray)

/-- a list of trees: the first one's node, its kids, the rest (the library's binary trees, whose two numbers say nothing here) -/
abbrev F := Go.Deep.BT Nd
abbrev F.cons (d : Nd) (k r : F) : F := .node 0 0 d k r
end Go.Proofs.Ytkojhgagkoeeiaa.M

namespace Go.Deep.BT
open Go.Proofs.Ytkojhgagkoeeiaa.M (Nd)
def len : BT Nd → Nat
  | .nil => 0
  | .node _ _ _ _ r => r.len + 1
def size : BT Nd → Nat
  | .nil => 0
  | .node _ _ _ k r => 1 + k.size + r.size
def depth : BT Nd → Nat
  | .nil => 0
  | .node _ _ _ k r => max (k.depth + 1) r.depth
def slots : BT Nd → Nat
  | .nil => 0
  | .node _ _ d k r => d.ats.length + k.slots + r.slots
end Go.Deep.BT

namespace Go.Proofs.Ytkojhgagkoeeiaa.M
open Go.Deep

/-- a node as it comes: its depth, itself, its kids -/
structure At where
  i : Nat
  d : Nd
  k : F

/-- the nodes in their order -/
def pre : Nat → F → List At
  | _, .nil => []
  | i, .node _ _ d k r => ⟨i, d, k⟩ :: (pre (i + 1) k ++ pre i r)

/-- what is still to come of a list of lists, the innermost one first -/
def rem : List F → List At
  | [] => []
  | f :: l => pre (l.length + 1) f ++ rem l

theorem rem_pop (l : List F) : rem (.nil :: l) = rem l := rfl
theorem rem_push (xb xo : Nat) (d : Nd) (k r : F) (l : List F) : rem (.node xb xo d k r :: l) = ⟨l.length + 1, d, k⟩ :: rem (k :: r :: l) := by
  show _ = _ :: (pre ((r :: l).length + 1) k ++ (pre (l.length + 1) r ++ rem l))
  simp [rem, pre, List.append_assoc]

/-- rounds that are still to come at most -/
def fuel : List F → Nat
  | [] => 0
  | f :: l => 2 * f.size + 1 + fuel l
theorem fuel_pop (l : List F) : fuel l < fuel (.nil :: l) := by simp [fuel, BT.size]
theorem fuel_push (xb xo : Nat) (d : Nd) (k r : F) (l : List F) : fuel (k :: r :: l) < fuel (.node xb xo d k r :: l) := by simp [fuel, BT.size]; omega

/-- no list of lists is deeper than N -/
def high (N : Nat) : List F → Prop
  | [] => True
  | f :: l => l.length + 1 + f.depth ≤ N ∧ high N l
theorem high_pop {N : Nat} {f : F} {l : List F} (h : high N (f :: l)) : high N l := h.2
theorem high_push {N xb xo : Nat} {d : Nd} {k r : F} {l : List F} (h : high N (.node xb xo d k r :: l)) : high N (k :: r :: l) := by
  obtain ⟨h1, h2⟩ := h
  simp only [BT.depth] at h1
  refine ⟨?_, ?_, h2⟩
  · simp only [List.length_cons]; omega
  · omega
theorem high_len {N : Nat} : ∀ {l : List F}, high N l → l.length ≤ N
  | [], _ => Nat.zero_le _
  | f :: l, h => by have := h.1; simp only [List.length_cons]; omega

theorem pre_length : ∀ (f : F) (i : Nat), (pre i f).length = f.size
  | .nil, _ => rfl
  | .node xb xo d k r, i => by simp [pre, BT.size, pre_length k, pre_length r]; omega

/-- sums over nodes -/
def slotsOf (l : List At) : Nat := (l.map fun x => x.d.ats.length).sum
def deepOf : List At → Nat
  | [] => 0
  | x :: l => max x.i (deepOf l)
theorem slotsOf_append (a b : List At) : slotsOf (a ++ b) = slotsOf a + slotsOf b := by simp [slotsOf]
theorem slotsOf_one (x : At) : slotsOf [x] = x.d.ats.length := by simp [slotsOf]
theorem slots_pre : ∀ (f : F) (i : Nat), slotsOf (pre i f) = f.slots
  | .nil, _ => rfl
  | .node xb xo d k r, i => by
    have h1 := slots_pre k (i + 1)
    have h2 := slots_pre r i
    have e : pre i (.node xb xo d k r) = [⟨i, d, k⟩] ++ (pre (i + 1) k ++ pre i r) := rfl
    rw [e, slotsOf_append, slotsOf_append, slotsOf_one, h1, h2]
    simp only [BT.slots]; omega
theorem deepOf_append : ∀ (a b : List At), deepOf (a ++ b) = max (deepOf a) (deepOf b)
  | [], b => by simp [deepOf]
  | x :: a, b => by
    show max x.i (deepOf (a ++ b)) = max (max x.i (deepOf a)) (deepOf b)
    rw [deepOf_append a b]; omega
theorem deep_pre : ∀ (f : F) (i : Nat), deepOf (pre i f) = f.depth + (if 0 < f.depth then i - 1 else 0) ∨ i = 0
  | .nil, _ => .inl rfl
  | .node xb xo d k r, i => by
    have h1 := deep_pre k (i + 1)
    have h2 := deep_pre r i
    have e : pre i (.node xb xo d k r) = ⟨i, d, k⟩ :: (pre (i + 1) k ++ pre i r) := rfl
    have e2 : (BT.node xb xo d k r).depth = max (k.depth + 1) r.depth := rfl
    by_cases hi : i = 0
    · exact .inr hi
    · left
      rw [e, e2]
      show max i (deepOf (pre (i + 1) k ++ pre i r)) = _
      rw [deepOf_append]
      have h1' := h1.resolve_right (by omega)
      have h2' := h2.resolve_right hi
      rw [h1', h2']
      split <;> split <;> split <;> omega
theorem deep_pre1 (f : F) : deepOf (pre 1 f) = f.depth := by
  have := (deep_pre f 1).resolve_right (by omega)
  rw [this]; split <;> rfl
end Go.Proofs.Ytkojhgagkoeeiaa.M
