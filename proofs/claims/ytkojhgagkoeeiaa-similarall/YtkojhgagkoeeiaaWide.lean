/- The two makers of TreeLimits: a tree that is so wide, a tree that is so deep. -/
import Derived.Test.YtkojhgagkoeeiaaBuilt
import Derived.Maps.AppendAt
import Derived.Test.YtkojhgagkoeeiaaIter
set_option linter.unusedVariables false
namespace Go.Proofs.Ytkojhgagkoeeiaa
open Go.Deep (BT)
open Go.RowKit M

abbrev rootN : Nd := ⟨1, ⟨#[]⟩, ⟨#[]⟩, []⟩
abbrev comN : Nd := ⟨4, ⟨#[]⟩, ⟨#[]⟩, []⟩
abbrev elN : Nd := ⟨2, ⟨#[97]⟩, ⟨#[]⟩, []⟩
def comR : Nw := ⟨comN, .nil, .slice none 0 0, .slice none 0 0⟩
def wideF (n : Nat) : M.F := forF (List.replicate n comR)
def chainF : Nat → M.F
  | 0 => .nil
  | n + 1 => .cons elN (chainF n) .nil

/-- a block of five cells of a node, none frozen -/
structure Five (w : World) (b : Nat) (v0 v1 v2 v3 v4 : Value) : Prop where
  c0 : w.cell? ⟨b, 0, none⟩ = some v0
  c1 : w.cell? ⟨b, 1, none⟩ = some v1
  c2 : w.cell? ⟨b, 2, none⟩ = some v2
  c3 : w.cell? ⟨b, 3, none⟩ = some v3
  c4 : w.cell? ⟨b, 4, none⟩ = some v4
  fz : ∀ o, w.frozen? ⟨b, o, none⟩ = false
theorem Five.same {w w' : World} {b : Nat} {v0 v1 v2 v3 v4 : Value} (h : Five w b v0 v1 v2 v3 v4) (e : w'.heap[b]? = w.heap[b]?) : Five w' b v0 v1 v2 v3 v4 :=
  ⟨(World.cell?_of_block (w := w) (a := ⟨b, 0, none⟩) e).trans h.c0, (World.cell?_of_block (w := w) (a := ⟨b, 1, none⟩) e).trans h.c1, (World.cell?_of_block (w := w) (a := ⟨b, 2, none⟩) e).trans h.c2, (World.cell?_of_block (w := w) (a := ⟨b, 3, none⟩) e).trans h.c3, (World.cell?_of_block (w := w) (a := ⟨b, 4, none⟩) e).trans h.c4, fun o => (World.frozen?_of_block (w := w) (a := ⟨b, o, none⟩) e).trans (h.fz o)⟩
theorem Five.new (w : World) (v0 v1 v2 v3 v4 : Value) (t : TypeId) : Five (w.alloc (.cells #[v0, v1, v2, v3, v4] t)) w.heap.size v0 v1 v2 v3 v4 :=
  ⟨World.cell?_alloc_new w _ _ 0, World.cell?_alloc_new w _ _ 1, World.cell?_alloc_new w _ _ 2, World.cell?_alloc_new w _ _ 3, World.cell?_alloc_new w _ _ 4, fun o => World.frozen?_alloc_new _ _ _ _⟩
theorem Five.put4 {w : World} {b : Nat} {v0 v1 v2 v3 v4 : Value} (h : Five w b v0 v1 v2 v3 v4) (v : Value) : Five (w.setCell ⟨b, 4, none⟩ v) b v0 v1 v2 v3 v :=
  ⟨(World.cell?_setCell_other _ _ _ _ (by simp)).trans h.c0, (World.cell?_setCell_other _ _ _ _ (by simp)).trans h.c1, (World.cell?_setCell_other _ _ _ _ (by simp)).trans h.c2, (World.cell?_setCell_other _ _ _ _ (by simp)).trans h.c3, World.cell?_setCell_same' _ _ _ (by rw [h.c4]; rfl), fun o => by rw [World.frozen?_setCell]; exact h.fz o⟩
theorem Five.lt {w : World} {b : Nat} {v0 v1 v2 v3 v4 : Value} (h : Five w b v0 v1 v2 v3 v4) : b < w.heap.size := World.block_lt_of_cell? w _ h.c0
theorem five_other (w : World) (b : Nat) {k : Nat} (hk : k ≠ b) (v0 v1 v2 v3 v4 : Value) : (((((w.setCell ⟨b, 0, none⟩ v0).setCell ⟨b, 1, none⟩ v1).setCell ⟨b, 2, none⟩ v2).setCell ⟨b, 3, none⟩ v3).setCell ⟨b, 4, none⟩ v4).heap[k]? = w.heap[k]? := by
  rw [Below.heap_setCell _ _ _ _ hk, Below.heap_setCell _ _ _ _ hk, Below.heap_setCell _ _ _ _ hk, Below.heap_setCell _ _ _ _ hk, Below.heap_setCell _ _ _ _ hk]
theorem five_all {w : World} {b : Nat} {u0 u1 u2 u3 u4 : Value} (h : Five w b u0 u1 u2 u3 u4) (v0 v1 v2 v3 v4 : Value) : Five (((((w.setCell ⟨b, 0, none⟩ v0).setCell ⟨b, 1, none⟩ v1).setCell ⟨b, 2, none⟩ v2).setCell ⟨b, 3, none⟩ v3).setCell ⟨b, 4, none⟩ v4) b v0 v1 v2 v3 v4 := by
  have g1 : ∀ (W : World) (o p : Nat) (v : Value), o ≠ p → (W.setCell ⟨b, p, none⟩ v).cell? ⟨b, o, none⟩ = W.cell? ⟨b, o, none⟩ := fun W o p v hop => World.cell?_setCell_other _ _ _ _ (by intro e; cases e; exact hop rfl)
  have g2 : ∀ (W : World) (o : Nat) (v : Value), (W.cell? ⟨b, o, none⟩).isSome = true → (W.setCell ⟨b, o, none⟩ v).cell? ⟨b, o, none⟩ = some v := fun W o v hs => World.cell?_setCell_same' _ _ _ hs
  refine ⟨?_, ?_, ?_, ?_, ?_, fun o => by simp only [World.frozen?_setCell]; exact h.fz o⟩
  · rw [g1 _ 0 4 _ (by omega), g1 _ 0 3 _ (by omega), g1 _ 0 2 _ (by omega), g1 _ 0 1 _ (by omega)]; exact g2 _ _ _ (by rw [h.c0]; rfl)
  · rw [g1 _ 1 4 _ (by omega), g1 _ 1 3 _ (by omega), g1 _ 1 2 _ (by omega)]; exact g2 _ _ _ (by rw [g1 _ 1 0 _ (by omega), h.c1]; rfl)
  · rw [g1 _ 2 4 _ (by omega), g1 _ 2 3 _ (by omega)]; exact g2 _ _ _ (by rw [g1 _ 2 1 _ (by omega), g1 _ 2 0 _ (by omega), h.c2]; rfl)
  · rw [g1 _ 3 4 _ (by omega)]; exact g2 _ _ _ (by rw [g1 _ 3 2 _ (by omega), g1 _ 3 1 _ (by omega), g1 _ 3 0 _ (by omega), h.c3]; rfl)
  · exact g2 _ _ _ (by rw [g1 _ 4 3 _ (by omega), g1 _ 4 2 _ (by omega), g1 _ 4 1 _ (by omega), g1 _ 4 0 _ (by omega), h.c4]; rfl)

end Go.Proofs.Ytkojhgagkoeeiaa
