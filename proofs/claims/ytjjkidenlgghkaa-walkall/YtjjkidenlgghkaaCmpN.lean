/- What compareNodes answers: which node comes first, whatever their kids are. -/
import Derived.Test.YtjjkidenlgghkaaCmpA
set_option linter.unusedVariables false
namespace Go.Proofs.Ytjjkidenlgghkaa
open Go.Deep (BT)
open Go.RowKit M

/-- what stays while two boxed nodes are held against one another -/
theorem two_keep {w W w' : World} {xs ys : Array Value} (hb : Below W.heap.size W w')
    (h : (Below w.heap.size w W ∧ w.heap.size + 2 ≤ W.heap.size) ∧ (∀ i, W.cell? ⟨w.heap.size, i, none⟩ = xs[i]?) ∧ (∀ i, W.cell? ⟨w.heap.size + 1, i, none⟩ = ys[i]?)) :
    (Below w.heap.size w w' ∧ w.heap.size + 2 ≤ w'.heap.size) ∧ (∀ i, w'.cell? ⟨w.heap.size, i, none⟩ = xs[i]?) ∧ (∀ i, w'.cell? ⟨w.heap.size + 1, i, none⟩ = ys[i]?) := by
  obtain ⟨⟨h1, h2⟩, h4, h5⟩ := h
  have hs := hb.size
  refine ⟨⟨h1.trans (hb.mono (by omega)), by omega⟩, fun i => ?_, fun i => ?_⟩
  · rw [hb.cell (p := ⟨w.heap.size, i, none⟩) (by show w.heap.size < _; omega)]; exact h4 i
  · rw [hb.cell (p := ⟨w.heap.size + 1, i, none⟩) (by show w.heap.size + 1 < _; omega)]; exact h5 i
theorem two_alloc {w W : World} {xs ys : Array Value} {o : Obj}
    (h : (Below w.heap.size w W ∧ w.heap.size + 2 ≤ W.heap.size) ∧ (∀ i, W.cell? ⟨w.heap.size, i, none⟩ = xs[i]?) ∧ (∀ i, W.cell? ⟨w.heap.size + 1, i, none⟩ = ys[i]?)) :
    (Below w.heap.size w (W.alloc o) ∧ w.heap.size + 2 ≤ (W.alloc o).heap.size) ∧ (∀ i, (W.alloc o).cell? ⟨w.heap.size, i, none⟩ = xs[i]?) ∧ (∀ i, (W.alloc o).cell? ⟨w.heap.size + 1, i, none⟩ = ys[i]?) :=
  two_keep ((Below.refl _ W).alloc (Nat.le_refl _) _) h
theorem two_start (w : World) (xs ys : Array Value) (t : TypeId) :
    (Below w.heap.size w ((w.alloc (.cells xs t)).alloc (.cells ys t)).drew ∧ w.heap.size + 2 ≤ ((w.alloc (.cells xs t)).alloc (.cells ys t)).drew.heap.size) ∧ (∀ i, ((w.alloc (.cells xs t)).alloc (.cells ys t)).drew.cell? ⟨w.heap.size, i, none⟩ = xs[i]?) ∧ (∀ i, ((w.alloc (.cells xs t)).alloc (.cells ys t)).drew.cell? ⟨w.heap.size + 1, i, none⟩ = ys[i]?) := by
  have hz : ((w.alloc (.cells xs t)).alloc (.cells ys t)).heap.size = w.heap.size + 2 := by simp
  have h0 : Below w.heap.size w ((w.alloc (.cells xs t)).alloc (.cells ys t)) := ((Below.refl _ w).alloc (Nat.le_refl _) _).alloc (by simp) _
  refine two_keep (W := (w.alloc (.cells xs t)).alloc (.cells ys t)) (Below.refl _ _).drew ⟨⟨h0, by omega⟩, fun i => ?_, fun i => ?_⟩
  · rw [World.cell?_alloc_past _ _ _ (by simp), World.cell?_alloc_at _ _ _ _ rfl]
  · rw [World.cell?_alloc_at _ _ _ _ (by simp)]

end Go.Proofs.Ytjjkidenlgghkaa
