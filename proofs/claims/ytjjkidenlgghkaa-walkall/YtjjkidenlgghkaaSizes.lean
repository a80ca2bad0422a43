/- What Size, Depth and Slots answer: how many nodes a tree has, how deep it is, how many attributes. -/
import Derived.Test.YtjjkidenlgghkaaIter
set_option linter.unusedVariables false
namespace Go.Proofs.Ytjjkidenlgghkaa
open Go.Deep (BT)
open Go.RowKit Go.Shelf M
attribute [local go_sem] Oper.semAt_some

theorem AS.val {S : Nat → Prop} {w : World} {v : Value} {l : List (ByteArray × ByteArray)} (h : AS S w v l) : ∃ a b c, v = .slice a b c := by
  obtain ⟨a, c, e, _⟩ := h
  exact ⟨a, _, c, e⟩
theorem FL.val {S : Nat → Prop} {w : World} {v : Value} {f : M.F} (h : FL S w v f) : ∃ a c, v = .slice a f.len c := by
  obtain ⟨a, c, e, _⟩ := h
  exact ⟨a, c, e⟩

theorem fold2 (t : Array Value) (p q : Tmp) (u v : Value) : (#[p, q].zip #[u, v]).foldl (fun t (x, y) => t.setIfInBounds x y) t = (t.setIfInBounds p u).setIfInBounds q v := by
  simp
theorem box_new (w : World) (c : Array Value) (t : TypeId) (o : Obj) : (∀ i v, c[i]? = some v → ((w.alloc (.cells c t)).alloc o).cell? ⟨w.heap.size, i, none⟩ = some v) ∧ ((w.alloc (.cells c t)).alloc o).frozen? ⟨w.heap.size, 0, none⟩ = false := by
  constructor
  · intro i v h
    rw [World.cell?_alloc_lt _ _ _ (by simp)]
    exact (World.cell?_alloc_new w c t i).trans h
  · have e : ((w.alloc (.cells c t)).alloc o).heap[w.heap.size]? = some (.cells c t) := (Below.heap_alloc _ _ _ (by simp)).trans (World.alloc_heap_new w _)
    simp [World.frozen?, e]

end Go.Proofs.Ytjjkidenlgghkaa
