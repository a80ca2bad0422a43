/- The document's own list, as it lies in memory; its Put, Find, Longest and Code. -/
import Derived.Test.YtdniddiaiinggaaDoorCode
namespace Go.Proofs.YtdniddiaiinggaaDoor
open Go.RowKit M

def rfCells : List (List UInt8 × Int × Bool) → List Value
  | [] => []
  | e :: r => .string ⟨e.1.toArray⟩ :: .int .i32 e.2.1 :: .bool e.2.2 :: rfCells r
theorem rf_get : ∀ (l : List (List UInt8 × Int × Bool)) (i : Nat) (e : List UInt8 × Int × Bool), l[i]? = some e →
    (rfCells l)[3 * i]? = some (.string ⟨e.1.toArray⟩) ∧ (rfCells l)[3 * i + 1]? = some (.int .i32 e.2.1) ∧ (rfCells l)[3 * i + 2]? = some (.bool e.2.2)
  | [], i, e, h => by simp at h
  | x :: r, 0, e, h => by
    simp at h
    subst h
    exact ⟨rfl, rfl, rfl⟩
  | x :: r, i + 1, e, h => by
    have := rf_get r i e (by simpa using h)
    exact this
/-- the list lies in block B -/
structure Listed (w : World) (B : Nat) : Prop where
  at0 : ∀ (i : Nat) (e : List UInt8 × Int × Bool), Rf[i]? = some e → w.cell? ⟨B, 3 * i, none⟩ = some (.string ⟨e.1.toArray⟩)
  at1 : ∀ (i : Nat) (e : List UInt8 × Int × Bool), Rf[i]? = some e → w.cell? ⟨B, 3 * i + 1, none⟩ = some (.int .i32 e.2.1)
  at2 : ∀ (i : Nat) (e : List UInt8 × Int × Bool), Rf[i]? = some e → w.cell? ⟨B, 3 * i + 2, none⟩ = some (.bool e.2.2)
  lt : B < w.heap.size
theorem Listed.below {w w' : World} {B : Nat} (h : Listed w B) (hb : Below w.heap.size w w') : Listed w' B :=
  ⟨fun i e he => by rw [hb.cell h.lt]; exact h.at0 i e he, fun i e he => by rw [hb.cell h.lt]; exact h.at1 i e he, fun i e he => by rw [hb.cell h.lt]; exact h.at2 i e he, Nat.lt_of_lt_of_le h.lt hb.size⟩
theorem listed_new (w : World) (c : Array Value) (t : TypeId) (f : Nat × Nat) (h : c.toList = rfCells Rf) : Listed (w.alloc (.cells c t f)) w.heap.size := by
  have hc : ∀ j, (w.alloc (.cells c t f)).cell? ⟨w.heap.size, j, none⟩ = (rfCells Rf)[j]? := by
    intro j
    rw [World.cell?_alloc_mark, ← Array.getElem?_toList, h]
  refine ⟨fun i e he => ?_, fun i e he => ?_, fun i e he => ?_, show w.heap.size < (w.heap.push _).size by simp⟩
  · rw [hc]; exact (rf_get Rf i e he).1
  · rw [hc]; exact (rf_get Rf i e he).2.1
  · rw [hc]; exact (rf_get Rf i e he).2.2

theorem wp_built {o : Oper} {a : Act} {w : World} {next : Act → World → Prop} {Q : Exit → Act → World → Prop} {parts : Array (Nat × Operand)} (_hop : o.op = Op.buildSlice 85 52 parts)
    (hrun : (execOp a.eval o).run Tryd.prog w = .ok (.value (.slice (some ⟨w.heap.size, 0, none⟩) 52 52)) (w.alloc (.cells (rfCells Rf).toArray 88)))
    (h : next (a.put o.dst (.slice (some ⟨w.heap.size, 0, none⟩) 52 52)) (w.alloc (.cells (rfCells Rf).toArray 88))) : o.wp Tryd.prog a w next Q := by
  unfold Oper.wp
  rw [hrun]
  exact h

set_option maxRecDepth 100000 in
set_option maxHeartbeats 4000000 in
theorem rall8_any (w : World) : Calls Tryd.prog 66 #[] w fun e w' => e = .returned (.slice (some ⟨w.heap.size, 0, none⟩) 52 52) ∧ Below w.heap.size w w' ∧ Listed w' w.heap.size := by
  have hn := listed_new w (rfCells Rf).toArray 88 (0, 0) rfl
  have hb : Below w.heap.size w (w.alloc (.cells (rfCells Rf).toArray 88)) := (Below.refl _ w).alloc (Nat.le_refl _) _
  obtain ⟨W, hW⟩ : ∃ W, W = w.alloc (.cells (rfCells Rf).toArray 88) := ⟨_, rfl⟩
  rw [← hW] at hb
  have hn2 : Listed W w.heap.size := by rw [hW]; exact hn
  clear hn
  have HW := Fact.mk hW
  clear hW
  go_enter Tryd.func66, Tryd.ntmps66
  repeat (first | (refine wp_built (by with_reducible rfl) ?hr ?_; (case hr => kernel_rfl); rw [← HW.out]) | go_values | go_skip | go_guarded | go_step | go_upon | go_back)
  go_ret
  exact ⟨rfl, hb, hn2⟩
end Go.Proofs.YtdniddiaiinggaaDoor
