/- What Compare and Same answer: which tree comes first. -/
import Derived.Test.YtjjkidenlgghkaaLevels
import Derived.Test.YtjjkidenlgghkaaCmpN
set_option linter.unusedVariables false
namespace Go.Proofs.Ytjjkidenlgghkaa
open Go.Deep (BT)
open Go.RowKit M

theorem FL.val_len {S : Nat → Prop} {w : World} {v : Value} {xb xo : Nat} {d : Nd} {k r : M.F} (h : FL S w v (.node xb xo d k r)) : ∃ a c, v = .slice a (r.len + 1) c ∧ r.len + 1 ≤ c := by
  obtain ⟨a, c, e, h1, _⟩ := h
  exact ⟨a, c, e, h1⟩
theorem keep12 {W2 W w5 : World} {a0 a1 b0 b1 b2 b3 b4 c0 c1 c2 c3 c4 : Addr} {v0 v1 x0 x1 x2 x3 x4 y0 y1 y2 y3 y4 : Value} (hb : Below W.heap.size W w5)
    (h : Below W2.heap.size W2 W ∧ (W.cell? a0 = some v0 ∧ W.cell? a1 = some v1) ∧ (W.cell? b0 = some x0 ∧ W.cell? b1 = some x1 ∧ W.cell? b2 = some x2 ∧ W.cell? b3 = some x3 ∧ W.cell? b4 = some x4) ∧ (W.cell? c0 = some y0 ∧ W.cell? c1 = some y1 ∧ W.cell? c2 = some y2 ∧ W.cell? c3 = some y3 ∧ W.cell? c4 = some y4)) :
    Below W2.heap.size W2 w5 ∧ (w5.cell? a0 = some v0 ∧ w5.cell? a1 = some v1) ∧ (w5.cell? b0 = some x0 ∧ w5.cell? b1 = some x1 ∧ w5.cell? b2 = some x2 ∧ w5.cell? b3 = some x3 ∧ w5.cell? b4 = some x4) ∧ (w5.cell? c0 = some y0 ∧ w5.cell? c1 = some y1 ∧ w5.cell? c2 = some y2 ∧ w5.cell? c3 = some y3 ∧ w5.cell? c4 = some y4) := by
  have hk : ∀ a v, W.cell? a = some v → w5.cell? a = some v := fun a v hc => (hb.cell (p := a) (World.block_lt_of_cell? W _ hc)).trans hc
  obtain ⟨h0, ⟨p0, p1⟩, ⟨q0, q1, q2, q3, q4⟩, r0, r1, r2, r3, r4⟩ := h
  exact ⟨h0.trans (hb.mono h0.size), ⟨hk _ _ p0, hk _ _ p1⟩, ⟨hk _ _ q0, hk _ _ q1, hk _ _ q2, hk _ _ q3, hk _ _ q4⟩, hk _ _ r0, hk _ _ r1, hk _ _ r2, hk _ _ r3, hk _ _ r4⟩
theorem keep4_alloc {w W : World} {o : Obj} {a0 a1 b0 c0 : Addr} {v0 v1 x0 y0 : Value}
    (h : Below w.heap.size w W ∧ (W.cell? a0 = some v0 ∧ W.cell? a1 = some v1) ∧ W.cell? b0 = some x0 ∧ W.cell? c0 = some y0) :
    Below w.heap.size w (W.alloc o) ∧ ((W.alloc o).cell? a0 = some v0 ∧ (W.alloc o).cell? a1 = some v1) ∧ (W.alloc o).cell? b0 = some x0 ∧ (W.alloc o).cell? c0 = some y0 := by
  have hk : ∀ a v, W.cell? a = some v → (W.alloc o).cell? a = some v := fun a v hc => (World.cell?_alloc_lt _ _ _ (World.block_lt_of_cell? W _ hc)).trans hc
  exact ⟨h.1.alloc h.1.size _, ⟨hk _ _ h.2.1.1, hk _ _ h.2.1.2⟩, hk _ _ h.2.2.1, hk _ _ h.2.2.2⟩
theorem keep4_grown {w W w6 : World} {g nn cc p i0 i1 b1 o1 b2 o2 : Nat} {v0 v1 x0 y0 : Value} (hg : W.grownBy w6 (Value.slice (some ⟨g, 0, none⟩) nn cc).ownBlock) (h0 : w.heap.size ≤ g) (h1 : p ≠ g) (h2 : b1 ≠ g) (h3 : b2 ≠ g)
    (h : Below w.heap.size w W ∧ (W.cell? ⟨p, i0, none⟩ = some v0 ∧ W.cell? ⟨p, i1, none⟩ = some v1) ∧ W.cell? ⟨b1, o1, none⟩ = some x0 ∧ W.cell? ⟨b2, o2, none⟩ = some y0) :
    Below w.heap.size w w6 ∧ (w6.cell? ⟨p, i0, none⟩ = some v0 ∧ w6.cell? ⟨p, i1, none⟩ = some v1) ∧ w6.cell? ⟨b1, o1, none⟩ = some x0 ∧ w6.cell? ⟨b2, o2, none⟩ = some y0 := by
  have hk : ∀ b o v, b ≠ g → W.cell? ⟨b, o, none⟩ = some v → w6.cell? ⟨b, o, none⟩ = some v := fun b o v hb hc => hg.cell hc (fun e => hb (own_blk e))
  exact ⟨h.1.grown hg h.1.size (fun k e => by have := own_blk e.symm; omega), ⟨hk _ _ _ h1 h.2.1.1, hk _ _ _ h1 h.2.1.2⟩, hk _ _ _ h2 h.2.2.1, hk _ _ _ h3 h.2.2.2⟩
theorem cell_two_new (w : World) (x y : Value) (t : TypeId) : ∀ (j : Nat) (u : Value), [x, y][j]? = some u → (w.alloc (.cells #[x, y] t)).cell? ((⟨w.heap.size, 0, none⟩ : Addr).add j) = some u := by
  intro j u h
  have hj : j < 2 := by have := (List.getElem?_eq_some_iff.1 h).1; simpa using this
  rcases (by omega : j = 0 ∨ j = 1) with rfl | rfl
  · exact (World.cell?_alloc_new w _ _ 0).trans h
  · exact (World.cell?_alloc_new w _ _ 1).trans h
theorem own2_succ {w : World} {B E n : Nat} {v : Value} {xs : List Value} (h : w.ownsRow B E 2 v (n + 1) xs) : ∃ g cap, v = .slice (some ⟨g, 0, none⟩) (n + 1) cap := by
  rcases h.2 with ⟨_, h0⟩ | ⟨g, cap, cur, e, _⟩
  · omega
  · exact ⟨g, cap, e⟩
end Go.Proofs.Ytjjkidenlgghkaa
