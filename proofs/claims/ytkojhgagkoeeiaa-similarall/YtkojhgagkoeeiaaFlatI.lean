/- Flat: what holds while the list grows. -/
import Derived.Test.YtkojhgagkoeeiaaTellP
import Derived.Test.YtkojhgagkoeeiaaCopyL
set_option linter.unusedVariables false
namespace Go.Proofs.Ytkojhgagkoeeiaa
open Go.Deep (BT)
open Go.RowKit M

/-- the list so far, in a box of its caller's, its attributes in new memory; the iterator's blocks are others -/
structure FlatI (w : World) (X : Nat) (T : Nat → Prop) (W : World) (l : List Im) (its : List (Im × Value)) (v : Value) : Prop where
  map : its.map (·.1) = l
  below : Below w.heap.size w W
  size : w.heap.size + 3 ≤ W.heap.size
  mine : ∀ k, T k → w.heap.size + 3 ≤ k
  cell : W.cell? ⟨X, 0, none⟩ = some v
  froz : W.frozen? ⟨X, 0, none⟩ = false
  row : W.ownsRow (w.heap.size + 3) 65 10 v its.length (cellsIt its)
  notT : ∀ b, some b = v.ownBlock → ¬ T b
  avs : ∀ y ∈ its, AS (fun b => w.heap.size + 3 ≤ b ∧ b < W.heap.size ∧ ¬ T b ∧ some b ≠ v.ownBlock) W y.2 y.1.d.ats
theorem FlatI.bide {w : World} {X : Nat} {T T' : Nat → Prop} {W W' : World} {l : List Im} {its : List (Im × Value)} {v : Value} (h : FlatI w X T W l its v) (hX : X < w.heap.size + 3) (hk : Kept (fun k => ¬ T k) W W') (hT : ∀ k, T' k → T k ∨ W.heap.size ≤ k) : FlatI w X T' W' l its v := by
  have hs := hk.size
  have hw := h.below.size
  have hz := h.size
  have nX : ¬ T X := fun e => by have := h.mine _ e; omega
  refine ⟨h.map, h.below.trans ⟨hk.os, hk.tape, hk.output, hk.size, fun k hk' => hk.block k (by omega) (fun e => by have := h.mine _ e; omega)⟩, by omega, fun k e => ?_, hk.cell nX h.cell, ?_, own_block h.row (fun k e hk' => hk.block k hk' (h.notT k e)), fun b hb hT' => ?_, fun y hy => ?_⟩
  · rcases hT k e with e | e
    · exact h.mine k e
    · omega
  · exact (World.frozen?_of_block (a := ⟨X, 0, none⟩) (hk.block X (by omega) nX)).trans h.froz
  · rcases hT b hT' with e | e
    · exact h.notT b hb e
    · have := (h.row.lt b hb.symm).2
      omega
  · refine ((h.avs y hy).like (fun b hb hz' => hk.block b hz' hb.2.2.1)).mono (fun b hb => ⟨hb.1, by omega, fun e => ?_, hb.2.2.2⟩)
    rcases hT b e with e | e
    · exact hb.2.2.1 e
    · omega
/-- a node is come to -/
theorem FlatI.come {w : World} {X : Nat} {T : Nat → Prop} {W w2 W1 w3 : World} {l : List Im} {its : List (Im × Value)} {v v' : Value} {o : Obj} {im : Im} {av : Value} (h : FlatI w X T W l its v) (hX : w.heap.size ≤ X ∧ X < w.heap.size + 3) (hT : ∀ k, T k → k < W.heap.size)
    (h2 : Below W.heap.size W w2) (ha : AS (fun b => W.heap.size ≤ b) w2 av im.d.ats) (h1 : W1.heap = (w2.alloc o).heap ∧ W1.os = w2.os ∧ W1.tape = w2.tape ∧ W1.output = w2.output) (hown : w3.ownsRow (w.heap.size + 3) 65 10 v' (its.length + 1) (cellsIt its ++ cells10 (im, av))) (hgr : W1.grownBy w3 v.ownBlock) (hat : v'.ownBlock = v.ownBlock ∨ v'.ownBlock = some W1.heap.size) :
    Kept (fun k => T k ∨ k < w.heap.size) W (w3.setCell ⟨X, 0, none⟩ v') ∧ FlatI w X T (w3.setCell ⟨X, 0, none⟩ v') (l ++ [im]) (its ++ [(im, av)]) v' := by
  have hsz := h.size
  have hz2 := h2.size
  have hz1 : W1.heap.size = w2.heap.size + 1 := by rw [h1.1]; simp
  have hz3 := hgr.size
  have hzs : (w3.setCell ⟨X, 0, none⟩ v').heap.size = w3.heap.size := by simp [World.setCell]
  have hne : ∀ k, k < w.heap.size + 3 → some k ≠ v.ownBlock := fun k hk e => by have := (h.row.lt k e.symm).1; omega
  have b2 : ∀ k, k < w2.heap.size → k ≠ X → some k ≠ v.ownBlock → (w3.setCell ⟨X, 0, none⟩ v').heap[k]? = w2.heap[k]? := fun k hk hX' hn => by
    rw [Below.heap_setCell _ _ _ _ hX', hgr.block k (by omega) hn, h1.1]
    exact Below.heap_alloc _ _ _ hk
  have blk : ∀ k, k < W.heap.size → k ≠ X → some k ≠ v.ownBlock → (w3.setCell ⟨X, 0, none⟩ v').heap[k]? = W.heap[k]? := fun k hk hX' hn => (b2 k (by omega) hX' hn).trans (h2.block k hk)
  have hX3 : w3.heap[X]? = W.heap[X]? := by
    rw [hgr.block X (by omega) (hne X (by omega)), h1.1, Below.heap_alloc _ _ _ (by omega)]
    exact h2.block X (by omega)
  have os' : (w3.setCell ⟨X, 0, none⟩ v').os = W.os := (hgr.os.trans h1.2.1).trans h2.os
  have tp' : (w3.setCell ⟨X, 0, none⟩ v').tape = W.tape := (hgr.tape.trans h1.2.2.1).trans h2.tape
  have ou' : (w3.setCell ⟨X, 0, none⟩ v').output = W.output := (hgr.output.trans h1.2.2.2).trans h2.output
  have vlt : ∀ b, some b = v.ownBlock → b < W.heap.size := fun b e => (h.row.lt b e.symm).2
  have nv' : ∀ b, b < w2.heap.size → some b ≠ v.ownBlock → some b ≠ v'.ownBlock := fun b hb hn e => by
    rcases hat with h | h
    · exact hn (e.trans h)
    · have := Option.some.inj (e.trans h)
      omega
  refine ⟨⟨os', tp', ou', by omega, fun k hk hc => ?_⟩, by simp [h.map], h.below.trans ⟨os', tp', ou', by omega, fun k hk => blk k (by have := h.below.size; omega) (by omega) (hne k (by omega))⟩, by omega, h.mine, ?_, ?_, ?_, fun b hb' hTb => ?_, fun y hy => ?_⟩
  · rcases hc with hc | hc
    · exact blk k hk (fun e => by have := h.mine k hc; omega) (fun e => h.notT k e hc)
    · exact blk k hk (by omega) (hne k (by omega))
  · exact World.cell?_setCell_same' _ _ _ (by rw [World.cell?_of_block (w := W) (a := ⟨X, 0, none⟩) hX3, h.cell]; rfl)
  · rw [World.frozen?_setCell, World.frozen?_of_block (w := W) (a := ⟨X, 0, none⟩) hX3]; exact h.froz
  · rw [List.length_append, List.length_singleton, cellsIt_append, show cellsIt [(im, av)] = cells10 (im, av) by simp [cellsIt]]
    exact own_block hown (fun k e hk => Below.heap_setCell _ _ _ _ (fun e' => by have := (hown.lt k e.symm).1; have e2 : k = X := e'; omega))
  · rcases hat with h' | h'
    · exact h.notT b (hb'.trans h') hTb
    · have := Option.some.inj (hb'.trans h')
      have := hT b hTb
      omega
  · rcases List.mem_append.1 hy with hy | hy
    · refine ((h.avs y hy).like (fun b hb _ => blk b hb.2.1 (by omega) hb.2.2.2)).mono (fun b hb => ⟨hb.1, by omega, hb.2.2.1, nv' b (by omega) hb.2.2.2⟩)
    · rw [List.mem_singleton] at hy
      subst hy
      refine (ha.inn.like (fun b hb _ => b2 b hb.2 (by have := hb.1; omega) (fun e => by have := vlt b e; have := hb.1; omega))).mono (fun b hb => ?_)
      have h1 := hb.1
      have h2 := hb.2
      exact ⟨by omega, by omega, fun e => by have := hT b e; omega, nv' b h2 (fun e => by have := vlt b e; omega)⟩
/-- a node is left: its parent counts it -/
theorem FlatI.told {w : World} {X : Nat} {T : Nat → Prop} {W W' : World} {l l' : List Im} {its its' : List (Im × Value)} {g n cap : Nat} (h : FlatI w X T W l its (.slice (some ⟨g, 0, none⟩) n cap)) (hX : w.heap.size ≤ X ∧ X < w.heap.size + 3)
    (hk : Kept (fun k => k ≠ g) W W') (hrow : W'.ownsRow (w.heap.size + 3) 65 10 (.slice (some ⟨g, 0, none⟩) n cap) its.length (cellsIt its')) (hl : its'.length = its.length) (hm : its'.map (·.1) = l') (hav : ∀ y ∈ its', ∃ x ∈ its, x.2 = y.2 ∧ x.1.d = y.1.d) :
    Kept (fun k => T k ∨ k < w.heap.size) W W' ∧ FlatI w X T W' l' its' (.slice (some ⟨g, 0, none⟩) n cap) := by
  have hsz := h.size
  have hs := hk.size
  have hg := (h.row.lt g rfl).1
  refine ⟨hk.mono (fun k _ hc => ?_), hm, h.below.trans ⟨hk.os, hk.tape, hk.output, hk.size, fun k hk' => hk.block k (by omega) (by omega)⟩, by omega, h.mine, hk.cell (by omega) h.cell, (World.frozen?_of_block (a := ⟨X, 0, none⟩) (hk.block X (by omega) (by show X ≠ g; omega))).trans h.froz, by rw [hl]; exact hrow, h.notT, fun y hy => ?_⟩
  · rcases hc with hc | hc
    · intro e; subst e; exact h.notT k rfl hc
    · omega
  · obtain ⟨x, hx, e1, e2⟩ := hav y hy
    rw [← e1, ← e2]
    refine ((h.avs x hx).like (fun b hb _ => hk.block b hb.2.1 (fun e => hb.2.2.2 (by rw [e]; rfl)))).mono (fun b hb => ⟨hb.1, by omega, hb.2.2⟩)
end Go.Proofs.Ytkojhgagkoeeiaa
