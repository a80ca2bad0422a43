/- All: what holds while the list grows. -/
import Derived.Test.YtdniddiaiinggaaDoorSI
import Derived.Test.YtdniddiaiinggaaDoorUC
import Derived.Test.YtdniddiaiinggaaDoorHeld2
import Derived.Test.YtdniddiaiinggaaDoorScope2
import Derived.RangeFuncBox
import Derived.Maps.AppendAt
set_option linter.unusedVariables false
namespace Go.Proofs.YtdniddiaiinggaaDoor
open Go.RowKit M

def cells5 (p : Tk × Value) : List Value := [.int .i64 p.1.kd, .string p.1.n, .string p.1.x, p.2, .bool p.1.raw]
def cellsT (l : List (Tk × Value)) : List Value := l.flatMap cells5
theorem cellsT_append (a b : List (Tk × Value)) : cellsT (a ++ b) = cellsT a ++ cellsT b := by simp [cellsT]
theorem cellsT_one (p : Tk × Value) : cellsT [p] = cells5 p := by simp [cellsT]
theorem cellsT_len (l : List (Tk × Value)) : (cellsT l).length = l.length * 5 := by
  induction l with
  | nil => rfl
  | cons p r ih =>
    have : cellsT (p :: r) = cells5 p ++ cellsT r := by simp [cellsT]
    rw [this, List.length_append, ih, List.length_cons]
    show 5 + _ = _
    omega
theorem own_ne {w : World} {B B' E E' z z' n n' : Nat} {v v' : Value} {xs xs' : List Value} (h : w.ownsRow B E z v n xs) (h' : w.ownsRow B' E' z' v' n' xs') (hE : E ≠ E') {b : Nat} (hb : some b = v.ownBlock) : some b ≠ v'.ownBlock := by
  intro hb'
  rcases h.2 with ⟨rfl, _⟩ | ⟨g, cap, cur, rfl, _, hg, _⟩
  · cases hb
  rcases h'.2 with ⟨rfl, _⟩ | ⟨g', cap', cur', rfl, _, hg', _⟩
  · cases hb'
  have e : b = g := Option.some.inj hb
  have e' : b = g' := Option.some.inj hb'
  subst e
  subst e'
  rw [hg] at hg'
  injection Option.some.inj hg' with _ h2
  exact hE h2
theorem ownBlock_none_of (w : World) : ∀ b, some b = (Value.slice none 0 0).ownBlock → False := fun b e => by cases e

/-- the list so far, in a box of its caller's, its attributes in new memory; the iterator's blocks are others -/
structure ScI (w : World) (B X : Nat) (T : Nat → Prop) (W : World) (its : List (Tk × Value)) (v : Value) : Prop where
  below : Below w.heap.size w W
  size : B ≤ W.heap.size
  mine : ∀ k, T k → B ≤ k
  cell : W.cell? ⟨X, 0, none⟩ = some v
  froz : W.frozen? ⟨X, 0, none⟩ = false
  row : W.ownsRow B 27 5 v its.length (cellsT its)
  notT : ∀ b, some b = v.ownBlock → ¬ T b
  avs : ∀ y ∈ its, W.ownsRow B 30 2 y.2 y.1.at_.length (rowA y.1.at_) ∧ ∀ b, some b = y.2.ownBlock → ¬ T b
theorem ScI.bide {w : World} {B X : Nat} {T T' : Nat → Prop} {W W' : World} {its : List (Tk × Value)} {v : Value} (h : ScI w B X T W its v) (hX : X < B) (hwB : w.heap.size ≤ B) (hk : Kept (fun k => ¬ T k) W W') (hT : ∀ k, T' k → T k ∨ W.heap.size ≤ k) : ScI w B X T' W' its v := by
  have hs := hk.size
  have hw := h.below.size
  have hz := h.size
  have nX : ¬ T X := fun e => by have := h.mine _ e; omega
  have nT : ∀ {b : Nat} {E z n : Nat} {u : Value} {xs : List Value}, W.ownsRow B E z u n xs → some b = u.ownBlock → ¬ T b → ¬ T' b := fun hr hb hn e => by
    rcases hT _ e with e | e
    · exact hn e
    · have := (hr.lt _ hb.symm).2
      omega
  refine ⟨h.below.trans ⟨hk.os, hk.tape, hk.output, hk.size, fun k hk' => hk.block k (by omega) (fun e => by have := h.mine _ e; omega)⟩, by omega, fun k e => ?_, hk.cell nX h.cell, ?_, own_block h.row (fun k e hk' => hk.block k hk' (h.notT k e)), fun b hb => nT h.row hb (h.notT b hb), fun y hy => ?_⟩
  · rcases hT k e with e | e
    · exact h.mine k e
    · omega
  · exact (World.frozen?_of_block (a := ⟨X, 0, none⟩) (hk.block X (by omega) nX)).trans h.froz
  · have ha := h.avs y hy
    exact ⟨own_block ha.1 (fun k e hk' => hk.block k hk' (ha.2 k e)), fun b hb => nT ha.1 hb (ha.2 b hb)⟩
/-- a token more -/
theorem ScI.come {w : World} {B X : Nat} {T : Nat → Prop} {W W1 w3 : World} {its : List (Tk × Value)} {v v' : Value} {o : Obj} {t : Tk} {av : Value} (h : ScI w B X T W its v) (hX : w.heap.size ≤ X ∧ X < B) (hT : ∀ k, T k → k < W.heap.size)
    (ha : W.ownsRow B 30 2 av t.at_.length (rowA t.at_)) (hna : ∀ b, some b = av.ownBlock → ¬ T b) (h1 : W1.heap = (W.alloc o).heap ∧ W1.os = W.os ∧ W1.tape = W.tape ∧ W1.output = W.output)
    (hown : w3.ownsRow B 27 5 v' (its.length + 1) (cellsT its ++ cells5 (t, av))) (hgr : W1.grownBy w3 v.ownBlock) (hat : v'.ownBlock = v.ownBlock ∨ v'.ownBlock = some W1.heap.size) :
    Kept (fun k => T k ∨ (k < B ∧ k ≠ X)) W (w3.setCell ⟨X, 0, none⟩ v') ∧ ScI w B X T (w3.setCell ⟨X, 0, none⟩ v') (its ++ [(t, av)]) v' := by
  have hsz := h.size
  have hz1 : W1.heap.size = W.heap.size + 1 := by rw [h1.1]; simp
  have hz3 := hgr.size
  have hzs : (w3.setCell ⟨X, 0, none⟩ v').heap.size = w3.heap.size := by simp [World.setCell]
  have hne : ∀ k, k < B → some k ≠ v.ownBlock := fun k hk e => by have := (h.row.lt k e.symm).1; omega
  have blk : ∀ k, k < W.heap.size → k ≠ X → some k ≠ v.ownBlock → (w3.setCell ⟨X, 0, none⟩ v').heap[k]? = W.heap[k]? := fun k hk hX' hn => by
    rw [Below.heap_setCell _ _ _ _ hX', hgr.block k (by omega) hn, h1.1]
    exact Below.heap_alloc _ _ _ hk
  have hX3 : w3.heap[X]? = W.heap[X]? := by
    rw [hgr.block X (by omega) (hne X (by omega)), h1.1, Below.heap_alloc _ _ _ (by omega)]
  have os' : (w3.setCell ⟨X, 0, none⟩ v').os = W.os := hgr.os.trans h1.2.1
  have tp' : (w3.setCell ⟨X, 0, none⟩ v').tape = W.tape := hgr.tape.trans h1.2.2.1
  have ou' : (w3.setCell ⟨X, 0, none⟩ v').output = W.output := hgr.output.trans h1.2.2.2
  have row' : ∀ {u : Value} {n : Nat} {xs : List Value}, W.ownsRow B 30 2 u n xs → (w3.setCell ⟨X, 0, none⟩ v').ownsRow B 30 2 u n xs := fun hr =>
    own_block hr (fun k e hk => blk k hk (by have := (hr.lt k e.symm).1; omega) (own_ne hr h.row (by decide) e))
  refine ⟨⟨os', tp', ou', by omega, fun k hk hc => ?_⟩, h.below.trans ⟨os', tp', ou', by omega, fun k hk => blk k (by have := h.below.size; omega) (by omega) (hne k (by omega))⟩, by omega, h.mine, ?_, ?_, ?_, fun b hb' hTb => ?_, fun y hy => ?_⟩
  · rcases hc with hc | hc
    · exact blk k hk (fun e => by have := h.mine k hc; omega) (fun e => h.notT k e hc)
    · exact blk k hk hc.2 (hne k hc.1)
  · exact World.cell?_setCell_same' _ _ _ (by rw [World.cell?_of_block (w := W) (a := ⟨X, 0, none⟩) hX3, h.cell]; rfl)
  · rw [World.frozen?_setCell, World.frozen?_of_block (w := W) (a := ⟨X, 0, none⟩) hX3]; exact h.froz
  · rw [List.length_append, List.length_singleton, cellsT_append, cellsT_one]
    exact own_block hown (fun k e hk => Below.heap_setCell _ _ _ _ (fun e' => by have := (hown.lt k e.symm).1; have e2 : k = X := e'; omega))
  · rcases hat with h' | h'
    · exact h.notT b (hb'.trans h') hTb
    · have := Option.some.inj (hb'.trans h')
      have := hT b hTb
      omega
  · rcases List.mem_append.1 hy with hy | hy
    · exact ⟨row' (h.avs y hy).1, (h.avs y hy).2⟩
    · rw [List.mem_singleton] at hy
      subst hy
      exact ⟨row' ha, hna⟩
theorem infoTok : (Tryd.prog.info? 27).map (fun i => (i.zero, i.size, i.bytes)) = some (some (.agg #[.int .i64 0, .string ⟨#[]⟩, .string ⟨#[]⟩, .slice none 0 0, .bool false]), 5, 72) := by kernel_rfl
theorem cells_new (w : World) (c : Array Value) (t : TypeId) : ∀ j u, c.toList[j]? = some u → (w.alloc (.cells c t)).cell? ((⟨w.heap.size, 0, none⟩ : Addr).add j) = some u := fun j u h => by
  have e : (⟨w.heap.size, 0, none⟩ : Addr).add j = ⟨w.heap.size, j, none⟩ := by cases j <;> simp [Addr.add]
  rw [e]
  refine (World.cell?_alloc_new w c t j).trans ?_
  simpa using h
/-- an append of one token to a list of the call's own -/
theorem app_tok {W : World} {B : Nat} {its : List (Tk × Value)} {v : Value} (t : Tk) (a1 : Option Addr) (a2 a3 : Nat) (hrow : W.ownsRow B 27 5 v its.length (cellsT its)) (hB : B ≤ W.heap.size) (hlen : its.length ≤ 1000000000) :
    ∃ g' cap' w3, (Builtin.append_ #[23, 23] 23 #[v, .slice (some ⟨W.heap.size, 0, none⟩) 1 1]).run Tryd.prog (W.alloc (.cells #[.int .i64 t.kd, .string t.n, .string t.x, .slice a1 a2 a3, .bool t.raw] 27)) = .ok (.slice (some ⟨g', 0, none⟩) (its.length + 1) cap') w3 ∧
      w3.ownsRow B 27 5 (.slice (some ⟨g', 0, none⟩) (its.length + 1) cap') (its.length + 1) (cellsT its ++ cells5 (t, .slice a1 a2 a3)) ∧ (W.alloc (.cells #[.int .i64 t.kd, .string t.n, .string t.x, .slice a1 a2 a3, .bool t.raw] 27)).grownBy w3 v.ownBlock ∧
      ((Value.slice (some ⟨g', 0, none⟩) (its.length + 1) cap').ownBlock = v.ownBlock ∨ (Value.slice (some ⟨g', 0, none⟩) (its.length + 1) cap').ownBlock = some (W.heap.size + 1)) := by
  obtain ⟨i0, hi, hz0', hz1, hz2⟩ := info_split infoTok
  obtain ⟨W1, hW1⟩ : ∃ W1, W.alloc (.cells #[.int .i64 t.kd, .string t.n, .string t.x, .slice a1 a2 a3, .bool t.raw] 27) = W1 := ⟨_, rfl⟩
  have hzW : W1.heap.size = W.heap.size + 1 := by rw [← hW1]; simp
  have hrow1 : W1.ownsRow B 27 5 v its.length (cellsT its) := by rw [← hW1]; exact hrow.alloc _
  obtain ⟨v', w3, hrun, hown3, hgr, _, hat3⟩ := run_append_own_at (P := Tryd.prog) W1 B 23 23 27 i0 _ 5 72 Tryd.underlying23 hi hz0' hz1 hz2 rfl (by decide) v its.length (cellsT its) hrow1 ⟨W.heap.size, 0, none⟩ 1 1 (cells5 (t, .slice a1 a2 a3)) rfl (by rw [← hW1]; exact cells_new W _ _) (by simp [cells5, Value.oneCell']) (by unfold maxLen; omega) (by omega) (by omega)
  obtain ⟨g', cap', rfl⟩ := ownsRow_succ hown3
  rw [hW1]
  rw [hzW] at hat3
  exact ⟨g', cap', w3, hrun, hown3, hgr, hat3⟩
end Go.Proofs.YtdniddiaiinggaaDoor
