/- Trees by numbers: what their nodes are; that such a tree may be. -/
import Derived.Test.YtibagbnnplpfgaaDoorNext
import Derived.Test.YtibagbnnplpfgaaDoorCopy
set_option linter.unusedVariables false
namespace Go.Proofs.YtibagbnnplpfgaaDoor
open Go.Deep (BT)
open Go.RowKit M

theorem Cnt.keep {n B : Nat} {w w' : World} {b c : Nat} (h : Cnt w b c) (hk : Keep n B w w') (hb : b < n ∨ B ≤ b) : Cnt w' b c :=
  ⟨hk.cell h.c hb, (World.frozen?_of_block (w := w) (a := ⟨b, 0, none⟩) (hk.block b (World.block_lt_of_cell? w _ h.c) hb)).trans h.f⟩
theorem Cnt.same {w w' : World} {b c : Nat} (h : Cnt w b c) (e : w'.heap[b]? = w.heap[b]?) : Cnt w' b c :=
  ⟨(World.cell?_of_block (w := w) (a := ⟨b, 0, none⟩) e).trans h.c, (World.frozen?_of_block (w := w) (a := ⟨b, 0, none⟩) e).trans h.f⟩
theorem Cnt.put {w : World} {b c : Nat} (h : Cnt w b c) (c' : Nat) : Cnt (w.setCell ⟨b, 0, none⟩ (.int .i64 c')) b c' :=
  ⟨World.cell?_setCell_same' _ _ _ (by rw [h.c]; rfl), by rw [World.frozen?_setCell]; exact h.f⟩
theorem Cnt.lt {w : World} {b c : Nat} (h : Cnt w b c) : b < w.heap.size := World.block_lt_of_cell? w _ h.c

abbrev tAbc : ByteArray := ⟨#[97, 98, 99, 100, 101, 102]⟩
abbrev tXyz : ByteArray := ⟨#[120, 121, 122]⟩
abbrev tNum : ByteArray := ⟨#[48, 49, 50, 51]⟩
abbrev tUv : ByteArray := ⟨#[117, 118]⟩
abbrev tId : ByteArray := ⟨#[105, 100]⟩
abbrev tX : ByteArray := ⟨#[120]⟩
/-- the four names -/
def GNm (s : ByteArray) : Prop := s = ⟨#[98]⟩ ∨ s = ⟨#[112]⟩ ∨ s = ⟨#[100, 105, 118]⟩ ∨ s = ⟨#[108, 105]⟩
/-- attributes: none, id, x, or both -/
def GAt1 (l : List (ByteArray × ByteArray)) : Prop := l = [] ∨ ∃ i, i < 4 ∧ l = [(tId, tNum.extract i (i + 1))]
def GAt (l : List (ByteArray × ByteArray)) : Prop := GAt1 l ∨ ∃ m j, GAt1 m ∧ j < 3 ∧ l = m ++ [(tX, tUv.extract 0 j)]
/-- a node by numbers, with so many kids -/
def GNd (d : Nd) (l : Nat) : Prop :=
  (d.k = 4 ∧ d.n = ⟨#[]⟩ ∧ (∃ i, i < 4 ∧ d.x = tXyz.extract 0 i) ∧ d.ats = [] ∧ l = 0) ∨
  (d.k = 3 ∧ d.n = ⟨#[]⟩ ∧ (∃ i, i < 6 ∧ d.x = tAbc.extract i (i + 1)) ∧ d.ats = [] ∧ l = 0) ∨
  (d.k = 2 ∧ GNm d.n ∧ d.x = ⟨#[]⟩ ∧ GAt d.ats)
/-- all nodes of a forest are such -/
def gOK : M.F → Prop
  | .nil => True
  | .node _ _ d k r => GNd d k.len ∧ gOK k ∧ gOK r

theorem lt3 {i : Nat} (h : i < 3) : i = 0 ∨ i = 1 ∨ i = 2 := by omega
theorem lt4 {i : Nat} (h : i < 4) : i = 0 ∨ i = 1 ∨ i = 2 ∨ i = 3 := by omega
theorem lt6 {i : Nat} (h : i < 6) : i = 0 ∨ i = 1 ∨ i = 2 ∨ i = 3 ∨ i = 4 ∨ i = 5 := by omega

theorem GAt.ok {l : List (ByteArray × ByteArray)} (h : GAt l) : attrsOK l = true := by
  rcases h with (rfl | ⟨i, hi, rfl⟩) | ⟨m, j, (rfl | ⟨i, hi, rfl⟩), hj, rfl⟩
  · rfl
  · rcases lt4 hi with rfl | rfl | rfl | rfl <;> kernel_rfl
  · rcases lt3 hj with rfl | rfl | rfl <;> kernel_rfl
  · rcases lt4 hi with rfl | rfl | rfl | rfl <;> rcases lt3 hj with rfl | rfl | rfl <;> kernel_rfl

theorem GNm.ok {s : ByteArray} (h : GNm s) : nameOK s = true := by
  rcases h with rfl | rfl | rfl | rfl <;> kernel_rfl
theorem xyz_size {i : Nat} (h : i < 4) : (tXyz.extract 0 i).size ≤ 3 := by
  rcases lt4 h with rfl | rfl | rfl | rfl <;> decide
theorem abc_size {i : Nat} (h : i < 6) : (tAbc.extract i (i + 1)).size = 1 := by
  rcases lt6 h with rfl | rfl | rfl | rfl | rfl | rfl <;> rfl
theorem GNd.ok {d : Nd} {l : Nat} (h : GNd d l) (i : Nat) : mayOK d l i = true := by
  rcases h with ⟨h1, h2, ⟨j, hj, h3⟩, h4, h5⟩ | ⟨h1, h2, ⟨j, hj, h3⟩, h4, h5⟩ | ⟨h1, h2, h3, h4⟩
  · have hs := xyz_size hj
    unfold mayOK
    rw [h1, if_neg (by decide), if_neg (by decide), if_neg (by decide), if_pos rfl, h2, h3, h4, h5, decide_eq_true (by omega)]
    rfl
  · have hs := abc_size hj
    have hne : ((tAbc.extract j (j + 1)).toList == []) = false := by
      rcases lt6 hj with rfl | rfl | rfl | rfl | rfl | rfl <;> kernel_rfl
    unfold mayOK
    rw [h1, if_neg (by decide), if_neg (by decide), if_pos rfl, h2, h3, h4, h5, decide_eq_true (by omega), hne]
    rfl
  · unfold mayOK
    rw [h1, if_neg (by decide), if_pos rfl, h2.ok, h3, h4.ok]
    rfl
theorem GNd.kind {d : Nd} {l : Nat} (h : GNd d l) : d.k ≠ 1 := by
  rcases h with ⟨h1, _⟩ | ⟨h1, _⟩ | ⟨h1, _⟩ <;> omega
/-- a forest of such nodes, not too deep, fits -/
theorem gOK.fit : ∀ (f : M.F) (i : Nat), gOK f → f.depth + i ≤ 61 → allFit (pre i f) = true
  | .nil, _, _, _ => rfl
  | .node _ _ d k r, i, h, hd => by
    obtain ⟨h1, h2, h3⟩ := h
    have hd' : max (k.depth + 1) r.depth + i ≤ 61 := hd
    have e1 := gOK.fit k (i + 1) h2 (by omega)
    have e2 := gOK.fit r i h3 (by omega)
    have e3 : fits ⟨i, d, k⟩ = true := by
      unfold fits
      simp only [h1.ok i, Bool.and_true]
      exact decide_eq_true (by omega)
    show (fits ⟨i, d, k⟩ && (pre (i + 1) k ++ pre i r).all fits) = true
    rw [e3, List.all_append]
    have e1' : (pre (i + 1) k).all fits = true := e1
    have e2' : (pre i r).all fits = true := e2
    rw [e1', e2']; rfl
end Go.Proofs.YtibagbnnplpfgaaDoor
