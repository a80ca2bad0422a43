/- A tree's source in pieces, in plain terms; the levels that are open. -/
import Derived.Test.YtibagbnnplpfgaaDoorSmallA
import Derived.Test.YtibagbnnplpfgaaDoorEsM
import Derived.Test.YtibagbnnplpfgaaDoorND
import Derived.Test.YtibagbnnplpfgaaDoorRawN
set_option linter.unusedVariables false
set_option linter.unusedSimpArgs false
namespace Go.Proofs.YtibagbnnplpfgaaDoor
open Go.Deep (BT)
open Go.RowKit M

theorem isB_names (x : ByteArray) (k : Int) : isB x k = isB x k := rfl
/-- a text with references, as a text -/
def escS (a : Bool) (x : ByteArray) : ByteArray := ⟨(escB a x.data.toList).toArray⟩
theorem escS_data (a : Bool) (x : ByteArray) : (escS a x).data.toList = escB a x.data.toList := rfl
/-- attributes' pieces -/
def attP : List (ByteArray × ByteArray) → List ByteArray
  | [] => []
  | p :: l => ⟨#[32]⟩ :: p.1 :: ⟨#[61, 34]⟩ :: escS true p.2 :: ⟨#[34]⟩ :: attP l
def tagP (d : Nd) : List ByteArray := ⟨#[60]⟩ :: d.n :: (attP d.ats ++ [⟨#[62]⟩])
/-- a node's pieces ahead of its kids -/
def begP (d : Nd) (raw : Bool) : List ByteArray :=
  if d.k = 5 then [⟨#[60, 33, 68, 79, 67, 84, 89, 80, 69, 32]⟩, d.n, ⟨#[62]⟩]
  else if d.k = 4 then [⟨#[60, 33, 45, 45]⟩, d.x, ⟨#[45, 45, 62]⟩]
  else if d.k = 3 then [if raw = true then d.x else escS false d.x]
  else if d.k = 2 then tagP d
  else []
/-- an element that may have kids -/
def opn (d : Nd) : Bool := d.k == 2 && !isB d.n 1
def insK (d : Nd) : Bool := d.k == 1 || opn d
def insR (d : Nd) : Bool := opn d && rawN d.n.data.toList == 2
def insE (d : Nd) : ByteArray := if opn d = true then (⟨#[60, 47]⟩ : ByteArray) ++ d.n ++ ⟨#[62]⟩ else ⟨#[]⟩
def insF (d : Nd) (k : M.F) : M.F := if insK d = true then k else .nil
/-- the pieces of trees one behind the other -/
def pcs : Bool → M.F → List ByteArray
  | _, .nil => []
  | raw, .node _ _ d k r => begP d raw ++ ((if insK d = true then pcs (insR d) k else []) ++ insE d :: pcs raw r)
theorem pcs_node (raw : Bool) (xb xo : Nat) (d : Nd) (k r : M.F) : pcs raw (.node xb xo d k r) = begP d raw ++ (pcs (insR d) (insF d k) ++ insE d :: pcs raw r) := by
  rw [pcs, insF]
  cases insK d <;> rfl
/-- what pieces are together -/
def fltP (l : List ByteArray) : List UInt8 := l.flatMap fun b => b.data.toList
theorem fltP_nil : fltP [] = [] := rfl
theorem fltP_cons (b : ByteArray) (l : List ByteArray) : fltP (b :: l) = b.data.toList ++ fltP l := rfl
theorem fltP_append (a b : List ByteArray) : fltP (a ++ b) = fltP a ++ fltP b := by simp [fltP]
theorem fltP_pre {a b : List ByteArray} (h : a <+: b) : (fltP a).length ≤ (fltP b).length := by
  obtain ⟨c, rfl⟩ := h
  rw [fltP_append, List.length_append]
  omega
theorem data_len (b : ByteArray) : b.data.toList.length = b.size := by rw [Array.length_toList]; rfl
theorem escS_len (a : Bool) (x : ByteArray) : (escS a x).size ≤ 6 * x.size := by
  rw [← data_len, escS_data, ← data_len x]
  exact escB_len a _ _ (Nat.le_refl _)
theorem attP_len : ∀ (l : List (ByteArray × ByteArray)), (∀ p ∈ l, p.1.size ≤ 200 ∧ p.2.size ≤ 6000) → (fltP (attP l)).length ≤ 36204 * l.length
  | [], _ => Nat.le_refl _
  | p :: l, h => by
    have h1 := h p List.mem_cons_self
    have h2 := attP_len l (fun q hq => h q (List.mem_cons_of_mem _ hq))
    have h3 := escS_len true p.2
    have e1 : (⟨#[32]⟩ : ByteArray).data.toList.length = 1 := rfl
    have e2 : (⟨#[61, 34]⟩ : ByteArray).data.toList.length = 2 := rfl
    have e3 : (⟨#[34]⟩ : ByteArray).data.toList.length = 1 := rfl
    simp only [attP, fltP_cons, List.length_append, List.length_cons, e1, e2, e3, data_len]
    omega
theorem begP_len {d : Nd} (raw : Bool) (h : OKnd d) : (fltP (begP d raw)).length ≤ 725000 := by
  obtain ⟨h1, h2, h3, h4⟩ := h
  have h5 := attP_len d.ats h4
  have h6 := escS_len false d.x
  have e1 : (⟨#[60, 33, 68, 79, 67, 84, 89, 80, 69, 32]⟩ : ByteArray).data.toList.length = 10 := rfl
  have e2 : (⟨#[62]⟩ : ByteArray).data.toList.length = 1 := rfl
  have e3 : (⟨#[60, 33, 45, 45]⟩ : ByteArray).data.toList.length = 4 := rfl
  have e4 : (⟨#[45, 45, 62]⟩ : ByteArray).data.toList.length = 3 := rfl
  have e5 : (⟨#[60]⟩ : ByteArray).data.toList.length = 1 := rfl
  unfold begP
  split
  · simp only [fltP_cons, fltP_nil, List.length_append, e1, e2, data_len, List.length_nil]; omega
  · split
    · simp only [fltP_cons, fltP_nil, List.length_append, e3, e4, data_len, List.length_nil]; omega
    · split
      · cases raw
        · simp only [fltP_cons, fltP_nil, List.length_append, data_len, List.length_nil, Bool.false_eq_true, if_false]; omega
        · simp only [fltP_cons, fltP_nil, List.length_append, data_len, List.length_nil, if_true]; omega
      · split
        · simp only [tagP, fltP_cons, fltP_append, fltP_nil, List.length_append, data_len, List.length_nil, e2, e5]; omega
        · exact Nat.zero_le _
theorem insE_len {d : Nd} (h : OKnd d) : (insE d).size ≤ 203 := by
  have h2 := h.name
  unfold insE
  split
  · rw [ByteArray.size_append, ByteArray.size_append]
    have e1 : (⟨#[60, 47]⟩ : ByteArray).size = 2 := rfl
    have e2 : (⟨#[62]⟩ : ByteArray).size = 1 := rfl
    omega
  · exact Nat.zero_le _
theorem pcs_len : ∀ (f : M.F) (raw : Bool), allF OKnd f → (fltP (pcs raw f)).length ≤ 726000 * f.size
  | .nil, _, _ => Nat.zero_le _
  | .node xb xo d k r, raw, h => by
    obtain ⟨h1, h2, h3⟩ := h
    have i1 := pcs_len k (insR d) h2
    have i2 := pcs_len r raw h3
    have b1 := begP_len raw h1
    have b2 := insE_len h1
    rw [pcs]
    simp only [fltP_append, fltP_cons, List.length_append, data_len, BT.size]
    cases insK d
    · simp only [Bool.false_eq_true, if_false, fltP_nil, List.length_nil]; omega
    · simp only [if_true]; omega

/-- a level that is open: what is left of its kids, and where it lies; whether texts are as they are; what stands behind -/
structure Lv where
  rest : M.F
  raw : Bool
  fin : ByteArray
  ka : Option Addr
  kc : Nat
/-- what is still to be told -/
def remP : List Lv → List ByteArray
  | [] => []
  | v :: l => pcs v.raw v.rest ++ v.fin :: remP l
def fuelP : List Lv → Nat
  | [] => 0
  | v :: l => 2 * v.rest.size + 1 + fuelP l
theorem insF_size (d : Nd) (k : M.F) : (insF d k).size ≤ k.size := by unfold insF; split; exact Nat.le_refl _; exact Nat.zero_le _
theorem insF_depth (d : Nd) (k : M.F) : (insF d k).depth ≤ k.depth := by unfold insF; split; exact Nat.le_refl _; exact Nat.zero_le _
theorem remP_pop {v : Lv} {l : List Lv} (h : v.rest = .nil) : remP (v :: l) = v.fin :: remP l := by simp [remP, h, pcs]
theorem remP_push {v : Lv} {l : List Lv} {xb xo : Nat} {d : Nd} {k r : M.F} (h : v.rest = .node xb xo d k r) (a a' : Option Addr) (c c' : Nat) :
    remP (v :: l) = begP d v.raw ++ remP (⟨insF d k, insR d, insE d, a, c⟩ :: { v with rest := r, ka := a', kc := c' } :: l) := by
  simp only [remP, h]
  rw [pcs_node]
  simp
theorem fuelP_pop (v : Lv) (l : List Lv) : fuelP l < fuelP (v :: l) := by simp only [fuelP]; omega
theorem fuelP_push {v : Lv} {l : List Lv} {xb xo : Nat} {d : Nd} {k r : M.F} (h : v.rest = .node xb xo d k r) (a a' : Option Addr) (c c' : Nat) :
    fuelP (⟨insF d k, insR d, insE d, a, c⟩ :: { v with rest := r, ka := a', kc := c' } :: l) < fuelP (v :: l) := by
  have := insF_size d k
  simp only [fuelP, h, BT.size]; omega
def highP (N : Nat) : List Lv → Prop
  | [] => True
  | v :: l => l.length + 1 + v.rest.depth ≤ N ∧ highP N l
theorem highP_push {N : Nat} {v : Lv} {l : List Lv} {xb xo : Nat} {d : Nd} {k r : M.F} (h : v.rest = .node xb xo d k r) (hh : highP N (v :: l)) (a a' : Option Addr) (c c' : Nat) :
    highP N (⟨insF d k, insR d, insE d, a, c⟩ :: { v with rest := r, ka := a', kc := c' } :: l) := by
  obtain ⟨h1, h2⟩ := hh
  have := insF_depth d k
  rw [h] at h1
  simp only [BT.depth] at h1
  refine ⟨?_, ?_, h2⟩
  · show (l.length + 1) + 1 + (insF d k).depth ≤ N; omega
  · show l.length + 1 + r.depth ≤ N; omega
theorem highP_len {N : Nat} : ∀ {l : List Lv}, highP N l → l.length ≤ N
  | [], _ => Nat.zero_le _
  | v :: l, h => by have := h.1; simp only [List.length_cons]; omega

/-- a level's cells; the outermost level first -/
def cells3 (v : Lv) : List Value := [.slice v.ka v.rest.len v.kc, .bool v.raw, .string v.fin]
def cellsL : List Lv → List Value
  | [] => []
  | v :: l => cellsL l ++ cells3 v
theorem cellsL_len : ∀ l, (cellsL l).length = l.length * 3
  | [] => rfl
  | v :: l => by simp [cellsL, cells3, cellsL_len l]; omega
theorem own3_at {w : World} {B E g m cap : Nat} {v : Lv} {L : List Lv} (h : w.ownsRow B E 3 (.slice (some ⟨g, 0, none⟩) (m + 1) cap) (m + 1) (cellsL (v :: L))) (hm : L.length = m) :
    (∀ j u, (cells3 v)[j]? = some u → w.cell? ⟨g, m * 3 + j, none⟩ = some u) ∧ (∀ o, w.frozen? ⟨g, o, none⟩ = false) ∧ B ≤ g ∧ g < w.heap.size ∧ m + 1 ≤ cap ∧ cap ≤ maxLen := by
  obtain ⟨h1, h2⟩ := h
  rcases h2 with ⟨e, _⟩ | ⟨g', cap', cur, e, hg, hh, hc1, hc2, hs, ht⟩
  · cases e
  · cases e
    refine ⟨fun j u hj => ?_, fun o => by simp [World.frozen?, hh], hg, (Array.getElem?_eq_some_iff.1 hh).1, hc1, hc2⟩
    simp only [World.cell?, hh]
    have h3 := congrArg (fun z => z[m * 3 + j]?) ht
    have hl : (cellsL L).length = m * 3 := by rw [cellsL_len, hm]
    have hj8 : j < 3 := by have := (List.getElem?_eq_some_iff.1 hj).1; simpa [cells3] using this
    simp only [cellsL, List.getElem?_append_right (show (cellsL L).length ≤ m * 3 + j by omega), hl, Nat.add_sub_cancel_left] at h3
    rw [List.getElem?_take_of_lt (by omega), hj] at h3
    simpa using h3
theorem own3_pop {w : World} {B E g m cap : Nat} {v : Lv} {L : List Lv} (h : w.ownsRow B E 3 (.slice (some ⟨g, 0, none⟩) (m + 1) cap) (m + 1) (cellsL (v :: L))) (hm : L.length = m) :
    w.ownsRow B E 3 (.slice (some ⟨g, 0, none⟩) m cap) m (cellsL L) := by
  obtain ⟨h1, h2⟩ := h
  have hl : (cellsL L).length = m * 3 := by rw [cellsL_len, hm]
  refine ⟨hl, .inr ?_⟩
  rcases h2 with ⟨e, _⟩ | ⟨g', cap', cur, e, hg, hh, hc1, hc2, hs, ht⟩
  · cases e
  · cases e
    refine ⟨g, cap, cur, rfl, hg, hh, by omega, hc2, hs, ?_⟩
    have h3 := congrArg (List.take (m * 3)) ht
    rw [List.take_take, cellsL, List.take_append_of_le_length (by omega), show min (m * 3) ((m + 1) * 3) = m * 3 by omega] at h3
    rw [h3]
    exact List.take_of_length_le (by omega)
theorem own3_next {w : World} {B E g m cap : Nat} {v : Lv} {L : List Lv} (r : M.F) (a : Option Addr) (c : Nat) (h : w.ownsRow B E 3 (.slice (some ⟨g, 0, none⟩) (m + 1) cap) (m + 1) (cellsL (v :: L))) (hm : L.length = m) :
    (w.setCell ⟨g, m * 3, none⟩ (.slice a r.len c)).ownsRow B E 3 (.slice (some ⟨g, 0, none⟩) (m + 1) cap) (m + 1) (cellsL ({ v with rest := r, ka := a, kc := c } :: L)) := by
  obtain ⟨h1, h2⟩ := h
  have hl : (cellsL L).length = m * 3 := by rw [cellsL_len, hm]
  refine ⟨by rw [cellsL_len]; simp [hm], .inr ?_⟩
  rcases h2 with ⟨e, _⟩ | ⟨g', cap', cur, e, hg, hh, hc1, hc2, hs, ht⟩
  · cases e
  · cases e
    refine ⟨g, cap, cur.setIfInBounds (m * 3) (.slice a r.len c), rfl, hg, ?_, hc1, hc2, by simpa using hs, ?_⟩
    · simp only [World.setCell, Array.getElem?_modify, hh]
      simp
    · rw [Array.toList_setIfInBounds, List.take_set, ht, cellsL, List.set_append, if_neg (by omega), cellsL, hl, show m * 3 - m * 3 = 0 by omega]
      rfl
/-- where the levels' kids lie -/
def LvOK (S : Nat → Prop) (w : World) (v : Lv) : Prop := FL S w (.slice v.ka v.rest.len v.kc) v.rest ∧ allF OKnd v.rest
theorem LvOK.like {S : Nat → Prop} {w w' : World} (h : Like S w w') {v : Lv} (hv : LvOK S w v) : LvOK S w' v := ⟨hv.1.like h, hv.2⟩
def AllLv (S : Nat → Prop) (w : World) : List Lv → Prop
  | [] => True
  | v :: l => LvOK S w v ∧ AllLv S w l
theorem AllLv.like {S : Nat → Prop} {w w' : World} (h : Like S w w') : ∀ {l : List Lv}, AllLv S w l → AllLv S w' l
  | [], _ => trivial
  | v :: l, hl => ⟨hl.1.like h, AllLv.like h hl.2⟩
end Go.Proofs.YtibagbnnplpfgaaDoor
