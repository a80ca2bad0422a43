/- Levels, one upon the other: what is still to be held against one another of two trees; a row of pairs that a call has made. -/
import Derived.Test.YtkojhgagkoeeiaaIter
import Derived.Test.YtkojhgagkoeeiaaOrder
import Derived.Test.YtkojhgagkoeeiaaAwake
set_option linter.unusedVariables false
namespace Go.Proofs.Ytkojhgagkoeeiaa
open Go.Deep (BT)
open Go.RowKit M

theorem own2_pop {w : World} {B E g n cap : Nat} {l : List Value} {x y : Value} (h : w.ownsRow B E 2 (.slice (some ⟨g, 0, none⟩) (n + 1) cap) (n + 1) (l ++ [x, y])) :
    w.ownsRow B E 2 (.slice (some ⟨g, 0, none⟩) n cap) n l := by
  obtain ⟨h1, h2⟩ := h
  have hl : l.length = n * 2 := by simp at h1; omega
  refine ⟨hl, .inr ?_⟩
  rcases h2 with ⟨e, _⟩ | ⟨g', cap', cur, e, hg, hh, hc1, hc2, hs, ht⟩
  · cases e
  · cases e
    refine ⟨g, cap, cur, rfl, hg, hh, by omega, hc2, hs, ?_⟩
    have := congrArg (List.take (n * 2)) ht
    rw [List.take_take, List.take_append_of_le_length (by omega), List.take_of_length_le (Nat.le_of_eq hl)] at this
    rw [← this]
    congr 1
    omega
theorem own2_set {w : World} {B E g n cap : Nat} {l : List Value} {x y x' y' : Value} (h : w.ownsRow B E 2 (.slice (some ⟨g, 0, none⟩) (n + 1) cap) (n + 1) (l ++ [x, y])) :
    ((w.setCell ⟨g, n * 2, none⟩ x').setCell ⟨g, n * 2 + 1, none⟩ y').ownsRow B E 2 (.slice (some ⟨g, 0, none⟩) (n + 1) cap) (n + 1) (l ++ [x', y']) := by
  obtain ⟨h1, h2⟩ := h
  have hl : l.length = n * 2 := by simp at h1; omega
  refine ⟨by simp; omega, .inr ?_⟩
  rcases h2 with ⟨e, _⟩ | ⟨g', cap', cur, e, hg, hh, hc1, hc2, hs, ht⟩
  · cases e
  · cases e
    refine ⟨g, cap, (cur.setIfInBounds (n * 2) x').setIfInBounds (n * 2 + 1) y', rfl, hg, ?_, hc1, hc2, by simpa using hs, ?_⟩
    · simp only [World.setCell, Array.getElem?_modify, hh]
      simp
    · rw [Array.toList_setIfInBounds, Array.toList_setIfInBounds, List.take_set, List.take_set, ht, List.set_append, if_neg (by omega), List.set_append, if_neg (by omega)]
      simp [hl]
theorem own2_at {w : World} {B E g n cap : Nat} {l : List Value} {x y : Value} (h : w.ownsRow B E 2 (.slice (some ⟨g, 0, none⟩) (n + 1) cap) (n + 1) (l ++ [x, y])) :
    w.cell? ⟨g, n * 2, none⟩ = some x ∧ w.cell? ⟨g, n * 2 + 1, none⟩ = some y ∧ w.frozen? ⟨g, n * 2, none⟩ = false ∧ w.frozen? ⟨g, n * 2 + 1, none⟩ = false ∧ B ≤ g ∧ g < w.heap.size := by
  obtain ⟨h1, h2⟩ := h
  have hl : l.length = n * 2 := by simp at h1; omega
  rcases h2 with ⟨e, _⟩ | ⟨g', cap', cur, e, hg, hh, hc1, hc2, hs, ht⟩
  · cases e
  · cases e
    refine ⟨?_, ?_, by simp [World.frozen?, hh], by simp [World.frozen?, hh], hg, (Array.getElem?_eq_some_iff.1 hh).1⟩
    · simp only [World.cell?, hh]
      have := congrArg (fun z => z[n * 2]?) ht
      simp only [List.getElem?_append_right (show l.length ≤ n * 2 by omega), hl, Nat.sub_self, List.getElem?_cons_zero] at this
      rw [List.getElem?_take_of_lt (by omega)] at this
      simpa using this
    · simp only [World.cell?, hh]
      have := congrArg (fun z => z[n * 2 + 1]?) ht
      simp only [List.getElem?_append_right (show l.length ≤ n * 2 + 1 by omega), hl, show n * 2 + 1 - n * 2 = 1 by omega, List.getElem?_cons_succ, List.getElem?_cons_zero] at this
      rw [List.getElem?_take_of_lt (by omega)] at this
      simpa using this

/-- pairs as cells, the outermost one first -/
def flat : List (Value × Value) → List Value
  | [] => []
  | p :: l => flat l ++ [p.1, p.2]
/-- pairs of lists, the innermost one first -/
def StkP (S : Nat → Prop) (w : World) : List (Value × Value) → List (M.F × M.F) → Prop
  | [], [] => True
  | v :: vs, f :: fs => FL S w v.1 f.1 ∧ FL S w v.2 f.2 ∧ StkP S w vs fs
  | _, _ => False
theorem StkP.like {S : Nat → Prop} {w w' : World} (h : Like S w w') : ∀ (vs : List (Value × Value)) (fs : List (M.F × M.F)), StkP S w vs fs → StkP S w' vs fs
  | [], [], hs => hs
  | [], _ :: _, hs => hs.elim
  | _ :: _, [], hs => hs.elim
  | v :: vs, f :: fs, hs => ⟨hs.1.like h, hs.2.1.like h, StkP.like h vs fs hs.2.2⟩

/-- the first tree of a list, and the rest -/
theorem FL.split {S : Nat → Prop} {w : World} {v : Value} {xb xo : Nat} {d : Nd} {k r : M.F} (h : FL S w v (.node xb xo d k r)) :
    ∃ b o cap av ka kc A', v = .slice (some ⟨b, o, none⟩) (r.len + 1) cap ∧ r.len + 1 ≤ cap ∧ cap ≤ maxLen ∧ S b ∧ (w.cell? ⟨b, o, none⟩ = some (.int .i64 d.k) ∧ w.cell? ⟨b, o + 1, none⟩ = some (.string d.n) ∧ w.cell? ⟨b, o + 2, none⟩ = some (.string d.x) ∧
      w.cell? ⟨b, o + 3, none⟩ = some av ∧ w.cell? ⟨b, o + 4, none⟩ = some (.slice ka k.len kc)) ∧ AS S w av d.ats ∧ FL S w (.slice ka k.len kc) k ∧
      (if cap = 1 then some (⟨b, o, none⟩ : Addr) else some ⟨b, o + 5, none⟩) = A' ∧ FL S w (.slice A' r.len (cap - 1)) r := by
  obtain ⟨b, o, cap, av, ka, kc, rfl, h1, h2, hS, c0, c1, c2, c3, c4, ha, hk, hr⟩ := h.cons
  refine ⟨b, o, cap, av, ka, kc, _, rfl, h1, h2, hS, ⟨c0, c1, c2, c3, c4⟩, ha, hk, rfl, _, cap - 1, rfl, by omega, by omega, ?_⟩
  by_cases hc : cap = 1
  · exact .inl (by omega)
  · rw [if_neg hc]; exact .inr ⟨b, o + 5, rfl, hS, hr⟩

theorem orI_assoc (a b c : Int) : orI (orI a b) c = orI a (orI b c) := by
  unfold orI
  by_cases h : a = 0
  · rw [if_pos h, if_pos h]
  · rw [if_neg h, if_neg h, if_neg h]
theorem cS_push (xb xo yb yo : Nat) (d d' : Nd) (k k' r r' : M.F) (L : List (M.F × M.F)) : cS ((.node xb xo d k r, .node yb yo d' k' r') :: L) = orI (cn d d') (cS ((k, k') :: (r, r') :: L)) := by
  show orI (orI _ (orI _ _)) _ = orI _ (orI _ (orI _ _))
  rw [orI_assoc, orI_assoc]
theorem cS_nil (L : List (M.F × M.F)) : cS ((.nil, .nil) :: L) = cS L := by
  show orI 0 _ = _
  rfl
theorem infoL : (Try.prog.info? 112).map (fun i => (i.zero, i.size, i.bytes)) = some (some (.agg #[.slice none 0 0, .slice none 0 0]), 2, 48) := by kernel_rfl
end Go.Proofs.Ytkojhgagkoeeiaa
