/- SameAttrs, SameToken without attributes; the document's example. -/
import Derived.Test.YtdniddiaiinggaaDoorTN
set_option linter.unusedVariables false
namespace Go.Proofs.YtdniddiaiinggaaDoor
open Go.RowKit M

theorem row_slice {w : World} {B : Nat} {v : Value} {L : AL} (h : w.ownsRow B 30 2 v L.length (rowA L)) : ∃ a c, v = .slice a L.length c := by
  rcases h.2 with ⟨rfl, h0⟩ | ⟨g, cap, cur, rfl, _⟩
  · exact ⟨none, 0, by rw [h0]⟩
  · exact ⟨_, _, rfl⟩
theorem rowA_at : ∀ {L : AL} {j : Nat} {n x : List UInt8}, L[j]? = some (n, x) → (rowA L)[j * 2]? = some (.string (tx n)) ∧ (rowA L)[j * 2 + 1]? = some (.string (tx x))
  | [], j, n, x, h => by simp at h
  | p :: r, 0, n, x, h => by
    simp at h
    subst h
    exact ⟨rfl, rfl⟩
  | p :: r, j + 1, n, x, h => by
    have h2 : r[j]? = some (n, x) := by simpa using h
    have ih := rowA_at h2
    have e : rowA (p :: r) = .string (tx p.1) :: .string (tx p.2) :: rowA r := rfl
    have e1 : (j + 1) * 2 = j * 2 + 1 + 1 := by omega
    rw [e, e1, List.getElem?_cons_succ, List.getElem?_cons_succ, List.getElem?_cons_succ, List.getElem?_cons_succ]
    exact ih
theorem row_cells {w : World} {B : Nat} {v : Value} {L : AL} (h : w.ownsRow B 30 2 v L.length (rowA L)) (h0 : 0 < L.length) : ∃ g cap, v = .slice (some ⟨g, 0, none⟩) L.length cap ∧ B ≤ g ∧ g < w.heap.size ∧ L.length ≤ cap ∧
    ∀ j n x, L[j]? = some (n, x) → w.cell? ⟨g, j * 2, none⟩ = some (.string (tx n)) ∧ w.cell? ⟨g, j * 2 + 1, none⟩ = some (.string (tx x)) := by
  rcases h.2 with ⟨rfl, h1⟩ | ⟨g, cap, cur, rfl, hg, hh, hc1, hc2, hs, ht⟩
  · omega
  · refine ⟨g, cap, rfl, hg, (Array.getElem?_eq_some_iff.1 hh).1, hc1, fun j n x hj => ?_⟩
    have ha := rowA_at hj
    have q0 := h.cells (g := g) rfl _ _ ha.1
    have q1 := h.cells (g := g) rfl _ _ ha.2
    rw [add_cell, Nat.zero_add] at q0 q1
    exact ⟨q0, q1⟩
set_option maxRecDepth 20000 in
theorem sameAttrs_none (a b : Option Addr) (c d : Nat) (w : World) : Calls Tryd.prog 21 #[.slice a 0 c, .slice b 0 d] w fun e w' => e = .returned (.bool true) ∧ w' = w := by
  go_enter Tryd.func21, Tryd.ntmps21
  go_wp2_with fail
  refine wp_loop_rounds 1 ?_
  rw [rounds_succ]
  go_wp2_with fail
  go_ret
  exact ⟨rfl, rfl⟩
set_option maxRecDepth 20000 in
set_option maxHeartbeats 1000000 in
theorem sameToken_none (kd : Int) (n x : ByteArray) (r : Bool) (a b : Option Addr) (c d : Nat) (w : World) : Calls Tryd.prog 12 #[tokV kd n x (.slice a 0 c) r, tokV kd n x (.slice b 0 d) r] w fun e w' => e = .returned (.bool true) ∧ Below w.heap.size w w' := by
  have q1 : (kd == kd) = true := beq_self_eq_true _
  have q2 : (n.toList == n.toList) = true := beq_self_eq_true _
  have q3 : (x.toList == x.toList) = true := beq_self_eq_true _
  have q4 : (r == r) = true := beq_self_eq_true _
  go_enter Tryd.func12, Tryd.ntmps12
  go_wp2_with (go_at_call 21; refine (sameAttrs_none a b c d _).mono ?_; rintro e w2 ⟨rfl, rfl⟩)
  go_ret
  exact ⟨rfl, (bl1 w _).trans ((bl1 _ _).mono (bl1 w _).size)⟩

abbrev exS : ByteArray := ⟨#[60, 65, 32, 98, 61, 49, 32, 66, 61, 50, 62]⟩
theorem ex_tag : tagB exS.data.toList 1 = ([([98], [49])], 10) := by kernel_rfl
theorem ex_name : tagN exS.data.toList 1 = [97] := by kernel_rfl
theorem ex_ltr : ltrAt exS.data.toList 1 = true := by kernel_rfl
theorem ex_srt : srtA [([98], [49])] = [([98], [49])] := by simp [srtA, lookA]
theorem ex_is {t : Tk} {E : Nat} {ok : Bool} (h : NxR exS.data.toList 0 [] t E ok) : t.Is 1 [97] [] [([98], [49])] false ∧ E = 11 ∧ ok = true := by
  unfold NxR at h
  rw [if_pos rfl] at h
  unfold NxN at h
  rw [if_pos (by rfl)] at h
  unfold OpR at h
  rw [if_pos ex_ltr] at h
  rcases h.is with ⟨h1, _⟩ | ⟨_, h2, h3, h4⟩
  · rw [ex_tag] at h1
    exact absurd h1 (by decide)
  · rw [ex_tag] at h2 h3
    rw [ex_name, if_pos rfl, ex_srt] at h2
    exact ⟨h2, h3, h4⟩
theorem ex_raw : Fact (rawN (⟨#[116, 105, 116, 108, 101]⟩ : ByteArray).data.toList = 1) := ⟨by decide⟩
end Go.Proofs.YtdniddiaiinggaaDoor
