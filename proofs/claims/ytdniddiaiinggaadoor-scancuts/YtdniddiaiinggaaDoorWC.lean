/- Pieces behind another text (plain, for ScanCuts). -/
import Derived.Test.YtdniddiaiinggaaDoorWB
set_option linter.unusedVariables false
namespace Go.Proofs.YtdniddiaiinggaaDoor
open Go.RowKit M

variable {a b : List UInt8}
theorem sh_drop (k : Nat) : (a ++ b).drop (a.length + k) = b.drop k := by
  rw [← List.drop_drop, List.drop_left]
theorem sh_len : (a ++ b).length = a.length + b.length := List.length_append
theorem sh_spe (p : UInt8 → Bool) (k : Nat) : spE p (a ++ b) (a.length + k) = a.length + spE p b k := by
  unfold spE
  rw [sh_drop]; omega
theorem sh_sub (x y : Nat) : sub (a ++ b) (a.length + x) (a.length + y) = sub b x y := by
  unfold sub
  rw [sh_drop, Nat.add_sub_add_left]
theorem sh_ltr (k : Nat) : ltrAt (a ++ b) (a.length + k) = ltrAt b k := by
  unfold ltrAt
  rw [bAt_app2, sh_len]
  congr 1
  rw [Bool.eq_iff_iff, decide_eq_true_iff, decide_eq_true_iff]
  omega
theorem sh_val (k : Nat) : valB (a ++ b) (a.length + k) = ((valB b k).1, a.length + (valB b k).2) := by
  unfold valB
  rw [bAt_app2, sh_len]
  by_cases hc : k < b.length ∧ (bAt b k = 34 ∨ bAt b k = 39)
  · rw [if_pos ⟨by omega, hc.2⟩, if_pos hc, Nat.add_assoc, sh_spe, sh_sub]
    simp only
    congr 1
    omega
  · rw [if_neg (fun e => hc ⟨by omega, e.2⟩), if_neg hc, sh_spe, sh_sub]
theorem sh_attE (k : Nat) : attE (a ++ b) (a.length + k) = a.length + attE b k := by
  unfold attE
  rw [Nat.add_assoc, sh_spe]
theorem sh_attN (k : Nat) : attN (a ++ b) (a.length + k) = attN b k := by
  unfold attN
  rw [sh_attE, sh_sub]
theorem sh_att (k : Nat) : attB (a ++ b) (a.length + k) = ((attB b k).1, a.length + (attB b k).2) := by
  unfold attB
  rw [sh_attE, sh_spe, bAt_app2, sh_len]
  by_cases hc : spE blk b (attE b k) < b.length ∧ bAt b (spE blk b (attE b k)) = 61
  · rw [if_pos ⟨by omega, hc.2⟩, if_pos hc, Nat.add_assoc, sh_spe, sh_val]
  · rw [if_neg (fun e => hc ⟨by omega, e.2⟩), if_neg hc]
theorem sh_tga : ∀ (n k : Nat) (acc : AL), b.length - k ≤ n → k ≤ b.length → tagA (a ++ b) (a.length + k) acc = ((tagA b k acc).1, a.length + (tagA b k acc).2)
  | n, k, acc, hn, hk => by
    by_cases hc : k < b.length ∧ bAt b k ≠ 62
    · have g1 := attB_le hc.1
      have g2 := btw_le g1.2
      rw [tagA_go hc, tagA_go ⟨by rw [sh_len]; omega, by rw [bAt_app2]; exact hc.2⟩, sh_att, sh_attN]
      obtain ⟨m, rfl⟩ : ∃ m, n = m + 1 := ⟨n - 1, by omega⟩
      show tagA (a ++ b) (btw (a ++ b) (a.length + (attB b k).2)) _ = _
      rw [show btw (a ++ b) (a.length + (attB b k).2) = a.length + btw b (attB b k).2 from sh_spe _ _]
      exact sh_tga m _ _ (by omega) g2.2
    · rw [tagA_stop hc, tagA_stop (by rw [sh_len, bAt_app2]; exact fun e => hc ⟨by omega, e.2⟩)]
theorem sh_tag {k : Nat} (hk : k ≤ b.length) : tagB (a ++ b) (a.length + k) = ((tagB b k).1, a.length + (tagB b k).2) ∧ tagN (a ++ b) (a.length + k) = tagN b k := by
  have h1 := tagE_le hk
  have h2 := btw_le h1.2
  have e : tagE (a ++ b) (a.length + k) = a.length + tagE b k := sh_spe _ _
  refine ⟨?_, ?_⟩
  · unfold tagB
    rw [e, show btw (a ++ b) (a.length + tagE b k) = a.length + btw b (tagE b k) from sh_spe _ _]
    exact sh_tga _ _ _ (Nat.le_refl _) h2.2
  · unfold tagN
    rw [e, sh_sub]
theorem sh_tagR {k : Nat} {kd : Int} {t : Tk} {E : Nat} {ok : Bool} (hk : k ≤ b.length) (h : TagR b k kd t E ok) : TagR (a ++ b) (a.length + k) kd t (a.length + E) ok := by
  obtain ⟨e1, e2⟩ := sh_tag (a := a) hk
  refine ⟨?_⟩
  rw [e1, e2, sh_len]
  rcases h.is with ⟨a1, a2, a3, a4⟩ | ⟨a1, a2, a3, a4⟩
  · exact .inl ⟨by simp only; omega, a2, by omega, a4⟩
  · exact .inr ⟨by simp only; omega, a2, by simp only; omega, a4⟩
theorem sh_first {q q' : Nat → Bool} {n k E m : Nat} (h : IsFirst q n k E) (hq : ∀ j, q' (m + j) = q j) : IsFirst q' (m + n) (m + k) (m + E) := by
  refine ⟨by have := h.ge; omega, by have := h.le; omega, fun j h1 h2 => ?_, fun h1 => ?_⟩
  · obtain ⟨i, rfl⟩ : ∃ i, j = m + i := ⟨j - m, by omega⟩
    rw [hq]; exact h.no i (by omega) (by omega)
  · rw [hq]; exact h.at_ (by omega)
theorem sh_cm {k : Nat} {T : List UInt8} {E : Nat} (h : CmT b k T E) : CmT (a ++ b) (a.length + k) T (a.length + E) := by
  refine ⟨?_⟩
  rw [sh_drop, sh_len]
  rcases h.is with ⟨a1, a2, a3⟩ | ⟨a0, a1, a2, a3⟩ | ⟨a0, a1, i, hi, a2⟩
  · exact .inl ⟨a1, a2, by omega⟩
  · exact .inr (.inl ⟨a0, a1, a2, by omega⟩)
  · refine .inr (.inr ⟨a0, a1, a.length + i, sh_first hi (fun j => by rw [sh_drop]), ?_⟩)
    rw [sh_drop, sh_sub]
    rcases a2 with ⟨b1, b2, b3⟩ | ⟨b1, b2, b3⟩
    · exact .inl ⟨by omega, b2, by omega⟩
    · exact .inr ⟨by omega, b2, by omega⟩
theorem sh_bog {k : Nat} {t : Tk} {E : Nat} {ok : Bool} (h : BogR b k t E ok) : BogR (a ++ b) (a.length + k) t (a.length + E) ok := by
  obtain ⟨a1, a2, a3⟩ := h
  refine ⟨?_, ?_, a3⟩
  · rw [sh_spe, sh_sub]; exact a1
  · rw [sh_spe, sh_len]; omega
theorem sh_dc (k : Nat) : dcN (a ++ b) (a.length + k) = dcN b k ∧ dcE (a ++ b) (a.length + k) = a.length + dcE b k := by
  have eF : dcF (a ++ b) (a.length + k) = a.length + dcF b k := sh_spe _ _
  have eB : dcB (a ++ b) (a.length + k) = a.length + dcB b k := by unfold dcB; rw [eF, sh_spe]
  refine ⟨?_, ?_⟩
  · unfold dcN
    rw [eF, eB, sh_sub]
  · unfold dcE
    rw [eB, sh_spe, sh_len]
    omega
theorem sh_op {k : Nat} {t : Tk} {E : Nat} {ok : Bool} (hk : k < b.length) (h : OpR b k t E ok) : OpR (a ++ b) (a.length + k) t (a.length + E) ok := by
  unfold OpR at h ⊢
  rw [sh_drop, Nat.add_assoc, Nat.add_assoc, Nat.add_assoc, Nat.add_assoc, Nat.add_assoc, sh_ltr, sh_ltr]
  split
  · rename_i g
    rw [if_pos g] at h
    exact sh_tagR (by omega) h
  rename_i g1
  rw [if_neg g1] at h
  split
  · rename_i g
    rw [if_pos g] at h
    have g' := g
    rw [Bool.and_eq_true] at g'
    have := pre_len g'.1
    rw [List.length_drop] at this
    simp at this
    exact sh_tagR (by omega) h
  rename_i g2
  rw [if_neg g2] at h
  split
  · rename_i g
    rw [if_pos g] at h
    exact ⟨h.1, by omega, h.2.2⟩
  rename_i g3
  rw [if_neg g3] at h
  split
  · rename_i g
    rw [if_pos g] at h
    obtain ⟨T, c1, c2, c3⟩ := h
    exact ⟨T, sh_cm c1, c2, c3⟩
  rename_i g4
  rw [if_neg g4] at h
  split
  · rename_i g
    rw [if_pos g] at h
    rw [(sh_dc (k + 9)).1, (sh_dc (k + 9)).2]
    exact ⟨h.1, by omega, h.2.2⟩
  rename_i g5
  rw [if_neg g5] at h
  split
  · rename_i g
    rw [if_pos g] at h
    exact sh_bog h
  rename_i g6
  rw [if_neg g6] at h
  split
  · rename_i g
    rw [if_pos g] at h
    exact sh_bog h
  · rename_i g
    rw [if_neg g] at h
    exact ⟨h.1, by omega, h.2.2⟩
theorem sh_nn {k : Nat} {t : Tk} {E : Nat} {ok : Bool} (hk : k < b.length) (h : NxN b k t E ok) : NxN (a ++ b) (a.length + k) t (a.length + E) ok := by
  unfold NxN at h ⊢
  rw [bAt_app2]
  split
  · rename_i g
    rw [if_pos g] at h
    exact sh_op hk h
  · rename_i g
    rw [if_neg g] at h
    rw [sh_spe, sh_sub]
    exact ⟨h.1, by omega, h.2.2⟩
theorem sh_nx {k : Nat} {raw : List UInt8} {t : Tk} {E : Nat} {ok : Bool} (hk : k < b.length) (h : NxR b k raw t E ok) : NxR (a ++ b) (a.length + k) raw t (a.length + E) ok := by
  unfold NxR at h ⊢
  split
  · rename_i g
    rw [if_pos g] at h
    exact sh_nn hk h
  · rename_i g
    rw [if_neg g] at h
    obtain ⟨B, hB, h⟩ := h
    refine ⟨a.length + B, ?_, ?_⟩
    · rw [sh_len]
      exact sh_first hB (fun j => by rw [sh_drop])
    · by_cases g2 : k < B
      · rw [if_pos g2] at h
        rw [if_pos (by omega), sh_sub]
        exact ⟨h.1, by omega, h.2.2⟩
      · rw [if_neg g2] at h
        rw [if_neg (by omega)]
        exact sh_nn hk h
/-- a piece further on -/
def shP (m : Nat) (p : Pc) : Pc := ⟨p.t, m + p.E, p.ok⟩
theorem sh_stp {k : Nat} {raw : List UInt8} {p : Pc} (h : StpR b k raw p) : StpR (a ++ b) (a.length + k) raw (shP a.length p) := by
  unfold StpR at h ⊢
  by_cases g : k < b.length
  · rw [if_pos g] at h
    rw [if_pos (by rw [sh_len]; omega)]
    exact sh_nx g h
  · rw [if_neg g] at h
    rw [if_neg (by rw [sh_len]; omega)]
    exact ⟨h.1, by show a.length + p.E = _; rw [sh_len, h.2.1], h.2.2⟩
theorem sh_tr : ∀ (tr : List Pc) (k : Nat) (raw : List UInt8), TrF b k raw tr → TrF (a ++ b) (a.length + k) raw (tr.map (shP a.length))
  | [], _, _, _ => trivial
  | p :: r, k, raw, h => ⟨sh_stp h.1, sh_tr r _ _ h.2⟩
end Go.Proofs.YtdniddiaiinggaaDoor
