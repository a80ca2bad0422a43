/- Pieces of two texts that agree below a place (plain, for ScanCuts). -/
import Derived.Test.YtdniddiaiinggaaDoorWA
set_option linter.unusedVariables false
namespace Go.Proofs.YtdniddiaiinggaaDoor
open Go.RowKit M

variable {N : Nat} {l l' : List UInt8}
theorem pre_bat {l : List UInt8} {k : Nat} {x y : UInt8} {p : List UInt8} (h : (x :: y :: p).isPrefixOf (l.drop k) = true) : k + 1 < l.length ∧ bAt l k = x ∧ bAt l (k + 1) = y := by
  have h1 := pre_len h
  rw [List.length_drop] at h1
  simp at h1
  have h2 := pre2 h
  rw [bAt_drop, bAt_drop] at h2
  exact ⟨by omega, h2.1, h2.2⟩
theorem lw_same {c : UInt8} {x : UInt8} (h : lw c = x) (hx : x = 60 ∨ x = 33 ∨ x = 62) : c = x := by
  unfold lw at h
  split at h
  · rename_i h1
    exfalso
    have e2 := congrArg UInt8.toNat h
    rw [UInt8.toNat_add] at e2
    have : (32 : UInt8).toNat = 32 := rfl
    rcases hx with rfl | rfl | rfl
    · have : (60 : UInt8).toNat = 60 := rfl
      omega
    · have : (33 : UInt8).toNat = 33 := rfl
      omega
    · have : (62 : UInt8).toNat = 62 := rfl
      omega
  · exact h
theorem lwL_drop (l : List UInt8) (k : Nat) : lwL (l.drop k) = (lwL l).drop k := by unfold lwL; rw [List.map_drop]
theorem prel_bat {l : List UInt8} {k : Nat} {p : List UInt8} (h : (60 :: 33 :: p).isPrefixOf (lwL (l.drop k)) = true) : k + 1 < l.length ∧ bAt l (k + 1) = 33 := by
  rw [lwL_drop] at h
  have h1 := pre_bat h
  rw [lwL_len] at h1
  refine ⟨h1.1, ?_⟩
  have e : bAt (lwL l) (k + 1) = lw (bAt l (k + 1)) := by
    rw [bAt_in (by rw [lwL_len]; exact h1.1), bAt_in h1.1]
    simp [lwL]
  exact lw_same (e.symm.trans h1.2.2) (.inr (.inl rfl))
theorem pre_one {l : List UInt8} {k : Nat} {x y : UInt8} (h1 : k + 1 < l.length) (h2 : bAt l k = x) (h3 : bAt l (k + 1) = y) : [x, y].isPrefixOf (l.drop k) = true := by
  rw [drop_cons (by omega : k < l.length), drop_cons h1, h2, h3]
  simp [List.isPrefixOf]
theorem ltr_no {l : List UInt8} {k : Nat} {c : UInt8} (h : bAt l k = c) (hc : ltrN c.toNat = false) : ltrAt l k = false := by
  unfold ltrAt
  rw [h, hc, Bool.and_false]

theorem spN_at {p : UInt8 → Bool} : ∀ t : List UInt8, spN p t < t.length → p (bAt t (spN p t)) = false
  | [], h => by simp at h
  | c :: r, h => by
    rw [spN] at h ⊢
    split
    · rename_i hc
      rw [if_pos hc] at h
      exact spN_at r (by simpa using h)
    · rename_i hc
      show p c = false
      simpa using hc
theorem spE_at {p : UInt8 → Bool} {l : List UInt8} {k : Nat} (h : spE p l k < l.length) : p (bAt l (spE p l k)) = false := by
  unfold spE at h ⊢
  have := spN_at (p := p) (l.drop k) (by rw [List.length_drop]; omega)
  rwa [bAt_drop] at this
theorem dc_no62 {l : List UInt8} {k j : Nat} (e : [60, 33, 100, 111, 99, 116, 121, 112, 101].isPrefixOf (lwL (l.drop k)) = true) (hj : j ≤ 8) (h : bAt l (k + j) = 62) : False := by
  have hl := pre_len e
  rw [lwL_len, List.length_drop] at hl
  simp at hl
  obtain ⟨q, hq⟩ := List.isPrefixOf_iff_prefix.1 e
  have e1 : bAt (lwL (l.drop k)) j = lw (bAt (l.drop k) j) := by
    rw [bAt_in (by rw [lwL_len, List.length_drop]; omega), bAt_in (by rw [List.length_drop]; omega)]
    simp [lwL]
  rw [bAt_drop, h, ← hq, bAt_app (by simp; omega)] at e1
  have : ∀ j : Fin 9, bAt [60, 33, 100, 111, 99, 116, 121, 112, 101] j.val ≠ lw 62 := by decide
  exact this ⟨j, by omega⟩ e1
/-- what opened says at a place that is no '</' at the very end -/
theorem Ag.op (h : Ag N l l') {k : Nat} {t : Tk} {E : Nat} {ok : Bool} (hO : OpR l k t E ok) (hkE : k < E) (hE : E < N) (h60 : bAt l k = 60) (hQ : l.drop k ≠ [60, 47]) : OpR l' k t E ok := by
  have h1 := h.le
  have h2 := h.le'
  have hk1 : k + 1 < N := by omega
  have b0 := h.bat (j := k) (by omega)
  have b1 := h.bat hk1
  unfold OpR at hO ⊢
  rw [h.ltr hk1]
  by_cases g1 : ltrAt l (k + 1) = true
  · rw [if_pos g1] at hO ⊢
    exact h.tagR (by omega) (tagR_lt hO hE h1).1 hO
  rw [if_neg g1] at hO ⊢
  -- the sign behind
  by_cases c47 : bAt l (k + 1) = 47
  · have p1 : [60, 47].isPrefixOf (l.drop k) = true := pre_one (by omega) h60 c47
    have p1' : [60, 47].isPrefixOf (l'.drop k) = true := pre_one (by omega) (b0.trans h60) (b1.trans c47)
    have n3 : [60, 33, 45, 45].isPrefixOf (l.drop k) = false := by
      rw [Bool.eq_false_iff]; intro e; have := (pre_bat e).2.2; rw [c47] at this; cases this
    have n3' : [60, 33, 45, 45].isPrefixOf (l'.drop k) = false := by
      rw [Bool.eq_false_iff]; intro e; have := (pre_bat e).2.2; rw [b1, c47] at this; cases this
    have n4 : [60, 33, 100, 111, 99, 116, 121, 112, 101].isPrefixOf (lwL (l.drop k)) = false := by
      rw [Bool.eq_false_iff]; intro e; have := (prel_bat e).2; rw [c47] at this; cases this
    have n4' : [60, 33, 100, 111, 99, 116, 121, 112, 101].isPrefixOf (lwL (l'.drop k)) = false := by
      rw [Bool.eq_false_iff]; intro e; have := (prel_bat e).2; rw [b1, c47] at this; cases this
    have n5 : [60, 33].isPrefixOf (l.drop k) = false := by
      rw [Bool.eq_false_iff]; intro e; have := (pre_bat e).2.2; rw [c47] at this; cases this
    have n5' : [60, 33].isPrefixOf (l'.drop k) = false := by
      rw [Bool.eq_false_iff]; intro e; have := (pre_bat e).2.2; rw [b1, c47] at this; cases this
    have q5 : (l.drop k == [60, 47]) = false := beq_eq_false_iff_ne.2 hQ
    have hk2 : k + 2 < N := by
      rw [p1, Bool.true_and, n3, n4, n5, q5] at hO
      by_cases g2 : ltrAt l (k + 2) = true
      · rw [if_pos g2] at hO
        have := (tagR_lt hO hE h1).2
        omega
      rw [if_neg g2] at hO
      by_cases g3 : [60, 47, 62].isPrefixOf (l.drop k) = true
      · rw [if_pos g3] at hO
        have := hO.2.1
        omega
      rw [if_neg g3, if_neg (by simp), if_neg (by simp), if_pos (by simp)] at hO
      have := hO.2.1
      have := spE_ge (fun x => x != 62) l (k + 2)
      omega
    rw [p1, Bool.true_and, n3, n4, n5, q5] at hO
    have q5' : (l'.drop k == [60, 47]) = false := beq_eq_false_iff_ne.2 (fun e => by
      have := congrArg List.length e
      rw [List.length_drop] at this
      simp at this
      omega)
    rw [p1', Bool.true_and, n3', n4', n5', q5', h.ltr hk2, h.pre [60, 47, 62] (by simp; omega)]
    by_cases g2 : ltrAt l (k + 2) = true
    · rw [if_pos g2] at hO ⊢
      exact h.tagR (by omega) (tagR_lt hO hE h1).1 hO
    rw [if_neg g2] at hO ⊢
    by_cases g3 : [60, 47, 62].isPrefixOf (l.drop k) = true
    · rw [if_pos g3] at hO ⊢
      exact hO
    rw [if_neg g3, if_neg (by simp), if_neg (by simp), if_pos (by simp)] at hO ⊢
    exact h.bog hO hE
  · have m1 : ∀ p, (60 :: 47 :: p).isPrefixOf (l.drop k) = false := fun p => by
      rw [Bool.eq_false_iff]; intro e; exact c47 (pre_bat e).2.2
    have m1' : ∀ p, (60 :: 47 :: p).isPrefixOf (l'.drop k) = false := fun p => by
      rw [Bool.eq_false_iff]; intro e; exact c47 (b1.symm.trans (pre_bat e).2.2)
    rw [m1 [], m1 [62], Bool.false_and, Bool.false_and, Bool.or_false, if_neg (by simp), if_neg (by simp)] at hO
    rw [m1' [], m1' [62], Bool.false_and, Bool.false_and, Bool.or_false, if_neg (by simp), if_neg (by simp)]
    by_cases c33 : bAt l (k + 1) = 33
    · have p4 : [60, 33].isPrefixOf (l.drop k) = true := pre_one (by omega) h60 c33
      have p4' : [60, 33].isPrefixOf (l'.drop k) = true := pre_one (by omega) (b0.trans h60) (b1.trans c33)
      rw [p4] at hO
      rw [p4']
      by_cases g3 : [60, 33, 45, 45].isPrefixOf (l.drop k) = true
      · rw [if_pos g3] at hO
        obtain ⟨T, d1, d2, d3⟩ := hO
        have hle := d1.le (by have := pre_len g3; rw [List.length_drop] at this; simp at this; omega)
        rw [if_pos (by rw [h.pre _ (by simp; omega)]; exact g3)]
        exact ⟨T, h.cm d1 hE, d2, d3⟩
      rw [if_neg g3] at hO
      by_cases g4 : [60, 33, 100, 111, 99, 116, 121, 112, 101].isPrefixOf (lwL (l.drop k)) = true
      · rw [if_pos g4] at hO
        obtain ⟨d1, d2, d3⟩ := hO
        have g5 : k + 9 ≤ dcE l (k + 9) := by
          have hl := pre_len g4
          rw [lwL_len, List.length_drop] at hl
          simp at hl
          have e1 : k + 9 ≤ dcF l (k + 9) := spE_ge _ _ _
          have e2 : dcF l (k + 9) ≤ dcB l (k + 9) := spE_ge _ _ _
          have e3 := spE_ge (fun x => x != 62) l (dcB l (k + 9))
          have e4 : k + 9 ≤ l.length := by omega
          unfold dcE
          omega
        obtain ⟨f1, f2⟩ := h.dc (k := k + 9) (by omega)
        rw [if_neg (by rw [h.pre _ (by simp; omega)]; exact g3), if_pos (by rw [h.prel _ (by simp; omega)]; exact g4), f1, f2]
        exact ⟨d1, d2, d3⟩
      rw [if_neg g4, if_pos rfl] at hO
      obtain ⟨d1, d2, d3⟩ := hO
      have s1 := spE_ge (fun x => x != 62) l (k + 2)
      have s2 : spE (fun x => x != 62) l (k + 2) + 1 = E := by omega
      have s3 : bAt l (spE (fun x => x != 62) l (k + 2)) = 62 := by
        have := spE_at (p := fun x => x != 62) (l := l) (k := k + 2) (by omega)
        simpa using this
      have g3' : ¬ [60, 33, 45, 45].isPrefixOf (l'.drop k) = true := by
        rcases Nat.lt_or_ge (k + 3) N with h4 | h4
        · rw [h.pre _ (by simp; omega)]; exact g3
        · omega
      have g4' : ¬ [60, 33, 100, 111, 99, 116, 121, 112, 101].isPrefixOf (lwL (l'.drop k)) = true := by
        rcases Nat.lt_or_ge (k + 8) N with h4 | h4
        · rw [h.prel _ (by simp; omega)]; exact g4
        · intro e
          have h5 : bAt l' (spE (fun x => x != 62) l (k + 2)) = 62 := (h.bat (by omega)).trans s3
          exact dc_no62 e (j := spE (fun x => x != 62) l (k + 2) - k) (by omega) (by rw [show k + (spE (fun x => x != 62) l (k + 2) - k) = spE (fun x => x != 62) l (k + 2) by omega]; exact h5)
      rw [if_neg g3', if_neg g4', if_pos rfl]
      exact h.bog ⟨d1, d2, d3⟩ hE
    · have m3 : ∀ p, (60 :: 33 :: p).isPrefixOf (l.drop k) = false := fun p => by
        rw [Bool.eq_false_iff]; intro e; exact c33 (pre_bat e).2.2
      have m3' : ∀ p, (60 :: 33 :: p).isPrefixOf (l'.drop k) = false := fun p => by
        rw [Bool.eq_false_iff]; intro e; exact c33 (b1.symm.trans (pre_bat e).2.2)
      have m4 : [60, 33, 100, 111, 99, 116, 121, 112, 101].isPrefixOf (lwL (l.drop k)) = false := by
        rw [Bool.eq_false_iff]; intro e; exact c33 (prel_bat e).2
      have m4' : [60, 33, 100, 111, 99, 116, 121, 112, 101].isPrefixOf (lwL (l'.drop k)) = false := by
        rw [Bool.eq_false_iff]; intro e; exact c33 (b1.symm.trans (prel_bat e).2)
      rw [m3 [45, 45], m4, m3 [], if_neg (by simp), if_neg (by simp), if_neg (by simp)] at hO
      rw [m3' [45, 45], m4', m3' [], if_neg (by simp), if_neg (by simp), if_neg (by simp), h.pre [60, 63] (by simp; omega)]
      by_cases g6 : [60, 63].isPrefixOf (l.drop k) = true
      · rw [if_pos g6] at hO ⊢
        exact h.bog hO hE
      · rw [if_neg g6] at hO ⊢
        exact hO
theorem Ag.nn (h : Ag N l l') {k : Nat} {t : Tk} {E : Nat} {ok : Bool} (hO : NxN l k t E ok) (hkE : k < E) (hE : E < N) (hQ : l.drop k ≠ [60, 47]) : NxN l' k t E ok := by
  unfold NxN at hO ⊢
  rw [h.bat (by omega)]
  by_cases g : bAt l k = 60
  · rw [if_pos g] at hO ⊢
    exact h.op hO hkE hE g hQ
  · rw [if_neg g] at hO ⊢
    obtain ⟨a1, a2, a3⟩ := hO
    have h3 : spE (txP (blk (bAt l k))) l k < N := by omega
    rw [h.spe h3, h.sb (Nat.le_of_lt h3)]
    exact ⟨a1, a2, a3⟩
theorem Ag.nx (h : Ag N l l') {k : Nat} {raw : List UInt8} {t : Tk} {E : Nat} {ok : Bool} (hO : NxR l k raw t E ok) (hkE : k < E) (hE : E < N) (hQ : l.drop k ≠ [60, 47]) (hend : raw ≠ [] → ∀ j, j < N → endT (lwL raw) (l'.drop j) = endT (lwL raw) (l.drop j)) : NxR l' k raw t E ok := by
  have h1 := h.le
  have h2 := h.le'
  unfold NxR at hO ⊢
  by_cases g : raw = []
  · rw [if_pos g] at hO ⊢
    exact h.nn hO hkE hE hQ
  · rw [if_neg g] at hO ⊢
    obtain ⟨B, hB, hO⟩ := hO
    have hge := hB.ge
    by_cases g2 : k < B
    · rw [if_pos g2] at hO
      obtain ⟨a1, a2, a3⟩ := hO
      refine ⟨B, first_ag (N := N) hB (by omega) h1 h2 (fun j _ hj => hend g j (by omega)), ?_⟩
      rw [if_pos g2, h.sb (by omega)]
      exact ⟨a1, a2, a3⟩
    · rw [if_neg g2] at hO
      refine ⟨B, first_ag (N := N) hB (by omega) h1 h2 (fun j _ hj => hend g j (by omega)), ?_⟩
      rw [if_neg g2]
      exact h.nn hO hkE hE hQ
end Go.Proofs.YtdniddiaiinggaaDoor
