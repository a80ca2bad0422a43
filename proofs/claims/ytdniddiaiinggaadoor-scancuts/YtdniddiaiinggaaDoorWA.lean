/- Two texts that agree below a place: what stands ahead of it is one (plain, for ScanCuts). -/
import Derived.Test.YtdniddiaiinggaaDoorSD
set_option linter.unusedVariables false
namespace Go.Proofs.YtdniddiaiinggaaDoor
open Go.RowKit M

/-- two texts that are the same below N -/
structure Ag (N : Nat) (l l' : List UInt8) : Prop where
  tk : l.take N = l'.take N
  le : N ≤ l.length
  le' : N ≤ l'.length
variable {N : Nat} {l l' : List UInt8}
theorem Ag.bat (h : Ag N l l') {j : Nat} (hj : j < N) : bAt l' j = bAt l j := by
  have h1 := h.le
  have h2 := h.le'
  have e := congrArg (fun t => t[j]?) h.tk
  simp only [List.getElem?_take_of_lt hj] at e
  unfold bAt
  rw [List.getD_eq_getElem?_getD, List.getD_eq_getElem?_getD, e]
theorem Ag.dt (h : Ag N l l') {k m : Nat} (hm : k + m ≤ N) : (l.drop k).take m = (l'.drop k).take m := by
  have e : ∀ t : List UInt8, (t.drop k).take m = ((t.take N).drop k).take m := fun t => by
    rw [List.drop_take, List.take_take, Nat.min_eq_left (by omega)]
  rw [e l, e l', h.tk]
theorem Ag.sb (h : Ag N l l') {a b : Nat} (hb : b ≤ N) : sub l' a b = sub l a b := by
  unfold sub
  rcases Nat.le_total a b with hab | hab
  · exact (h.dt (by omega)).symm
  · rw [Nat.sub_eq_zero_of_le hab]; simp
theorem pre_take (p t : List UInt8) {m : Nat} (hm : p.length ≤ m) : p.isPrefixOf (t.take m) = p.isPrefixOf t := by
  rw [Bool.eq_iff_iff, List.isPrefixOf_iff_prefix, List.isPrefixOf_iff_prefix]
  constructor
  · exact fun e => e.trans (List.take_prefix _ _)
  · intro e
    obtain ⟨q, rfl⟩ := e
    rw [List.take_append]
    exact ⟨q.take (m - p.length), by rw [List.take_of_length_le hm]⟩
theorem Ag.pre (h : Ag N l l') (p : List UInt8) {k : Nat} (hm : k + p.length ≤ N) : p.isPrefixOf (l'.drop k) = p.isPrefixOf (l.drop k) := by
  rw [← pre_take p (l'.drop k) (Nat.le_refl _), ← pre_take p (l.drop k) (Nat.le_refl _), h.dt hm]
theorem Ag.prel (h : Ag N l l') (p : List UInt8) {k : Nat} (hm : k + p.length ≤ N) : p.isPrefixOf (lwL (l'.drop k)) = p.isPrefixOf (lwL (l.drop k)) := by
  rw [← pre_take p (lwL (l'.drop k)) (Nat.le_refl _), ← pre_take p (lwL (l.drop k)) (Nat.le_refl _)]
  unfold lwL
  rw [← List.map_take, ← List.map_take, h.dt hm]
theorem spN_ag {p : UInt8 → Bool} : ∀ (t t' : List UInt8) (m : Nat), t.take m = t'.take m → m ≤ t.length → m ≤ t'.length → spN p t < m → spN p t' = spN p t
  | [], t', m, _, h1, _, h3 => by simp at h1; omega
  | c :: r, [], m, _, _, h2, h3 => by simp at h2; omega
  | c :: r, c' :: r', 0, _, _, _, h3 => by omega
  | c :: r, c' :: r', m + 1, h, h1, h2, h3 => by
    rw [List.take_succ_cons, List.take_succ_cons] at h
    injection h with e1 e2
    subst e1
    rw [spN, spN]
    split
    · rename_i hc
      rw [spN, if_pos hc] at h3
      rw [spN_ag r r' m e2 (by simpa using h1) (by simpa using h2) (by omega)]
    · rfl
theorem Ag.spe (h : Ag N l l') {p : UInt8 → Bool} {k : Nat} (hE : spE p l k < N) : spE p l' k = spE p l k := by
  have h1 := h.le
  have h2 := h.le'
  unfold spE at hE ⊢
  rw [spN_ag (p := p) (l.drop k) (l'.drop k) (N - k) (h.dt (by omega)) (by rw [List.length_drop]; omega) (by rw [List.length_drop]; omega) (by omega)]
theorem Ag.ltr (h : Ag N l l') {k : Nat} (hk : k < N) : ltrAt l' k = ltrAt l k := by
  have h1 := h.le
  have h2 := h.le'
  unfold ltrAt
  rw [h.bat hk, decide_eq_true (show k < l.length by omega), decide_eq_true (show k < l'.length by omega)]
theorem Ag.val (h : Ag N l l') {k : Nat} (hk : k < N) (hE : (valB l k).2 < N) : valB l' k = valB l k := by
  have h1 := h.le
  have h2 := h.le'
  unfold valB at hE ⊢
  rw [h.bat hk]
  by_cases hc : bAt l k = 34 ∨ bAt l k = 39
  · rw [if_pos ⟨by omega, hc⟩] at hE
    rw [if_pos ⟨by omega, hc⟩, if_pos ⟨by omega, hc⟩]
    simp only at hE
    have h3 : spE (fun c => c != bAt l k) l (k + 1) < N := by omega
    rw [h.spe h3, h.sb (Nat.le_of_lt h3)]
    congr 1
    omega
  · rw [if_neg (fun e => hc e.2)] at hE
    rw [if_neg (fun e => hc e.2), if_neg (fun e => hc e.2)]
    simp only at hE
    rw [h.spe hE, h.sb (Nat.le_of_lt hE)]
theorem Ag.att (h : Ag N l l') {k : Nat} (hk : k < N) (hE : (attB l k).2 < N) : attB l' k = attB l k ∧ attN l' k = attN l k := by
  have h1 := h.le
  have h2 := h.le'
  have g1 := attE_le (l := l) (k := k) (by omega)
  have g2 := spE_ge blk l (attE l k)
  have hle : spE blk l (attE l k) < N := by
    rcases Nat.lt_or_ge (spE blk l (attE l k)) N with h3 | h3
    · exact h3
    · unfold attB at hE
      split at hE
      · rename_i hc
        have := spE_ge blk l (spE blk l (attE l k) + 1)
        have g3 := spE_le blk (l := l) (k := spE blk l (attE l k) + 1) hc.1
        have := valB_le g3
        omega
      · exact hE
  have hA : attE l k < N := by omega
  have eE : attE l' k = attE l k := by
    unfold attE at hA ⊢
    exact h.spe hA
  refine ⟨?_, ?_⟩
  · have e1 : spE blk l' (attE l k) = spE blk l (attE l k) := h.spe hle
    unfold attB at hE ⊢
    rw [eE, e1, h.bat hle]
    by_cases hc : bAt l (spE blk l (attE l k)) = 61
    · rw [if_pos ⟨by omega, hc⟩] at hE
      rw [if_pos ⟨by omega, hc⟩, if_pos ⟨by omega, hc⟩]
      have g3 := spE_le blk (l := l) (k := spE blk l (attE l k) + 1) (by omega)
      have g4 := valB_le g3
      have g5 : spE blk l (spE blk l (attE l k) + 1) < N := by omega
      rw [h.spe g5]
      exact h.val g5 hE
    · rw [if_neg (fun e => hc e.2), if_neg (fun e => hc e.2)]
  · unfold attN
    rw [eE, h.sb (Nat.le_of_lt hA)]
theorem Ag.tga (h : Ag N l l') : ∀ (n k : Nat) (acc : AL), l.length - k ≤ n → k ≤ l.length → (tagA l k acc).2 < N → tagA l' k acc = tagA l k acc
  | n, k, acc, hn, hk, hE => by
    have h1 := h.le
    have h2 := h.le'
    by_cases hc : k < l.length ∧ bAt l k ≠ 62
    · have g1 := attB_le hc.1
      have g2 := btw_le g1.2
      rw [tagA_go hc] at hE ⊢
      have g3 := tagA_le l _ (btw l (attB l k).2) (addA acc (attN l k) (attB l k).1) (Nat.le_refl _) g2.2
      have g4 : btw l (attB l k).2 < N := by omega
      have g5 := h.att (k := k) (by omega) (by omega)
      rw [tagA_go ⟨by omega, by rw [h.bat (by omega)]; exact hc.2⟩, g5.1, g5.2, show btw l' (attB l k).2 = btw l (attB l k).2 from h.spe g4]
      obtain ⟨m, rfl⟩ : ∃ m, n = m + 1 := ⟨n - 1, by omega⟩
      exact h.tga m _ _ (by omega) g2.2 hE
    · rw [tagA_stop hc] at hE ⊢
      simp only at hE
      have h62 : bAt l k = 62 := by
        rcases Classical.em (bAt l k = 62) with e | e
        · exact e
        · exact absurd ⟨by omega, e⟩ hc
      rw [tagA_stop (by rw [h.bat hE, h62]; simp)]
theorem Ag.tag (h : Ag N l l') {k : Nat} (hk : k ≤ l.length) (hE : (tagB l k).2 < N) : tagB l' k = tagB l k ∧ tagN l' k = tagN l k := by
  have h1 := tagE_le hk
  have h2 := btw_le h1.2
  have h3 := tagA_le l _ (btw l (tagE l k)) [] (Nat.le_refl _) h2.2
  have h0 : (tagA l (btw l (tagE l k)) []).2 < N := hE
  have hT : tagE l k < N := by omega
  have eE : tagE l' k = tagE l k := by unfold tagE at hT ⊢; exact h.spe hT
  refine ⟨?_, ?_⟩
  · unfold tagB
    rw [eE, show btw l' (tagE l k) = btw l (tagE l k) from h.spe (by show btw l (tagE l k) < N; omega)]
    exact h.tga _ _ _ (Nat.le_refl _) h2.2 h0
  · unfold tagN
    rw [eE, h.sb (Nat.le_of_lt hT)]
theorem Ag.tagR (h : Ag N l l') {k : Nat} {kd : Int} {t : Tk} {E : Nat} {ok : Bool} (hk : k ≤ l.length) (hE : (tagB l k).2 < N) (hT : TagR l k kd t E ok) : TagR l' k kd t E ok := by
  have h1 := h.le
  have h2 := h.le'
  obtain ⟨e1, e2⟩ := h.tag hk hE
  rcases hT.is with ⟨a, _⟩ | ⟨a1, a2, a3, a4⟩
  · omega
  · refine ⟨.inr ?_⟩
    rw [e1, e2]
    exact ⟨by omega, a2, a3, a4⟩
theorem tagR_lt {l : List UInt8} {k : Nat} {kd : Int} {t : Tk} {E : Nat} {ok : Bool} (hT : TagR l k kd t E ok) (hE : E < N) (hN : N ≤ l.length) : (tagB l k).2 < N ∧ k < E := by
  rcases hT.is with ⟨a, _, a3, _⟩ | ⟨a1, a2, a3, a4⟩
  · omega
  · refine ⟨by omega, ?_⟩
    rcases Nat.lt_or_ge l.length k with h | h
    · exfalso
      have e1 : tagE l k = k := spE_end (by omega)
      have e2 : btw l k = k := spE_end (by omega)
      have e3 : tagA l k [] = ([], k) := tagA_stop (by omega)
      have e4 : (tagB l k).2 = k := by unfold tagB; rw [e1, e2, e3]
      omega
    · have := tagB_le h
      omega

theorem first_ag {q q' : Nat → Bool} {n n' k E : Nat} (hf : IsFirst q n k E) (hE : E < N) (hn : N ≤ n) (hn' : N ≤ n') (hq : ∀ j, k ≤ j → j ≤ E → q' j = q j) : IsFirst q' n' k E :=
  ⟨hf.ge, by omega, fun j h1 h2 => by rw [hq j h1 (by omega)]; exact hf.no j h1 h2, fun _ => by rw [hq E hf.ge (Nat.le_refl _)]; exact hf.at_ (by omega)⟩
theorem Ag.cme (h : Ag N l l') {j : Nat} (hj : j + 4 ≤ N) : cmE (l'.drop j) = cmE (l.drop j) := by
  unfold cmE
  rw [h.pre _ (by simp; omega), h.pre _ (by simp; omega)]
theorem cmE_34 {t : List UInt8} (h : cmE t ≠ 0) : 3 ≤ cmE t ∧ cmE t ≤ 4 := by
  unfold cmE at h ⊢
  split
  · omega
  · rename_i h1
    rw [if_neg h1] at h
    split
    · omega
    · rename_i h2
      rw [if_neg h2] at h
      exact absurd rfl h
theorem Ag.cm (h : Ag N l l') {k : Nat} {T : List UInt8} {E : Nat} (hC : CmT l k T E) (hE : E < N) : CmT l' k T E := by
  have h1 := h.le
  have h2 := h.le'
  rcases hC.is with ⟨a1, a2, a3⟩ | ⟨a0, a1, a2, a3⟩ | ⟨a0, a1, i, hi, a2⟩
  · exact ⟨.inl ⟨by rw [h.pre _ (by simp; omega)]; exact a1, a2, a3⟩⟩
  · exact ⟨.inr (.inl ⟨by rw [h.pre _ (by simp; omega)]; exact a0, by rw [h.pre _ (by simp; omega)]; exact a1, a2, a3⟩)⟩
  · have hge := hi.ge
    rcases a2 with ⟨b1, b2, b3⟩ | ⟨b1, b2, b3⟩
    · have hne : cmE (l.drop i) ≠ 0 := by simpa using hi.at_ b1
      have h34 := cmE_34 hne
      have hie : cmE (l'.drop i) = cmE (l.drop i) := by
        have hlen := cmE_le (l.drop i)
        rw [List.length_drop] at hlen
        rcases Nat.lt_or_ge (i + 3) N with h4 | h4
        · exact h.cme (by omega)
        · have e3 : cmE (l.drop i) = 3 := by omega
          have e4 : [45, 45, 62].isPrefixOf (l.drop i) = true := by
            unfold cmE at e3
            split at e3
            · rename_i g; exact g
            · split at e3 <;> omega
          have e5 : [45, 45, 62].isPrefixOf (l'.drop i) = true := by rw [h.pre _ (by simp; omega)]; exact e4
          rw [e3]
          unfold cmE
          rw [if_pos e5]
      refine ⟨.inr (.inr ⟨by rw [h.pre _ (by simp; omega)]; exact a0, by rw [h.pre _ (by simp; omega)]; exact a1, i, ?_, .inl ⟨by omega, ?_, by rw [hie]; exact b3⟩⟩)⟩
      · refine first_ag (N := N) hi (by omega) h1 h2 (fun j hj1 hj2 => ?_)
        rcases Nat.lt_or_ge j i with h4 | h4
        · show decide (cmE (l'.drop j) ≠ 0) = decide (cmE (l.drop j) ≠ 0)
          rw [h.cme (by omega)]
        · have : j = i := by omega
          subst this
          show decide (cmE (l'.drop j) ≠ 0) = decide (cmE (l.drop j) ≠ 0)
          rw [hie]
      · rw [b2, h.sb (by omega)]
    · omega
theorem Ag.bog (h : Ag N l l') {k : Nat} {t : Tk} {E : Nat} {ok : Bool} (hB : BogR l k t E ok) (hE : E < N) : BogR l' k t E ok := by
  have h1 := h.le
  have h2 := h.le'
  obtain ⟨a1, a2, a3⟩ := hB
  have h3 : spE (fun x => x != 62) l k < N := by omega
  refine ⟨?_, ?_, a3⟩
  · rw [h.spe h3, h.sb (Nat.le_of_lt h3)]; exact a1
  · rw [h.spe h3]; omega
theorem Ag.dc (h : Ag N l l') {k : Nat} (hE : dcE l k < N) : dcN l' k = dcN l k ∧ dcE l' k = dcE l k := by
  have h1 := h.le
  have h2 := h.le'
  have g1 := spE_ge (fun x => x != 62) l (dcB l k)
  have g2 : dcF l k ≤ dcB l k := spE_ge _ _ _
  have h3 : spE (fun x => x != 62) l (dcB l k) < N := by unfold dcE at hE; omega
  have eF : dcF l' k = dcF l k := by
    have : dcF l k < N := by omega
    unfold dcF at this ⊢
    exact h.spe this
  have eB : dcB l' k = dcB l k := by
    have : dcB l k < N := by omega
    unfold dcB at this ⊢
    rw [eF]
    exact h.spe this
  refine ⟨?_, ?_⟩
  · unfold dcN
    rw [eF, eB, h.sb (by omega)]
  · unfold dcE at hE ⊢
    rw [eB, h.spe h3]
    omega
end Go.Proofs.YtdniddiaiinggaaDoor
