/- What stands at a place is one: plain (for ScanCuts). -/
import Derived.Test.YtdniddiaiinggaaDoorXT
set_option linter.unusedVariables false
namespace Go.Proofs.YtdniddiaiinggaaDoor
open Go.RowKit M

theorem IsFirst.one {p : Nat → Bool} {n k E F : Nat} (h : IsFirst p n k E) (h' : IsFirst p n k F) : F = E := by
  rcases Nat.lt_trichotomy E F with h1 | h1 | h1
  · have h2 := h.at_ (Nat.lt_of_lt_of_le h1 h'.le)
    rw [h'.no E h.ge h1] at h2
    cases h2
  · exact h1.symm
  · have h2 := h'.at_ (Nat.lt_of_lt_of_le h1 h.le)
    rw [h.no F h'.ge h1] at h2
    cases h2
theorem CmT.one {l : List UInt8} {k : Nat} {T T' : List UInt8} {E E' : Nat} (h : CmT l k T E) (h' : CmT l k T' E') : T' = T ∧ E' = E := by
  rcases h.is with ⟨a1, a2, a3⟩ | ⟨a0, a1, a2, a3⟩ | ⟨a0, a1, i, hi, a2⟩
  · rcases h'.is with ⟨b1, b2, b3⟩ | ⟨b0, _⟩ | ⟨b0, _⟩
    · exact ⟨by rw [a2, b2], by rw [a3, b3]⟩
    · rw [a1] at b0; cases b0
    · rw [a1] at b0; cases b0
  · rcases h'.is with ⟨b0, _⟩ | ⟨b0, b1, b2, b3⟩ | ⟨_, b1, _⟩
    · rw [a0] at b0; cases b0
    · exact ⟨by rw [a2, b2], by rw [a3, b3]⟩
    · rw [a1] at b1; cases b1
  · rcases h'.is with ⟨b0, _⟩ | ⟨_, b1, _⟩ | ⟨b0, b1, i', hi', b2⟩
    · rw [a0] at b0; cases b0
    · rw [a1] at b1; cases b1
    · have e := hi.one hi'
      subst e
      rcases a2 with ⟨c1, c2, c3⟩ | ⟨c1, c2, c3⟩
      · rcases b2 with ⟨d1, d2, d3⟩ | ⟨d1, d2, d3⟩
        · exact ⟨by rw [c2, d2], by rw [c3, d3]⟩
        · omega
      · rcases b2 with ⟨d1, d2, d3⟩ | ⟨d1, d2, d3⟩
        · omega
        · exact ⟨by rw [c2, d2], by rw [c3, d3]⟩
theorem Tk.Is.one {t t' : Tk} {kd : Int} {n x : List UInt8} {L : AL} {r : Bool} (h : t.Is kd n x L r) (h' : t'.Is kd n x L r) : t' = t := by
  obtain ⟨a1, a2, a3, a4, a5⟩ := t
  obtain ⟨b1, b2, b3, b4, b5⟩ := t'
  obtain ⟨c1, c2, c3, c4, c5⟩ := h
  obtain ⟨d1, d2, d3, d4, d5⟩ := h'
  simp only at c1 c2 c3 c4 c5 d1 d2 d3 d4 d5
  have e2 : b2 = a2 := tx_ext (d2.trans c2.symm)
  have e3 : b3 = a3 := tx_ext (d3.trans c3.symm)
  rw [e2, e3, c1, d1, c4, d4, c5, d5]
theorem TagR.one {l : List UInt8} {k : Nat} {kd : Int} {t t' : Tk} {E E' : Nat} {ok ok' : Bool} (h : TagR l k kd t E ok) (h' : TagR l k kd t' E' ok') : t' = t ∧ E' = E ∧ ok' = ok := by
  rcases h.is with ⟨a1, a2, a3, a4⟩ | ⟨a1, a2, a3, a4⟩
  · rcases h'.is with ⟨b1, b2, b3, b4⟩ | ⟨b1, b2, b3, b4⟩
    · exact ⟨a2.one b2, by rw [a3, b3], by rw [a4, b4]⟩
    · omega
  · rcases h'.is with ⟨b1, b2, b3, b4⟩ | ⟨b1, b2, b3, b4⟩
    · omega
    · exact ⟨a2.one b2, by rw [a3, b3], by rw [a4, b4]⟩
theorem BogR.one {l : List UInt8} {k : Nat} {t t' : Tk} {E E' : Nat} {ok ok' : Bool} (h : BogR l k t E ok) (h' : BogR l k t' E' ok') : t' = t ∧ E' = E ∧ ok' = ok := by
  obtain ⟨a1, a2, a3⟩ := h
  obtain ⟨b1, b2, b3⟩ := h'
  exact ⟨a1.one b1, by rw [a2, b2], by rw [a3, b3]⟩
theorem OpR.one {l : List UInt8} {k : Nat} {t t' : Tk} {E E' : Nat} {ok ok' : Bool} (h : OpR l k t E ok) (h' : OpR l k t' E' ok') : t' = t ∧ E' = E ∧ ok' = ok := by
  unfold OpR at h h'
  split at h
  · rename_i g
    rw [if_pos g] at h'
    exact h.one h'
  rename_i g1
  rw [if_neg g1] at h'
  split at h
  · rename_i g
    rw [if_pos g] at h'
    exact h.one h'
  rename_i g2
  rw [if_neg g2] at h'
  split at h
  · rename_i g
    rw [if_pos g] at h'
    exact ⟨h.1.one h'.1, by rw [h.2.1, h'.2.1], by rw [h.2.2, h'.2.2]⟩
  rename_i g3
  rw [if_neg g3] at h'
  split at h
  · rename_i g
    rw [if_pos g] at h'
    obtain ⟨T, c1, c2, c3⟩ := h
    obtain ⟨T', d1, d2, d3⟩ := h'
    obtain ⟨e1, e2⟩ := c1.one d1
    subst e1
    exact ⟨c2.one d2, e2, by rw [c3, d3]⟩
  rename_i g4
  rw [if_neg g4] at h'
  split at h
  · rename_i g
    rw [if_pos g] at h'
    exact ⟨h.1.one h'.1, by rw [h.2.1, h'.2.1], by rw [h.2.2, h'.2.2]⟩
  rename_i g5
  rw [if_neg g5] at h'
  split at h
  · rename_i g
    rw [if_pos g] at h'
    exact h.one h'
  rename_i g6
  rw [if_neg g6] at h'
  split at h
  · rename_i g
    rw [if_pos g] at h'
    exact h.one h'
  · rename_i g
    rw [if_neg g] at h'
    exact ⟨h.1.one h'.1, by rw [h.2.1, h'.2.1], by rw [h.2.2, h'.2.2]⟩
theorem NxN.one {l : List UInt8} {k : Nat} {t t' : Tk} {E E' : Nat} {ok ok' : Bool} (h : NxN l k t E ok) (h' : NxN l k t' E' ok') : t' = t ∧ E' = E ∧ ok' = ok := by
  unfold NxN at h h'
  split at h
  · rename_i g
    rw [if_pos g] at h'
    exact OpR.one h h'
  · rename_i g
    rw [if_neg g] at h'
    exact ⟨h.1.one h'.1, by rw [h.2.1, h'.2.1], by rw [h.2.2, h'.2.2]⟩
/-- Next says one thing -/
theorem NxR.one {l : List UInt8} {k : Nat} {raw : List UInt8} {t t' : Tk} {E E' : Nat} {ok ok' : Bool} (h : NxR l k raw t E ok) (h' : NxR l k raw t' E' ok') : t' = t ∧ E' = E ∧ ok' = ok := by
  unfold NxR at h h'
  split at h
  · rename_i g
    rw [if_pos g] at h'
    exact NxN.one h h'
  · rename_i g
    rw [if_neg g] at h'
    obtain ⟨B, hB, h⟩ := h
    obtain ⟨B', hB', h'⟩ := h'
    have e := hB.one hB'
    subst e
    split at h
    · rename_i g2
      rw [if_pos g2] at h'
      exact ⟨h.1.one h'.1, by rw [h.2.1, h'.2.1], by rw [h.2.2, h'.2.2]⟩
    · rename_i g2
      rw [if_neg g2] at h'
      exact NxN.one h h'
theorem StpR.one {l : List UInt8} {k : Nat} {raw : List UInt8} {p p' : Pc} (h : StpR l k raw p) (h' : StpR l k raw p') : p' = p := by
  unfold StpR at h h'
  obtain ⟨t, E, ok⟩ := p
  obtain ⟨t', E', ok'⟩ := p'
  split at h
  · rename_i g
    rw [if_pos g] at h'
    obtain ⟨e1, e2, e3⟩ := NxR.one h h'
    simp only at e1 e2 e3
    rw [e1, e2, e3]
  · rename_i g
    rw [if_neg g] at h'
    have e1 := h.1.one h'.1
    have e2 : E' = E := h'.2.1.trans h.2.1.symm
    have e3 : ok' = ok := h'.2.2.trans h.2.2.symm
    simp only at e1
    rw [e1, e2, e3]
/-- a source has one row of pieces -/
theorem TrF.one {l : List UInt8} {x x' : Pc} (h6 : x.t.kd = 6) (h6' : x'.t.kd = 6) : ∀ (tr tr' : List Pc) (k : Nat) (raw : List UInt8), TrF l k raw (tr ++ [x]) → TrF l k raw (tr' ++ [x']) → (∀ y ∈ tr, y.t.kd ≠ 6) → (∀ y ∈ tr', y.t.kd ≠ 6) → tr' = tr
  | [], [], _, _, _, _, _, _ => rfl
  | [], q :: r', k, raw, h, h', _, hn' => by
    have e : q = x := StpR.one h.1 h'.1
    exact absurd (by rw [e]; exact h6) (hn' q (by simp))
  | p :: r, [], k, raw, h, h', hn, _ => by
    have e : x' = p := StpR.one h.1 h'.1
    exact absurd (by rw [← e]; exact h6') (hn p (by simp))
  | p :: r, q :: r', k, raw, h, h', hn, hn' => by
    have e : q = p := StpR.one h.1 h'.1
    subst e
    rw [TrF.one h6 h6' r r' _ _ h.2 h'.2 (fun y hy => hn y (List.mem_cons_of_mem _ hy)) (fun y hy => hn' y (List.mem_cons_of_mem _ hy))]
end Go.Proofs.YtdniddiaiinggaaDoor
