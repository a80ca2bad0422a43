/- TokenGoes: each piece goes on, up to the end. -/
import Derived.Test.YtdniddiaiinggaaDoorTO
set_option linter.unusedVariables false
namespace Go.Proofs.YtdniddiaiinggaaDoor
open Go.RowKit M

/-- what is told goes on -/
structure Goes (l : List UInt8) (k : Nat) (t : Tk) (E : Nat) (ok : Bool) : Prop where
  gt : k < E
  le : E ≤ l.length
  kd : t.kd ≠ 6
  no : ok = false → t.Is 0 [] [] [] false
theorem TagR.goes {l : List UInt8} {k k0 : Nat} {kd : Int} {t : Tk} {E : Nat} {ok : Bool} (h : TagR l k kd t E ok) (hk : k ≤ l.length) (h0 : k0 < k) (hkd : kd ≠ 6) : Goes l k0 t E ok := by
  have hb := tagB_le hk
  rcases h.is with ⟨h1, h2, rfl, rfl⟩ | ⟨h1, h2, rfl, rfl⟩
  · exact ⟨by omega, Nat.le_refl _, by rw [h2.kd]; decide, fun _ => h2⟩
  · exact ⟨by omega, by omega, by rw [h2.kd]; exact hkd, fun e => by cases e⟩
theorem BogR.goes {l : List UInt8} {k k0 : Nat} {t : Tk} {E : Nat} {ok : Bool} (h : BogR l k t E ok) (hk : k ≤ l.length) (h0 : k0 < k) : Goes l k0 t E ok := by
  obtain ⟨h2, rfl, rfl⟩ := h
  have h3 := spE_ge (fun x => x != 62) l k
  have h4 := spE_le (fun x => x != 62) hk
  exact ⟨by omega, by omega, by rw [h2.kd]; decide, fun e => by cases e⟩
theorem pre_roomL {p l : List UInt8} {k : Nat} (h : p.isPrefixOf (l.drop k) = true) (hk : k ≤ l.length) : k + p.length ≤ l.length := by
  have := pre_len h
  rw [List.length_drop] at this
  omega
theorem pre_roomL2 {p l : List UInt8} {k : Nat} (h : p.isPrefixOf (lwL (l.drop k)) = true) (hk : k ≤ l.length) : k + p.length ≤ l.length := by
  have := pre_len h
  rw [lwL_len, List.length_drop] at this
  omega
theorem OpR.goes {l : List UInt8} {k : Nat} {t : Tk} {E : Nat} {ok : Bool} (h : OpR l k t E ok) (hk : k < l.length) : Goes l k t E ok := by
  unfold OpR at h
  split at h
  · exact h.goes hk (Nat.lt_succ_self _) (by decide)
  split at h
  · rename_i h2
    rw [Bool.and_eq_true] at h2
    exact h.goes (pre_roomL h2.1 (Nat.le_of_lt hk)) (by omega) (by decide)
  split at h
  · rename_i h2
    have := pre_roomL h2 (Nat.le_of_lt hk)
    obtain ⟨h3, rfl, rfl⟩ := h
    exact ⟨by omega, this, by rw [h3.kd]; decide, fun _ => h3⟩
  split at h
  · rename_i h2
    have h4 := pre_roomL h2 (Nat.le_of_lt hk)
    obtain ⟨T, hC, h3, rfl⟩ := h
    have h5 := hC.le h4
    exact ⟨by omega, h5.2, by rw [h3.kd]; decide, fun e => by cases e⟩
  split at h
  · rename_i h2
    have h4 := pre_roomL2 h2 (Nat.le_of_lt hk)
    obtain ⟨h3, rfl, rfl⟩ := h
    have h5 := dcE_le h4
    simp at h5
    exact ⟨by omega, h5.2, by rw [h3.kd]; decide, fun e => by cases e⟩
  split at h
  · rename_i h2
    rw [Bool.or_eq_true, Bool.and_eq_true] at h2
    rcases h2 with h2 | h2
    · exact h.goes (pre_roomL h2 (Nat.le_of_lt hk)) (by omega)
    · exact h.goes (pre_roomL h2.1 (Nat.le_of_lt hk)) (by omega)
  split at h
  · exact h.goes hk (Nat.lt_succ_self _)
  · obtain ⟨h3, rfl, rfl⟩ := h
    exact ⟨Nat.lt_succ_self _, hk, by rw [h3.kd]; decide, fun e => by cases e⟩
theorem NxN.goes {l : List UInt8} {k : Nat} {t : Tk} {E : Nat} {ok : Bool} (h : NxN l k t E ok) (hk : k < l.length) : Goes l k t E ok := by
  unfold NxN at h
  split at h
  · exact OpR.goes h hk
  · rename_i hc
    obtain ⟨h3, rfl, rfl⟩ := h
    have hp : txP (blk (bAt l k)) (bAt l k) = true := by
      unfold txP
      simp [hc]
    have e := spE_go (p := txP (blk (bAt l k))) hk hp
    have h4 := spE_ge (txP (blk (bAt l k))) l (k + 1)
    have h5 := spE_le (txP (blk (bAt l k))) (Nat.le_of_lt hk)
    exact ⟨by omega, h5, by rw [h3.kd]; decide, fun e => by cases e⟩
theorem NxR.goes {l : List UInt8} {k : Nat} {raw : List UInt8} {t : Tk} {E : Nat} {ok : Bool} (h : NxR l k raw t E ok) (hk : k < l.length) : Goes l k t E ok := by
  unfold NxR at h
  split at h
  · exact NxN.goes h hk
  · obtain ⟨B, hB, h⟩ := h
    split at h
    · rename_i h2
      obtain ⟨h3, rfl, rfl⟩ := h
      exact ⟨h2, hB.le, by rw [h3.kd]; decide, fun e => by cases e⟩
    · exact NxN.goes h hk
end Go.Proofs.YtdniddiaiinggaaDoor
