/- What is said of every token: plain. -/
import Derived.Test.YtdniddiaiinggaaDoorSE
set_option linter.unusedVariables false
namespace Go.Proofs.YtdniddiaiinggaaDoor
open Go.RowKit M

theorem en_pos (r : Int) : en r ≠ [] := by
  have h := (U.en_size r).1
  intro e
  have e2 : U.en r = [] := e
  rw [e2] at h
  simp at h
theorem txt_pos (a b : Int) : txt a b ≠ [] := by
  unfold txt
  split
  · exact en_pos a
  · intro e
    exact en_pos a (List.append_eq_nil_iff.1 e).1
theorem among_pos {l : List UInt8} (h : (amongB l).2 = true) : (amongB l).1 ≠ [] := by
  unfold amongB at *
  split at h
  · cases h
  · split at h
    · rename_i h2
      rw [if_pos h2]
      exact txt_pos _ _
    · cases h
theorem longG_pos (t : List UInt8) : ∀ n, (longG amongB t n).1 ≠ 0 → (longG amongB t n).2 ≠ []
  | 0, h => absurd rfl h
  | n + 1, h => by
    rw [longG] at h ⊢
    split
    · rename_i h2
      exact among_pos h2
    · rename_i h2
      rw [if_neg h2] at h
      exact longG_pos t n h
theorem refT_ne {t : List UInt8} {attr : Bool} (h : bAt t 0 = 38) : (refT t attr).1 ≠ [] := by
  unfold refT
  rw [if_neg (by rw [h]; simp)]
  split
  · unfold numT
    split
    · simp
    · exact en_pos _
  · unfold nameT
    split
    · simp
    · rename_i h2
      split
      · simp
      · exact longG_pos _ _ h2
theorem decB_ne {attr : Bool} {t : List UInt8} (h : t ≠ []) : decB attr t ≠ [] := by
  cases t with
  | nil => exact absurd rfl h
  | cons c r =>
    by_cases hc : c = 38
    · have h0 : bAt (c :: r) 0 = 38 := by subst hc; rfl
      rw [decB_ref h0]
      intro e
      exact refT_ne h0 (List.append_eq_nil_iff.1 e).1
    · rw [decB_plain hc]
      simp
theorem sub_ne {l : List UInt8} {a b : Nat} (h : a < b) (hb : b ≤ l.length) : sub l a b ≠ [] := by
  intro e
  have := sub_len (l := l) (a := a) hb
  rw [e] at this
  simp at this
  omega
theorem addA_nodup {acc : AL} (n v : List UInt8) (h : (acc.map (·.1)).Nodup) : ((addA acc n v).map (·.1)).Nodup := by
  unfold addA
  split
  · exact h
  · rename_i h2
    rw [List.map_append, List.nodup_append]
    refine ⟨h, by simp, ?_⟩
    intro a ha b hb e
    simp at hb
    subst hb
    subst e
    exact h2 ha
theorem tagA_nodup (l : List UInt8) : ∀ (n k : Nat) (acc : AL), l.length - k ≤ n → k ≤ l.length → (acc.map (·.1)).Nodup → ((tagA l k acc).1.map (·.1)).Nodup
  | n, k, acc, hn, hk, ha => by
    by_cases h : k < l.length ∧ bAt l k ≠ 62
    · have h1 := attB_le h.1
      have h2 := btw_le h1.2
      rw [tagA_go h]
      obtain ⟨m, rfl⟩ : ∃ m, n = m + 1 := ⟨n - 1, by omega⟩
      exact tagA_nodup l m (btw l (attB l k).2) _ (by omega) h2.2 (addA_nodup _ _ ha)
    · rw [tagA_stop h]
      exact ha
theorem tagB_nodup {l : List UInt8} {k : Nat} (h : k ≤ l.length) : ((tagB l k).1.map (·.1)).Nodup := by
  have h1 := tagE_le h
  have h2 := btw_le h1.2
  exact tagA_nodup l _ _ [] (Nat.le_refl _) h2.2 (by simp)
theorem srtA_names (acc : AL) : (srtA acc).map (·.1) = (acc.map (·.1)).mergeSort (fun x y => decide (x ≤ y)) := by
  unfold srtA
  rw [List.map_map]
  exact List.map_id' _
/-- strictly by their names -/
def Asc (L : AL) : Prop := ∀ j a b, L[j]? = some a → L[j + 1]? = some b → a.1 < b.1
theorem lt_of_le_ne {a b : List UInt8} (h : a ≤ b) (hn : a ≠ b) : a < b := by
  rcases List.le_iff_lt_or_eq.1 h with h | h
  · exact h
  · exact absurd h hn
theorem srt_asc {acc : AL} (h : (acc.map (·.1)).Nodup) : Asc (srtA acc) := by
  intro j a b ha hb
  have hs : ((srtA acc).map (·.1)).Pairwise (fun x y => x ≤ y) := by
    rw [srtA_names]
    have := List.pairwise_mergeSort (le := fun (x y : List UInt8) => decide (x ≤ y)) (fun a b c h1 h2 => by simp at *; exact List.le_trans h1 h2) (fun a b => by simp; exact List.le_total a b) (acc.map (·.1))
    exact this.imp (by simp)
  have hn : ((srtA acc).map (·.1)).Nodup := by
    rw [srtA_names]
    exact (List.mergeSort_perm _ _).nodup_iff.2 h
  have ha' : ((srtA acc).map (·.1))[j]? = some a.1 := by rw [List.getElem?_map, ha]; rfl
  have hb' : ((srtA acc).map (·.1))[j + 1]? = some b.1 := by rw [List.getElem?_map, hb]; rfl
  obtain ⟨hj, ea⟩ := List.getElem?_eq_some_iff.1 ha'
  obtain ⟨hj', eb⟩ := List.getElem?_eq_some_iff.1 hb'
  have h1 := List.pairwise_iff_getElem.1 hs j (j + 1) hj hj' (Nat.lt_succ_self _)
  have h2 := List.pairwise_iff_getElem.1 hn j (j + 1) hj hj' (Nat.lt_succ_self _)
  rw [ea, eb] at h1 h2
  exact lt_of_le_ne h1 h2
theorem lw_nmc (b : UInt8) : lw (nmc (lw b)) = nmc (lw b) := by
  have : ∀ n : Fin 256, lw (nmc (lw (UInt8.ofNat n.val))) = nmc (lw (UInt8.ofNat n.val)) := by decide +kernel
  have h := this ⟨b.toNat, b.toNat_lt⟩
  simp at h
  exact h
theorem lwL_nmB (l : List UInt8) : lwL (nmB l) = nmB l := by
  unfold nmB lwL
  rw [List.map_map, List.map_map, List.map_map]
  apply List.map_congr_left
  intro b _
  exact lw_nmc b
theorem ltr_not : ∀ b : UInt8, ltrN b.toNat = true → stp [47, 62] b = false := by
  intro b h
  have : ∀ n : Fin 256, ltrN (UInt8.ofNat n.val).toNat = true → stp [47, 62] (UInt8.ofNat n.val) = false := by decide +kernel
  have h2 := this ⟨b.toNat, b.toNat_lt⟩
  simp at h2
  exact h2 h
theorem tagN_ne {l : List UInt8} {k : Nat} (h : ltrAt l k = true) : tagN l k ≠ [] := by
  unfold ltrAt at h
  rw [Bool.and_eq_true, decide_eq_true_eq] at h
  have h2 : tagE l k = spE (fun c => !stp [47, 62] c) l (k + 1) := by
    unfold tagE
    rw [spE_go h.1 (by rw [ltr_not _ h.2]; rfl)]
  have h3 := spE_ge (fun c => !stp [47, 62] c) l (k + 1)
  have h4 := (tagE_le (l := l) (k := k) (Nat.le_of_lt h.1)).2
  intro e
  have := congrArg List.length e
  unfold tagN at this
  rw [nmB_len, sub_len h4] at this
  simp at this
  omega
/-- what is said of a token that is none of the end -/
structure Good (l : List UInt8) (t : Tk) : Prop where
  nl : t.kd = 1 → t.n.data.toList.length ≤ l.length
  lo : 1 ≤ t.kd
  hi : t.kd ≤ 5
  st : t.kd = 1 → t.n.data.toList ≠ [] ∧ lwL t.n.data.toList = t.n.data.toList
  en : t.kd ≠ 1 → t.at_ = []
  tx : t.kd = 3 → t.x.data.toList ≠ []
  asc : Asc t.at_
theorem Asc.nil : Asc [] := fun j a b h => by simp at h
theorem Good.of_other {l : List UInt8} {t : Tk} {kd : Int} {n x : List UInt8} {r : Bool} (h : t.Is kd n x [] r) (h1 : 2 ≤ kd) (h2 : kd ≤ 5) (h3 : kd = 3 → x ≠ []) : Good l t :=
  ⟨fun e => by rw [h.kd] at e; omega, by rw [h.kd]; omega, by rw [h.kd]; exact h2, fun e => by rw [h.kd] at e; omega, fun _ => h.at_, fun e => by rw [h.x]; exact h3 (by rw [← h.kd]; exact e), by rw [h.at_]; exact Asc.nil⟩
theorem OpR.good {l : List UInt8} {k : Nat} {t : Tk} {E : Nat} (h : OpR l k t E true) (hk : k < l.length) : Good l t := by
  unfold OpR at h
  split at h
  · rename_i h0
    rcases h.is with ⟨_, _, _, h1⟩ | ⟨h1, h2, _, _⟩
    · cases h1
    · have e : t.at_ = srtA (tagB l (k + 1)).1 := by rw [h2.at_, if_pos rfl]
      refine ⟨fun _ => by rw [h2.n]; unfold tagN; rw [nmB_len]; exact sub_le _ _ _, by rw [h2.kd]; decide, by rw [h2.kd]; decide, fun _ => ?_, fun e => ?_, fun e => ?_, ?_⟩
      · rw [h2.n]
        exact ⟨tagN_ne h0, lwL_nmB _⟩
      · rw [h2.kd] at e; exact absurd rfl e
      · rw [h2.kd] at e; cases e
      · rw [e]
        exact srt_asc (tagB_nodup hk)
  split at h
  · rcases h.is with ⟨_, _, _, h1⟩ | ⟨h1, h2, _, _⟩
    · cases h1
    · rw [if_neg (by decide)] at h2
      exact Good.of_other h2 (by decide) (by decide) (fun e => by omega)
  split at h
  · exact absurd h.2.2 (by decide)
  split at h
  · obtain ⟨T, hC, h3, _⟩ := h
    exact Good.of_other h3 (by decide) (by decide) (fun e => by omega)
  split at h
  · exact Good.of_other h.1 (by decide) (by decide) (fun e => by omega)
  split at h
  · exact Good.of_other h.1 (by decide) (by decide) (fun e => by omega)
  split at h
  · exact Good.of_other h.1 (by decide) (by decide) (fun e => by omega)
  · exact Good.of_other h.1 (by decide) (by decide) (fun _ => by simp)
theorem NxN.good {l : List UInt8} {k : Nat} {t : Tk} {E : Nat} (h : NxN l k t E true) (hk : k < l.length) : Good l t := by
  have hg := NxN.goes h hk
  unfold NxN at h
  split at h
  · exact OpR.good h hk
  · obtain ⟨h3, rfl, _⟩ := h
    exact Good.of_other h3 (by decide) (by decide) (fun _ => decB_ne (sub_ne hg.gt hg.le))
theorem NxR.good {l : List UInt8} {k : Nat} {raw : List UInt8} {t : Tk} {E : Nat} (h : NxR l k raw t E true) (hk : k < l.length) : Good l t := by
  unfold NxR at h
  split at h
  · exact NxN.good h hk
  · obtain ⟨B, hB, h⟩ := h
    split at h
    · rename_i h2
      obtain ⟨h3, rfl, _⟩ := h
      refine Good.of_other h3 (by decide) (by decide) (fun _ => ?_)
      unfold rawX
      split
      · exact decB_ne (sub_ne h2 hB.le)
      · exact sub_ne h2 hB.le
    · exact NxN.good h hk
/-- all that is said ahead of the end -/
theorem said_good {l : List UInt8} (tr : List Pc) : TrR l tr → (∀ y ∈ tr, y.t.kd ≠ 6) → ∀ t ∈ sayd tr, Good l t := by
  refine snoc_ind (P := fun tr => TrR l tr → (∀ y ∈ tr, y.t.kd ≠ 6) → ∀ t ∈ sayd tr, Good l t) ?_ ?_ tr
  · intro _ _ t ht
    simp [sayd] at ht
  · intro tr x ih h h6 t ht
    rw [sayd_snoc] at ht
    rcases List.mem_append.1 ht with ht | ht
    · exact ih h.pre (fun y hy => h6 y (List.mem_append_left _ hy)) t ht
    · split at ht
      · rename_i ho
        rw [List.mem_singleton] at ht
        subst ht
        have h1 := h.last
        have h7 := h6 x (by simp)
        unfold StpR at h1
        split at h1
        · rename_i hlt
          rw [ho] at h1
          exact h1.good hlt
        · exact absurd h1.1.kd h7
      · simp at ht
end Go.Proofs.YtdniddiaiinggaaDoor
