/- FormatClears: plain. -/
import Derived.Test.YtjlijpaefdbohaaDoorGE
set_option linter.unusedVariables false
set_option linter.unusedSimpArgs false
namespace Go.Proofs.YtjlijpaefdbohaaDoor
open Go.RowKit

def tTen : ByteArray := ⟨#[97, 98, 99, 100, 101, 102, 103, 104, 105, 106]⟩
theorem ten_eq : ∀ i : Fin 10, tTen.extract i (i + 1) = lt1 i := by decide
theorem lt1_beq (i j : Nat) (hi : i < 12) (hj : j < 12) : ((lt1 i).toList == (lt1 j).toList) = decide (i = j) := by
  rw [Bool.eq_iff_iff, beq_iff_eq, decide_eq_true_eq]
  constructor
  · intro e
    have e2 : lt1 i = lt1 j := by
      rw [ByteArray.toList_eq, ByteArray.toList_eq] at e
      exact ByteArray.ext (Array.toList_inj.1 e)
    have := lt1_inj ⟨i, hi⟩ ⟨j, hj⟩ e2
    simpa using this
  · rintro rfl; rfl

/-- the first one that is alike -/
theorem first_alike (k : Ky) : ∀ T : List It, 0 < cnt T k → ∃ T1 x T2, T = T1 ++ x :: T2 ∧ (∀ y ∈ T1, y.mr = true ∨ y.ky ≠ k) ∧ x.mr = false ∧ x.ky = k
  | [], h => by simp [cnt] at h
  | x :: T, h => by
    by_cases hx : x.mr = false ∧ x.ky = k
    · exact ⟨[], x, T, rfl, by simp, hx.1, hx.2⟩
    · have hx' : x.mr = true ∨ x.ky ≠ k := by
        cases hm : x.mr
        · exact .inr (fun e => hx ⟨hm, e⟩)
        · exact .inl rfl
      have h2 := cnt_app [x] T k
      rw [cnt_none [x] k (fun y hy => by simp at hy; subst hy; exact hx')] at h2
      rw [show x :: T = [x] ++ T from rfl, h2] at h
      obtain ⟨T1, y, T2, e, h3, h4, h5⟩ := first_alike k T (by omega)
      exact ⟨x :: T1, y, T2, by rw [e]; rfl, fun z hz => by
        rcases List.mem_cons.1 hz with rfl | hz
        · exact hx'
        · exact h3 z hz, h4, h5⟩

/-- the marker between -/
def mk1 : It := ⟨0, ⟨#[]⟩, [], true, 1, .slice none 0 0⟩
/-- what stands behind the marker when i were pushed -/
structure Bs (T : List It) (zs : List Int) (i : Nat) : Prop where
  t : ∀ x ∈ T, x.mr = false ∧ x.ms = 1 ∧ x.ats = []
  nm : ∀ c, c < 10 → ((∃ x ∈ T, x.nm = lt1 c) ↔ ∃ j, j < i ∧ pl (zs.getD j 0) 10 = c)
  some : ∀ x ∈ T, ∃ c, c < 10 ∧ x.nm = lt1 c
  len : T.length ≤ i
theorem seg_ms (A T : List It) (h : ∀ x ∈ T, x.mr = false ∧ x.ms = 1 ∧ x.ats = []) : msA (A ++ mk1 :: T) (A ++ mk1 :: T).length = 1 := by
  by_cases h0 : T = []
  · subst h0; exact msA_snoc A mk1
  · have e : A ++ mk1 :: T = (A ++ mk1 :: T.dropLast) ++ [T.getLast h0] := by
      rw [List.append_assoc, List.cons_append, List.dropLast_concat_getLast]
    rw [e, msA_snoc]
    exact (h _ (List.getLast_mem h0)).2.1
theorem Bs.push {A T : List It} {k : Nat} {zs : List Int} {i : Nat} (hA : Row A k) (h : Bs T zs i) (c : Nat) (hc : c < 10) (hz : pl (zs.getD i 0) 10 = c) :
    ∃ T1, Left (A ++ mk1 :: T) (A ++ mk1 :: T1) ⟨((1 : Nat) : Int), lt1 c, []⟩ ∧ (∀ x ∈ T1, x.mr = false ∧ x.ms = 1 ∧ x.ats = []) ∧ ∀ id av, Bs (T1 ++ [⟨id, lt1 c, [], false, ((1 : Nat) : Int), av⟩]) zs (i + 1) := by
  have hout : ∀ y ∈ A ++ [mk1], y.mr = true ∨ y.ky ≠ ⟨((1 : Nat) : Int), lt1 c, []⟩ := fun y hy => by
    rcases List.mem_append.1 hy with hy | hy
    · obtain ⟨q, hq, e⟩ := hA.mem hy
      exact .inr (fun e2 => by
        have e3 := congrArg Ky.ms e2
        have e4 := (hA.at' q y e).2.2.1
        simp only [It.ky] at e3
        omega)
    · simp at hy; subst hy; exact .inl rfl
  have hcnt : cnt (A ++ mk1 :: T) ⟨((1 : Nat) : Int), lt1 c, []⟩ = cnt T ⟨((1 : Nat) : Int), lt1 c, []⟩ := by
    rw [show A ++ mk1 :: T = (A ++ [mk1]) ++ T by simp, cnt_app, cnt_none _ _ hout]; omega
  have build : ∀ T1 : List It, (∀ x ∈ T1, x ∈ T) → (∀ x ∈ T, x ∈ T1 ∨ x.nm = lt1 c) → T1.length ≤ T.length → ∀ id av, Bs (T1 ++ [⟨id, lt1 c, [], false, ((1 : Nat) : Int), av⟩]) zs (i + 1) := by
    intro T1 h1 h2 h3 id av
    refine ⟨?_, ?_, ?_, by simp; have := h.len; omega⟩
    · intro x hx
      rcases List.mem_append.1 hx with hx | hx
      · exact h.t x (h1 x hx)
      · simp at hx; subst hx; exact ⟨rfl, rfl, rfl⟩
    · intro c' hc'
      constructor
      · rintro ⟨x, hx, e⟩
        rcases List.mem_append.1 hx with hx | hx
        · obtain ⟨j, hj, e2⟩ := (h.nm c' hc').1 ⟨x, h1 x hx, e⟩
          exact ⟨j, by omega, e2⟩
        · simp at hx
          subst hx
          have e' : lt1 c = lt1 c' := e
          have := lt1_inj ⟨c, by omega⟩ ⟨c', by omega⟩ e'
          simp at this
          exact ⟨i, by omega, by rw [hz]; exact this⟩
      · rintro ⟨j, hj, e⟩
        by_cases hji : j = i
        · subst hji
          rw [hz] at e
          subst e
          exact ⟨⟨id, lt1 _, [], false, ((1 : Nat) : Int), av⟩, List.mem_append.2 (.inr (List.mem_singleton.2 rfl)), rfl⟩
        · obtain ⟨x, hx, e2⟩ := (h.nm c' hc').2 ⟨j, by omega, e⟩
          rcases h2 x hx with h4 | h4
          · exact ⟨x, List.mem_append.2 (.inl h4), e2⟩
          · exact ⟨⟨id, lt1 c, [], false, ((1 : Nat) : Int), av⟩, List.mem_append.2 (.inr (List.mem_singleton.2 rfl)), by rw [← e2, h4]⟩
    · intro x hx
      rcases List.mem_append.1 hx with hx | hx
      · exact h.some x (h1 x hx)
      · simp at hx; subst hx; exact ⟨c, hc, rfl⟩
  by_cases h3 : cnt T ⟨((1 : Nat) : Int), lt1 c, []⟩ < 3
  · exact ⟨T, .inl ⟨by rw [hcnt]; exact h3, rfl⟩, h.t, build T (fun _ h => h) (fun _ h => .inl h) (Nat.le_refl _)⟩
  · obtain ⟨T1, x, T2, e, h4, h5, h6⟩ := first_alike _ T (show 0 < cnt T ⟨((1 : Nat) : Int), lt1 c, []⟩ by omega)
    subst e
    refine ⟨T1 ++ T2, .inr ⟨A.length + 1 + T1.length, x, by rw [hcnt]; omega, ?_, ?_, ?_⟩, ?_, ?_⟩
    · rw [show A ++ mk1 :: (T1 ++ x :: T2) = ((A ++ [mk1]) ++ T1) ++ x :: T2 by simp, fsF_skip _ _ _ 0 (fun y hy => by
        rcases List.mem_append.1 hy with hy | hy
        · exact hout y hy
        · exact h4 y hy), fsF_here _ x T2 _ h5 h6]
      simp; omega
    · rw [show A ++ mk1 :: (T1 ++ x :: T2) = ((A ++ [mk1]) ++ T1) ++ x :: T2 by simp, List.getElem?_append_right (by simp; omega)]
      simp
      rw [show A.length + 1 + T1.length - (A.length + (T1.length + 1)) = 0 by omega]
      rfl
    · rw [show A ++ mk1 :: (T1 ++ x :: T2) = ((A ++ [mk1]) ++ T1) ++ x :: T2 by simp]
      have hl : ((A ++ [mk1]) ++ T1).length = A.length + 1 + T1.length := by simp; omega
      rw [List.take_append_of_le_length (by omega), List.take_of_length_le (by omega), List.drop_append, List.drop_eq_nil_of_le (by omega), hl, List.nil_append, show A.length + 1 + T1.length + 1 - (A.length + 1 + T1.length) = 1 by omega]
      simp
    · intro y hy
      rcases List.mem_append.1 hy with hy | hy
      · exact h.t y (List.mem_append.2 (.inl hy))
      · exact h.t y (List.mem_append.2 (.inr (List.mem_cons_of_mem _ hy)))
    · refine build (T1 ++ T2) (fun y hy => ?_) (fun y hy => ?_) (by simp)
      · rcases List.mem_append.1 hy with hy | hy
        · exact List.mem_append.2 (.inl hy)
        · exact List.mem_append.2 (.inr (List.mem_cons_of_mem _ hy))
      · rcases List.mem_append.1 hy with hy | hy
        · exact .inl (List.mem_append.2 (.inl hy))
        · rcases List.mem_cons.1 hy with rfl | hy
          · exact .inr (congrArg Ky.nm h6)
          · exact .inl (List.mem_append.2 (.inr hy))
theorem la_seg (A : List It) (c : Nat) (hc : c < 10) : ∀ (n : Nat) (T : List It), T.length = n → (∀ x ∈ T, x.mr = false ∧ ∃ d, d < 10 ∧ x.nm = lt1 d) → ((laF (A ++ mk1 :: T) (lt1 c) (A ++ mk1 :: T).length).isSome = true ↔ ∃ x ∈ T, x.nm = lt1 c)
  | 0, T, hn, _ => by
    have : T = [] := List.eq_nil_of_length_eq_zero hn
    subst this
    rw [laF_snoc A mk1 (lt1 c), if_pos (show mk1.mr = true from rfl)]
    simp
  | n + 1, T, hn, h => by
    have h0 : T ≠ [] := fun e => by rw [e] at hn; cases hn
    have e : T = T.dropLast ++ [T.getLast h0] := (List.dropLast_concat_getLast h0).symm
    have hl : T.dropLast.length = n := by simp [hn]
    obtain ⟨g1, d, hd, g2⟩ := h _ (List.getLast_mem h0)
    have ih := la_seg A c hc n T.dropLast hl (fun x hx => h x (List.dropLast_subset _ hx))
    have e2 : A ++ mk1 :: T = (A ++ mk1 :: T.dropLast) ++ [T.getLast h0] := by rw [List.append_assoc, List.cons_append, List.dropLast_concat_getLast]
    rw [e2, laF_snoc, g1, if_neg (by simp), g2, lt1_beq d c (by omega) (by omega)]
    by_cases hdc : d = c
    · subst hdc
      simp
      exact ⟨_, List.getLast_mem h0, g2⟩
    · rw [if_neg (by simpa using hdc), ih]
      constructor
      · rintro ⟨x, hx, e3⟩; exact ⟨x, List.dropLast_subset _ hx, e3⟩
      · rintro ⟨x, hx, e3⟩
        rw [e] at hx
        rcases List.mem_append.1 hx with hx | hx
        · exact ⟨x, hx, e3⟩
        · simp at hx
          subst hx
          rw [g2] at e3
          have := lt1_inj ⟨d, by omega⟩ ⟨c, by omega⟩ e3
          simp at this
          exact absurd this hdc
theorem cl_seg (A : List It) : ∀ (n : Nat) (T : List It) (j : Nat), (∀ x ∈ T, x.mr = false) → j ≤ T.length → clN (A ++ mk1 :: T) (A.length + 1 + j) = A.length
  | n, T, 0, h, _ => by
    show (if ((Option.map It.mr (A ++ mk1 :: T)[A.length]?).getD false) = true then A.length else _) = A.length
    rw [List.getElem?_append_right (Nat.le_refl _)]
    simp [mk1]
  | n, T, j + 1, h, hj => by
    have e : (A ++ mk1 :: T)[A.length + 1 + j]? = T[j]? := by
      rw [List.getElem?_append_right (by omega), show A.length + 1 + j - A.length = j + 1 by omega]
      rfl
    have hx : T[j]? = some (tI T j) := tI_get T j (by omega)
    show (if ((Option.map It.mr (A ++ mk1 :: T)[A.length + 1 + j]?).getD false) = true then A.length + 1 + j else clN (A ++ mk1 :: T) (A.length + 1 + j)) = A.length
    rw [e, hx]
    have hm := h _ (List.mem_of_getElem? hx)
    simp only [Option.map_some, Option.getD_some, hm]
    rw [if_neg (by simp)]
    exact cl_seg A n T j h (by omega)
theorem cl_all (A T : List It) (h : ∀ x ∈ T, x.mr = false) : (A ++ mk1 :: T).take (clN (A ++ mk1 :: T) (A ++ mk1 :: T).length) = A := by
  have := cl_seg A 0 T T.length h (Nat.le_refl _)
  have e : (A ++ mk1 :: T).length = A.length + 1 + T.length := by simp; omega
  rw [e, this, List.take_append_of_le_length (Nat.le_refl _), List.take_length]
end Go.Proofs.YtjlijpaefdbohaaDoor
