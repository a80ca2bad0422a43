/- A node by its number, in plain terms: with its kids; a node of a node; what is told of it while the tree is gone through. -/
import Derived.Test.YtjjkidenlgghkaaFlatM
import Derived.Test.YtjjkidenlgghkaaWayTo
set_option linter.unusedVariables false
set_option linter.unusedSimpArgs false
namespace Go.Proofs.Ytjjkidenlgghkaa.M
open Go.Deep

/-- a node by its number, with its kids -/
def sub : F → Nat → Option (Nd × F)
  | .nil, _ => none
  | .node _ _ d k r, i => if i = 0 then some (d, k) else if i - 1 < k.size then sub k (i - 1) else sub r (i - 1 - k.size)
theorem sub_zero (xb xo : Nat) (d : Nd) (k r : F) : sub (.node xb xo d k r) 0 = some (d, k) := by rw [sub, if_pos rfl]
theorem sub_in {xb xo : Nat} {d : Nd} {k r : F} {i : Nat} (h : i < k.size) : sub (.node xb xo d k r) (i + 1) = sub k i := by
  rw [sub, if_neg (by omega), Nat.add_sub_cancel, if_pos h]
theorem sub_out {xb xo : Nat} {d : Nd} {k r : F} {i : Nat} : sub (.node xb xo d k r) (i + 1 + k.size) = sub r i := by
  rw [sub, if_neg (by omega), if_neg (by omega)]
  congr 1
  omega
theorem sub_cases {xb xo : Nat} {d : Nd} {k r : F} {i : Nat} : i = 0 ∨ (∃ j, i = j + 1 ∧ j < k.size) ∨ ∃ j, i = j + 1 + k.size := by
  by_cases h : i = 0
  · exact .inl h
  by_cases h2 : i - 1 < k.size
  · exact .inr (.inl ⟨i - 1, by omega, h2⟩)
  · exact .inr (.inr ⟨i - 1 - k.size, by omega⟩)
theorem sub_some : ∀ (f : F) (i : Nat), i < f.size → ∃ e, sub f i = some e
  | .nil, i, h => by simp [BT.size] at h
  | .node xb xo d k r, i, h => by
    simp only [BT.size] at h
    rcases sub_cases (xb := xb) (xo := xo) (d := d) (k := k) (r := r) (i := i) with rfl | ⟨j, rfl, hj⟩ | ⟨j, rfl⟩
    · exact ⟨_, sub_zero ..⟩
    · rw [sub_in hj]; exact sub_some k j hj
    · rw [sub_out]; exact sub_some r j (by omega)
theorem sub_bd : ∀ (f : F) (i : Nat) (d' : Nd) (k' : F), sub f i = some (d', k') → i + 1 + k'.size ≤ f.size ∧ k'.depth + 1 ≤ f.depth ∧ d'.ats.length + k'.slots ≤ f.slots
  | .nil, i, _, _, h => by simp [sub] at h
  | .node xb xo d k r, i, d', k', h => by
    simp only [BT.size, BT.depth, BT.slots]
    rcases sub_cases (xb := xb) (xo := xo) (d := d) (k := k) (r := r) (i := i) with rfl | ⟨j, rfl, hj⟩ | ⟨j, rfl⟩
    · rw [sub_zero] at h
      simp only [Option.some.injEq, Prod.mk.injEq] at h
      obtain ⟨rfl, rfl⟩ := h
      omega
    · rw [sub_in hj] at h
      have := sub_bd k j _ _ h
      omega
    · rw [sub_out] at h
      have := sub_bd r j _ _ h
      omega
theorem sub_no : ∀ (f : F) (i : Nat), f.size ≤ i → sub f i = none
  | .nil, i, h => rfl
  | .node xb xo d k r, i, h => by
    simp only [BT.size] at h
    rcases sub_cases (xb := xb) (xo := xo) (d := d) (k := k) (r := r) (i := i) with rfl | ⟨j, rfl, hj⟩ | ⟨j, rfl⟩
    · omega
    · omega
    · rw [sub_out]; exact sub_no r j (by omega)
theorem sub_one (d : Nd) (k : F) (j : Nat) (hj : j < k.size + 1) : ∀ f i, sub f i = some (d, k) → sub f (i + j) = sub (.cons d k .nil) j
  | .nil, i, h => by simp [sub] at h
  | .node xb xo d0 k0 r0, i, h => by
    rcases sub_cases (xb := xb) (xo := xo) (d := d0) (k := k0) (r := r0) (i := i) with rfl | ⟨m, rfl, hm⟩ | ⟨m, rfl⟩
    · rw [sub_zero] at h
      simp only [Option.some.injEq, Prod.mk.injEq] at h
      obtain ⟨rfl, rfl⟩ := h
      rw [Nat.zero_add]
      cases j with
      | zero => rw [sub_zero, sub_zero]
      | succ j => rw [sub_in (by omega), sub_in (by omega)]
    · rw [sub_in hm] at h
      have hb := (sub_bd k0 m _ _ h).1
      rw [show m + 1 + j = (m + j) + 1 by omega, sub_in (by omega)]
      exact sub_one d k j hj k0 m h
    · rw [sub_out] at h
      rw [show m + 1 + k0.size + j = (m + j) + 1 + k0.size by omega, sub_out]
      exact sub_one d k j hj r0 m h

theorem ev_sub : ∀ (f : F) (up : List St) (id place : Nat) (x : Tl), x ∈ evF up f id place → ∃ s, x.way.getLast? = some s ∧ id ≤ s.id ∧ s.id < id + f.size ∧ sub f (s.id - id) = some (s.d, s.k)
  | .nil, up, id, place, x, h => by simp [evF] at h
  | .node xb xo d k r, up, id, place, x, h => by
    rw [evF] at h
    simp only [BT.size]
    have top : ∃ s : St, (up ++ [(⟨d, k, id, place⟩ : St)]).getLast? = some s ∧ id ≤ s.id ∧ s.id < id + (1 + k.size + r.size) ∧ sub (.node xb xo d k r) (s.id - id) = some (s.d, s.k) :=
      ⟨⟨d, k, id, place⟩, by simp, Nat.le_refl _, by simp only; omega, by simp only [Nat.sub_self]; exact sub_zero ..⟩
    rcases List.mem_cons.1 h with rfl | h
    · exact top
    rcases List.mem_append.1 h with h | h
    · obtain ⟨s, h1, h2, h3, h4⟩ := ev_sub k _ _ _ x h
      refine ⟨s, h1, by omega, by omega, ?_⟩
      rw [show s.id - id = (s.id - (id + 1)) + 1 by omega, sub_in (by omega)]
      exact h4
    rcases List.mem_cons.1 h with rfl | h
    · exact top
    · obtain ⟨s, h1, h2, h3, h4⟩ := ev_sub r _ _ _ x h
      refine ⟨s, h1, by omega, by omega, ?_⟩
      rw [show s.id - id = (s.id - (id + 1 + k.size)) + 1 + k.size by omega, sub_out]
      exact h4
theorem ev_all : ∀ (f : F) (up : List St) (id place i : Nat), i < f.size → ∃ x ∈ evF up f id place, ∃ s, x.way.getLast? = some s ∧ s.id = id + i
  | .nil, up, id, place, i, h => by simp [BT.size] at h
  | .node xb xo d k r, up, id, place, i, h => by
    simp only [BT.size] at h
    rw [evF]
    rcases sub_cases (xb := xb) (xo := xo) (d := d) (k := k) (r := r) (i := i) with rfl | ⟨j, rfl, hj⟩ | ⟨j, rfl⟩
    · exact ⟨_, List.mem_cons_self, ⟨d, k, id, place⟩, by simp, rfl⟩
    · obtain ⟨x, hx, s, h1, h2⟩ := ev_all k (up ++ [⟨d, k, id, place⟩]) (id + 1) 0 j hj
      exact ⟨x, List.mem_cons_of_mem _ (List.mem_append_left _ hx), s, h1, by omega⟩
    · obtain ⟨x, hx, s, h1, h2⟩ := ev_all r up (id + 1 + k.size) (place + 1) j (by omega)
      exact ⟨x, List.mem_cons_of_mem _ (List.mem_append_right _ (List.mem_cons_of_mem _ hx)), s, h1, by omega⟩
theorem flat_sub : ∀ (f : F) (p : Int) (dp pl id i : Nat) (y : Im), (flatF p dp pl id f)[i]? = some y → ∃ d k, sub f i = some (d, k) ∧ y.z = k.size + 1 ∧ y.d = d
  | .nil, p, dp, pl, id, i, y, h => by simp [flatF] at h
  | .node xb xo d k r, p, dp, pl, id, i, y, h => by
    rw [flatF] at h
    rcases sub_cases (xb := xb) (xo := xo) (d := d) (k := k) (r := r) (i := i) with rfl | ⟨j, rfl, hj⟩ | ⟨j, rfl⟩
    · simp only [List.getElem?_cons_zero, Option.some.injEq] at h
      subst h
      exact ⟨d, k, sub_zero .., rfl, rfl⟩
    · rw [List.getElem?_cons_succ, List.getElem?_append_left (by rw [flatF_len]; exact hj)] at h
      rw [sub_in hj]
      exact flat_sub k _ _ _ _ j y h
    · rw [show j + 1 + k.size = (j + k.size) + 1 by omega, List.getElem?_cons_succ, List.getElem?_append_right (by rw [flatF_len]; omega), flatF_len, Nat.add_sub_cancel] at h
      rw [sub_out]
      exact flat_sub r _ _ _ _ j y h
theorem flatT_sub (d : Nd) (k : F) (i : Nat) (y : Im) (h : (flatT d k)[i]? = some y) : ∃ d' k', sub (.cons d k .nil) i = some (d', k') ∧ y.z = k'.size + 1 ∧ y.d = d' := by
  cases i with
  | zero =>
    simp only [flatT, List.getElem?_cons_zero, Option.some.injEq] at h
    subst h
    exact ⟨d, k, sub_zero .., rfl, rfl⟩
  | succ i =>
    rw [flatT, List.getElem?_cons_succ] at h
    have hi : i < k.size := by
      have := (List.getElem?_eq_some_iff.1 h).1
      rw [flatF_len] at this
      exact this
    rw [sub_in hi]
    exact flat_sub k _ _ _ _ i y h
end Go.Proofs.Ytjjkidenlgghkaa.M
