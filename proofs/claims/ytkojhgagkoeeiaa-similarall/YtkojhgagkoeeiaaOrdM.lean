/- Both orders, in plain terms: a node stands behind its parent in the one, ahead of it in the other. -/
import Derived.Test.YtkojhgagkoeeiaaFlatM
import Derived.Test.YtkojhgagkoeeiaaPostM
set_option linter.unusedVariables false
namespace Go.Proofs.Ytkojhgagkoeeiaa.M
open Go.Deep

theorem mem_postF : ∀ (f : F) (id j : Nat), j ∈ postF f id ↔ id ≤ j ∧ j < id + f.size
  | .nil, id, j => by simp [postF, BT.size]
  | .node _ _ d k r, id, j => by
    rw [postF, List.mem_append, List.mem_cons, mem_postF k, mem_postF r]
    simp only [BT.size]
    omega
theorem nodup_postF : ∀ (f : F) (id : Nat), (postF f id).Nodup
  | .nil, id => by simp [postF]
  | .node _ _ d k r, id => by
    rw [postF, List.nodup_append]
    refine ⟨nodup_postF k _, ?_, fun a ha b hb => ?_⟩
    · rw [List.nodup_cons]
      exact ⟨fun h => by have := (mem_postF _ _ _).1 h; omega, nodup_postF r _⟩
    · have h1 := (mem_postF _ _ _).1 ha
      rcases List.mem_cons.1 hb with rfl | hb
      · omega
      · have h2 := (mem_postF _ _ _).1 hb
        omega
/-- where a number stands -/
abbrev pos (l : List Nat) (j : Nat) : Nat := l.idxOf j
theorem pos_left {a b : List Nat} {j : Nat} (h : j ∈ a) : pos (a ++ b) j = pos a j := by simp [pos, List.idxOf_append, h]
theorem pos_right {a b : List Nat} {j : Nat} (h : j ∉ a) : pos (a ++ b) j = pos b j + a.length := by simp [pos, List.idxOf_append, h]
theorem pos_lt {a : List Nat} {j : Nat} (h : j ∈ a) : pos a j < a.length := List.idxOf_lt_length_iff.2 h

/-- what is known of node number i of trees, held against its parent -/
structure Up (P : List Nat) (id i j : Nat) (y x : Im) : Prop where
  lt : j < i
  p : y.p = (id + j : Nat)
  dp : y.dp = x.dp + 1
  h : y.h < x.h
  z : (i : Int) + y.z ≤ j + x.z
  pos : pos P (id + i) < pos P (id + j)
structure Top (p : Int) (dp dep size i : Nat) (y : Im) : Prop where
  p : y.p = p
  dp : y.dp = dp
  h : y.h ≤ dep
  z : (i : Int) + y.z ≤ size
theorem flat_up : ∀ (f : F) (p : Int) (dp pl id i : Nat) (y : Im), (flatF p dp pl id f)[i]? = some y →
    Top p dp f.depth f.size i y ∨ ∃ j x, (flatF p dp pl id f)[j]? = some x ∧ Up (postF f id) id i j y x
  | .nil, _, _, _, _, _, _, h => by cases h
  | .node xb xo d k r, p, dp, pl, id, i, y, h => by
    have hz : (BT.node xb xo d k r).size = 1 + k.size + r.size := rfl
    have hd : (BT.node xb xo d k r).depth = max (k.depth + 1) r.depth := rfl
    have hl := flatF_len k id (dp + 1) 0 (id + 1)
    rw [hz, hd]
    rw [flatF] at h ⊢
    rw [postF]
    cases i with
    | zero =>
      simp only [List.getElem?_cons_zero, Option.some.injEq] at h
      subst h
      left
      exact ⟨rfl, rfl, by dsimp only; omega, by dsimp only; omega⟩
    | succ i =>
      simp only [List.getElem?_cons_succ] at h
      by_cases hi : i < k.size
      · rw [List.getElem?_append_left (by omega)] at h
        right
        rcases flat_up k id (dp + 1) 0 (id + 1) i y h with ht | ⟨j, x, hx, hu⟩
        · refine ⟨0, _, by simp; rfl, ⟨by omega, by rw [ht.p]; rfl, ht.dp, by have := ht.h; dsimp only; omega, by have := ht.z; dsimp only; omega, ?_⟩⟩
          have h1 : id + (i + 1) ∈ postF k (id + 1) := (mem_postF _ _ _).2 (by omega)
          have h2 : id + 0 ∉ postF k (id + 1) := fun h => by have := (mem_postF _ _ _).1 h; omega
          rw [pos_left h1, pos_right h2]
          have := pos_lt h1
          omega
        · have hj : j < k.size := by have := (List.getElem?_eq_some_iff.1 hx).1; omega
          refine ⟨j + 1, x, by rw [List.getElem?_cons_succ, List.getElem?_append_left (by omega)]; exact hx, ⟨by have := hu.lt; omega, by rw [hu.p]; congr 1; omega, hu.dp, hu.h, by have := hu.z; omega, ?_⟩⟩
          have h1 : id + (i + 1) ∈ postF k (id + 1) := (mem_postF _ _ _).2 (by omega)
          have h2 : id + (j + 1) ∈ postF k (id + 1) := (mem_postF _ _ _).2 (by omega)
          rw [pos_left h1, pos_left h2]
          have := hu.pos
          rw [show id + (i + 1) = id + 1 + i by omega, show id + (j + 1) = id + 1 + j by omega]
          exact this
      · rw [List.getElem?_append_right (by omega), hl] at h
        rcases flat_up r p dp (pl + 1) (id + 1 + k.size) (i - k.size) y h with ht | ⟨j, x, hx, hu⟩
        · left
          exact ⟨ht.p, ht.dp, by have := ht.h; omega, by have := ht.z; omega⟩
        · right
          have hi2 : i - k.size < r.size := by have := (List.getElem?_eq_some_iff.1 h).1; rw [flatF_len] at this; exact this
          have hj : j < r.size := by have := (List.getElem?_eq_some_iff.1 hx).1; rw [flatF_len] at this; exact this
          refine ⟨1 + k.size + j, x, ?_, ⟨by have := hu.lt; omega, by rw [hu.p]; congr 1; omega, hu.dp, hu.h, by have := hu.z; omega, ?_⟩⟩
          · rw [show 1 + k.size + j = (k.size + j) + 1 by omega, List.getElem?_cons_succ, List.getElem?_append_right (by omega), hl, show k.size + j - k.size = j by omega]
            exact hx
          · have e : postF k (id + 1) ++ id :: postF r (id + 1 + k.size) = (postF k (id + 1) ++ [id]) ++ postF r (id + 1 + k.size) := by simp
            have n1 : id + (i + 1) ∉ postF k (id + 1) ++ [id] := fun h => by
              rcases List.mem_append.1 h with h | h
              · have := (mem_postF _ _ _).1 h; omega
              · have := List.mem_singleton.1 h; omega
            have n2 : id + (1 + k.size + j) ∉ postF k (id + 1) ++ [id] := fun h => by
              rcases List.mem_append.1 h with h | h
              · have := (mem_postF _ _ _).1 h; omega
              · have := List.mem_singleton.1 h; omega
            rw [e, pos_right n1, pos_right n2]
            have := hu.pos
            rw [show id + (i + 1) = id + 1 + k.size + (i - k.size) by omega, show id + (1 + k.size + j) = id + 1 + k.size + j by omega]
            omega
/-- the whole tree: each node but the first one, held against its parent -/
theorem flatT_up (d : Nd) (k : F) (i : Nat) (y : Im) (hi : 1 ≤ i) (h : (flatT d k)[i]? = some y) : ∃ j x, (flatT d k)[j]? = some x ∧ Up (postF k 1 ++ [0]) 0 i j y x := by
  obtain ⟨i, rfl⟩ : ∃ i', i = i' + 1 := ⟨i - 1, by omega⟩
  rw [flatT, List.getElem?_cons_succ] at h
  have hik : i < k.size := by have := (List.getElem?_eq_some_iff.1 h).1; rw [flatF_len] at this; exact this
  have m1 : 0 + (i + 1) ∈ postF k 1 := (mem_postF _ _ _).2 (by omega)
  rcases flat_up k 0 1 0 1 i y h with ht | ⟨j, x, hx, hu⟩
  · refine ⟨0, _, by rw [flatT]; simp; rfl, ⟨by omega, by rw [ht.p]; rfl, ht.dp, by have := ht.h; dsimp only; omega, by have := ht.z; dsimp only; omega, ?_⟩⟩
    have m2 : 0 + 0 ∉ postF k 1 := fun h => by have := (mem_postF _ _ _).1 h; omega
    rw [pos_left m1, pos_right m2]
    have := pos_lt m1
    omega
  · have hj : j < k.size := by have := (List.getElem?_eq_some_iff.1 hx).1; rw [flatF_len] at this; exact this
    have m2 : 0 + (j + 1) ∈ postF k 1 := (mem_postF _ _ _).2 (by omega)
    refine ⟨j + 1, x, by rw [flatT, List.getElem?_cons_succ]; exact hx, ⟨by have := hu.lt; omega, by rw [hu.p]; congr 1; omega, hu.dp, hu.h, by have := hu.z; omega, ?_⟩⟩
    rw [pos_left m1, pos_left m2]
    have := hu.pos
    rw [show 0 + (i + 1) = 1 + i by omega, show 0 + (j + 1) = 1 + j by omega]
    exact this

/-- where each number stands, as far as i places are looked at: 0 if it was not met -/
def met (P : List Nat) (n i : Nat) : List Nat := (List.range n).map fun j => if pos P j < i then pos P j + 1 else 0
theorem met_len (P : List Nat) (n i : Nat) : (met P n i).length = n := by simp [met]
theorem met_get (P : List Nat) (n i j : Nat) (h : j < n) : (met P n i)[j]? = some (if pos P j < i then pos P j + 1 else 0) := by
  simp [met, h]
theorem pos_get {P : List Nat} (hn : P.Nodup) {i : Nat} (h : i < P.length) : pos P P[i] = i := by
  simpa [pos] using List.Nodup.idxOf_getElem hn i h
theorem met_step (P : List Nat) (n i : Nat) (hn : P.Nodup) (h : i < P.length) (hp : P[i] < n) : (met P n i).set P[i] (i + 1) = met P n (i + 1) := by
  apply List.ext_getElem?
  intro j
  rw [List.getElem?_set, met_len]
  by_cases hj : P[i] = j
  · subst hj
    rw [if_pos rfl, if_pos hp, met_get P n _ _ hp, pos_get hn h, if_pos (by omega)]
  · rw [if_neg hj]
    by_cases hjn : j < n
    · rw [met_get _ _ _ _ hjn, met_get _ _ _ _ hjn]
      have hne : pos P j ≠ i := fun e => by
        by_cases hm : j ∈ P
        · have h1 := pos_lt hm
          have h2 : P[pos P j] = j := List.getElem_idxOf h1
          simp only [e] at h2
          exact hj h2
        · have : pos P j = P.length := List.idxOf_eq_length hm
          omega
      split <;> split <;> first | rfl | omega
    · rw [List.getElem?_eq_none (by rw [met_len]; omega), List.getElem?_eq_none (by rw [met_len]; omega)]
theorem met_zero (P : List Nat) (n : Nat) : met P n 0 = List.replicate n 0 := by
  apply List.ext_getElem?
  intro j
  by_cases hjn : j < n
  · rw [met_get _ _ _ _ hjn, if_neg (by omega)]; simp [hjn]
  · rw [List.getElem?_eq_none (by rw [met_len]; omega), List.getElem?_eq_none (by simp; omega)]
/-- the numbers in the other order -/
theorem postT (k : F) : (postF k 1 ++ [0]).Nodup ∧ ∀ j, j ∈ postF k 1 ++ [0] ↔ j < k.size + 1 := by
  constructor
  · rw [List.nodup_append]
    refine ⟨nodup_postF k 1, by simp, fun a ha b hb => ?_⟩
    have := (mem_postF _ _ _).1 ha
    simp at hb
    omega
  · intro j
    rw [List.mem_append, mem_postF]
    simp
    omega
theorem flatF_bd : ∀ (f : F) (p : Int) (dp pl id i : Nat) (y : Im), (flatF p dp pl id f)[i]? = some y → 0 ≤ y.z ∧ y.z ≤ f.size ∧ 0 ≤ y.h ∧ y.h ≤ f.depth ∧ y.dp < dp + f.depth
  | .nil, _, _, _, _, _, _, h => by cases h
  | .node xb xo d k r, p, dp, pl, id, i, y, h => by
    have hz : (BT.node xb xo d k r).size = 1 + k.size + r.size := rfl
    have hd : (BT.node xb xo d k r).depth = max (k.depth + 1) r.depth := rfl
    have hl := flatF_len k id (dp + 1) 0 (id + 1)
    rw [hz, hd]
    rw [flatF] at h
    cases i with
    | zero =>
      simp only [List.getElem?_cons_zero, Option.some.injEq] at h
      subst h
      dsimp only
      refine ⟨by omega, by omega, by omega, by omega, by omega⟩
    | succ i =>
      simp only [List.getElem?_cons_succ] at h
      by_cases hi : i < k.size
      · rw [List.getElem?_append_left (by omega)] at h
        have := flatF_bd k id (dp + 1) 0 (id + 1) i y h
        refine ⟨by omega, by omega, by omega, by omega, by omega⟩
      · rw [List.getElem?_append_right (by omega), hl] at h
        have := flatF_bd r p dp (pl + 1) (id + 1 + k.size) (i - k.size) y h
        refine ⟨by omega, by omega, by omega, by omega, by omega⟩
theorem flatT_bd (d : Nd) (k : F) (i : Nat) (y : Im) (h : (flatT d k)[i]? = some y) : 0 ≤ y.z ∧ y.z ≤ k.size + 1 ∧ 0 ≤ y.h ∧ y.h ≤ k.depth + 1 ∧ y.dp ≤ k.depth := by
  cases i with
  | zero =>
    rw [flatT] at h
    simp only [List.getElem?_cons_zero, Option.some.injEq] at h
    subst h
    dsimp only
    refine ⟨by omega, by omega, by omega, by omega, by omega⟩
  | succ i =>
    rw [flatT, List.getElem?_cons_succ] at h
    have := flatF_bd k 0 1 0 1 i y h
    refine ⟨by omega, by omega, by omega, by omega, by omega⟩
end Go.Proofs.Ytkojhgagkoeeiaa.M
