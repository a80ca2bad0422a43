/- Where the numbers lie, plain mathematics. -/
import Derived.Test.YtllimmmgjpnhkaaDomR
set_option linter.unusedVariables false
set_option linter.unusedSimpArgs false
namespace Go.Proofs.Ytllimmmgjpnhkaa
open Go.Deep (BT)
open Go.RowKit M

/-- the numbers of a list's trees, the first b -/
def kidsOf : M.F → Nat → List Int
  | .nil, _ => []
  | .node _ _ _ k r, b => (b : Int) :: kidsOf r (b + 1 + k.size)
/-- all nodes of a list's trees, kids of q, the first b -/
def listF : M.F → Nat → Int → List PN
  | .nil, _, _ => []
  | .node _ _ d k r, b, q => (⟨b, q, kidsOf k (b + 1), d⟩ : PN) :: (listF k (b + 1) b ++ listF r (b + 1 + k.size) q)
def addK (l : List Int) (y : PN) : PN := { y with kids := y.kids ++ l }
theorem listF_len : ∀ (f : M.F) (b : Nat) (q : Int), (listF f b q).length = f.size
  | .nil, _, _ => rfl
  | .node xb xo d k r, b, q => by
    simp only [listF, List.length_cons, List.length_append, listF_len k, listF_len r, BT.size]
    omega
theorem addK_nil : addK [] = id := by funext y; simp [addK]
theorem addK_addK (l m : List Int) (y : PN) : addK m (addK l y) = addK (l ++ m) y := by simp [addK]
theorem modify_end (A : List PN) (x : PN) (g : PN → PN) : (A ++ [x]).modify A.length g = A ++ [g x] := by
  apply List.ext_getElem?
  intro i
  rw [List.getElem?_modify]
  by_cases h : i < A.length
  · rw [List.getElem?_append_left h, List.getElem?_append_left h]
    have : ¬ A.length = i := by omega
    simp [this]
  · by_cases e : i = A.length
    · subst e; simp
    · rw [List.getElem?_eq_none (by simp; omega), List.getElem?_eq_none (by simp; omega)]; rfl
theorem modify_ahead (A C : List PN) (i : Nat) (g : PN → PN) (h : i < A.length) : (A ++ C).modify i g = A.modify i g ++ C := by
  apply List.ext_getElem?
  intro j
  rw [List.getElem?_modify]
  by_cases hj : j < A.length
  · rw [List.getElem?_append_left hj, List.getElem?_append_left (by simpa using hj), List.getElem?_modify]
  · rw [List.getElem?_append_right (by omega), List.getElem?_append_right (by simp; omega), List.length_modify]
    have : ¬ i = j := by omega
    simp [this]
theorem modify_twice (A : List PN) (i : Nat) (g h : PN → PN) : (A.modify i g).modify i h = A.modify i (fun x => h (g x)) := by
  apply List.ext_getElem?
  intro j
  rw [List.getElem?_modify, List.getElem?_modify, List.getElem?_modify]
  cases A[j]? with
  | none => rfl
  | some x => by_cases e : i = j <;> simp [e]
theorem numF_eq : ∀ (f : M.F) (P : List PN) (i : Nat), i < P.length → numF f P i = P.modify i (addK (kidsOf f P.length)) ++ listF f P.length i
  | .nil, P, i, h => by
    simp only [numF, kidsOf, listF, addK_nil, List.append_nil]
    apply List.ext_getElem?
    intro j
    rw [List.getElem?_modify]
    by_cases e : i = j <;> simp [e]
  | .node xb xo d k r, P, i, h => by
    have e1 : placeP P d i = P.modify i (addK [(P.length : Int)]) ++ [⟨P.length, i, [], d⟩] := by
      unfold placeP
      rw [if_neg (by omega)]
      rfl
    have e2 : numF k (placeP P d i) (P.length : Int) = (P.modify i (addK [(P.length : Int)]) ++ [⟨P.length, i, kidsOf k (P.length + 1), d⟩]) ++ listF k (P.length + 1) P.length := by
      have h2 := numF_eq k (placeP P d i) P.length (by rw [placeP_len]; omega)
      rw [placeP_len] at h2
      rw [h2, e1]
      have h3 := modify_end (P.modify i (addK [(P.length : Int)])) ⟨P.length, i, [], d⟩ (addK (kidsOf k (P.length + 1)))
      rw [List.length_modify] at h3
      rw [h3]
      simp [addK]
    have l2 : (numF k (placeP P d i) (P.length : Int)).length = P.length + 1 + k.size := by
      rw [e2]; simp [listF_len]; omega
    show numF r (numF k (placeP P d i) P.length) i = _
    rw [numF_eq r _ i (by rw [l2]; omega), l2, e2, modify_ahead _ _ i _ (by simp; omega), modify_ahead _ _ i _ (by simp; omega), modify_twice]
    simp only [addK_addK, kidsOf, listF, List.append_assoc, List.cons_append, List.nil_append]
theorem num_root (d : Nd) (k : M.F) : numF k (placeP [] d (-1)) 0 = (⟨0, -1, kidsOf k 1, d⟩ : PN) :: listF k 1 0 := by
  have h := numF_eq k (placeP [] d (-1)) 0 (by rw [placeP_len]; simp)
  have e : placeP [] d (-1) = [⟨0, -1, [], d⟩] := rfl
  rw [e] at h ⊢
  exact h

/-- a list's trees lie at b -/
def Sits (P : List PN) (f : M.F) (b : Nat) (q : Int) : Prop := ∃ A C, P = A ++ listF f b q ++ C ∧ A.length = b
theorem sits_root (d : Nd) (k : M.F) : Sits (numF k (placeP [] d (-1)) 0) (.node 0 0 d k .nil) 0 (-1) := ⟨[], [], by rw [num_root]; simp [listF], rfl⟩
theorem Sits.here {P : List PN} {xb xo : Nat} {d : Nd} {k r : M.F} {b : Nat} {q : Int} (h : Sits P (.node xb xo d k r) b q) : P[b]? = some ⟨b, q, kidsOf k (b + 1), d⟩ := by
  obtain ⟨A, C, rfl, rfl⟩ := h
  rw [List.append_assoc, List.getElem?_append_right (Nat.le_refl _)]
  simp [listF]
theorem Sits.kids {P : List PN} {xb xo : Nat} {d : Nd} {k r : M.F} {b : Nat} {q : Int} (h : Sits P (.node xb xo d k r) b q) : Sits P k (b + 1) b := by
  obtain ⟨A, C, rfl, rfl⟩ := h
  exact ⟨A ++ [⟨A.length, q, kidsOf k (A.length + 1), d⟩], listF r (A.length + 1 + k.size) q ++ C, by simp [listF], by simp⟩
theorem Sits.rest {P : List PN} {xb xo : Nat} {d : Nd} {k r : M.F} {b : Nat} {q : Int} (h : Sits P (.node xb xo d k r) b q) : Sits P r (b + 1 + k.size) q := by
  obtain ⟨A, C, rfl, rfl⟩ := h
  exact ⟨A ++ [⟨A.length, q, kidsOf k (A.length + 1), d⟩] ++ listF k (A.length + 1) A.length, C, by simp [listF], by simp [listF_len]; omega⟩

/-- parents come ahead -/
theorem listF_par : ∀ (f : M.F) (b : Nat) (q : Int), -1 ≤ q → q < b → ∀ x ∈ listF f b q, -1 ≤ x.par ∧ x.par < x.id
  | .nil, _, _, _, _, x, hx => by cases hx
  | .node xb xo d k r, b, q, h1, h2, x, hx => by
    simp only [listF, List.mem_cons, List.mem_append] at hx
    rcases hx with rfl | hx | hx
    · exact ⟨h1, h2⟩
    · exact listF_par k (b + 1) b (by omega) (by omega) x hx
    · exact listF_par r (b + 1 + k.size) q h1 (by omega) x hx
theorem num_par (d : Nd) (k : M.F) : ∀ x ∈ numF k (placeP [] d (-1)) 0, -1 ≤ x.par ∧ x.par < x.id := by
  intro x hx
  rw [num_root] at hx
  rcases List.mem_cons.1 hx with rfl | hx
  · show (-1 : Int) ≤ -1 ∧ (-1 : Int) < 0; decide
  · exact listF_par k 1 0 (by decide) (by decide) x hx

theorem kidsOf_ge : ∀ (f : M.F) (b : Nat), ∀ x ∈ kidsOf f b, (b : Int) ≤ x
  | .nil, _, x, hx => by cases hx
  | .node xb xo d k r, b, x, hx => by
    rcases List.mem_cons.1 hx with rfl | hx
    · exact Int.le_refl _
    · have := kidsOf_ge r (b + 1 + k.size) x hx
      omega
theorem kidsOf_idx : ∀ (f : M.F) (b : Nat) (i n : Nat) (x : Int), (kidsOf f b)[i]? = some x → idxI x (kidsOf f b) n = (n + i : Nat)
  | .nil, _, i, n, x, h => by simp [kidsOf] at h
  | .node xb xo d k r, b, i, n, x, h => by
    cases i with
    | zero =>
      simp only [kidsOf, List.getElem?_cons_zero, Option.some.injEq] at h
      subst h
      simp [kidsOf, idxI]
    | succ i =>
      simp only [kidsOf, List.getElem?_cons_succ] at h
      have hg := kidsOf_ge r _ x (List.mem_of_getElem? h)
      have hne : ((b : Int) == x) = false := by rw [beq_eq_false_iff_ne]; omega
      have hne2 : (x == (b : Int)) = false := by rw [beq_eq_false_iff_ne]; omega
      have := kidsOf_idx r (b + 1 + k.size) i (n + 1) x h
      simp only [kidsOf, idxI, hne, hne2]
      rw [if_neg (by first | omega | simp)]
      rw [this]
      congr 1
      omega
end Go.Proofs.Ytllimmmgjpnhkaa
