/- Plain: places, counts, the last one of a name; rows of entries that are alike. -/
import Derived.Test.YtjlijpaefdbohaaDoorFY
set_option linter.unusedVariables false
set_option linter.unusedSimpArgs false
namespace Go.Proofs.YtjlijpaefdbohaaDoor
open Go.RowKit

theorem plF_skip (id : Int) : ∀ (A T : List It) (q : Int), (∀ x ∈ A, x.mr = true ∨ x.id ≠ id) → plF id (A ++ T) q = plF id T (q + A.length)
  | [], T, q, _ => by simp
  | x :: A, T, q, h => by
    have hx := h x (by simp)
    have e : (!x.mr && (x.id == id)) = false := by rcases hx with e | e <;> simp [e]
    show (if (!x.mr && (x.id == id)) = true then q else plF id (A ++ T) (q + 1)) = _
    rw [e, if_neg (by simp), plF_skip id A T (q + 1) (fun y hy => h y (by simp [hy]))]
    congr 1
    simp; omega
theorem plF_none (id : Int) (L : List It) (q : Int) (h : ∀ x ∈ L, x.mr = true ∨ x.id ≠ id) : plF id L q = -1 := by
  have := plF_skip id L [] q h
  rw [List.append_nil] at this
  rw [this]; rfl
theorem plF_here (id : Int) (x : It) (T : List It) (q : Int) (h1 : x.mr = false) (h2 : x.id = id) : plF id (x :: T) q = q := by
  unfold plF
  rw [if_pos (by simp [h1, h2])]
theorem plc_at (id : Int) (A T : List It) (x : It) (h : ∀ y ∈ A, y.mr = true ∨ y.id ≠ id) (h1 : x.mr = false) (h2 : x.id = id) : plc (A ++ x :: T) id = (A.length : Int) := by
  unfold plc
  rw [plF_skip id A _ 0 h, plF_here id x T _ h1 h2]; omega
theorem plc_no (id : Int) (L : List It) (h : ∀ x ∈ L, x.mr = true ∨ x.id ≠ id) : plc L id = -1 := plF_none id L 0 h

open Classical in
theorem fsF_skip (k : Ky) : ∀ (A T : List It) (q : Int), (∀ x ∈ A, x.mr = true ∨ x.ky ≠ k) → fsF k (A ++ T) q = fsF k T (q + A.length)
  | [], T, q, _ => by simp
  | x :: A, T, q, h => by
    have hx := h x (by simp)
    have e : (!x.mr && decide (x.ky = k)) = false := by rcases hx with e | e <;> simp [e]
    show (if (!x.mr && decide (x.ky = k)) = true then q else fsF k (A ++ T) (q + 1)) = _
    rw [e, if_neg (by simp), fsF_skip k A T (q + 1) (fun y hy => h y (by simp [hy]))]
    congr 1
    simp; omega
theorem fsF_here (k : Ky) (x : It) (T : List It) (q : Int) (h1 : x.mr = false) (h2 : x.ky = k) : fsF k (x :: T) q = q := by
  unfold fsF
  rw [if_pos (by simp [h1, h2])]
theorem cnt_app (A T : List It) (k : Ky) : cnt (A ++ T) k = cnt A k + cnt T k := by
  unfold cnt; rw [List.countP_append]; omega
theorem cnt_none (A : List It) (k : Ky) (h : ∀ x ∈ A, x.mr = true ∨ x.ky ≠ k) : cnt A k = 0 := by
  unfold cnt
  have : A.countP (fun x => !x.mr && @decide (x.ky = k) (Classical.propDecidable _)) = 0 := by
    rw [List.countP_eq_zero]
    intro x hx
    rcases h x hx with e | e <;> simp [e]
  rw [this]; rfl
theorem cnt_all (T : List It) (k : Ky) (h : ∀ x ∈ T, x.mr = false ∧ x.ky = k) : cnt T k = T.length := by
  unfold cnt
  have : T.countP (fun x => !x.mr && @decide (x.ky = k) (Classical.propDecidable _)) = T.length := by
    rw [List.countP_eq_length]
    intro x hx
    simp [(h x hx).1, (h x hx).2]
  rw [this]
theorem msA_snoc (L : List It) (x : It) : msA (L ++ [x]) (L ++ [x]).length = x.ms := by
  rw [List.length_append]
  show ((Option.map It.ms (L ++ [x])[L.length]?).getD 0) = x.ms
  rw [List.getElem?_append_right (Nat.le_refl _)]
  simp
theorem tI_app (L : List It) (x : It) (j : Nat) (h : j < L.length) : tI (L ++ [x]) j = tI L j := by
  simp [tI, List.getElem?_append_left h]
theorem laF_app (L : List It) (y : It) (x : ByteArray) : ∀ j, j ≤ L.length → laF (L ++ [y]) x j = laF L x j
  | 0, _ => rfl
  | j + 1, h => by
    unfold laF
    rw [tI_app L y j (by omega), laF_app L y x j (by omega)]
theorem laF_snoc (L : List It) (y : It) (x : ByteArray) : laF (L ++ [y]) x (L ++ [y]).length = if y.mr = true then none else if (y.nm.toList == x.toList) = true then some y else laF L x L.length := by
  rw [List.length_append]
  show laF (L ++ [y]) x (L.length + 1) = _
  have e : tI (L ++ [y]) L.length = y := by simp [tI]
  unfold laF
  rw [e, laF_app L y x L.length (Nat.le_refl _)]
  cases hL : L.length <;> simp [laF, hL]

/-- entries of one name and attributes, behind what is not alike; the last three of r, up to number i -/
structure Sg (A T : List It) (M : Int) (nm : ByteArray) (ats : List (ByteArray × ByteArray)) (i r : Nat) : Prop where
  a : ∀ x ∈ A, x.ms ≤ M ∧ (x.mr = true ∨ (x.ms ≠ M ∧ x.id + r ≤ i))
  t : ∀ x ∈ T, x.mr = false ∧ x.ms = M ∧ x.nm = nm ∧ x.ats = ats
  ids : T.map It.id = (List.range (min r 3)).map (fun j => ((i - (min r 3 - 1 - j) : Nat) : Int))
  ms : msA (A ++ T) (A ++ T).length = M
  r : r ≤ i
theorem Sg.len {A T : List It} {M : Int} {nm : ByteArray} {ats : List (ByteArray × ByteArray)} {i r : Nat} (h : Sg A T M nm ats i r) : T.length = min r 3 := by
  have := congrArg List.length h.ids
  simpa using this
theorem Sg.ky {A T : List It} {M : Int} {nm : ByteArray} {ats : List (ByteArray × ByteArray)} {i r : Nat} (h : Sg A T M nm ats i r) : ∀ x ∈ T, x.mr = false ∧ x.ky = ⟨M, nm, ats⟩ := fun x hx => by
  obtain ⟨h1, h2, h3, h4⟩ := h.t x hx
  refine ⟨h1, ?_⟩
  unfold It.ky
  rw [h2, h3, h4]
theorem Sg.aky {A T : List It} {M : Int} {nm : ByteArray} {ats : List (ByteArray × ByteArray)} {i r : Nat} (h : Sg A T M nm ats i r) : ∀ x ∈ A, x.mr = true ∨ x.ky ≠ ⟨M, nm, ats⟩ := fun x hx => by
  rcases (h.a x hx).2 with e | e
  · exact .inl e
  · exact .inr (fun e2 => e.1 (congrArg Ky.ms e2))
theorem Sg.cnt {A T : List It} {M : Int} {nm : ByteArray} {ats : List (ByteArray × ByteArray)} {i r : Nat} (h : Sg A T M nm ats i r) : cnt (A ++ T) ⟨M, nm, ats⟩ = ((min r 3 : Nat) : Int) := by
  rw [cnt_app, cnt_none A _ h.aky, cnt_all T _ h.ky, h.len]; omega
/-- what is left of them when one more comes -/
def lft (T : List It) (r : Nat) : List It := if r < 3 then T else T.tail
theorem Sg.left {A T : List It} {M : Int} {nm : ByteArray} {ats : List (ByteArray × ByteArray)} {i r : Nat} (h : Sg A T M nm ats i r) : Left (A ++ T) (A ++ lft T r) ⟨M, nm, ats⟩ := by
  have hc := h.cnt
  have hl := h.len
  unfold lft
  by_cases h3 : r < 3
  · rw [if_pos h3]
    exact .inl ⟨by rw [hc]; omega, rfl⟩
  · rw [if_neg h3]
    cases T with
    | nil => simp at hl; omega
    | cons x T =>
      refine .inr ⟨A.length, x, by rw [hc]; omega, ?_, by simp, by simp⟩
      rw [fsF_skip _ A _ 0 h.aky, fsF_here _ x T _ (h.ky x (by simp)).1 (h.ky x (by simp)).2]; omega
theorem Sg.ms1 {A T : List It} {M : Int} {nm : ByteArray} {ats : List (ByteArray × ByteArray)} {i r : Nat} (h : Sg A T M nm ats i r) : msA (A ++ lft T r) (A ++ lft T r).length = M := by
  unfold lft
  by_cases h3 : r < 3
  · rw [if_pos h3]; exact h.ms
  · rw [if_neg h3]
    have hl := h.len
    cases T with
    | nil => simp at hl; omega
    | cons x T =>
      cases T with
      | nil => simp at hl; omega
      | cons y T =>
        have e : A ++ (y :: T) = (A ++ (y :: T).dropLast) ++ [(y :: T).getLast (by simp)] := by
          rw [List.append_assoc, List.dropLast_concat_getLast]
        show msA (A ++ (y :: T)) (A ++ (y :: T)).length = M
        rw [e, msA_snoc]
        exact (h.t _ (List.mem_cons_of_mem _ (List.getLast_mem (by simp)))).2.1
theorem Sg.push {A T : List It} {M : Int} {nm : ByteArray} {ats : List (ByteArray × ByteArray)} {i r : Nat} (h : Sg A T M nm ats i r) (av : Value) : Sg A (lft T r ++ [⟨((i + 1 : Nat) : Int), nm, ats, false, M, av⟩]) M nm ats (i + 1) (r + 1) := by
  have hl := h.len
  refine ⟨fun x hx => ⟨(h.a x hx).1, (h.a x hx).2.imp (fun e => e) (fun e => ⟨e.1, by have := e.2; omega⟩)⟩, ?_, ?_, ?_, by have := h.r; omega⟩
  · intro x hx
    rcases List.mem_append.1 hx with hx | hx
    · refine h.t x ?_
      unfold lft at hx
      split at hx
      · exact hx
      · exact List.mem_of_mem_tail hx
    · simp only [List.mem_cons, List.not_mem_nil, or_false] at hx
      subst hx
      exact ⟨rfl, rfl, rfl, rfl⟩
  · have hids := h.ids
    rw [List.map_append]
    by_cases h3 : r < 3
    · have hi := h.r
      unfold lft
      rw [if_pos h3, hids]
      rcases (by omega : r = 0 ∨ r = 1 ∨ r = 2) with rfl | rfl | rfl
      · simp [List.range_succ]
      · simp [List.range_succ]
      · simp [List.range_succ]
    · unfold lft
      rw [if_neg h3, List.map_tail, hids]
      have e1 : min r 3 = 3 := by omega
      have e2 : min (r + 1) 3 = 3 := by omega
      have hi := h.r
      rw [e1, e2]
      simp [List.range_succ]
  · rw [← List.append_assoc]; exact msA_snoc _ _
theorem Sg.mark {A T : List It} {M : Int} {nm : ByteArray} {ats : List (ByteArray × ByteArray)} {i r : Nat} (h : Sg A T M nm ats i r) (av : Value) : Sg (A ++ T ++ [⟨0, ⟨#[]⟩, [], true, M + 1, av⟩]) [] (M + 1) nm ats i 0 := by
  refine ⟨?_, by simp, by simp, by rw [List.append_nil]; exact msA_snoc _ _, Nat.zero_le _⟩
  intro x hx
  rcases List.mem_append.1 hx with hx | hx
  · rcases List.mem_append.1 hx with hx | hx
    · refine ⟨by have := (h.a x hx).1; omega, ?_⟩
      rcases (h.a x hx).2 with e | e
      · exact .inl e
      · exact .inr ⟨by have := (h.a x hx).1; omega, by have := e.2; omega⟩
    · have ht := h.t x hx
      refine ⟨by omega, .inr ⟨by omega, ?_⟩⟩
      have hid : x.id ∈ T.map It.id := List.mem_map.2 ⟨x, hx, rfl⟩
      rw [h.ids] at hid
      obtain ⟨j, hj, e⟩ := List.mem_map.1 hid
      simp at hj
      omega
  · simp only [List.mem_cons, List.not_mem_nil, or_false] at hx
    subst hx
    exact ⟨Int.le_refl _, .inl rfl⟩
/-- of the r last ones, the last three are there -/
theorem Sg.place {A T : List It} {M : Int} {nm : ByteArray} {ats : List (ByteArray × ByteArray)} {i r : Nat} (h : Sg A T M nm ats i r) (j : Nat) (hj : j < r) : ((0 : Int) ≤ plc (A ++ T) ((i - j : Nat) : Int)) ↔ j < 3 := by
  have hA : ∀ x ∈ A, x.mr = true ∨ x.id ≠ ((i - j : Nat) : Int) := fun x hx => by
    rcases (h.a x hx).2 with e | e
    · exact .inl e
    · exact .inr (by have := e.2; have := h.r; omega)
  have hids := h.ids
  have hl := h.len
  have hr := h.r
  constructor
  · intro hp
    false_or_by_contra
    rename_i h3
    have : plc (A ++ T) ((i - j : Nat) : Int) = -1 := by
      refine plc_no _ _ (fun x hx => ?_)
      rcases List.mem_append.1 hx with hx | hx
      · exact hA x hx
      · refine .inr (fun e => ?_)
        have hid : x.id ∈ T.map It.id := List.mem_map.2 ⟨x, hx, rfl⟩
        rw [hids] at hid
        obtain ⟨q, hq, e2⟩ := List.mem_map.1 hid
        simp at hq
        omega
    omega
  · intro h3
    have hmem : ((i - j : Nat) : Int) ∈ T.map It.id := by
      rw [hids]
      refine List.mem_map.2 ⟨min r 3 - 1 - j, by simp; omega, ?_⟩
      congr 1
      omega
    obtain ⟨x, hx, e⟩ := List.mem_map.1 hmem
    unfold plc
    rw [plF_skip _ A T 0 hA]
    obtain ⟨T1, T2, rfl⟩ := List.append_of_mem hx
    have key : ∀ (T1 : List It) (q : Int), 0 ≤ q → 0 ≤ plF ((i - j : Nat) : Int) (T1 ++ x :: T2) q := by
      intro T1
      induction T1 with
      | nil => intro q hq; rw [List.nil_append, plF_here _ x T2 q (h.t x hx).1 e]; exact hq
      | cons y T1 ih =>
        intro q hq
        show 0 ≤ (if (!y.mr && (y.id == ((i - j : Nat) : Int))) = true then q else plF _ (T1 ++ x :: T2) (q + 1))
        split
        · exact hq
        · exact ih (q + 1) (by omega)
    exact key T1 _ (by omega)
end Go.Proofs.YtjlijpaefdbohaaDoor
