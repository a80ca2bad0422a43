/- Numbers given to a tree's nodes, plain mathematics. -/
import Derived.Test.YtllimmmgjpnhkaaDomH
set_option linter.unusedVariables false
set_option linter.unusedSimpArgs false
namespace Go.Proofs.Ytllimmmgjpnhkaa
open Go.Deep (BT)
open Go.RowKit M

/-- a node of an arena without the values of its slices -/
structure PN where
  id : Int
  par : Int
  kids : List Int
  d : Nd
def pn (x : DN) : PN := ⟨x.id, x.par, x.kids, x.d⟩
/-- a node more, the last kid of its parent -/
def placeP (P : List PN) (d : Nd) (q : Int) : List PN :=
  if q = -1 then P ++ [⟨P.length, -1, [], d⟩]
  else (P.modify q.toNat (fun y => { y with kids := y.kids ++ [(P.length : Int)] })) ++ [⟨P.length, q, [], d⟩]
/-- all trees of a list numbered, kids of q -/
def numF : M.F → List PN → Int → List PN
  | .nil, P, _ => P
  | .node _ _ d k r, P, q => numF r (numF k (placeP P d q) P.length) q
/-- numbers are places; kids are few -/
structure OKP (P : List PN) : Prop where
  pos : ∀ (i : Nat) (x : PN), P[i]? = some x → x.id = i
  few : ∀ x ∈ P, x.kids.length ≤ P.length
theorem placeP_len (P : List PN) (d : Nd) (q : Int) : (placeP P d q).length = P.length + 1 := by
  unfold placeP
  split <;> simp
theorem placeP_ok {P : List PN} (h : OKP P) (d : Nd) (q : Int) : OKP (placeP P d q) := by
  refine ⟨fun i x hx => ?_, fun x hx => ?_⟩
  · unfold placeP at hx
    split at hx
    · by_cases hi : i < P.length
      · rw [List.getElem?_append_left hi] at hx; exact h.pos i x hx
      · rw [List.getElem?_append_right (by omega)] at hx
        have h0 : i - P.length = 0 := by have := (List.getElem?_eq_some_iff.1 hx).1; simp at this; exact this
        rw [h0] at hx
        simp at hx
        rw [← hx]
        show (P.length : Int) = i
        omega
    · by_cases hi : i < P.length
      · rw [List.getElem?_append_left (by simpa using hi), List.getElem?_modify] at hx
        obtain ⟨y, hy, rfl⟩ := Option.map_eq_some_iff.1 hx
        have := h.pos i y hy
        split
        · exact this
        · exact this
      · rw [List.getElem?_append_right (by simp; omega)] at hx
        simp only [List.length_modify] at hx
        have h0 : i - P.length = 0 := by have := (List.getElem?_eq_some_iff.1 hx).1; simp at this; exact this
        rw [h0] at hx
        simp at hx
        rw [← hx]
        show (P.length : Int) = i
        omega
  · rw [placeP_len]
    unfold placeP at hx
    split at hx
    · rcases List.mem_append.1 hx with hx | hx
      · have := h.few x hx; omega
      · rw [List.mem_singleton] at hx; rw [hx]; simp
    · rcases List.mem_append.1 hx with hx | hx
      · obtain ⟨i, hi⟩ := List.mem_iff_getElem?.1 hx
        rw [List.getElem?_modify] at hi
        obtain ⟨y, hy, rfl⟩ := Option.map_eq_some_iff.1 hi
        have := h.few y (List.mem_of_getElem? hy)
        split
        · simp; omega
        · simp; omega
      · rw [List.mem_singleton] at hx; rw [hx]; simp
theorem numF_ok : ∀ (f : M.F) (P : List PN) (q : Int), OKP P → OKP (numF f P q) ∧ (numF f P q).length = P.length + f.size
  | .nil, P, q, h => ⟨h, rfl⟩
  | .node xb xo d k r, P, q, h => by
    obtain ⟨h1, l1⟩ := numF_ok k (placeP P d q) P.length (placeP_ok h d q)
    obtain ⟨h2, l2⟩ := numF_ok r (numF k (placeP P d q) P.length) q h1
    refine ⟨h2, ?_⟩
    show (numF r (numF k (placeP P d q) P.length) q).length = _
    rw [l2, l1, placeP_len]
    simp only [BT.size]
    omega

theorem pos_place {L : List DN} (h : OKP (L.map pn)) {i : Nat} (hi : i < L.length) : placeOf L (i : Int) = some (i : Int) := by
  unfold placeOf
  have hid : ∀ (j : Nat) (hj : j < L.length), (L[j]).id = j := fun j hj => h.pos j (pn L[j]) (by rw [List.getElem?_map, List.getElem?_eq_getElem hj]; rfl)
  have : L.findIdx? (fun y => y.id == (i : Int)) = some i := by
    rw [List.findIdx?_eq_some_iff_getElem]
    refine ⟨hi, by rw [hid i hi]; simp, fun j hj => ?_⟩
    rw [hid j (by omega)]
    simp
    omega
  rw [this]
  rfl
theorem pos_none {L : List DN} (h : OKP (L.map pn)) : placeOf L (L.length : Int) = none := by
  unfold placeOf
  have : L.findIdx? (fun y => y.id == (L.length : Int)) = none := by
    rw [List.findIdx?_eq_none_iff]
    intro x hx
    obtain ⟨j, hj⟩ := List.mem_iff_getElem?.1 hx
    have hjl := (List.getElem?_eq_some_iff.1 hj).1
    have := h.pos j (pn x) (by rw [List.getElem?_map, hj]; rfl)
    have e : x.id = j := this
    rw [e]
    simp
    omega
  rw [this]
  rfl
theorem pn_add (L : List DN) (d : Nd) (av' : Value) : (L ++ [(⟨(L.length : Int), -1, [], d, .slice none 0 0, av'⟩ : DN)]).map pn = placeP (L.map pn) d (-1) := by
  unfold placeP
  rw [if_pos rfl, List.map_append, List.length_map]
  rfl
theorem pn_att (L : List DN) (d : Nd) (av' kv' : Value) {i : Nat} {y : DN} (hi : L[i]? = some y) :
    (attL (L ++ [⟨(L.length : Int), -1, [], d, .slice none 0 0, av'⟩]) i L.length y ⟨(L.length : Int), -1, [], d, .slice none 0 0, av'⟩ (L.length : Int) (i : Int) kv').map pn = placeP (L.map pn) d (i : Int) := by
  have hiL : i < L.length := (List.getElem?_eq_some_iff.1 hi).1
  unfold attL placeP
  rw [if_neg (by omega), List.length_map]
  apply List.ext_getElem?
  intro k
  rw [List.getElem?_map]
  by_cases hk : k < L.length
  · rw [List.getElem?_set_ne (by omega), List.getElem?_append_left (by simpa using hk), List.getElem?_modify, List.getElem?_map]
    by_cases hki : k = i
    · subst hki
      rw [List.getElem?_set_self (by simp; omega), hi]
      simp [pn]
    · rw [List.getElem?_set_ne (fun e => hki e.symm), List.getElem?_append_left hk]
      have : ¬ (i : Int).toNat = k := by omega
      cases L[k]? with
      | none => rfl
      | some u =>
        simp [this]
        intro e
        exact absurd e.symm hki
  · by_cases hke : k = L.length
    · subst hke
      rw [List.getElem?_set_self (by simp), List.getElem?_append_right (by simp)]
      simp [pn]
    · rw [List.getElem?_eq_none (by simp; omega), List.getElem?_eq_none (by simp; omega)]
      rfl
end Go.Proofs.Ytllimmmgjpnhkaa
