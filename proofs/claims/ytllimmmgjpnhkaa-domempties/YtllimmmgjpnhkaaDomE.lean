/- What is left of numbered nodes when the last ones are gone (plain, for DomEmpties). -/
import Derived.Test.YtllimmmgjpnhkaaDomM
set_option linter.unusedVariables false
namespace Go.Proofs.Ytllimmmgjpnhkaa
open Go.Deep (BT)
open Go.RowKit M

/-- numbers are places; kids stand in order, behind their parent; a node is its parent's kid alone -/
structure WFP (P : List PN) : Prop where
  pos : ∀ (i : Nat) (x : PN), P[i]? = some x → x.id = i
  kids : ∀ (i : Nat) (x : PN), P[i]? = some x → x.kids.Pairwise (· < ·) ∧ ∀ c ∈ x.kids, (i : Int) < c ∧ c < P.length
  par : ∀ (i : Nat) (x : PN), P[i]? = some x → 0 < i → ∃ q : Nat, x.par = q ∧ q < i ∧ ∃ y, P[q]? = some y ∧ (i : Int) ∈ y.kids
  one : ∀ (i q q' : Nat) (y y' : PN), P[q]? = some y → P[q']? = some y' → (i : Int) ∈ y.kids → (i : Int) ∈ y'.kids → q = q'
theorem place_get (P : List PN) (d : Nd) (q : Nat) (i : Nat) (x : PN) (h : (placeP P d q)[i]? = some x) :
    (i < P.length ∧ ∃ y, P[i]? = some y ∧ ((i = q ∧ x = { y with kids := y.kids ++ [(P.length : Int)] }) ∨ (i ≠ q ∧ x = y))) ∨ (i = P.length ∧ x = ⟨P.length, q, [], d⟩) := by
  unfold placeP at h
  rw [if_neg (by omega)] at h
  by_cases hi : i < P.length
  · left
    rw [List.getElem?_append_left (by simpa using hi), List.getElem?_modify] at h
    obtain ⟨y, hy, rfl⟩ := Option.map_eq_some_iff.1 h
    refine ⟨hi, y, hy, ?_⟩
    by_cases hq : i = q
    · subst hq
      exact .inl ⟨rfl, by simp⟩
    · exact .inr ⟨hq, by rw [if_neg (by omega)]⟩
  · right
    rw [List.getElem?_append_right (by simp; omega)] at h
    simp only [List.length_modify] at h
    have h0 : i - P.length = 0 := by have := (List.getElem?_eq_some_iff.1 h).1; simp at this; exact this
    rw [h0] at h
    simp at h
    exact ⟨by omega, h.symm⟩
theorem place_old {P : List PN} {d : Nd} {q i : Nat} {y : PN} (h : P[i]? = some y) : ∃ x, (placeP P d q)[i]? = some x ∧ x.id = y.id ∧ x.par = y.par ∧ ∀ c ∈ y.kids, c ∈ x.kids := by
  have hi := (List.getElem?_eq_some_iff.1 h).1
  unfold placeP
  rw [if_neg (by omega), List.getElem?_append_left (by simpa using hi), List.getElem?_modify, h]
  refine ⟨_, rfl, ?_⟩
  split
  · exact ⟨rfl, rfl, fun c hc => List.mem_append_left _ hc⟩
  · exact ⟨rfl, rfl, fun c hc => hc⟩
theorem wf_place {P : List PN} (h : WFP P) (d : Nd) (q : Nat) (hq : q < P.length) : WFP (placeP P d q) := by
  have hlen := placeP_len P d q
  refine ⟨fun i x hx => ?_, fun i x hx => ?_, fun i x hx h0 => ?_, fun i a b y y' hy hy' hi hi' => ?_⟩
  · rcases place_get P d q i x hx with ⟨_, y, hy, ⟨_, rfl⟩ | ⟨_, rfl⟩⟩ | ⟨rfl, rfl⟩
    · exact h.pos i y hy
    · exact h.pos i x hy
    · rfl
  · rw [hlen]
    rcases place_get P d q i x hx with ⟨hi, y, hy, ⟨_, rfl⟩ | ⟨_, rfl⟩⟩ | ⟨rfl, rfl⟩
    · obtain ⟨k1, k2⟩ := h.kids i y hy
      refine ⟨List.pairwise_append.2 ⟨k1, by simp, fun a ha b hb => ?_⟩, fun c hc => ?_⟩
      · rw [List.mem_singleton] at hb
        rw [hb]
        exact (k2 a ha).2
      · rcases List.mem_append.1 hc with hc | hc
        · have := k2 c hc; omega
        · rw [List.mem_singleton] at hc; omega
    · obtain ⟨k1, k2⟩ := h.kids i x hy
      exact ⟨k1, fun c hc => by have := k2 c hc; omega⟩
    · exact ⟨by simp, fun c hc => by simp at hc⟩
  · rcases place_get P d q i x hx with ⟨hi, y, hy, hxy⟩ | ⟨rfl, rfl⟩
    · obtain ⟨r, e1, e2, z, hz, hm⟩ := h.par i y hy h0
      obtain ⟨z', hz', _, _, hk⟩ := place_old (d := d) (q := q) hz
      refine ⟨r, ?_, e2, z', hz', hk _ hm⟩
      rcases hxy with ⟨_, rfl⟩ | ⟨_, rfl⟩
      · exact e1
      · exact e1
    · obtain ⟨y, hy⟩ : ∃ y, P[q]? = some y := ⟨_, List.getElem?_eq_getElem hq⟩
      refine ⟨q, rfl, hq, { y with kids := y.kids ++ [(P.length : Int)] }, ?_, by simp⟩
      unfold placeP
      rw [if_neg (by omega), List.getElem?_append_left (by simpa using hq), List.getElem?_modify, hy]
      simp
  · have key : ∀ (r : Nat) (u : PN), (placeP P d q)[r]? = some u → (i : Int) ∈ u.kids → (∃ z, P[r]? = some z ∧ (i : Int) ∈ z.kids ∧ i < P.length) ∨ (i = P.length ∧ r = q) := by
      intro r u hu hiu
      rcases place_get P d q r u hu with ⟨hr, z, hz, ⟨rfl, rfl⟩ | ⟨_, rfl⟩⟩ | ⟨rfl, rfl⟩
      · rcases List.mem_append.1 hiu with hm | hm
        · exact .inl ⟨z, hz, hm, by have := ((h.kids r z hz).2 _ hm).2; omega⟩
        · rw [List.mem_singleton] at hm
          exact .inr ⟨by omega, rfl⟩
      · exact .inl ⟨u, hz, hiu, by have := ((h.kids r u hz).2 _ hiu).2; omega⟩
      · simp at hiu
    rcases key a y hy hi with ⟨z, hz, hm, hl⟩ | ⟨e1, e2⟩
    · rcases key b y' hy' hi' with ⟨z', hz', hm', _⟩ | ⟨e1, e2⟩
      · exact h.one i a b z z' hz hz' hm hm'
      · omega
    · rcases key b y' hy' hi' with ⟨z', hz', hm', hl⟩ | ⟨e3, e4⟩
      · omega
      · omega
theorem wf_num : ∀ (f : M.F) (P : List PN) (q : Nat), WFP P → q < P.length → WFP (numF f P q) ∧ P.length ≤ (numF f P q).length
  | .nil, P, q, h, _ => ⟨h, Nat.le_refl _⟩
  | .node xb xo d k r, P, q, h, hq => by
    have hl := placeP_len P d q
    obtain ⟨h1, l1⟩ := wf_num k (placeP P d q) P.length (wf_place h d q hq) (by omega)
    obtain ⟨h2, l2⟩ := wf_num r (numF k (placeP P d q) P.length) q h1 (by omega)
    exact ⟨h2, by show P.length ≤ (numF r (numF k (placeP P d q) P.length) q).length; omega⟩
theorem wf_root (d : Nd) (k : M.F) : WFP (numF (.node 0 0 d k .nil) [] (-1)) := by
  show WFP (numF k (placeP [] d (-1)) 0)
  have h1 : WFP (placeP [] d (-1)) := by
    have e : placeP [] d (-1) = [⟨0, -1, [], d⟩] := rfl
    rw [e]
    have key : ∀ (i : Nat) (x : PN), ([⟨0, -1, [], d⟩] : List PN)[i]? = some x → i = 0 ∧ x = ⟨0, -1, [], d⟩ := by
      intro i x hx
      have hi : i = 0 := by have := (List.getElem?_eq_some_iff.1 hx).1; simpa using this
      subst hi
      simp at hx
      exact ⟨rfl, hx.symm⟩
    refine ⟨fun i x hx => ?_, fun i x hx => ?_, fun i x hx h0 => ?_, fun i a b y y' hy hy' hi hi' => ?_⟩
    · obtain ⟨rfl, rfl⟩ := key i x hx; rfl
    · obtain ⟨rfl, rfl⟩ := key i x hx; exact ⟨by simp, fun c hc => by simp at hc⟩
    · obtain ⟨rfl, rfl⟩ := key i x hx; omega
    · obtain ⟨rfl, rfl⟩ := key a y hy; simp at hi
  exact (wf_num k (placeP [] d (-1)) 0 h1 (by rw [placeP_len]; omega)).1

/-- the nodes below k alone -/
def lowP (k : Nat) (y : PN) : PN := { y with kids := y.kids.filter (fun c => decide (c < (k : Int))) }
def cutP (P : List PN) (k : Nat) : List PN := (P.take k).map (lowP k)
theorem cut_len {P : List PN} {k : Nat} (h : k ≤ P.length) : (cutP P k).length = k := by unfold cutP; rw [List.length_map, List.length_take]; omega
theorem cut_get {P : List PN} {k i : Nat} (h : i < k) : (cutP P k)[i]? = (P[i]?).map (lowP k) := by
  unfold cutP
  rw [List.getElem?_map, List.getElem?_take_of_lt h]
theorem cut_all {P : List PN} (h : WFP P) : cutP P P.length = P := by
  apply List.ext_getElem?
  intro i
  by_cases hi : i < P.length
  · rw [cut_get hi, List.getElem?_eq_getElem hi]
    simp only [Option.map_some, Option.some.injEq]
    have := (h.kids i P[i] (List.getElem?_eq_getElem hi)).2
    unfold lowP
    rw [List.filter_eq_self.2 (fun c hc => decide_eq_true (this c hc).2)]
  · rw [List.getElem?_eq_none (by rw [cut_len (Nat.le_refl _)]; omega), List.getElem?_eq_none (by omega)]
/-- a list in order, below m + 1: what is below m, and m if it is there -/
theorem low_last {l : List Int} {m : Nat} (h : l.Pairwise (· < ·)) (hm : (m : Int) ∈ l) : l.filter (fun c => decide (c < ((m + 1 : Nat) : Int))) = l.filter (fun c => decide (c < (m : Int))) ++ [(m : Int)] := by
  induction l with
  | nil => simp at hm
  | cons a r ih =>
    obtain ⟨h1, h2⟩ := List.pairwise_cons.1 h
    rw [List.filter_cons, List.filter_cons]
    rcases List.mem_cons.1 hm with e | hm
    · subst e
      rw [if_pos (by rw [decide_eq_true_iff]; omega), if_neg (by rw [decide_eq_true_iff]; omega)]
      have e1 : r.filter (fun c => decide (c < ((m + 1 : Nat) : Int))) = [] := by
        rw [List.filter_eq_nil_iff]
        intro c hc
        have := h1 c hc
        rw [decide_eq_true_iff]; omega
      have e2 : r.filter (fun c => decide (c < (m : Int))) = [] := by
        rw [List.filter_eq_nil_iff]
        intro c hc
        have := h1 c hc
        rw [decide_eq_true_iff]; omega
      rw [e1, e2]; rfl
    · have := h1 _ hm
      rw [if_pos (by rw [decide_eq_true_iff]; omega), if_pos (by rw [decide_eq_true_iff]; omega), ih h2 hm]
      rfl
theorem low_same {l : List Int} {m : Nat} (hm : (m : Int) ∉ l) : l.filter (fun c => decide (c < ((m + 1 : Nat) : Int))) = l.filter (fun c => decide (c < (m : Int))) := by
  apply List.filter_congr
  intro c hc
  rw [Bool.eq_iff_iff, decide_eq_true_iff, decide_eq_true_iff]
  have : c ≠ m := fun e => hm (e ▸ hc)
  omega
/-- the last node goes -/
theorem cut_step {P : List PN} (h : WFP P) {m : Nat} (h1 : 1 ≤ m) (hm : m < P.length) : ∃ (q : Nat) (y z : PN) (K0 : List Int), q < m ∧ (cutP P (m + 1))[q]? = some y ∧ y.kids = K0 ++ [(m : Int)] ∧ (m : Int) ∉ K0 ∧ (cutP P (m + 1))[m]? = some z ∧ z.id = m ∧ z.par = q ∧ z.kids = [] ∧
    cutP P m = ((cutP P (m + 1)).set q { y with kids := K0 }).take m := by
  obtain ⟨x, hx⟩ : ∃ x, P[m]? = some x := ⟨_, List.getElem?_eq_getElem hm⟩
  obtain ⟨q, e1, e2, y, hy, hmem⟩ := h.par m x hx h1
  obtain ⟨k1, k2⟩ := h.kids q y hy
  refine ⟨q, lowP (m + 1) y, lowP (m + 1) x, y.kids.filter (fun c => decide (c < (m : Int))), e2, by rw [cut_get (by omega), hy]; rfl, low_last k1 hmem, ?_, by rw [cut_get (by omega), hx]; rfl, h.pos m x hx, e1, ?_, ?_⟩
  · intro hc
    have := (List.mem_filter.1 hc).2
    rw [decide_eq_true_iff] at this
    omega
  · show x.kids.filter _ = []
    rw [List.filter_eq_nil_iff]
    intro c hc
    have := (h.kids m x hx).2 c hc
    rw [decide_eq_true_iff]; omega
  · apply List.ext_getElem?
    intro i
    by_cases hi : i < m
    · rw [cut_get hi, List.getElem?_take_of_lt hi]
      by_cases hq : i = q
      · subst hq
        rw [List.getElem?_set_self (by rw [cut_len (by omega)]; omega), hy]
        rfl
      · rw [List.getElem?_set_ne (fun e => hq e.symm), cut_get (by omega)]
        cases hu : P[i]? with
        | none => rfl
        | some u =>
          simp only [Option.map_some, Option.some.injEq]
          unfold lowP
          rw [low_same (fun hc => hq (h.one m i q u y hu hy hc hmem))]
    · rw [List.getElem?_eq_none (by rw [cut_len (by omega)]; omega), List.getElem?_eq_none (by rw [List.length_take]; omega)]
theorem cut_one {P : List PN} {x : PN} (h : WFP P) (hx : P[0]? = some x) : cutP P 1 = [{ x with kids := [] }] := by
  have hl : 0 < P.length := (List.getElem?_eq_some_iff.1 hx).1
  apply List.ext_getElem?
  intro i
  by_cases hi : i < 1
  · have : i = 0 := by omega
    subst this
    rw [cut_get (by omega), hx]
    simp only [Option.map_some, List.getElem?_cons_zero, Option.some.injEq]
    unfold lowP
    have : x.kids.filter (fun c => decide (c < ((1 : Nat) : Int))) = [] := by
      rw [List.filter_eq_nil_iff]
      intro c hc
      have := (h.kids 0 x hx).2 c hc
      rw [decide_eq_true_iff]; omega
    rw [this]
  · rw [List.getElem?_eq_none (by rw [cut_len (by omega)]; omega), List.getElem?_eq_none (by simp; omega)]
end Go.Proofs.Ytllimmmgjpnhkaa
