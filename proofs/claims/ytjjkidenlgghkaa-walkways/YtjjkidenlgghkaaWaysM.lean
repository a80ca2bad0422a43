/- The way to a node, in plain terms: place by place it leads to it; it is as long as the node is deep. -/
import Derived.Test.YtjjkidenlgghkaaSubM
import Derived.Test.YtjjkidenlgghkaaMem
set_option linter.unusedVariables false
set_option linter.unusedSimpArgs false
namespace Go.Proofs.Ytjjkidenlgghkaa.M
open Go.Deep

/-- a tree of a list, by its place -/
def getF : F → Nat → Option (Nd × F)
  | .nil, _ => none
  | .node _ _ d k _, 0 => some (d, k)
  | .node _ _ _ _ r, i + 1 => getF r i
/-- where places lead -/
def lead : Nd × F → List Nat → Option (Nd × F)
  | e, [] => some e
  | e, p :: ps => match getF e.2 p with
    | some e' => lead e' ps
    | none => none
theorem lead_cons {e e' : Nd × F} {p : Nat} (h : getF e.2 p = some e') (ps : List Nat) : lead e (p :: ps) = lead e' ps := by rw [lead, h]
theorem lead_some {e r : Nd × F} {p : Nat} {ps : List Nat} (h : lead e (p :: ps) = some r) : ∃ e', getF e.2 p = some e' ∧ lead e' ps = some r := by
  rw [lead] at h
  cases hg : getF e.2 p with
  | none => rw [hg] at h; cases h
  | some e' => rw [hg] at h; exact ⟨e', rfl, h⟩
theorem getF_lt : ∀ (f : F) (p : Nat) (e : Nd × F), getF f p = some e → p < f.len
  | .nil, p, e, h => by simp [getF] at h
  | .node _ _ d k r, 0, e, h => by simp [BT.len]
  | .node _ _ d k r, i + 1, e, h => by
    have := getF_lt r i e h
    simp only [BT.len]
    omega
theorem way_lead : ∀ (f : F) (up : List St) (id pl : Nat) (x : Tl), x ∈ evF up f id pl → ∃ (c : St) (rest : List St) (s : St), x.way = up ++ c :: rest ∧ pl ≤ c.place ∧ getF f (c.place - pl) = some (c.d, c.k) ∧ (c :: rest).getLast? = some s ∧ lead (c.d, c.k) (rest.map (·.place)) = some (s.d, s.k)
  | .nil, up, id, pl, x, h => by simp [evF] at h
  | .node xb xo d k r, up, id, pl, x, h => by
    rw [evF] at h
    have top : ∃ (c : St) (rest : List St) (s : St), up ++ [(⟨d, k, id, pl⟩ : St)] = up ++ c :: rest ∧ pl ≤ c.place ∧ getF (.node xb xo d k r) (c.place - pl) = some (c.d, c.k) ∧ (c :: rest).getLast? = some s ∧ lead (c.d, c.k) (rest.map (·.place)) = some (s.d, s.k) :=
      ⟨⟨d, k, id, pl⟩, [], ⟨d, k, id, pl⟩, rfl, Nat.le_refl _, by simp only [Nat.sub_self]; rfl, rfl, rfl⟩
    rcases List.mem_cons.1 h with rfl | h
    · exact top
    rcases List.mem_append.1 h with h | h
    · obtain ⟨c, rest, s, h1, h2, h3, h4, h5⟩ := way_lead k _ _ _ x h
      refine ⟨⟨d, k, id, pl⟩, c :: rest, s, by rw [h1]; simp, Nat.le_refl _, by simp only [Nat.sub_self]; rfl, by rw [List.getLast?_cons_cons]; exact h4, ?_⟩
      rw [List.map_cons, lead_cons (e' := (c.d, c.k)) (by rw [Nat.sub_zero] at h3; exact h3)]
      exact h5
    rcases List.mem_cons.1 h with rfl | h
    · exact top
    · obtain ⟨c, rest, s, h1, h2, h3, h4, h5⟩ := way_lead r _ _ _ x h
      refine ⟨c, rest, s, h1, by omega, ?_, h4, h5⟩
      rw [show c.place - pl = (c.place - (pl + 1)) + 1 by omega]
      exact h3
theorem way_deep : ∀ (f : F) (up : List St) (id pl : Nat) (p : Int) (dp : Nat) (x : Tl) (s : St), x ∈ evF up f id pl → x.way.getLast? = some s → ∃ y, (flatF p dp pl id f)[s.id - id]? = some y ∧ dp ≤ y.dp ∧ x.way.length = up.length + 1 + (y.dp - dp)
  | .nil, up, id, pl, p, dp, x, s, h, hs => by simp [evF] at h
  | .node xb xo d k r, up, id, pl, p, dp, x, s, h, hs => by
    rw [evF] at h
    rw [flatF]
    have top : (up ++ [(⟨d, k, id, pl⟩ : St)]).getLast? = some s → ∃ y, (⟨p, k.size + 1, dp, k.depth + 1, pl, d⟩ :: (flatF id (dp + 1) 0 (id + 1) k ++ flatF p dp (pl + 1) (id + 1 + k.size) r) : List Im)[s.id - id]? = some y ∧ dp ≤ y.dp ∧ (up ++ [(⟨d, k, id, pl⟩ : St)]).length = up.length + 1 + (y.dp - dp) := fun e => by
      simp only [List.getLast?_append, List.getLast?_singleton, Option.some_or, Option.some.injEq] at e
      subst e
      exact ⟨_, by simp only [Nat.sub_self]; rfl, Nat.le_refl _, by simp⟩
    rcases List.mem_cons.1 h with rfl | h
    · exact top hs
    rcases List.mem_append.1 h with h | h
    · obtain ⟨y, h1, h2, h3⟩ := way_deep k _ _ _ id (dp + 1) x s h hs
      obtain ⟨s', g1, g2, g3, _⟩ := ev_sub k _ _ _ x h
      rw [hs] at g1
      cases g1
      refine ⟨y, ?_, by omega, ?_⟩
      · rw [show s.id - id = (s.id - (id + 1)) + 1 by omega, List.getElem?_cons_succ, List.getElem?_append_left (by rw [flatF_len]; omega)]
        exact h1
      · rw [h3, List.length_append]
        simp only [List.length_cons, List.length_nil]
        omega
    rcases List.mem_cons.1 h with rfl | h
    · exact top hs
    · obtain ⟨y, h1, h2, h3⟩ := way_deep r _ _ _ p dp x s h hs
      obtain ⟨s', g1, g2, g3, _⟩ := ev_sub r _ _ _ x h
      rw [hs] at g1
      cases g1
      refine ⟨y, ?_, h2, h3⟩
      rw [show s.id - id = (s.id - (id + 1 + k.size) + k.size) + 1 by omega, List.getElem?_cons_succ, List.getElem?_append_right (by rw [flatF_len]; omega), flatF_len, Nat.add_sub_cancel]
      exact h1
theorem flatT_eq (d : Nd) (k : F) : flatF (-1) 0 0 0 (.cons d k .nil) = flatT d k := by
  rw [flatF, flatT]
  simp [flatF]
/-- what is told of a node: the way's places lead to it, they are as many as it is deep -/
theorem way_of {d : Nd} {k : F} {x : Tl} {i : Nat} (hx : x ∈ evT d k) (hi : lastId x = i) : ∃ d' k' y, sub (.cons d k .nil) i = some (d', k') ∧ lead (d, k) ((x.way.map (·.place)).drop 1) = some (d', k') ∧ (flatT d k)[i]? = some y ∧ y.dp = ((x.way.map (·.place)).drop 1).length := by
  obtain ⟨c, rest, s, h1, h2, h3, h4, h5⟩ := way_lead _ _ _ _ x hx
  obtain ⟨s', g1, _, _, g4⟩ := ev_sub _ _ _ _ x hx
  rw [List.nil_append] at h1
  rw [h1, h4] at g1
  cases g1
  have hsi : s.id = i := by
    rw [← hi]
    unfold lastId
    rw [h1, h4]
  rw [Nat.sub_zero, hsi] at g4
  have hc : getF (.cons d k .nil) c.place = some (c.d, c.k) := by rw [Nat.sub_zero] at h3; exact h3
  have hc0 := getF_lt _ _ _ hc
  have hp : c.place = 0 := by simp only [BT.len] at hc0; omega
  rw [hp] at hc
  have hdk : (d, k) = (c.d, c.k) := Option.some.inj hc
  obtain ⟨y, y1, y2, y3⟩ := way_deep (.cons d k .nil) [] 0 0 (-1) 0 x s hx (by rw [h1]; exact h4)
  rw [Nat.sub_zero, hsi, flatT_eq] at y1
  refine ⟨s.d, s.k, y, g4, ?_, y1, ?_⟩
  · rw [h1, List.map_cons, List.drop_succ_cons, List.drop_zero, hdk]
    exact h5
  · rw [h1] at y3 ⊢
    simp only [List.length_cons, List.length_nil, List.map_cons, List.drop_succ_cons, List.drop_zero, List.length_map] at y3 ⊢
    omega
end Go.Proofs.Ytjjkidenlgghkaa.M
