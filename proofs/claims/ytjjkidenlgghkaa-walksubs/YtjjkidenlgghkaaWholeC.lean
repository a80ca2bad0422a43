/- whole: the two clones of a node, put in its place. -/
import Derived.Test.YtjjkidenlgghkaaWholeI
set_option linter.unusedVariables false
namespace Go.Proofs.Ytjjkidenlgghkaa
open Go.Deep (BT)
open Go.RowKit M

theorem copyA {S T : Nat → Prop} {W W' : World} {v v' : Value} {l : List (ByteArray × ByteArray)} (h : AS S W v l) (h' : AS T W' v' l) (hT : ∀ b, T b → S b) : CopyOf S 2 W W' v v' := by
  obtain ⟨a, c, rfl, h1, h2, h3⟩ := h
  obtain ⟨a', c', rfl, g1, g2, g3⟩ := h'
  refine ⟨a, l.length, c, a', c', rfl, rfl, g1, g2, ?_⟩
  rcases h3 with h3 | ⟨b, o, ea, _, hc⟩
  · exact .inl (by rw [h3]; rfl)
  rcases g3 with g3 | ⟨b', o', ea', hT', hc'⟩
  · exact .inl (by rw [g3]; rfl)
  refine .inr ⟨b, o, b', o', ea, ea', hT _ hT', fun j v hj hv => ?_⟩
  obtain ⟨i, hi⟩ : ∃ i, j = i * 2 ∨ j = i * 2 + 1 := ⟨j / 2, by omega⟩
  rcases hi with rfl | rfl
  · rw [(hc i (by omega)).1] at hv
    rw [← Option.some.inj hv]
    exact (hc' i (by omega)).1
  · have e := (hc i (by omega)).2
    have e' := (hc' i (by omega)).2
    rw [Nat.add_assoc] at e e'
    rw [e] at hv
    rw [← Option.some.inj hv]
    exact e'
/-- a row of trees, cell by cell -/
theorem FAt.row {S : Nat → Prop} {W : World} {b : Nat} : ∀ (f : M.F) (o : Nat), FAt S W f b o → ∃ xs : List Value, xs.length = f.len * 5 ∧ (∀ j u, xs[j]? = some u → W.cell? ⟨b, o + j, none⟩ = some u) ∧ ∀ u ∈ xs, u.oneCell' = true
  | .nil, o, _ => ⟨[], by simp [BT.len], by simp, by simp⟩
  | .node xb xo d k r, o, h => by
    obtain ⟨⟨av, ka, kc, c0, c1, c2, c3, c4, ha, _⟩, hr⟩ := h
    obtain ⟨xs, h1, h2, h3⟩ := FAt.row r (o + 5) hr
    obtain ⟨a, c, rfl, _⟩ := ha
    refine ⟨.int .i64 d.k :: .string d.n :: .string d.x :: .slice a d.ats.length c :: .slice ka k.len kc :: xs, ?_, ?_, ?_⟩
    · simp only [List.length_cons, BT.len, h1]; omega
    · intro j u hj
      match j, hj with
      | 0, hj => simp at hj; subst hj; exact c0
      | 1, hj => simp at hj; subst hj; exact c1
      | 2, hj => simp at hj; subst hj; exact c2
      | 3, hj => simp at hj; subst hj; exact c3
      | 4, hj => simp at hj; subst hj; exact c4
      | j + 5, hj =>
        have := h2 j u (by simpa using hj)
        rw [show o + 5 + j = o + (j + 5) by omega] at this
        exact this
    · intro u hu
      simp only [List.mem_cons] at hu
      rcases hu with rfl | rfl | rfl | rfl | rfl | hu
      · rfl
      · rfl
      · rfl
      · rfl
      · rfl
      · exact h3 u hu
theorem copyT {S : Nat → Prop} {W W' : World} {n c c' : Nat} {a a' : Option Addr} {xs : List Value} {B E : Nat} (hx : xs.length = n * 5)
    (hc : n = 0 ∨ ∃ b o, a = some ⟨b, o, none⟩ ∧ ∀ j u, xs[j]? = some u → W.cell? ⟨b, o + j, none⟩ = some u) (h1 : n ≤ c') (h2 : c' ≤ maxLen)
    (ho : n = 0 ∨ W'.ownsRow B E 5 (.slice a' n c') n xs) (hS : ∀ b, B ≤ b → S b) : CopyOf S 5 W W' (.slice a n c) (.slice a' n c') := by
  refine ⟨a, n, c, a', c', rfl, rfl, h1, h2, ?_⟩
  rcases hc with hc | ⟨b, o, ea, hc⟩
  · exact .inl hc
  rcases ho with ho | ho
  · exact .inl ho
  rcases ho.2 with ⟨_, hz⟩ | ⟨g, cap, cur, e, hg, hh, _, _, hs, ht⟩
  · exact .inl hz
  · simp only [Value.slice.injEq] at e
    obtain ⟨rfl, _, rfl⟩ := e
    refine .inr ⟨b, o, g, 0, ea, rfl, hS _ hg, fun j v hj hv => ?_⟩
    obtain ⟨u, hu⟩ : ∃ u, xs[j]? = some u := ⟨_, List.getElem?_eq_getElem (by omega)⟩
    rw [hc j u hu] at hv
    rw [← Option.some.inj hv, Nat.zero_add]
    have : cur.toList[j]? = some u := by
      rw [← ht, List.getElem?_take] at hu
      split at hu
      all_goals first | exact hu | (exfalso; omega)
    unfold World.cell?
    simp only [hh]
    rw [← Array.getElem?_toList]
    exact this
end Go.Proofs.Ytjjkidenlgghkaa
