/- Copies put in the place of what they are copies of: a tree lies there as it lay. -/
import Derived.Test.YtjjkidenlgghkaaCloneT
set_option linter.unusedVariables false
namespace Go.Proofs.Ytjjkidenlgghkaa
open Go.Deep (BT)
open Go.RowKit M

/-- v' is a slice as v is, of a row that is a copy in a block of S, z cells an element -/
def CopyOf (S : Nat → Prop) (z : Nat) (W W' : World) (v v' : Value) : Prop :=
  ∃ a n c a' c', v = .slice a n c ∧ v' = .slice a' n c' ∧ n ≤ c' ∧ c' ≤ maxLen ∧ (n = 0 ∨ ∃ b o b' o', a = some ⟨b, o, none⟩ ∧ a' = some ⟨b', o', none⟩ ∧ S b' ∧ ∀ j v, j < n * z → W.cell? ⟨b, o + j, none⟩ = some v → W'.cell? ⟨b', o' + j, none⟩ = some v)
/-- a cell as it was, or with a copy in it -/
def Rr (av av' kv kv' v : Value) (x : Option Value) : Prop := x = some v ∨ (v = av ∧ x = some av') ∨ (v = kv ∧ x = some kv')
structure Turn (S : Nat → Prop) (W W' : World) (av av' kv kv' : Value) : Prop where
  cell : ∀ b o v, W.cell? ⟨b, o, none⟩ = some v → Rr av av' kv kv' v (W'.cell? ⟨b, o, none⟩)
  sa : CopyOf S 2 W W' av av'
  sk : CopyOf S 5 W W' kv kv'
  at_ : ∃ l, AS S W av l

theorem CopyOf.str {S : Nat → Prop} {z : Nat} {W W' : World} {v v' : Value} (h : CopyOf S z W W' v v') (s : ByteArray) : v ≠ .string s := by
  obtain ⟨a, n, c, a', c', rfl, _⟩ := h; simp
theorem CopyOf.int {S : Nat → Prop} {z : Nat} {W W' : World} {v v' : Value} (h : CopyOf S z W W' v v') (i : Int) : v ≠ .int .i64 i := by
  obtain ⟨a, n, c, a', c', rfl, _⟩ := h; simp
variable {S : Nat → Prop} {W W' : World} {av av' kv kv' : Value}
theorem Turn.rs (h : Turn S W W' av av' kv kv') {s : ByteArray} {x : Option Value} (r : Rr av av' kv kv' (.string s) x) : x = some (.string s) := by
  rcases r with r | ⟨e, _⟩ | ⟨e, _⟩
  · exact r
  · exact absurd e.symm (h.sa.str s)
  · exact absurd e.symm (h.sk.str s)
theorem Turn.ri (h : Turn S W W' av av' kv kv') {i : Int} {x : Option Value} (r : Rr av av' kv kv' (.int .i64 i) x) : x = some (.int .i64 i) := by
  rcases r with r | ⟨e, _⟩ | ⟨e, _⟩
  · exact r
  · exact absurd e.symm (h.sa.int i)
  · exact absurd e.symm (h.sk.int i)
theorem Turn.as (h : Turn S W W' av av' kv kv') {v : Value} {l : List (ByteArray × ByteArray)} (ha : AS S W v l) : AS S W' v l := by
  obtain ⟨a, c, e, h1, h2, h3⟩ := ha
  refine ⟨a, c, e, h1, h2, h3.imp id ?_⟩
  rintro ⟨b, o, ea, hS, hc⟩
  exact ⟨b, o, ea, hS, fun i hi => ⟨h.rs (h.cell _ _ _ (hc i hi).1), h.rs (h.cell _ _ _ (hc i hi).2)⟩⟩
theorem CopyOf.as {z : Nat} (hz : 2 ≤ z) {v v' : Value} (h : CopyOf S z W W' v v') {l : List (ByteArray × ByteArray)} (ha : AS S W v l) : AS S W' v' l := by
  obtain ⟨a, n, c, a', c', rfl, rfl, g1, g2, g3⟩ := h
  obtain ⟨a0, c0, e, h1, h2, h3⟩ := ha
  simp only [Value.slice.injEq] at e
  obtain ⟨rfl, rfl, rfl⟩ := e
  refine ⟨a', c', rfl, g1, g2, ?_⟩
  rcases h3 with h3 | ⟨b, o, ea, _, hc⟩
  · exact .inl h3
  · rcases g3 with g3 | ⟨b1, o1, b', o', ea1, ea', hS', hcc⟩
    · exact .inl (List.eq_nil_of_length_eq_zero g3)
    · rw [ea] at ea1
      cases ea1
      refine .inr ⟨b', o', ea', hS', fun i hi => ?_⟩
      have hm : l.length * 2 ≤ l.length * z := Nat.mul_le_mul_left _ hz
      refine ⟨?_, ?_⟩
      · exact hcc (i * 2) _ (by omega) (hc i hi).1
      · have := hcc (i * 2 + 1) _ (by omega) (by rw [← Nat.add_assoc]; exact (hc i hi).2)
        rw [← Nat.add_assoc] at this
        exact this
theorem Turn.fat (h : Turn S W W' av av' kv kv') : ∀ (f : M.F) (b o b' o' : Nat), FAt S W f b o → (∀ j v, j < f.len * 5 → W.cell? ⟨b, o + j, none⟩ = some v → Rr av av' kv kv' v (W'.cell? ⟨b', o' + j, none⟩)) → FAt S W' f b' o' := by
  intro f
  induction f with
  | nil => intros; trivial
  | node xb xo d k r ihk ihr =>
    intro b o b' o' hf hc
    obtain ⟨⟨v3, ka, kc, e0, e1, e2, e3, e4, ha, h4, h5, hk⟩, hr⟩ := hf
    have hl : (BT.node xb xo d k r : M.F).len = r.len + 1 := rfl
    have r0 := h.ri (hc 0 _ (by omega) e0)
    have r1 := h.rs (hc 1 _ (by omega) e1)
    have r2 := h.rs (hc 2 _ (by omega) e2)
    have r3 := hc 3 _ (by omega) e3
    have r4 := hc 4 _ (by omega) e4
    refine ⟨?_, ihr b (o + 5) b' (o' + 5) hr (fun j v hj hv => ?_)⟩
    · obtain ⟨v3', c3, a3⟩ : ∃ v3', W'.cell? ⟨b', o' + 3, none⟩ = some v3' ∧ AS S W' v3' d.ats := by
        rcases r3 with r3 | ⟨rfl, r3⟩ | ⟨rfl, r3⟩
        · exact ⟨_, r3, h.as ha⟩
        · exact ⟨_, r3, h.sa.as (Nat.le_refl _) ha⟩
        · exact ⟨_, r3, h.sk.as (by omega) ha⟩
      obtain ⟨ka', kc', c4, g4, g5, gk⟩ : ∃ ka' kc', W'.cell? ⟨b', o' + 4, none⟩ = some (.slice ka' k.len kc') ∧ k.len ≤ kc' ∧ kc' ≤ maxLen ∧ (k.len = 0 ∨ ∃ b1 o1, ka' = some ⟨b1, o1, none⟩ ∧ S b1 ∧ FAt S W' k b1 o1) := by
        rcases r4 with r4 | ⟨e, r4⟩ | ⟨e, r4⟩
        · refine ⟨ka, kc, r4, h4, h5, hk.imp id ?_⟩
          rintro ⟨b1, o1, ea, hS1, hf1⟩
          exact ⟨b1, o1, ea, hS1, ihk b1 o1 b1 o1 hf1 (fun j v _ hv => h.cell _ _ _ hv)⟩
        · obtain ⟨a, n, c, a', c', e1', rfl, g1, g2, g3⟩ := h.sa
          obtain ⟨l, a0, c0, el, _, _, hl3⟩ := h.at_
          rw [← e] at e1' el
          simp only [Value.slice.injEq] at e1' el
          obtain ⟨rfl, rfl, rfl⟩ := e1'
          refine ⟨a', c', r4, g1, g2, ?_⟩
          rcases hk with hk | ⟨b1, o1, ea, _, hf1⟩
          · exact .inl hk
          · cases k with
            | nil => exact .inl rfl
            | node yb yo d1 k1 r1' =>
              exfalso
              obtain ⟨⟨_, _, _, z0, _⟩, _⟩ := hf1
              rcases hl3 with hl3 | ⟨b2, o2, ea2, _, hc2⟩
              · have : l.length = r1'.len + 1 := el.2.1.symm
                rw [hl3] at this
                simp at this
              · rw [← el.1, ea] at ea2
                cases ea2
                have := (hc2 0 (by have : l.length = r1'.len + 1 := el.2.1.symm; omega)).1
                rw [Nat.zero_mul, Nat.add_zero, z0] at this
                simp at this
        · obtain ⟨a, n, c, a', c', e1', rfl, g1, g2, g3⟩ := h.sk
          rw [← e] at e1'
          simp only [Value.slice.injEq] at e1'
          obtain ⟨rfl, rfl, rfl⟩ := e1'
          refine ⟨a', c', r4, g1, g2, ?_⟩
          rcases hk with hk | ⟨b1, o1, ea, _, hf1⟩
          · exact .inl hk
          · rcases g3 with g3 | ⟨b2, o2, b3, o3, ea2, ea3, hS3, hcc⟩
            · exact .inl g3
            · rw [ea] at ea2
              cases ea2
              exact .inr ⟨b3, o3, ea3, hS3, ihk b1 o1 b3 o3 hf1 (fun j v hj hv => .inl (hcc j v hj hv))⟩
      exact ⟨v3', ka', kc', r0, r1, r2, c3, c4, a3, g4, g5, gk⟩
    · have := hc (5 + j) v (by omega) (by rw [← Nat.add_assoc]; exact hv)
      rw [← Nat.add_assoc] at this
      exact this
theorem Turn.fl (h : Turn S W W' av av' kv kv') {v : Value} {f : M.F} (hf : FL S W v f) : FL S W' v f := by
  obtain ⟨a, c, e, h1, h2, h3⟩ := hf
  refine ⟨a, c, e, h1, h2, h3.imp id ?_⟩
  rintro ⟨b, o, ea, hS, hc⟩
  exact ⟨b, o, ea, hS, h.fat f b o b o hc (fun j v _ hv => h.cell _ _ _ hv)⟩
end Go.Proofs.Ytjjkidenlgghkaa
