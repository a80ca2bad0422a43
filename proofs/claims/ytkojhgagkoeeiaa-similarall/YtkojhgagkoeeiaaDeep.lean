/- The second maker of TreeLimits: a tree that is so deep. -/
import Derived.Test.YtkojhgagkoeeiaaWide
set_option linter.unusedVariables false
namespace Go.Proofs.Ytkojhgagkoeeiaa
open Go.Deep (BT)
open Go.RowKit M

theorem AS.here {S : Nat → Prop} {w : World} {v : Value} {l : List (ByteArray × ByteArray)} (h : AS S w v l) : AS (Old w.heap.size) w v l := by
  obtain ⟨a, cap, e, h1, h2, h3⟩ := h
  refine ⟨a, cap, e, h1, h2, ?_⟩
  rcases h3 with h3 | ⟨b, o, ea, hS, hc⟩
  · exact .inl h3
  · by_cases h0 : l = []
    · exact .inl h0
    · exact .inr ⟨b, o, ea, World.block_lt_of_cell? w _ (hc 0 (List.length_pos_iff.2 h0)).1, hc⟩
theorem FAt.here {S : Nat → Prop} {w : World} : ∀ (f : M.F) (b o : Nat), FAt S w f b o → FAt (Old w.heap.size) w f b o
  | .nil, _, _, _ => trivial
  | .node xb xo d k r, b, o, hf => by
    obtain ⟨⟨av, ka, kc, c0, c1, c2, c3, c4, ha, h1, h2, hk⟩, hr⟩ := hf
    refine ⟨⟨av, ka, kc, c0, c1, c2, c3, c4, ha.here, h1, h2, ?_⟩, FAt.here r b (o + 5) hr⟩
    rcases hk with hk | ⟨b', o', e, hS', hk⟩
    · exact .inl hk
    · by_cases h0 : k.len = 0
      · exact .inl h0
      · refine .inr ⟨b', o', e, ?_, FAt.here k b' o' hk⟩
        cases k with
        | nil => exact absurd rfl h0
        | node yb yo d2 k2 r2 =>
          obtain ⟨⟨_, _, _, e0, _⟩, _⟩ := hk
          exact World.block_lt_of_cell? w _ e0
theorem FL.here {S : Nat → Prop} {w : World} {v : Value} {f : M.F} (h : FL S w v f) : FL (Old w.heap.size) w v f := by
  obtain ⟨a, cap, e, h1, h2, h3⟩ := h
  refine ⟨a, cap, e, h1, h2, ?_⟩
  rcases h3 with h3 | ⟨b, o, ea, hS, hc⟩
  · exact .inl h3
  · by_cases h0 : f.len = 0
    · exact .inl h0
    · refine .inr ⟨b, o, ea, ?_, FAt.here f b o hc⟩
      cases f with
      | nil => exact absurd rfl h0
      | node yb yo d2 k2 r2 =>
        obtain ⟨⟨_, _, _, e0, _⟩, _⟩ := hc
        exact World.block_lt_of_cell? w _ e0
/-- a new block that holds one tree -/
theorem one_FL {S : Nat → Prop} {w : World} {b : Nat} {d : Nd} {k : M.F} {av kv : Value} (h : Five w b (.int .i64 d.k) (.string d.n) (.string d.x) av kv) (hb : S b) (ha : AS S w av d.ats) (hk : FL S w kv k) : FL S w (.slice (some ⟨b, 0, none⟩) 1 1) (.cons d k .nil) := by
  obtain ⟨ka, kc, e, h1, h2, h3⟩ := hk
  exact ⟨some ⟨b, 0, none⟩, 1, rfl, Nat.le_refl _, by unfold maxLen; omega, .inr ⟨b, 0, rfl, hb, ⟨av, ka, kc, h.c0, h.c1, h.c2, h.c3, by rw [← e]; exact h.c4, ha, h1, h2, h3⟩, trivial⟩⟩

end Go.Proofs.Ytkojhgagkoeeiaa
