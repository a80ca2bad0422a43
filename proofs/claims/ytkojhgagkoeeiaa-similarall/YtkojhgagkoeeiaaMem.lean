/- Trees in memory: where a node's cells lie, its attributes, its kids; what keeps them. -/
import Derived.Test.YtkojhgagkoeeiaaForest
import Derived.Test.YtkojhgagkoeeiaaLaw
import Derived.Test.YtkojhgagkoeeiaaRows
set_option linter.unusedVariables false
namespace Go.Proofs.Ytkojhgagkoeeiaa
open Go.Deep (BT)
open Go.RowKit M

/-- a slice of attributes -/
def AS (S : Nat → Prop) (w : World) (v : Value) (ats : List (ByteArray × ByteArray)) : Prop :=
  ∃ a cap, v = .slice a ats.length cap ∧ ats.length ≤ cap ∧ cap ≤ maxLen ∧ (ats = [] ∨ ∃ b o, a = some ⟨b, o, none⟩ ∧ S b ∧
    ∀ i (h : i < ats.length), w.cell? ⟨b, o + i * 2, none⟩ = some (.string ats[i].1) ∧ w.cell? ⟨b, o + i * 2 + 1, none⟩ = some (.string ats[i].2))

/-- trees one behind the other, from a place on -/
def FAt (S : Nat → Prop) (w : World) : F → Nat → Nat → Prop
  | .nil, _, _ => True
  | .node xb xo d k r, b, o => (∃ av ka kc, w.cell? ⟨b, o, none⟩ = some (.int .i64 d.k) ∧ w.cell? ⟨b, o + 1, none⟩ = some (.string d.n) ∧ w.cell? ⟨b, o + 2, none⟩ = some (.string d.x) ∧
      w.cell? ⟨b, o + 3, none⟩ = some av ∧ w.cell? ⟨b, o + 4, none⟩ = some (.slice ka k.len kc) ∧ AS S w av d.ats ∧ k.len ≤ kc ∧ kc ≤ maxLen ∧
      (k.len = 0 ∨ ∃ b' o', ka = some ⟨b', o', none⟩ ∧ S b' ∧ FAt S w k b' o')) ∧ FAt S w r b (o + 5)

/-- a slice of trees -/
def FL (S : Nat → Prop) (w : World) (v : Value) (f : F) : Prop :=
  ∃ a cap, v = .slice a f.len cap ∧ f.len ≤ cap ∧ cap ≤ maxLen ∧ (f.len = 0 ∨ ∃ b o, a = some ⟨b, o, none⟩ ∧ S b ∧ FAt S w f b o)

/-- a node as a value -/
abbrev nodeV (d : Nd) (av kv : Value) : Value := .agg #[.int .i64 d.k, .string d.n, .string d.x, av, kv]

theorem len_nil {f : F} (h : f.len = 0) : f = .nil := by cases f with | nil => rfl | node xb xo d k r => simp [BT.len] at h

/-- worlds that agree where S says -/
def Like (S : Nat → Prop) (w w' : World) : Prop := ∀ b, S b → b < w.heap.size → w'.heap[b]? = w.heap[b]?
theorem Like.cell {S : Nat → Prop} {w w' : World} (h : Like S w w') {b o : Nat} {v : Value} (hS : S b) (hc : w.cell? ⟨b, o, none⟩ = some v) : w'.cell? ⟨b, o, none⟩ = some v :=
  (World.cell?_of_block (w := w) (a := ⟨b, o, none⟩) (h b hS (World.block_lt_of_cell? w _ hc))).trans hc
theorem AS.like {S : Nat → Prop} {w w' : World} (h : Like S w w') {v : Value} {ats : List (ByteArray × ByteArray)} (ha : AS S w v ats) : AS S w' v ats := by
  obtain ⟨a, cap, e, h1, h2, h3⟩ := ha
  refine ⟨a, cap, e, h1, h2, ?_⟩
  rcases h3 with h3 | ⟨b, o, ea, hS, hc⟩
  · exact .inl h3
  · exact .inr ⟨b, o, ea, hS, fun i hi => ⟨h.cell hS (hc i hi).1, h.cell hS (hc i hi).2⟩⟩
theorem FAt.like {S : Nat → Prop} {w w' : World} (h : Like S w w') : ∀ (f : F) (b o : Nat), S b → FAt S w f b o → FAt S w' f b o
  | .nil, _, _, _, _ => trivial
  | .node xb xo d k r, b, o, hS, hf => by
    obtain ⟨⟨av, ka, kc, c0, c1, c2, c3, c4, ha, h1, h2, hk⟩, hr⟩ := hf
    refine ⟨⟨av, ka, kc, h.cell hS c0, h.cell hS c1, h.cell hS c2, h.cell hS c3, h.cell hS c4, ha.like h, h1, h2, ?_⟩, FAt.like h r b (o + 5) hS hr⟩
    rcases hk with hk | ⟨b', o', e, hS', hk⟩
    · exact .inl hk
    · exact .inr ⟨b', o', e, hS', FAt.like h k b' o' hS' hk⟩
theorem FL.like {S : Nat → Prop} {w w' : World} (h : Like S w w') {v : Value} {f : F} (hf : FL S w v f) : FL S w' v f := by
  obtain ⟨a, cap, e, h1, h2, h3⟩ := hf
  refine ⟨a, cap, e, h1, h2, ?_⟩
  rcases h3 with h3 | ⟨b, o, ea, hS, hc⟩
  · exact .inl h3
  · exact .inr ⟨b, o, ea, hS, FAt.like h f b o hS hc⟩
theorem AS.mono {S S' : Nat → Prop} {w : World} (h : ∀ b, S b → S' b) {v : Value} {ats : List (ByteArray × ByteArray)} (ha : AS S w v ats) : AS S' w v ats := by
  obtain ⟨a, cap, e, h1, h2, h3⟩ := ha
  refine ⟨a, cap, e, h1, h2, ?_⟩
  rcases h3 with h3 | ⟨b, o, ea, hS, hc⟩
  · exact .inl h3
  · exact .inr ⟨b, o, ea, h b hS, hc⟩
theorem FAt.mono {S S' : Nat → Prop} {w : World} (h : ∀ b, S b → S' b) : ∀ (f : F) (b o : Nat), FAt S w f b o → FAt S' w f b o
  | .nil, _, _, _ => trivial
  | .node xb xo d k r, b, o, hf => by
    obtain ⟨⟨av, ka, kc, c0, c1, c2, c3, c4, ha, h1, h2, hk⟩, hr⟩ := hf
    refine ⟨⟨av, ka, kc, c0, c1, c2, c3, c4, ha.mono h, h1, h2, ?_⟩, FAt.mono h r b (o + 5) hr⟩
    rcases hk with hk | ⟨b', o', e, hS', hk⟩
    · exact .inl hk
    · exact .inr ⟨b', o', e, h _ hS', FAt.mono h k b' o' hk⟩
theorem FL.mono {S S' : Nat → Prop} {w : World} (h : ∀ b, S b → S' b) {v : Value} {f : F} (hf : FL S w v f) : FL S' w v f := by
  obtain ⟨a, cap, e, h1, h2, h3⟩ := hf
  refine ⟨a, cap, e, h1, h2, ?_⟩
  rcases h3 with h3 | ⟨b, o, ea, hS, hc⟩
  · exact .inl h3
  · exact .inr ⟨b, o, ea, h b hS, FAt.mono h f b o hc⟩
theorem FL.empty {S : Nat → Prop} {w : World} {a : Option Addr} {cap : Nat} (h : cap ≤ maxLen) : FL S w (.slice a 0 cap) .nil := ⟨a, cap, rfl, Nat.zero_le _, h, .inl rfl⟩

/-- blocks that were there -/
abbrev Old (n : Nat) : Nat → Prop := fun b => b < n
theorem like_below {n : Nat} {w w' : World} (h : Below n w w') : Like (Old n) w w' := fun b hb _ => h.block b hb
theorem like_keep {n B : Nat} {w w' : World} (h : Keep n B w w') : Like (fun b => b < n ∨ B ≤ b) w w' := fun b hb hz => h.block b hz hb
/-- a slice that is not empty: its first tree, and the rest -/
theorem FL.cons {S : Nat → Prop} {w : World} {v : Value} {xb xo : Nat} {d : Nd} {k r : F} (h : FL S w v (.node xb xo d k r)) :
    ∃ b o cap av ka kc, v = .slice (some ⟨b, o, none⟩) (r.len + 1) cap ∧ r.len + 1 ≤ cap ∧ cap ≤ maxLen ∧ S b ∧ w.cell? ⟨b, o, none⟩ = some (.int .i64 d.k) ∧ w.cell? ⟨b, o + 1, none⟩ = some (.string d.n) ∧ w.cell? ⟨b, o + 2, none⟩ = some (.string d.x) ∧
      w.cell? ⟨b, o + 3, none⟩ = some av ∧ w.cell? ⟨b, o + 4, none⟩ = some (.slice ka k.len kc) ∧ AS S w av d.ats ∧ FL S w (.slice ka k.len kc) k ∧ FAt S w r b (o + 5) := by
  obtain ⟨a, cap, rfl, h1, h2, h3⟩ := h
  rcases h3 with h3 | ⟨b, o, rfl, hS, ⟨av, ka, kc, c0, c1, c2, c3, c4, ha, h4, h5, hk⟩, hr⟩
  · simp [BT.len] at h3
  · exact ⟨b, o, cap, av, ka, kc, rfl, h1, h2, hS, c0, c1, c2, c3, c4, ha, ⟨ka, kc, rfl, h4, h5, hk⟩, hr⟩
theorem FL.nil {S : Nat → Prop} {w : World} {v : Value} (h : FL S w v .nil) : ∃ a cap, v = .slice a 0 cap ∧ cap ≤ maxLen := by
  obtain ⟨a, cap, e, h1, h2, h3⟩ := h
  exact ⟨a, cap, e, h2⟩
end Go.Proofs.Ytkojhgagkoeeiaa
