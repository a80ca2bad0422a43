/- What compareAttrs answers. -/
import Derived.Test.YtjjkidenlgghkaaCmp
import Derived.BigQuiet
import Derived.ChangeKeysEq
import Derived.BigRegion
set_option linter.unusedVariables false
namespace Go.Proofs.Ytjjkidenlgghkaa
open Go.Deep (BT)
open Go.RowKit M

theorem ca_drop (l m : List (ByteArray × ByteArray)) (i : Nat) (h1 : i < l.length) (h2 : i < m.length) : ca (l.drop i) (m.drop i) = orI (cp (bs l i) (bs m i)) (ca (l.drop (i + 1)) (m.drop (i + 1))) := by
  rw [List.drop_eq_getElem_cons h1, List.drop_eq_getElem_cons h2, ← bs_get l i h1, ← bs_get m i h2]; rfl
theorem ca_end (l m : List (ByteArray × ByteArray)) (i : Nat) (h : i = l.length ∨ i = m.length) (h1 : i ≤ l.length) (h2 : i ≤ m.length) : ca (l.drop i) (m.drop i) = ci l.length m.length := by
  have e1 : (l.drop i).length = l.length - i := List.length_drop
  have e2 : (m.drop i).length = m.length - i := List.length_drop
  rcases hx : l.drop i with _ | ⟨p, x⟩ <;> rcases hy : m.drop i with _ | ⟨q, y⟩ <;> rw [hx] at e1 <;> rw [hy] at e2 <;> simp only [List.length_nil, List.length_cons] at e1 e2 <;> unfold ca ci
  · rw [if_neg (by omega), if_neg (by omega)]
  · rw [if_pos (by omega)]
  · rw [if_neg (by omega), if_pos (by omega)]
  · omega

/-- where a slice of attributes lies -/
theorem AS.place {n : Nat} {w : World} {v : Value} {l : List (ByteArray × ByteArray)} (h : AS (Old n) w v l) :
    ∃ a cap b o, v = .slice a l.length cap ∧ l.length ≤ cap ∧ cap ≤ maxLen ∧ ∀ i, i < l.length → a = some ⟨b, o, none⟩ ∧ b < n ∧ w.cell? ⟨b, o + i * 2, none⟩ = some (.string (bs l i).1) ∧ w.cell? ⟨b, o + i * 2 + 1, none⟩ = some (.string (bs l i).2) := by
  obtain ⟨a, cap, e, h1, h2, h3⟩ := h
  rcases h3 with rfl | ⟨b, o, ea, hS, hc⟩
  · exact ⟨a, cap, 0, 0, e, h1, h2, fun i hi => absurd hi (Nat.not_lt_zero _)⟩
  · exact ⟨a, cap, b, o, e, h1, h2, fun i hi => ⟨ea, hS, by rw [← bs_get l i hi]; exact (hc i hi).1, by rw [← bs_get l i hi]; exact (hc i hi).2⟩⟩

theorem keepA {w W : World} {o : Obj} {b1 o1 b2 o2 : Nat} {v0 v1 v2 v3 : Value} (h : (Below w.heap.size w W) ∧ (W.cell? ⟨b1, o1, none⟩ = some v0 ∧ W.cell? ⟨b1, o1 + 1, none⟩ = some v1) ∧ (W.cell? ⟨b2, o2, none⟩ = some v2 ∧ W.cell? ⟨b2, o2 + 1, none⟩ = some v3)) :
    (Below w.heap.size w (W.alloc o)) ∧ ((W.alloc o).cell? ⟨b1, o1, none⟩ = some v0 ∧ (W.alloc o).cell? ⟨b1, o1 + 1, none⟩ = some v1) ∧ ((W.alloc o).cell? ⟨b2, o2, none⟩ = some v2 ∧ (W.alloc o).cell? ⟨b2, o2 + 1, none⟩ = some v3) := by
  have hk : ∀ b x v, W.cell? ⟨b, x, none⟩ = some v → (W.alloc o).cell? ⟨b, x, none⟩ = some v := fun b x v hc => (World.cell?_alloc_lt _ _ _ (World.block_lt_of_cell? W _ hc)).trans hc
  exact ⟨h.1.alloc h.1.size _, ⟨hk _ _ _ h.2.1.1, hk _ _ _ h.2.1.2⟩, hk _ _ _ h.2.2.1, hk _ _ _ h.2.2.2⟩
theorem guardA : Try.prog.eqGuardType Try.prog.depth 80 = false := by kernel_rfl
theorem stoodA : Try.prog.stoodInHeld 80 = false := by kernel_rfl
theorem plainS : Try.prog.plainKey 9 = true := by kernel_rfl
/-- attributes as structs that are compared -/
theorem eqA (N1 V1 N2 V2 : ByteArray) (W : World) : (Op.equalIn 10000 80 (.agg #[.string N1, .string V1]) (.agg #[.string N2, .string V2])).run Try.prog W = .ok (N1.toList == N2.toList && V1.toList == V2.toList) W := by
  have hu : Try.prog.underlying 80 = some (.struct (Try.prog.fieldsOf 80)) := by
    unfold Program.fieldsOf; rw [Try.underlying80]
  rw [run_equalIn_struct W 9999 80 _ _ hu stoodA]
  unfold Program.fieldsOf
  rw [Try.underlying80]
  simp only [Op.eqFields]
  rw [if_pos (by decide), if_pos (by decide)]
  simp only [Sem.run_bind]
  rw [run_part_plain W plainS (v := .string N1) rfl]
  simp only [Result.andThen_ok]
  rw [run_part_plain W plainS (v := .string N2) rfl]
  simp only [Result.andThen_ok]
  rw [run_equalIn_string W 9998 9 N1 N2 Try.underlying9]
  simp only [Result.andThen_ok]
  cases hN : (N1.toList == N2.toList)
  · simp
  · simp only [Bool.not_true, Bool.false_eq_true, if_false, Sem.run_bind]
    rw [run_part_plain W plainS (v := .string V1) rfl]
    simp only [Result.andThen_ok]
    rw [run_part_plain W plainS (v := .string V2) rfl]
    simp only [Result.andThen_ok]
    rw [run_equalIn_string W 9998 9 V1 V2 Try.underlying9]
    simp only [Result.andThen_ok]
    cases hV : (V1.toList == V2.toList)
    · simp
    · simp

end Go.Proofs.Ytjjkidenlgghkaa
