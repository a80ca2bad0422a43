/- What a call that turns an arena leaves as it was. -/
import Derived.Test.YtllimmmgjpnhkaaDomP
set_option linter.unusedVariables false
namespace Go.Proofs.Ytllimmmgjpnhkaa
open Go.Deep (BT)
open Go.RowKit M

/-- the blocks that are an arena's -/
def inA (p mb : Nat) (v : Value) (L : List DN) (k : Nat) : Prop := k = p ∨ k = mb ∨ v.ownBlock = some k ∨ ∃ x ∈ L, x.kv.ownBlock = some k ∨ x.av.ownBlock = some k

/-- blocks of A alone were written to; blocks of A' are of A, or new -/
structure Turns (w w' : World) (A A' : Nat → Prop) : Prop where
  os : w'.os = w.os
  tape : w'.tape = w.tape
  output : w'.output = w.output
  size : w.heap.size ≤ w'.heap.size
  block : ∀ k, k < w.heap.size → ¬ A k → w'.heap[k]? = w.heap[k]?
  new : ∀ k, A' k → A k ∨ w.heap.size ≤ k
theorem Turns.refl (w : World) (A : Nat → Prop) : Turns w w A A := ⟨rfl, rfl, rfl, Nat.le_refl _, fun _ _ _ => rfl, fun _ h => .inl h⟩
theorem Turns.trans {w w1 w2 : World} {A A1 A2 : Nat → Prop} (h : Turns w w1 A A1) (k : Turns w1 w2 A1 A2) : Turns w w2 A A2 := by
  refine ⟨k.os.trans h.os, k.tape.trans h.tape, k.output.trans h.output, Nat.le_trans h.size k.size, fun j hj hA => ?_, fun j hj => ?_⟩
  · have hA1 : ¬ A1 j := fun h1 => (h.new j h1).elim hA (fun h2 => by omega)
    rw [k.block j (Nat.lt_of_lt_of_le hj h.size) hA1]
    exact h.block j hj hA
  · rcases k.new j hj with h1 | h1
    · exact h.new j h1
    · exact .inr (Nat.le_trans h.size h1)
theorem Turns.of_below {w w' : World} {A : Nat → Prop} (h : Below w.heap.size w w') : Turns w w' A A :=
  ⟨h.os, h.tape, h.output, h.size, fun k hk _ => h.block k hk, fun _ h => .inl h⟩
theorem Turns.below {w w' : World} {A A' : Nat → Prop} (h : Turns w w' A A') {n : Nat} (hA : ∀ k, A k → n ≤ k) (hn : n ≤ w.heap.size) : Below n w w' :=
  ⟨h.os, h.tape, h.output, h.size, fun k hk => h.block k (by omega) (fun h1 => by have := hA k h1; omega)⟩

theorem Arena.ge {w : World} {B p mb : Nat} {L : List DN} {v : Value} (h : Arena w B p L v mb) : ∀ k, inA p mb v L k → B ≤ k := by
  intro k hk
  rcases hk with rfl | rfl | hk | ⟨x, hx, hk | hk⟩
  · exact h.at'.1
  · exact h.at'.2
  · exact (h.row.lt k hk).1
  · exact ((h.kids x hx).lt k hk).1
  · exact ((h.ats x hx).lt k hk).1
theorem Arena.lt {w : World} {B p mb : Nat} {L : List DN} {v : Value} (h : Arena w B p L v mb) : ∀ k, inA p mb v L k → k < w.heap.size := by
  intro k hk
  rcases hk with rfl | rfl | hk | ⟨x, hx, hk | hk⟩
  · exact (Array.getElem?_eq_some_iff.1 h.box).1
  · obtain ⟨es, clock, hm⟩ := h.map.isMap
    exact (Array.getElem?_eq_some_iff.1 hm).1
  · exact (h.row.lt k hk).2
  · exact ((h.kids x hx).lt k hk).2
  · exact ((h.ats x hx).lt k hk).2

theorem placeOf_app (L : List DN) (y : DN) (hn : placeOf L y.id = none) (z : Int) : placeOf (L ++ [y]) z = if z = y.id then some (L.length : Int) else placeOf L z := by
  unfold placeOf at hn ⊢
  rw [List.findIdx?_append]
  by_cases e : z = y.id
  · subst e
    rw [if_pos rfl]
    have hn2 : L.findIdx? (fun x => x.id == y.id) = none := by
      cases h : L.findIdx? (fun x => x.id == y.id) with
      | none => rfl
      | some i => rw [h] at hn; cases hn
    rw [hn2]
    simp [List.findIdx?_cons]
  · rw [if_neg e]
    have e2 : (y.id == z) = false := by rw [beq_eq_false_iff_ne]; exact fun h => e h.symm
    have e3 : ([y].findIdx? (fun x => x.id == z)) = none := by simp [List.findIdx?_cons, e2]
    rw [e3]
    cases h : L.findIdx? (fun x => x.id == z) <;> simp
theorem rowN_app (L : List DN) (y : DN) : rowN (L ++ [y]) = rowN L ++ cellsN y := by simp [rowN]
end Go.Proofs.Ytllimmmgjpnhkaa
