/- A list of numbers that came in, read. -/
import Derived.Test.YtibagbnnplpfgaaDoorNext
import Derived.Deep.SlicePairs
import Derived.ProofKit
import Derived.OpenShut
set_option linter.unusedVariables false
namespace Go.Proofs.YtibagbnnplpfgaaDoor
open Go.RowKit M Go.ChangeShapes Go.WideShapes

theorem addP (b o i : Nat) : (⟨b, o, none⟩ : Addr).add i = ⟨b, o + i, none⟩ := by
  unfold Addr.add; split
  · next h => subst h; rfl
  · rfl
theorem spotN {w : World} {a : Addr} {v : Value} (h : w.cell? a = some v) : a = ⟨a.block, a.off, none⟩ := by
  obtain ⟨b, o, s⟩ := a
  cases s with
  | none => rfl
  | some q =>
    exfalso
    unfold World.cell? at h
    dsimp only at h
    split at h
    · simp at h
    · cases h
theorem add0 (a : Addr) : a.add 0 = a := by unfold Addr.add; simp
theorem read_ints {H : Type} {enc : TypeId × Value → H} {w : World} {base : Nat} {spare : Nat → Bool} {held : Bool} {v : Value} {d : DataW H} {p : List MemPlace} (hv : ∃ a l c, v = .slice a l c) (h : DataW.Trod enc Tryd.prog w base spare held 32 v d p) :
    ∃ ln, IsL w.heap.size w v ln := by
  obtain ⟨a0, l0, c0, rfl⟩ := hv
  obtain ⟨fuel, hf⟩ := h
  rcases open_ints Tryd.underlying32 Tryd.underlying3 (by kernel_rfl) hf with ⟨hcs, _⟩ | ⟨x, l, c, zs, hcs, _, hl, hm, hz, _, hcell, _⟩
  · simp [Value.cells] at hcs
    obtain ⟨rfl, rfl, rfl⟩ := hcs
    exact ⟨0, ⟨⟨none, 0, rfl, Nat.le_refl _, by unfold maxLen; omega, .inl rfl⟩⟩⟩
  · simp [Value.cells] at hcs
    obtain ⟨rfl, rfl, rfl⟩ := hcs
    refine ⟨l0, ⟨⟨some x, c0, rfl, hl, hm, ?_⟩⟩⟩
    have hlz : l0 ≤ zs.length := by rw [hz]; split <;> omega
    by_cases h0 : l0 = 0
    · exact .inl h0
    · have c1 := hcell 0 (by omega)
      rw [add0] at c1
      have ea := spotN c1
      refine .inr ⟨x.block, x.off, by rw [← ea], World.block_lt_of_cell? w _ c1, fun i hi => ⟨zs.getD i 0, ?_⟩⟩
      have := hcell i (by omega)
      rw [ea, addP] at this
      exact this
end Go.Proofs.YtibagbnnplpfgaaDoor
