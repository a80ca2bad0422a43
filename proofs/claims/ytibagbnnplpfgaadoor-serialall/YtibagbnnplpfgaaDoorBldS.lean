/- strings.Builder: what is in it. -/
import Derived.Test.YtibagbnnplpfgaaDoorBld
import Derived.Shelf.Strings.BuilderK
set_option linter.unusedVariables false
namespace Go.Proofs.YtibagbnnplpfgaaDoor
open Go.RowKit Go.Shelf
theorem lays169 : Go.Proofs.Lays.n169 Tryd.prog laysM155_ren := { laysM155 with }
theorem string_any (B' B b : Nat) (v : Value) (l : List UInt8) (w : World) (h : Bld B' b v (Lib.byteCells l) w) (hB : B ≤ b) (hB' : B' ≤ w.heap.size) :
    Calls Tryd.prog 27 #[.pointer (some ⟨b, 0, none⟩)] w fun e w' => e = .returned (.string ⟨l.toArray⟩) ∧ Below B w w' ∧ Lib.OthersKept 5 (some b) w w' := by
  obtain ⟨hlt, ⟨p, hp, hb⟩, hr⟩ := h
  have hne : v.ownBlock ≠ some b := fun e => by have := (hr.lt b e).1; omega
  have hr' : w.ownsRow B 5 1 v (Lib.byteCells l).length (Lib.byteCells l) := own_lessP hr (by omega)
  have hi : Lib.IsBuilderF 51 5 B b (Lib.byteCells l) w := by
    rcases hp with rfl | rfl
    · exact .inl ⟨hB, v, hb, World.ownsRowF_of hr', hne⟩
    · exact .inr ⟨hB, v, hb, World.ownsRowF_of hr', hne⟩
  exact (Any.Builder_String_any_k lays169 extra155 B b l w hi (by omega)).mono fun e w' h => ⟨h.1, h.2.2⟩
end Go.Proofs.YtibagbnnplpfgaaDoor
